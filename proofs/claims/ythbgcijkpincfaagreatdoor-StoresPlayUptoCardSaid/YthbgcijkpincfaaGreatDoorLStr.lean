/-
  string(b) of a slice of bytes.
-/
import Derived.Test.YthbgcijkpincfaaGreatDoorLMem
import Derived.Laws.BytesArg
import Derived.Laws.IdiomStrings
namespace Go.Proofs.YthbgcijkpincfaaGreatDoor
open Go.RowKit

def strL (xs : List Nat) : ByteArray := ⟨(xs.map UInt8.ofNat).toArray⟩
theorem strL_inj {xs ys : List Nat} (hx : ∀ x ∈ xs, x < 256) (hy : ∀ y ∈ ys, y < 256) (h : strL xs = strL ys) : xs = ys := by
  have h1 : xs.map UInt8.ofNat = ys.map UInt8.ofNat := by
    have := congrArg ByteArray.data h
    exact congrArg Array.toList this
  have back : ∀ zs : List Nat, (∀ z ∈ zs, z < 256) → (zs.map UInt8.ofNat).map UInt8.toNat = zs := by
    intro zs
    induction zs with
    | nil => intro _; rfl
    | cons z zs ih =>
      intro hz
      have hz0 := hz z (by simp)
      have e : (UInt8.ofNat z).toNat = z := by simp; omega
      simp only [List.map_cons, List.cons.injEq]
      exact ⟨e, ih fun y hy => hz y (by simp [hy])⟩
  rw [← back xs hx, ← back ys hy, h1]

theorem conv_str {w : World} {A : Option Addr} {n : Nat} {xs : List Nat} (hin : In w A n xs) (hx : ∀ x ∈ xs, x < 256) (c : Nat) :
    (convert 50 9 (.slice A n c)).run Tryz.prog w = .ok (.string (strL xs)) w := by
  cases A with
  | none =>
    have h0 : xs = [] := by
      cases xs with
      | nil => rfl
      | cons x xs =>
        obtain ⟨ad, e, _⟩ := hin.rd 0 x rfl
        cases e
    subst h0
    exact run_convert_bytes_nil (P := Tryz.prog) w 50 5 Tryz.underlying50 Tryz.underlying5 n c 9 Tryz.underlying9
  | some a =>
    have := run_convert_bytes_back (P := Tryz.prog) w 50 9 5 a c (xs.map UInt8.ofNat) Tryz.underlying50 Tryz.underlying5 Tryz.underlying9 (fun j hj => by
      rw [List.length_map] at hj
      obtain ⟨ad, e, hc⟩ := hin.rd j _ (List.getElem?_eq_getElem hj)
      cases e
      rw [hc]
      have hb := hx _ (List.getElem_mem hj)
      simp only [List.getElem_map, bv]
      congr 2
      have e : (UInt8.ofNat xs[j]).toNat = xs[j] := by simp; omega
      rw [e])
    rw [List.length_map, hin.len] at this
    exact this

theorem toList_loop (s : ByteArray) : ∀ (k i : Nat) (r : List UInt8), s.size - i = k → ByteArray.toList.loop s i r = r.reverse ++ s.data.toList.drop i := by
  intro k
  induction k with
  | zero =>
    intro i r hk
    unfold ByteArray.toList.loop
    rw [if_neg (by omega), List.drop_of_length_le (by have : s.data.toList.length = s.size := rfl
                                                      omega)]
    simp
  | succ k ih =>
    intro i r hk
    unfold ByteArray.toList.loop
    have hi : i < s.data.toList.length := by
      have : s.data.toList.length = s.size := rfl
      omega
    rw [if_pos (by omega), ih (i + 1) _ (by omega), List.drop_eq_getElem_cons hi]
    have e : s.get! i = s.data.toList[i] := by
      have hi' : i < s.data.size := by simpa using hi
      show s.data[i]! = _
      rw [getElem!_pos s.data i hi']
      simp
    rw [e]
    simp
theorem toList_data (s : ByteArray) : s.toList = s.data.toList := by
  unfold ByteArray.toList
  rw [toList_loop s _ 0 [] rfl]
  simp
theorem strL_toList (xs : List Nat) : (strL xs).toList = xs.map UInt8.ofNat := by rw [toList_data]; rfl
theorem map_inj {xs ys : List Nat} (hx : ∀ x ∈ xs, x < 256) (hy : ∀ y ∈ ys, y < 256) (h : xs.map UInt8.ofNat = ys.map UInt8.ofNat) : xs = ys :=
  strL_inj hx hy (by unfold strL; rw [h])

end Go.Proofs.YthbgcijkpincfaaGreatDoor
