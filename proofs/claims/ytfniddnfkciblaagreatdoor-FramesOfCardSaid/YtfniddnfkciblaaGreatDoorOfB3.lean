/-
  Several texts in one: LStr, FMark, LBut, FStage, FCut, FCutAny, FGet, FRefGet, LRow, LRows, LTot, LSum, LBArr.
-/
import Derived.Test.YtfniddnfkciblaaGreatDoorOfB2
import Derived.Laws.BytesArg
import Derived.Laws.IdiomStrings
import Derived.Deep.RegionHeld3
import Derived.Deep.AppendLies
import Derived.Laws.Pointers
import Derived.StillTactics
import Derived.StillTailTactics
import Derived.Deep.QuietTactic
import Derived.BigQuiet
import Derived.Laws.EntriesVeiled
import Derived.ProofKit
import Derived.OpenShut
import Derived.Deep.Matrix
import Derived.SizedLaws
import Derived.ChangeKeysEq
import Derived.Deep.WholeRow
/-
  string(b) of a slice of bytes.
-/
namespace Go.Proofs.YtfniddnfkciblaaGreatDoor
open Go.RowKit

def strL (xs : List Nat) : ByteArray := ⟨(xs.map UInt8.ofNat).toArray⟩
theorem strL_inj {xs ys : List Nat} (hx : ∀ x ∈ xs, x < 256) (hy : ∀ y ∈ ys, y < 256) (h : strL xs = strL ys) : xs = ys := by
  have h1 : xs.map UInt8.ofNat = ys.map UInt8.ofNat := by
    have := congrArg ByteArray.data h
    exact congrArg Array.toList this
  have back : ∀ zs : List Nat, (∀ z ∈ zs, z < 256) → (zs.map UInt8.ofNat).map UInt8.toNat = zs := by
    intro zs
    induction zs with
    | nil => intro _; rfl
    | cons z zs ih =>
      intro hz
      have hz0 := hz z (by simp)
      have e : (UInt8.ofNat z).toNat = z := by simp; omega
      simp only [List.map_cons, List.cons.injEq]
      exact ⟨e, ih fun y hy => hz y (by simp [hy])⟩
  rw [← back xs hx, ← back ys hy, h1]

theorem conv_str {w : World} {A : Option Addr} {n : Nat} {xs : List Nat} (hin : In w A n xs) (hx : ∀ x ∈ xs, x < 256) (c : Nat) :
    (convert 23 9 (.slice A n c)).run Tryz.prog w = .ok (.string (strL xs)) w := by
  cases A with
  | none =>
    have h0 : xs = [] := by
      cases xs with
      | nil => rfl
      | cons x xs =>
        obtain ⟨ad, e, _⟩ := hin.rd 0 x rfl
        cases e
    subst h0
    exact run_convert_bytes_nil (P := Tryz.prog) w 23 5 Tryz.underlying23 Tryz.underlying5 n c 9 Tryz.underlying9
  | some a =>
    have := run_convert_bytes_back (P := Tryz.prog) w 23 9 5 a c (xs.map UInt8.ofNat) Tryz.underlying23 Tryz.underlying5 Tryz.underlying9 (fun j hj => by
      rw [List.length_map] at hj
      obtain ⟨ad, e, hc⟩ := hin.rd j _ (List.getElem?_eq_getElem hj)
      cases e
      rw [hc]
      have hb := hx _ (List.getElem_mem hj)
      simp only [List.getElem_map, bv]
      congr 2
      have e : (UInt8.ofNat xs[j]).toNat = xs[j] := by simp; omega
      rw [e])
    rw [List.length_map, hin.len] at this
    exact this

theorem toList_loop (s : ByteArray) : ∀ (k i : Nat) (r : List UInt8), s.size - i = k → ByteArray.toList.loop s i r = r.reverse ++ s.data.toList.drop i := by
  intro k
  induction k with
  | zero =>
    intro i r hk
    unfold ByteArray.toList.loop
    rw [if_neg (by omega), List.drop_of_length_le (by have : s.data.toList.length = s.size := rfl
                                                      omega)]
    simp
  | succ k ih =>
    intro i r hk
    unfold ByteArray.toList.loop
    have hi : i < s.data.toList.length := by
      have : s.data.toList.length = s.size := rfl
      omega
    rw [if_pos (by omega), ih (i + 1) _ (by omega), List.drop_eq_getElem_cons hi]
    have e : s.get! i = s.data.toList[i] := by
      have hi' : i < s.data.size := by simpa using hi
      show s.data[i]! = _
      rw [getElem!_pos s.data i hi']
      simp
    rw [e]
    simp
theorem toList_data (s : ByteArray) : s.toList = s.data.toList := by
  unfold ByteArray.toList
  rw [toList_loop s _ 0 [] rfl]
  simp
theorem strL_toList (xs : List Nat) : (strL xs).toList = xs.map UInt8.ofNat := by rw [toList_data]; rfl
theorem map_inj {xs ys : List Nat} (hx : ∀ x ∈ xs, x < 256) (hy : ∀ y ∈ ys, y < 256) (h : xs.map UInt8.ofNat = ys.map UInt8.ofNat) : xs = ys :=
  strL_inj hx hy (by unfold strL; rw [h])

end Go.Proofs.YtfniddnfkciblaaGreatDoor

/-
  takeMark.
-/
namespace Go.Proofs.YtfniddnfkciblaaGreatDoor
open Go.RowKit

set_option maxRecDepth 100000 in
theorem takeMark_yes (E : Errs) (p : Value) (A : Option Addr) (n c : Nat) (xs : List Nat) (w : World) (hE : Laid w E) (hin : In w A n xs) (h : xs = recMark) :
    Calls Tryz.prog 83 #[p, .slice A n c] w fun e w' => e = .returned .nilIface ∧ w = w' := by
  have hc := conv_str hin (by rw [h]; exact recMark_lt) c
  rw [h, show strL recMark = { data := #[82, 69, 67, 49] } from rfl] at hc
  have gf := hE.gf
  clear h hin
  go_enter Tryz.func83, Tryz.ntmps83
  go_wp2
  go_ret
  exact ⟨rfl, rfl⟩

set_option maxRecDepth 100000 in
theorem takeMark_no (E : Errs) (p : Value) (A : Option Addr) (n c : Nat) (xs : List Nat) (w : World) (hE : Laid w E) (hin : In w A n xs) (hx : ∀ x ∈ xs, x < 256) (h : xs ≠ recMark) :
    Calls Tryz.prog 83 #[p, .slice A n c] w fun e w' => e = .returned (E.val .form) ∧ w = w' := by
  have hc := conv_str hin hx c
  have hne : (!(strL xs).toList == [82, 69, 67, 49]) = true := by
    rw [strL_toList, show ([82, 69, 67, 49] : List UInt8) = recMark.map UInt8.ofNat from rfl]
    simp only [Bool.not_eq_true', beq_eq_false_iff_ne, ne_eq]
    exact fun e => h (map_inj hx recMark_lt e)
  have gf := hE.gf
  obtain ⟨s, hs⟩ : ∃ s, strL xs = s := ⟨_, rfl⟩
  rw [hs] at hc hne
  clear h hin hx hs
  go_enter Tryz.func83, Tryz.ntmps83
  go_wp2
  go_ret
  exact ⟨rfl, rfl⟩

end Go.Proofs.YtfniddnfkciblaaGreatDoor

/-
  A frame: every block but these is as it was.
-/
namespace Go.Proofs.YtfniddnfkciblaaGreatDoor
open Go.RowKit

/-- Only blocks of S, and new ones, have turned. -/
structure But (S : Nat → Prop) (w w' : World) : Prop where
  os : w'.os = w.os
  tape : w'.tape = w.tape
  output : w'.output = w.output
  size : w.heap.size ≤ w'.heap.size
  block : ∀ b, b < w.heap.size → ¬ S b → w'.heap[b]? = w.heap[b]?

theorem But.refl (S : Nat → Prop) (w : World) : But S w w := ⟨rfl, rfl, rfl, Nat.le_refl _, fun _ _ _ => rfl⟩
theorem But.trans {S : Nat → Prop} {a b c : World} (h : But S a b) (k : But S b c) : But S a c :=
  ⟨k.os.trans h.os, k.tape.trans h.tape, k.output.trans h.output, Nat.le_trans h.size k.size, fun i hi hn => (k.block i (Nat.lt_of_lt_of_le hi h.size) hn).trans (h.block i hi hn)⟩
theorem But.mono {S T : Nat → Prop} {w w' : World} (h : But S w w') (hST : ∀ b, b < w.heap.size → S b → T b) : But T w w' := ⟨h.os, h.tape, h.output, h.size, fun b hb hn => h.block b hb (fun hs => hn (hST b hb hs))⟩
theorem But.of_below {S : Nat → Prop} {w w' : World} (h : Below w.heap.size w w') : But S w w' := ⟨h.os, h.tape, h.output, h.size, fun b hb _ => h.block b hb⟩
theorem But.below {S : Nat → Prop} {w w' : World} {base : Nat} (h : But S w w') (hb : base ≤ w.heap.size) (hS : ∀ b, S b → base ≤ b) : Below base w w' :=
  ⟨h.os, h.tape, h.output, h.size, fun k hk => h.block k (by omega) (fun hs => by have := hS k hs; omega)⟩
theorem But.grown {S : Nat → Prop} {a w w' : World} {row : Option Nat} (h : But S a w) (hg : w.grownBy w' row) (hr : ∀ k, row = some k → k < a.heap.size → S k) : But S a w' :=
  ⟨hg.os.trans h.os, hg.tape.trans h.tape, hg.output.trans h.output, Nat.le_trans h.size hg.size, fun b hb hn => (hg.block b (Nat.lt_of_lt_of_le hb h.size) (fun e => hn (hr b e.symm hb))).trans (h.block b hb hn)⟩
theorem But.alloc {S : Nat → Prop} {a w : World} (h : But S a w) (o : Obj) : But S a (w.alloc o) := h.grown (World.grownBy_alloc w o none) (fun _ e => by cases e)
theorem But.drew {S : Nat → Prop} {a w : World} (h : But S a w) : But S a w.drew := ⟨h.os, h.tape, h.output, h.size, h.block⟩
theorem But.set {S : Nat → Prop} {a w : World} (h : But S a w) {b : Nat} (i : Nat) (v : Value) (hb : b < a.heap.size → S b) : But S a (w.setCell ⟨b, i, none⟩ v) :=
  h.grown (row := some b) ⟨rfl, rfl, rfl, by simp [World.setCell], fun k _ hk => Below.heap_setCell _ _ _ k (fun e => hk (by rw [e]))⟩ (fun k e hk => by cases e; exact hb hk)

end Go.Proofs.YtfniddnfkciblaaGreatDoor

/-
  frames.cut: its parts, one by one.
-/
namespace Go.Proofs.YtfniddnfkciblaaGreatDoor
open Go.RowKit

section
variable {xs : List Nat}
theorem cutL_len (h : xs.length < 64) : cutL xs = some .short := by unfold cutL; rw [if_pos h]
theorem cutL_mark (h64 : ¬ xs.length < 64) (h : xs.take 4 ≠ recMark) : cutL xs = some .form := by unfold cutL; rw [if_neg h64, if_pos h]
theorem cutL_count (h64 : ¬ xs.length < 64) (hm : xs.take 4 = recMark) (h : 256 < cntOf xs) : cutL xs = some .form := by
  unfold cutL; rw [if_neg h64, if_neg (fun k => k hm), if_pos h]
theorem cutL_short (h64 : ¬ xs.length < 64) (hm : xs.take 4 = recMark) (hc : cntOf xs ≤ 256) (h : xs.length < 64 * secs (cntOf xs)) : cutL xs = some .short := by
  unfold cutL; rw [if_neg h64, if_neg (fun k => k hm), if_neg (by omega), if_pos h]
theorem cutL_rest (h64 : ¬ xs.length < 64) (hm : xs.take 4 = recMark) (hc : cntOf xs ≤ 256) (hl : 64 * secs (cntOf xs) ≤ xs.length) (h : restOf xs ≠ List.replicate (noug (cntOf xs)) 0) : cutL xs = some .form := by
  unfold cutL; rw [if_neg h64, if_neg (fun k => k hm), if_neg (by omega), if_neg (by omega), if_pos h]
theorem cutL_sum (h64 : ¬ xs.length < 64) (hm : xs.take 4 = recMark) (hc : cntOf xs ≤ 256) (hl : 64 * secs (cntOf xs) ≤ xs.length) (hr : restOf xs = List.replicate (noug (cntOf xs)) 0) (h : sumIn xs ≠ sumL (numOf xs) (recOf xs)) : cutL xs = some .sum := by
  unfold cutL; rw [if_neg h64, if_neg (fun k => k hm), if_neg (by omega), if_neg (by omega), if_neg (fun k => k hr), if_pos h]
theorem cutL_none (h64 : ¬ xs.length < 64) (hm : xs.take 4 = recMark) (hc : cntOf xs ≤ 256) (hl : 64 * secs (cntOf xs) ≤ xs.length) (hr : restOf xs = List.replicate (noug (cntOf xs)) 0) (h : sumIn xs = sumL (numOf xs) (recOf xs)) : cutL xs = none := by
  unfold cutL; rw [if_neg h64, if_neg (fun k => k hm), if_neg (by omega), if_neg (by omega), if_neg (fun k => k hr), if_neg (fun k => k h)]
end

/-- What is known when j parts are cut: P bytes. -/
def Stage (xs : List Nat) (n : Nat) (w0 : World) (j P num cnt sum : Nat) (r : Value) : Prop :=
  (j = 0 ∧ P = 0) ∨
  (j = 1 ∧ P = 4 ∧ xs.take 4 = recMark) ∨
  (j = 2 ∧ P = 12 ∧ xs.take 4 = recMark ∧ num = numOf xs) ∨
  (j = 3 ∧ P = 14 ∧ xs.take 4 = recMark ∧ num = numOf xs ∧ cnt = cntOf xs ∧ cntOf xs ≤ 256) ∨
  (j = 4 ∧ P = 18 ∧ xs.take 4 = recMark ∧ num = numOf xs ∧ cnt = cntOf xs ∧ cntOf xs ≤ 256 ∧ sum = sumIn xs) ∨
  (j = 5 ∧ P = 18 + cntOf xs ∧ xs.take 4 = recMark ∧ num = numOf xs ∧ cnt = cntOf xs ∧ cntOf xs ≤ 256 ∧ sum = sumIn xs ∧ ∃ A c, r = .slice A (cntOf xs) c ∧ cntOf xs ≤ c ∧ In w0 A (cntOf xs) (recOf xs) ∧ (A = none → cntOf xs = 0)) ∨
  (j = 6 ∧ P = 18 + cntOf xs + noug (cntOf xs) ∧ xs.take 4 = recMark ∧ num = numOf xs ∧ cnt = cntOf xs ∧ cntOf xs ≤ 256 ∧ sum = sumIn xs ∧ (∃ A c, r = .slice A (cntOf xs) c ∧ cntOf xs ≤ c ∧ In w0 A (cntOf xs) (recOf xs) ∧ (A = none → cntOf xs = 0)) ∧
    P ≤ n ∧ restOf xs = List.replicate (noug (cntOf xs)) 0)

abbrev OnlyF (F : Nat) := But (fun b => b = F)

/-- What the taking of a part leaves. -/
def Took (E : Errs) (xs : List Nat) (w0 : World) (n F j P : Nat) (W : World) (e : Ending) (W' : World) : Prop :=
  OnlyF F W W' ∧ ∃ num cnt sum r, Fr W' F num cnt sum r ∧ (∃ Ar nr cr, r = .slice Ar nr cr) ∧
    ((∃ b, cutL xs = some b ∧ e = .returned (E.val b)) ∨ (e = .returned .nilIface ∧ Stage xs n w0 j P num cnt sum r))

/-- The j-th part: k bytes, behind P. -/
structure Part (E : Errs) (xs : List Nat) (w0 : World) (n F G j P k m : Nat) (A : Option Addr) (f1 f2 : FuncId) (caps args : Array Value) (W : World) : Prop where
  ar : #[.pointer (some ⟨F, 0, none⟩)] ++ caps = args
  r1 : ∀ (zs : Array Value) (W' : World), (callFunc f1 zs).run Tryz.prog W' = .ok (.enter f1 zs) W'
  r2 : ∀ (zs : Array Value) (W' : World), (callFunc f2 zs).run Tryz.prog W' = .ok (.enter f2 zs) W'
  c0 : W.cell? ⟨G, j * 2, none⟩ = some (.func (.func f1) #[] caps)
  c1 : W.cell? ⟨G, j * 2 + 1, none⟩ = some (.func (.func f2) #[] #[])
  size : ∀ W', Below W.heap.size W W' → Calls Tryz.prog f1 args W' fun e w' => e = .returned (.int .i64 (k : Int)) ∧ W' = w'
  short : m < k → cutL xs = some .short
  take : k ≤ m → ∀ W' c, Below W.heap.size W W' → k ≤ c → Calls Tryz.prog f2 #[.pointer (some ⟨F, 0, none⟩), .slice A k c] W' (Took E xs w0 n F (j + 1) (P + k) W')

theorem onlyF_set (F : Nat) (W : World) (i : Nat) (v : Value) : OnlyF F W (W.setCell ⟨F, i, none⟩ v) := (But.refl _ W).set i v (fun _ => rfl)

theorem part_of (E : Errs) (xs : List Nat) (n F G B j P num cnt sum m : Nat) (r : Value) (A : Option Addr) (W : World) (hE : Laid W E) (hx : ∀ x ∈ xs, x < 256) (hl : xs.length = n) (h64 : ¬ n < 64)
    (pts : Pts W G B) (fr : Fr W F num cnt sum r) (w0 : World) (bel : Below w0.heap.size w0 W) (st : Stage xs n w0 j P num cnt sum r) (hj : j < 6) (hm : m + P = n) (hin : In w0 A m (xs.drop P)) (hA : A = none → m = 0) (hrs : ∃ Ar nr cr, r = .slice Ar nr cr) :
    ∃ f1 f2 caps args k, Part E xs w0 n F G j P k m A f1 f2 caps args W := by
  have h64' : ¬ xs.length < 64 := by omega
  have gr := pts.row
  have hs := secs_ge (cntOf xs)
  have hcut : ∀ k, ∀ W' : World, k ≤ m → Below W.heap.size W W' → In W' A k ((xs.drop P).take k) := fun k W' hk hb => (hin.below (below_on bel (Nat.le_refl _) hb)).take hk
  have hlt : ∀ k, ∀ x ∈ (xs.drop P).take k, x < 256 := fun k => drop_take_lt hx P k
  rcases st with ⟨rfl, rfl⟩ | ⟨rfl, rfl, mk⟩ | ⟨rfl, rfl, mk, hnum⟩ | ⟨rfl, rfl, mk, hnum, hcnt, hc⟩ | ⟨rfl, rfl, mk, hnum, hcnt, hc, hsum⟩ | ⟨rfl, rfl, mk, hnum, hcnt, hc, hsum, hr⟩ | ⟨rfl, _⟩
  · refine ⟨97, 83, #[.pointer (some ⟨B, 0, none⟩)], #[.pointer (some ⟨F, 0, none⟩), .pointer (some ⟨B, 0, none⟩)], 4, rfl, fun _ _ => by kernel_rfl, fun _ _ => by kernel_rfl, by rw [cell_of_row _ G _ _ _ _ gr]; rfl, by rw [cell_of_row _ G _ _ _ _ gr]; rfl, fun W' hb => always1_any _ B 4 W' (boxed_below pts.b0 hb), fun h => by omega, fun hk W' c hb hc => ?_⟩
    have hi := hcut 4 W' hk hb
    by_cases hmk : xs.take 4 = recMark
    · refine (takeMark_yes E _ A 4 c _ W' (hE.below hb) hi hmk).mono ?_
      rintro e w' ⟨rfl, rfl⟩
      exact ⟨But.refl _ _, num, cnt, sum, r, fr.below hb, hrs, .inr ⟨rfl, .inr (.inl ⟨rfl, rfl, hmk⟩)⟩⟩
    · refine (takeMark_no E _ A 4 c _ W' (hE.below hb) hi (hlt 4) hmk).mono ?_
      rintro e w' ⟨rfl, rfl⟩
      exact ⟨But.refl _ _, num, cnt, sum, r, fr.below hb, hrs, .inl ⟨_, cutL_mark h64' hmk, rfl⟩⟩
  · refine ⟨97, 84, #[.pointer (some ⟨B + 1, 0, none⟩)], #[.pointer (some ⟨F, 0, none⟩), .pointer (some ⟨B + 1, 0, none⟩)], 8, rfl, fun _ _ => by kernel_rfl, fun _ _ => by kernel_rfl, by rw [cell_of_row _ G _ _ _ _ gr]; rfl, by rw [cell_of_row _ G _ _ _ _ gr]; rfl, fun W' hb => always1_any _ (B + 1) 8 W' (boxed_below pts.b1 hb), fun h => by omega, fun hk W' c hb hc => ?_⟩
    refine (takeNum_any F num cnt sum r A 8 c _ W' (fr.below hb) (hcut 8 W' hk hb) (hlt 8) (by omega) hc).mono ?_
    rintro e w' ⟨rfl, rfl⟩
    exact ⟨onlyF_set _ _ _ _, _, cnt, sum, r, (fr.below hb).set0 _, hrs, .inr ⟨rfl, .inr (.inr (.inl ⟨rfl, rfl, mk, rfl⟩))⟩⟩
  · refine ⟨97, 85, #[.pointer (some ⟨B + 2, 0, none⟩)], #[.pointer (some ⟨F, 0, none⟩), .pointer (some ⟨B + 2, 0, none⟩)], 2, rfl, fun _ _ => by kernel_rfl, fun _ _ => by kernel_rfl, by rw [cell_of_row _ G _ _ _ _ gr]; rfl, by rw [cell_of_row _ G _ _ _ _ gr]; rfl, fun W' hb => always1_any _ (B + 2) 2 W' (boxed_below pts.b2 hb), fun h => by omega, fun hk W' c hb hc => ?_⟩
    refine (takeCount_any E F num cnt sum r A 2 c _ (cntOf xs) rfl (cntOf_lt hx) W' (fr.below hb) (hE.below hb) (hcut 2 W' hk hb) (hlt 2) (by omega) hc).mono ?_
    rintro e w' ⟨rfl, rfl⟩
    by_cases hbig : 256 < cntOf xs
    · exact ⟨onlyF_set _ _ _ _, num, _, sum, r, (fr.below hb).set1 _, hrs, .inl ⟨_, cutL_count h64' mk hbig, by rw [if_pos hbig]⟩⟩
    · exact ⟨onlyF_set _ _ _ _, num, _, sum, r, (fr.below hb).set1 _, hrs, .inr ⟨by rw [if_neg hbig], .inr (.inr (.inr (.inl ⟨rfl, rfl, mk, hnum, rfl, by omega⟩)))⟩⟩
  · refine ⟨97, 86, #[.pointer (some ⟨B + 3, 0, none⟩)], #[.pointer (some ⟨F, 0, none⟩), .pointer (some ⟨B + 3, 0, none⟩)], 4, rfl, fun _ _ => by kernel_rfl, fun _ _ => by kernel_rfl, by rw [cell_of_row _ G _ _ _ _ gr]; rfl, by rw [cell_of_row _ G _ _ _ _ gr]; rfl, fun W' hb => always1_any _ (B + 3) 4 W' (boxed_below pts.b3 hb), fun h => by omega, fun hk W' c hb hc' => ?_⟩
    refine (takeSum_any F num cnt sum r A 4 c _ W' (fr.below hb) (hcut 4 W' hk hb) (hlt 4) (by omega) hc').mono ?_
    rintro e w' ⟨rfl, rfl⟩
    exact ⟨onlyF_set _ _ _ _, num, cnt, _, r, (fr.below hb).set2 _, hrs, .inr ⟨rfl, .inr (.inr (.inr (.inr (.inl ⟨rfl, rfl, mk, hnum, hcnt, hc, rfl⟩))))⟩⟩
  · subst hcnt
    refine ⟨87, 88, #[], #[.pointer (some ⟨F, 0, none⟩)], cntOf xs, rfl, fun _ _ => by kernel_rfl, fun _ _ => by kernel_rfl, by rw [cell_of_row _ G _ _ _ _ gr]; rfl, by rw [cell_of_row _ G _ _ _ _ gr]; rfl, fun W' hb => parts1_any F num _ sum r W' (fr.below hb), fun h => cutL_short h64' mk hc (by omega), fun hk W' c hb hc' => ?_⟩
    refine (takeRecord_any F num _ sum r A (cntOf xs) c W' (fr.below hb)).mono ?_
    rintro e w' ⟨rfl, rfl⟩
    refine ⟨onlyF_set _ _ _ _, num, _, sum, _, (fr.below hb).set3 _, ⟨_, _, _, rfl⟩, .inr ⟨rfl, .inr (.inr (.inr (.inr (.inr (.inl ⟨rfl, rfl, mk, hnum, rfl, hc, hsum, A, c, rfl, hc', ?_, fun e => by have := hA e; omega⟩)))))⟩⟩
    exact hin.take hk
  · subst hcnt
    have hcc : cntOf xs ≤ 1000000000000 := by omega
    refine ⟨89, 91, #[], #[.pointer (some ⟨F, 0, none⟩)], noug (cntOf xs), rfl, fun _ _ => by kernel_rfl, fun _ _ => by kernel_rfl, by rw [cell_of_row _ G _ _ _ _ gr]; rfl, by rw [cell_of_row _ G _ _ _ _ gr]; rfl, fun W' hb => parts2_any F num _ sum hcc r W' (fr.below hb), fun h => cutL_short h64' mk hc (by unfold noug at h; omega), fun hk W' c hb hc' => ?_⟩
    refine (takeNoughts_any E _ A (noug (cntOf xs)) c _ W' (hE.below hb) (hcut _ W' hk hb) (by unfold noug; unfold secs; omega)).mono ?_
    rintro e w' ⟨hz, rfl⟩
    have h1 : 64 * secs (cntOf xs) ≤ xs.length := by unfold noug at hk; omega
    rcases hz with ⟨hz, rfl⟩ | ⟨hz, rfl⟩
    · obtain ⟨A', c', hr1, hr2, hr3, hr4⟩ := hr
      exact ⟨But.refl _ _, num, _, sum, r, fr.below hb, hrs, .inr ⟨rfl, .inr (.inr (.inr (.inr (.inr (.inr ⟨rfl, rfl, mk, hnum, rfl, hc, hsum, ⟨A', c', hr1, hr2, hr3, hr4⟩, by omega, hz⟩)))))⟩⟩
    · exact ⟨But.refl _ _, num, _, sum, r, fr.below hb, hrs, .inl ⟨_, cutL_rest h64' mk hc h1 hz, rfl⟩⟩
  · omega

end Go.Proofs.YtfniddnfkciblaaGreatDoor

/-
  frames.cut.
-/
namespace Go.Proofs.YtfniddnfkciblaaGreatDoor
open Go.RowKit

/-- Two results, of which the first lies in memory. -/
theorem results_frame {P : Program} {fn : Func} {p q : Tmp} {ty : TypeId} (h : fn.results = #[.cell p ty, .tmp q]) (tmps : Array Value) (w : World) (ad : Addr) (v : Value)
    (hp : tmps.getD p undef = .pointer (some ad)) (hl : (loadVar ty ad).run P w = .ok v w) : (results fn tmps).run P w = .ok (.tuple #[v, tmps.getD q undef]) w := by
  have hp' : tmps[p]?.getD undef = .pointer (some ad) := by simpa using hp
  simp [results, h, hp', asAddr, hl]

theorem Fr.ne_err {w : World} {R g : Nat} {num cnt sum : Nat} {r : Value} {t : TypeId} {v : Value} (h : Fr w R num cnt sum r) (hg : Hid (w.cell? ⟨g, 0, none⟩ = some (.iface t v))) : g ≠ R := by
  rintro rfl
  have h1 := h.c0
  rw [hg.out] at h1
  injection h1 with h1
  cases h1
theorem Pts.drewn {W : World} {G B : Nat} (h : Pts W G B) : Pts W.drew G B := ⟨h.row, h.b0, h.b1, h.b2, h.b3⟩
theorem Pts.only {W W' : World} {G B F : Nat} (h : Pts W G B) (hb : OnlyF F W W') (hG : F < G) (hB : F < B) : Pts W' G B :=
  ⟨(hb.block G h.lt (by show ¬ G = F; omega)).trans h.row, (hb.block _ h.b0.lt (by show ¬ B = F; omega)).trans h.b0, (hb.block _ h.b1.lt (by show ¬ B + 1 = F; omega)).trans h.b1, (hb.block _ h.b2.lt (by show ¬ B + 2 = F; omega)).trans h.b2, (hb.block _ h.b3.lt (by show ¬ B + 3 = F; omega)).trans h.b3⟩
theorem plain_any {ty : TypeId} {d : TypeDesc} (hu : Tryz.prog.underlying ty = some d) (hd : (match d with | .struct _ | .array _ _ => true | _ => false) = false) (w : World) : (isAgg ty).run Tryz.prog w = .ok false w := by
  unfold isAgg
  rw [Sem.run_bind, run_underlying hu w]
  cases d <;> first | rfl | cases hd
/-- One cell is read, in every world of a class. -/
theorem quiet_load_at {ops : Array Oper} {o : Oper} {a : Act} {C : World → Prop} {K : Act → Prop} {E : Prop} (hw : Region.wanted o (yielded ops a.tmps) = true) (ty : TypeId) (hagg : ∀ w, (isAgg ty).run Tryz.prog w = .ok false w) (x : Operand) (ho : o.op = .load ty x)
    (ad : Addr) (hx : a.eval x = .pointer (some ad)) (v : Value) (hc : ∀ w, C w → w.cell? ad = some v) (h : K (a.put o.dst v)) :
    if Region.wanted o (yielded ops a.tmps) = true then o.quiet Tryz.prog a C K else E := by
  rw [if_pos hw]
  refine ⟨v, fun w hC => ?_, h⟩
  unfold Oper.quietAt execOp
  have hl : (loadVar ty ad).run Tryz.prog w = .ok v w := by simp [loadVar, Sem.run_bind, hagg, hc w hC]
  simp only [ho, hx, Instr.loadAt, Instr.sureAddr, Sem.run_bind, Sem.run_pure, Result.andThen_ok, hl]
  exact ⟨rfl, rfl⟩
theorem infoFrame : (Tryz.prog.info? 52).map (·.size) = some 4 := by kernel_rfl
theorem frame_one (num cnt sum : Nat) (Ar : Option Addr) (nr cr : Nat) : (#[Value.int .u64 (num : Int), .int .i64 (cnt : Int), .int .u64 (sum : Int), .slice Ar nr cr].all fun x => x.oneCell') = true := by simp [Value.oneCell']

structure Cutting (E : Errs) (xs : List Nat) (n : Nat) (w0 : World) (F R G B : Nat) (j : Nat) (b : Value) (W : World) : Prop where
  bel : Below w0.heap.size w0 W
  fr : ∃ P num cnt sum r, Fr W F num cnt sum r ∧ (∃ Ar nr cr, r = .slice Ar nr cr) ∧ Stage xs n w0 j P num cnt sum r ∧ ∃ A m d, b = .slice A m d ∧ m + P = n ∧ m ≤ d ∧ In w0 A m (xs.drop P) ∧ (A = none → m = 0)
  res : Fr W R 0 0 0 (.slice none 0 0)
  pts : Pts W G B

/-- What cut answers. -/
def CutPost (E : Errs) (xs : List Nat) (w : World) (e : Ending) (w' : World) : Prop :=
  Below w.heap.size w w' ∧ ((∃ b fv, (∃ (num cnt sum : Nat) (A : Option Addr) (n c : Nat), fv = .agg #[.int .u64 (num : Int), .int .i64 (cnt : Int), .int .u64 (sum : Int), .slice A n c]) ∧ cutL xs = some b ∧ e = .returned (.tuple #[fv, E.val b])) ∨
    (cutL xs = none ∧ ∃ R cR, e = .returned (.tuple #[.agg #[.int .u64 (numOf xs : Int), .int .i64 (cntOf xs : Int), .int .u64 (sumIn xs : Int), .slice R (cntOf xs) cR], .nilIface]) ∧ cntOf xs ≤ cR ∧ In w R (cntOf xs) (recOf xs)))

set_option maxRecDepth 100000 in
set_option maxHeartbeats 4000000 in
theorem cut_long (E : Errs) (A : Option Addr) (n c : Nat) (xs : List Nat) (w : World) (hE : Laid w E) (hin : In w A n xs) (hx : ∀ x ∈ xs, x < 256) (hA : A = none → n = 0) (hnc : n ≤ c) (hc : n ≤ 1000000000000) (h64 : ¬ n < 64) :
    Calls Tryz.prog 19 #[.slice A n c] w (CutPost E xs w) := by
  have HP := fun W => parts_any W
  have H0 := Lib.hid (And.intro hE (And.intro hin (And.intro hx hA)))
  clear hE hin hx hA
  go_enter Tryz.func19, Tryz.ntmps19
  go_wp2_with fail
  refine (HP _).mono ?_
  rintro e w1 ⟨rfl, hp1, hb1⟩
  rw [World.size_alloc, World.size_alloc] at hp1
  have k0 : Cutting E xs n w (w.heap.size + 1) w.heap.size (w.heap.size + 1 + 1 + 4) (w.heap.size + 1 + 1) 0 (.slice A n c) w1 := by
    have kb : Below w.heap.size w w1 := below_on (below_on (below_alloc w _) (Nat.le_refl _) (below_alloc _ _)) (Nat.le_refl _) hb1
    have f1 := Fr.new (w.alloc (.cells #[.int .u64 0, .int .i64 0, .int .u64 0, .slice none 0 0] 52))
    rw [World.size_alloc] at f1
    exact ⟨kb, ⟨0, 0, 0, 0, _, f1.below hb1, ⟨_, _, _, rfl⟩, .inl ⟨rfl, rfl⟩, A, n, c, rfl, rfl, hnc, H0.out.2.1, H0.out.2.2.2⟩, ((Fr.new w).below (below_alloc _ _)).below hb1, hp1⟩
  clear hp1 hb1 HP
  obtain ⟨F, hF⟩ : ∃ F, w.heap.size + 1 = F := ⟨_, rfl⟩
  obtain ⟨R, hR⟩ : ∃ R, w.heap.size = R := ⟨_, rfl⟩
  obtain ⟨G, hG⟩ : ∃ G, F + 1 + 4 = G := ⟨_, rfl⟩
  obtain ⟨B, hB⟩ : ∃ B, F + 1 = B := ⟨_, rfl⟩
  rw [hF, hR, hG, hB] at k0
  have HS := Lib.hid (And.intro hF (And.intro hR (And.intro hG hB)))
  clear hF hR hG hB
  go_wp2_with fail
  rw [HS.out.1, HS.out.2.1, HS.out.2.2.1]
  go_loopw [0, 16] (fun b i wr => ∃ j : Nat, j ≤ 6 ∧ i = .int .i64 (j : Int) ∧ Cutting E xs n w F R G B j b wr) (fun _ i _ => 6 - (intOf i).toNat)
  case atStart => exact ⟨0, Nat.zero_le _, rfl, k0⟩
  case round =>
    obtain ⟨j, hj, rfl, K⟩ := hrel
    obtain ⟨P, num, cnt, sum, r, fr, ⟨Ar, nr, cr, rfl⟩, st, A1, m, d, rfl, hmP, hmd, hb, hA1⟩ := K.fr
    by_cases hj6 : j < 6
    · obtain ⟨f1, f2, caps, args, k, pt⟩ := part_of E xs n F G B j P num cnt sum m _ A1 wr (H0.out.1.below K.bel) H0.out.2.2.1 H0.out.2.1.len h64 K.pts fr w K.bel st hj6 hmP hb hA1 ⟨_, _, _, rfl⟩
      have g0 := pt.c0
      have g1 := pt.c1
      have r1 := pt.r1
      have r2 := pt.r2
      have ar := pt.ar
      have hjl : (j : Int) < 6 := by omega
      have HK := Lib.hid (And.intro K (And.intro fr (And.intro hb (And.intro st pt))))
      have HM := Lib.hid (And.intro hmP (And.intro hmd hA1))
      clear K fr hb st pt hmP hmd hA1
      go_wp2_with fail
      have hsz := HK.out.2.2.2.2.size _ (below_alloc wr (.cells #[.func (.func f1) #[] caps, .func (.func f2) #[] #[]] 69))
      have hW0 : (wr.alloc (.cells #[.func (.func f1) #[] caps, .func (.func f2) #[] #[]] 69)).heap[wr.heap.size]? = some (.cells #[.func (.func f1) #[] caps, .func (.func f2) #[] #[]] 69 (0, 0)) := World.alloc_heap_new wr _
      have hW1 := below_alloc wr (.cells #[.func (.func f1) #[] caps, .func (.func f2) #[] #[]] 69)
      have hW3 := World.size_alloc wr (.cells #[.func (.func f1) #[] caps, .func (.func f2) #[] #[]] 69)
      obtain ⟨W2, hW2⟩ : ∃ W2, wr.alloc (.cells #[.func (.func f1) #[] caps, .func (.func f2) #[] #[]] 69) = W2 := ⟨_, rfl⟩
      rw [hW2] at hsz hW0 hW1 hW3 ⊢
      clear hW2
      obtain ⟨T, hT⟩ : ∃ T, wr.heap.size = T := ⟨_, rfl⟩
      rw [hT] at hW0 ⊢
      have p1 : W2.cell? ⟨T, 1, none⟩ = some (.func (.func f2) #[] #[]) := by rw [cell_of_row _ T 1 _ _ _ hW0]; rfl
      have HT := Lib.hid (And.intro hT (And.intro hW0 (And.intro hW1 hW3)))
      clear hT hW0 hW1 hW3
      refine hsz.mono ?_
      rintro e w2 ⟨rfl, rfl⟩
      clear hsz g0 g1
      have hfr := HK.out.2.1.below HT.out.2.2.1
      have hres := HK.out.1.res.below HT.out.2.2.1
      have q0 := hfr.c0
      have q1 := hfr.c1
      have q2 := hfr.c2
      have q3 := hfr.c3
      have hgs := ((H0.out.1.below HK.out.1.bel).below HT.out.2.2.1).gs
      have e0 := hres.c0
      have e1 := hres.c1
      have e2 := hres.c2
      have e3 := hres.c3
      have fz := hres.free
      have hRg : ∀ v0 v1 v2 v3, ((((W2.setCell ⟨R, 0, none⟩ v0).setCell ⟨R, 1, none⟩ v1).setCell ⟨R, 2, none⟩ v2).setCell ⟨R, 3, none⟩ v3).cell? ⟨0, 0, none⟩ = some (.iface 174 (.pointer (some E.s))) := fun v0 v1 v2 v3 => by
        rw [World.cell?_of_block (show _ = W2.heap[(0 : Nat)]? from ?_)]
        · exact hgs
        · have hne : (0 : Nat) ≠ R := hres.ne_err (Lib.hid hgs)
          rw [heap_setCell_other _ _ _ _ hne, heap_setCell_other _ _ _ _ hne, heap_setCell_other _ _ _ _ hne, heap_setCell_other _ _ _ _ hne]
      have hRw : w.heap.size ≤ R := Nat.le_of_eq HS.out.2.1
      have HB2 : Hid (Below w.heap.size w W2) := below_on HK.out.1.bel (Nat.le_refl _) HT.out.2.2.1
      by_cases hk : m < k
      · have hki : (m : Int) < (k : Int) := by omega
        go_wp2_with fail
        go_region
        go_wp2_with fail
        refine bodyPost_ret_by (results_frame (p := 2) (q := 3) (ty := 52) (by kernel_rfl) _ _ ⟨R, 0, none⟩ _ rfl (run_loadVar_row (P := Tryz.prog) _ R 52 52 _ (0, 0) _ ((((hres.set0 num).set1 cnt).set2 sum).set3 (.slice Ar nr cr)) Tryz.underlying52 rfl infoFrame)) rfl ?_
        exact ⟨((((HB2.out.setCell hRw _).setCell hRw _).setCell hRw _).setCell hRw _).drew, .inl ⟨.short, _, ⟨_, _, _, _, _, _, rfl⟩, HK.out.2.2.2.2.short hk, rfl⟩⟩
      · have hki : ¬ ((m : Int) < (k : Int)) := by omega
        have hkm : (k : Int) ≤ (m : Int) := by omega
        have hk' : k ≤ m := by omega
        have hkd : k ≤ d := Nat.le_trans hk' HM.out.2.1
        have hkdi : (k : Int) ≤ (d : Int) := by omega
        have C2 := Lib.hid (HK.out.2.2.2.2.take hk' W2.drew d (HT.out.2.2.1.drew) hkd)
        clear hRg e0 e1 e2 e3 q0 q1 q2 q3 fz hgs
        go_wp2_with fail
        go_still_tail 5, (by kernel_rfl)
        go_wp2_with fail
        refine C2.out.mono ?_
        rintro e w3 ⟨hbut, num', cnt', sum', r', fr', ⟨Ar', nr', cr', rfl⟩, hend⟩
        have hFR : ¬ R = F := by have := HS.out.1; have := HS.out.2.1; omega
        have hres3 : Fr w3 R 0 0 0 (.slice none 0 0) := (hbut.block R (by have := hres.lt; exact this) hFR).trans hres
        have HB3 : Hid (Below w.heap.size w w3) := (HB2.out.drew).trans (hbut.below (show w.heap.size ≤ W2.drew.heap.size from HB2.out.size) (fun b hb => by have := HS.out.1; show w.heap.size ≤ b; rw [hb]; omega))
        have HX := Lib.hid (And.intro hbut (And.intro fr' hres3))
        rcases hend with ⟨b, hcut, rfl⟩ | ⟨rfl, st'⟩
        · have q0 := fr'.c0
          have q1 := fr'.c1
          have q2 := fr'.c2
          have q3 := fr'.c3
          have e0 := hres3.c0
          have e1 := hres3.c1
          have e2 := hres3.c2
          have e3 := hres3.c3
          have fz := hres3.free
          have HC := Lib.hid hcut
          unfold Errs.val
          obtain ⟨ad, had⟩ : ∃ ad, E.at_ b = ad := ⟨_, rfl⟩
          rw [had]
          have HD := Lib.hid had
          clear hcut had hbut fr'
          go_wp2_with fail
          refine bodyPost_ret_by (results_frame (p := 2) (q := 3) (ty := 52) (by kernel_rfl) _ _ ⟨R, 0, none⟩ _ rfl (run_loadVar_row (P := Tryz.prog) _ R 52 52 _ (0, 0) _ ((((HX.out.2.2.set0 num').set1 cnt').set2 sum').set3 (.slice Ar' nr' cr')) Tryz.underlying52 rfl infoFrame)) rfl ?_
          exact ⟨(((HB3.out.setCell hRw _).setCell hRw _).setCell hRw _).setCell hRw _, .inl ⟨b, _, ⟨_, _, _, _, _, _, rfl⟩, HC.out, by rw [Errs.val, HD.out]; rfl⟩⟩
        · obtain ⟨B1, hcut, hB1⟩ := cut_name (A := A1) (n := m) (c := d) (k := k) hk'
          have HB1 := Lib.hid hB1
          have HST := Lib.hid st'
          clear hB1 st' hbut fr' hres hres3
          go_wp2_with fail
          go_roundw
          case rel =>
            refine ⟨j + 1, by omega, by go_num, HB3.out, ⟨P + k, num', cnt', sum', _, HX.out.2.1, ⟨_, _, _, rfl⟩, HST.out, B1, m - k, d - k, rfl, by have := HM.out.1; omega, by have := HM.out.2.1; omega, ?_, ?_⟩, HX.out.2.2, ?_⟩
            · have := (HK.out.2.2.1).cut hk' HM.out.2.1
              rw [List.drop_drop] at this
              rw [HB1.out]
              exact this
            · intro hn
              have : A1 = none := by
                rw [HB1.out] at hn
                split at hn
                · exact hn
                · cases A1 with
                  | none => rfl
                  | some a => cases hn
              have := HM.out.2.2 this
              omega
            · have hF1 := HS.out.2.2.1
              have hF2 := HS.out.2.2.2
              have hp2 : Pts W2.drew G B := (HK.out.1.pts.below HT.out.2.2.1).drewn
              exact hp2.only HX.out.1 (by omega) (by omega)
          case measure => simp [intOf]; omega
    · have hjl : ¬ ((j : Int) < 6) := by omega
      obtain ⟨hnum, hcnt, hc256, hsum, mk, ⟨A2, c2, hsl, hcc2, hin2, hA2⟩, hPn, hrest⟩ : num = numOf xs ∧ cnt = cntOf xs ∧ cntOf xs ≤ 256 ∧ sum = sumIn xs ∧ xs.take 4 = recMark ∧ (∃ A2 c2, Value.slice Ar nr cr = .slice A2 (cntOf xs) c2 ∧ cntOf xs ≤ c2 ∧ In w A2 (cntOf xs) (recOf xs) ∧ (A2 = none → cntOf xs = 0)) ∧ 64 * secs (cntOf xs) ≤ n ∧ restOf xs = List.replicate (noug (cntOf xs)) 0 := by
        rcases st with ⟨h, _⟩ | ⟨h, _⟩ | ⟨h, _⟩ | ⟨h, _⟩ | ⟨h, _⟩ | ⟨h, _⟩ | ⟨_, hP, mk, h1, h2, h3, h4, h5, h6, h7⟩
        · omega
        · omega
        · omega
        · omega
        · omega
        · omega
        · exact ⟨h1, h2, h3, h4, mk, h5, by have := secs_ge (cntOf xs); unfold noug at hP; omega, h7⟩
      cases hsl
      have hxl : xs.length = n := H0.out.2.1.len
      have h64' : ¬ xs.length < 64 := by omega
      have HKK := Lib.hid K
      have CS := Lib.hid (fun (W : World) (hb : Below wr.heap.size wr W) => sumOf_any (numOf xs) Ar (cntOf xs) cr (recOf xs) W ((hin2.below HKK.out.bel).below hb) (recOf_lt H0.out.2.2.1) hA2 hcc2 (by omega))
      have hq0 : Hid (∀ W : World, Below wr.heap.size wr W → W.cell? ⟨F, 0, none⟩ = some (.int .u64 (numOf xs : Int))) := fun W hb => by rw [← hnum]; exact (fr.below hb).c0
      have hq2 : Hid (∀ W : World, Below wr.heap.size wr W → W.cell? ⟨F, 2, none⟩ = some (.int .u64 (sumIn xs : Int))) := fun W hb => by rw [← hsum]; exact (fr.below hb).c2
      have hq3 : Hid (∀ W : World, Below wr.heap.size wr W → W.cell? ⟨F, 3, none⟩ = some (.slice Ar (cntOf xs) cr)) := fun W hb => (fr.below hb).c3
      have HF : Hid (Fr wr F (numOf xs) (cntOf xs) (sumIn xs) (.slice Ar (cntOf xs) cr)) := by rw [← hnum, ← hsum]; rw [hcnt] at fr; exact fr
      have HY := Lib.hid (And.intro mk (And.intro hc256 (And.intro hPn (And.intro hrest (And.intro hcc2 hin2)))))
      have HL := Lib.hid hxl
      have HL2 := Lib.hid h64'
      clear K fr hnum hcnt hsum mk hc256 hPn hrest hcc2 hin2 hA2 hxl h64' st hb
      go_wp2_with fail
      refine wp_region_quiet (C := fun w' => Below wr.heap.size wr w') (by kernel_rfl) (by kernel_rfl) ((Below.refl _ _).drew) ?_
      refine wpQuiet_step (fun K hK => ?_); go_simp; refine ⟨_, fun _ _ => rfl, hK _ ?_⟩; clear hK K
      refine wpQuiet_step (fun K hK => ?_)
      refine quiet_load_at (by rfl) 22 (plain_any Tryz.underlying22 rfl) (.tmp 43) rfl ⟨F, 2, none⟩ rfl (.int .u64 (sumIn xs : Int)) hq2.out (hK _ ?_)
      clear hK K
      refine wpQuiet_step (fun K hK => ?_); go_simp; refine ⟨_, fun _ _ => rfl, hK _ ?_⟩; clear hK K
      refine wpQuiet_step (fun K hK => ?_)
      refine quiet_load_at (by rfl) 22 (plain_any Tryz.underlying22 rfl) (.tmp 45) rfl ⟨F, 0, none⟩ rfl (.int .u64 (numOf xs : Int)) hq0.out (hK _ ?_)
      clear hK K
      refine wpQuiet_step (fun K hK => ?_); go_simp; refine ⟨_, fun _ _ => rfl, hK _ ?_⟩; clear hK K
      refine wpQuiet_step (fun K hK => ?_)
      refine quiet_load_at (by rfl) 23 (plain_any Tryz.underlying23 rfl) (.tmp 47) rfl ⟨F, 3, none⟩ rfl (.slice Ar (cntOf xs) cr) hq3.out (hK _ ?_)
      clear hK K
      refine wpQuiet_step (fun K hK => ?_)
      go_simp
      refine ⟨.int .u64 ((sumL (numOf xs) (recOf xs) : Nat) : Int), fun W hC => ?_, hK _ ?_⟩
      · exact (CS.out W hC).mono fun e w'' ⟨he, hb⟩ => ⟨he, below_on hC (Nat.le_refl _) hb⟩
      clear hK K
      refine wpQuiet_step (fun K hK => ?_); go_simp; refine ⟨_, fun _ _ => rfl, hK _ ?_⟩; clear hK K
      refine wpQuiet_nil ?_
      intro w6 hb6
      have hRw : w.heap.size ≤ R := Nat.le_of_eq HS.out.2.1
      have HB6 : Hid (Below w.heap.size w w6) := below_on HKK.out.bel (Nat.le_refl _) hb6
      have hfr := HF.out.below hb6
      have hres := HKK.out.res.below hb6
      have q0 := hfr.c0
      have q1 := hfr.c1
      have q2 := hfr.c2
      have q3 := hfr.c3
      have e0 := hres.c0
      have e1 := hres.c1
      have e2 := hres.c2
      have e3 := hres.c3
      have fz := hres.free
      have hgm := ((H0.out.1.below HKK.out.bel).below hb6).gm
      by_cases heq : sumIn xs = sumL (numOf xs) (recOf xs)
      · have dq : ((sumIn xs : Int) != ((sumL (numOf xs) (recOf xs) : Nat) : Int)) = false := by rw [← heq]; simp
        have HQ := Lib.hid heq
        clear heq hb6 hgm hfr
        go_wp2_with fail
        refine bodyPost_ret_by (results_frame (p := 2) (q := 3) (ty := 52) (by kernel_rfl) _ _ ⟨R, 0, none⟩ _ rfl (run_loadVar_row (P := Tryz.prog) _ R 52 52 _ (0, 0) _ ((((hres.set0 (numOf xs)).set1 (cntOf xs)).set2 (sumIn xs)).set3 (.slice Ar (cntOf xs) cr)) Tryz.underlying52 rfl infoFrame)) rfl ?_
        exact ⟨(((HB6.out.setCell hRw _).setCell hRw _).setCell hRw _).setCell hRw _, .inr ⟨cutL_none HL2.out HY.out.1 HY.out.2.1 (by rw [HL.out]; exact HY.out.2.2.1) HY.out.2.2.2.1 HQ.out, Ar, cr, rfl, HY.out.2.2.2.2.1, HY.out.2.2.2.2.2⟩⟩
      · have dq : ((sumIn xs : Int) != ((sumL (numOf xs) (recOf xs) : Nat) : Int)) = true := by simp; omega
        have HQ := Lib.hid heq
        have hRg : ∀ v0 v1 v2 v3, ((((w6.setCell ⟨R, 0, none⟩ v0).setCell ⟨R, 1, none⟩ v1).setCell ⟨R, 2, none⟩ v2).setCell ⟨R, 3, none⟩ v3).cell? ⟨1, 0, none⟩ = some (.iface 174 (.pointer (some E.m))) := fun v0 v1 v2 v3 => by
          rw [World.cell?_of_block (show _ = w6.heap[(1 : Nat)]? from ?_)]
          · exact hgm
          · have hne : (1 : Nat) ≠ R := hres.ne_err (Lib.hid hgm)
            rw [heap_setCell_other _ _ _ _ hne, heap_setCell_other _ _ _ _ hne, heap_setCell_other _ _ _ _ hne, heap_setCell_other _ _ _ _ hne]
        clear heq hb6 hfr
        go_wp2_with fail
        go_region
        go_wp2_with fail
        refine bodyPost_ret_by (results_frame (p := 2) (q := 3) (ty := 52) (by kernel_rfl) _ _ ⟨R, 0, none⟩ _ rfl (run_loadVar_row (P := Tryz.prog) _ R 52 52 _ (0, 0) _ ((((hres.set0 (numOf xs)).set1 (cntOf xs)).set2 (sumIn xs)).set3 (.slice Ar (cntOf xs) cr)) Tryz.underlying52 rfl infoFrame)) rfl ?_
        exact ⟨((((HB6.out.setCell hRw _).setCell hRw _).setCell hRw _).setCell hRw _).drew, .inl ⟨.sum, _, ⟨_, _, _, _, _, _, rfl⟩, cutL_sum HL2.out HY.out.1 HY.out.2.1 (by rw [HL.out]; exact HY.out.2.2.1) HY.out.2.2.2.1 HQ.out, rfl⟩⟩

end Go.Proofs.YtfniddnfkciblaaGreatDoor

/-
  frames.cut of any bytes.
-/
namespace Go.Proofs.YtfniddnfkciblaaGreatDoor
open Go.RowKit

set_option maxRecDepth 100000 in
set_option maxHeartbeats 4000000 in
theorem cut_less (E : Errs) (A : Option Addr) (n c : Nat) (xs : List Nat) (w : World) (hE : Laid w E) (hin : In w A n xs) (h64 : n < 64) :
    Calls Tryz.prog 19 #[.slice A n c] w (CutPost E xs w) := by
  have hi : (n : Int) < 64 := by omega
  have hcut : Hid (cutL xs = some .short) := cutL_len (by rw [hin.len]; exact h64)
  have fr1 := Fr.new w
  have fr2 := Fr.new (w.alloc (.cells #[.int .u64 0, .int .i64 0, .int .u64 0, .slice none 0 0] 52))
  rw [World.size_alloc] at fr2
  have fr1' := fr1.below (below_alloc _ (.cells #[.int .u64 0, .int .i64 0, .int .u64 0, .slice none 0 0] 52))
  have hb : Below w.heap.size w ((w.alloc (.cells #[.int .u64 0, .int .i64 0, .int .u64 0, .slice none 0 0] 52)).alloc (.cells #[.int .u64 0, .int .i64 0, .int .u64 0, .slice none 0 0] 52)) := below_on (below_alloc w _) (Nat.le_refl _) (below_alloc _ _)
  have HE := Lib.hid hE
  clear hE hin fr1
  go_enter Tryz.func19, Tryz.ntmps19
  go_wp2_with fail
  obtain ⟨W, hW⟩ : ∃ W, ((w.alloc (.cells #[.int .u64 0, .int .i64 0, .int .u64 0, .slice none 0 0] 52)).alloc (.cells #[.int .u64 0, .int .i64 0, .int .u64 0, .slice none 0 0] 52)) = W := ⟨_, rfl⟩
  rw [hW] at fr1' fr2 hb ⊢
  clear hW
  obtain ⟨R, hR⟩ : ∃ R, w.heap.size = R := ⟨_, rfl⟩
  have HB := Lib.hid hb
  clear hb
  have HRw : Hid (w.heap.size ≤ R) := Nat.le_of_eq hR
  rw [hR] at fr1' fr2 ⊢
  clear hR
  have hgs := (HE.out.below HB.out).gs
  have q0 := fr2.c0
  have q1 := fr2.c1
  have q2 := fr2.c2
  have q3 := fr2.c3
  have e0 := fr1'.c0
  have e1 := fr1'.c1
  have e2 := fr1'.c2
  have e3 := fr1'.c3
  have fz := fr1'.free
  have hRg : ∀ v0 v1 v2 v3, ((((W.setCell ⟨R, 0, none⟩ v0).setCell ⟨R, 1, none⟩ v1).setCell ⟨R, 2, none⟩ v2).setCell ⟨R, 3, none⟩ v3).cell? ⟨0, 0, none⟩ = some (.iface 174 (.pointer (some E.s))) := fun v0 v1 v2 v3 => by
    rw [World.cell?_of_block (show _ = W.heap[(0 : Nat)]? from ?_)]
    · exact hgs
    · have hne : (0 : Nat) ≠ R := fr1'.ne_err (Lib.hid hgs)
      rw [heap_setCell_other _ _ _ _ hne, heap_setCell_other _ _ _ _ hne, heap_setCell_other _ _ _ _ hne, heap_setCell_other _ _ _ _ hne]
  clear HE
  go_region
  go_wp2_with fail
  refine bodyPost_ret_by (results_frame (p := 2) (q := 3) (ty := 52) (by kernel_rfl) _ _ ⟨R, 0, none⟩ _ rfl (run_loadVar_row (P := Tryz.prog) _ R 52 52 _ (0, 0) _ ((((fr1'.set0 0).set1 0).set2 0).set3 (.slice none 0 0)) Tryz.underlying52 rfl infoFrame)) rfl ?_
  exact ⟨((((HB.out.setCell HRw.out _).setCell HRw.out _).setCell HRw.out _).setCell HRw.out _).drew, .inl ⟨.short, _, ⟨_, _, _, _, _, _, rfl⟩, hcut.out, rfl⟩⟩

theorem cut_any (E : Errs) (A : Option Addr) (n c : Nat) (xs : List Nat) (w : World) (hE : Laid w E) (hin : In w A n xs) (hx : ∀ x ∈ xs, x < 256) (hA : A = none → n = 0) (hnc : n ≤ c) (hc : n ≤ 1000000000000) :
    Calls Tryz.prog 19 #[.slice A n c] w (CutPost E xs w) := by
  by_cases h64 : n < 64
  · exact cut_less E A n c xs w hE hin h64
  · exact cut_long E A n c xs w hE hin hx hA hnc hc h64

end Go.Proofs.YtfniddnfkciblaaGreatDoor

/-
  frames.Get.
-/
namespace Go.Proofs.YtfniddnfkciblaaGreatDoor
open Go.RowKit

theorem results_four {fn : Func} {t u v x : Tmp} (h : fn.results = #[.tmp t, .tmp u, .tmp v, .tmp x]) (tmps : Array Value) (P : Program) (w : World) :
    (results fn tmps).run P w = .ok (.tuple #[tmps.getD t undef, tmps.getD u undef, tmps.getD v undef, tmps.getD x undef]) w := by
  simp [results, h]

/-- What Get answers. -/
def GetPost (xs : List Nat) (w : World) (e : Ending) (w' : World) : Prop :=
  Below w.heap.size w w' ∧ ((∃ b : Bad, cutL xs = some b ∧ e = .returned (.tuple #[.int .u64 0, .slice none 0 0, .int .i64 0, .int .i64 (b.no : Int)])) ∨
    (cutL xs = none ∧ ∃ A c, e = .returned (.tuple #[.int .u64 (numOf xs : Int), .slice A (cntOf xs) c, .int .i64 ((secs (cntOf xs) : Nat) : Int), .int .i64 0]) ∧
      w'.ownsRow w.heap.size 5 1 (.slice A (cntOf xs) c) (cntOf xs) (bvs (recOf xs))))

set_option maxRecDepth 100000 in
set_option maxHeartbeats 4000000 in
theorem get_frame (E : Errs) (A : Option Addr) (n c : Nat) (xs : List Nat) (w : World) (hE : Laid w E) (hin : In w A n xs) (hx : ∀ x ∈ xs, x < 256) (hA : A = none → n = 0) (hnc : n ≤ c) (hc : n ≤ 1000000000000) :
    Calls Tryz.prog 7 #[.slice A n c] w (GetPost xs w) := by
  have C1 := Lib.hid (cut_any E A n c xs w hE hin hx hA hnc hc)
  have HE := Lib.hid hE
  have HX := Lib.hid (And.intro hx hin)
  clear hE hin hx hA hnc hc
  go_enter Tryz.func7, Tryz.ntmps7
  go_wp2_with fail
  refine C1.out.mono ?_
  rintro e w1 ⟨hb1, ⟨b, fv, ⟨num, cnt, sum, Af, nf, cf, rfl⟩, hcut, rfl⟩ | ⟨hcut, R, cR, rfl, hcR, hin2⟩⟩
  · have HC := Lib.hid hcut
    have HB1 := Lib.hid hb1
    have C2 := Lib.hid (fun W h => told_bad E b W h)
    have hnz : ((b.no : Int) != 0) = true := by cases b <;> rfl
    unfold Errs.val at C2 ⊢
    obtain ⟨ad, had⟩ : ∃ ad, E.at_ b = ad := ⟨_, rfl⟩
    rw [had] at C2 ⊢
    obtain ⟨nb, hnb⟩ : ∃ nb, b.no = nb := ⟨_, rfl⟩
    rw [hnb] at C2 hnz
    have HN := Lib.hid hnb
    clear hcut had hnb hb1
    go_wp2_with fail
    refine (C2.out _ ((HE.out.below HB1.out).below (below_alloc _ _))).mono ?_
    rintro e w2 ⟨rfl, rfl⟩
    go_wp2_with fail
    refine bodyPost_ret_by (results_four (t := 2) (u := 3) (v := 4) (x := 5) (by kernel_rfl) _ _ _) rfl ?_
    exact ⟨below_on HB1.out (Nat.le_refl _) (below_alloc _ _), .inl ⟨b, HC.out, by rw [HN.out]; rfl⟩⟩
  · have HC := Lib.hid hcut
    have HB1 := Lib.hid hb1
    obtain ⟨hag, hc256, hl64, hrl⟩ := cutL_again xs HX.out.1 hcut
    have hin3 := hin2.below hb1
    have HI := Lib.hid (And.intro hcR (And.intro hin3 (And.intro hc256 (recOf_lt HX.out.1))))
    obtain ⟨m, hm⟩ : ∃ m, cntOf xs = m := ⟨_, rfl⟩
    rw [hm] at HI ⊢
    have hm256 : m ≤ 256 := by omega
    have HM := Lib.hid hm
    have HRL := Lib.hid (hrl.trans hm)
    clear hm hcut hb1 hin2 hcR hin3 hag hc256 hl64 hrl
    have CT := Lib.hid (fun W h => told_nil E W h)
    have hmk := make_bytes m m (Nat.le_refl _) (by omega)
    obtain ⟨M, hM⟩ : ∃ M : List Value, (madeCells #[.int .u8 0] m).toList = M := ⟨_, rfl⟩
    have hMl : M.length = m := by rw [← hM, Array.length_toList, size_madeCells]
    have hM' : madeCells #[.int .u8 0] m = M.toArray := by rw [← hM]
    rw [hM'] at hmk
    have HML := Lib.hid hMl
    clear hM hM' hMl
    have CF := Lib.hid (fun W => sectors_any m (by omega) W)
    obtain ⟨nu, hnu⟩ : ∃ nu, numOf xs = nu := ⟨_, rfl⟩
    obtain ⟨su, hsu⟩ : ∃ su, sumIn xs = su := ⟨_, rfl⟩
    rw [hnu, hsu]
    have HNS := Lib.hid (And.intro hnu hsu)
    clear hnu hsu
    go_wp2_with fail
    have hW1 := below_alloc w1 (.cells #[.int .u64 (nu : Int), .int .i64 (m : Int), .int .u64 (su : Int), .slice R m cR] 52)
    have hF := World.alloc_heap_new w1 (.cells #[.int .u64 (nu : Int), .int .i64 (m : Int), .int .u64 (su : Int), .slice R m cR] 52)
    have hS := World.size_alloc w1 (.cells #[.int .u64 (nu : Int), .int .i64 (m : Int), .int .u64 (su : Int), .slice R m cR] 52)
    obtain ⟨w2, hw2⟩ : ∃ w2, w1.alloc (.cells #[.int .u64 (nu : Int), .int .i64 (m : Int), .int .u64 (su : Int), .slice R m cR] 52) = w2 := ⟨_, rfl⟩
    rw [hw2] at hW1 hF hS ⊢
    clear hw2
    obtain ⟨T, hT⟩ : ∃ T, w1.heap.size = T := ⟨_, rfl⟩
    rw [hT] at hF hS ⊢
    have HB2 : Hid (Below w.heap.size w w2) := below_on HB1.out (Nat.le_refl _) hW1
    have hFr : Fr w2 T nu m su (.slice R m cR) := hF
    have HT := Lib.hid (And.intro hT hS)
    clear hT hF hS
    refine (CT.out _ (HE.out.below HB2.out)).mono ?_
    rintro e w2' ⟨rfl, rfl⟩
    have q0 := hFr.c0
    have q1 := hFr.c1
    have q3 := hFr.c3
    have hin4 := HI.out.2.1.below hW1
    have hg : Hid ((w2.alloc (.cells M.toArray 5)).heap[w2.heap.size]? = some (.cells M.toArray 5 (0, 0))) := World.alloc_heap_new w2 _
    have hba : Below w2.heap.size w2 (w2.alloc (.cells M.toArray 5)) := (Below.refl _ w2).alloc (Nat.le_refl _) _
    have hr' := (hin4.below hba).rd
    have hn : Hid ((bvs (recOf xs)).length = Nat.min m m) := by
      show _ = _
      rw [bvs_length, HRL.out]
      exact (Nat.min_self m).symm
    have hpos : 0 < (bvs (recOf xs)).length → ∃ ad, R = some ad ∧ ∀ j v, (bvs (recOf xs))[j]? = some v → (w2.alloc (.cells M.toArray 5)).cell? (ad.add j) = some v := by
      intro h0
      rw [bvs_length] at h0
      obtain ⟨ad, rfl, _⟩ := hr'.at_ h0
      refine ⟨ad, rfl, fun j v hv => ?_⟩
      rw [bvs_get] at hv
      obtain ⟨x, hx, rfl⟩ := Option.map_eq_some_iff.1 hv
      obtain ⟨ad', e, hc⟩ := hr' j x hx
      cases e
      exact hc
    have HP := Lib.hid hpos
    have hfit : Hid (0 + (bvs (recOf xs)).length ≤ M.length) := by
      show _ ≤ _
      rw [bvs_length, HRL.out, HML.out]
      omega
    have q3' := (hFr.below hba).c3
    have HBA := Lib.hid hba
    have HFr := Lib.hid hFr
    clear hpos hr' hin4 hba hFr hW1
    go_wp2_with (with_reducible refine wpList_copy_splice rfl (.tmp 21) (.tmp 23) 23 23 rfl 5 Tryz.underlying23 sizeByte (some ⟨w2.heap.size, 0, none⟩) R m m m cR rfl rfl w2.heap.size 0 M 5 hg.out (bvs (recOf xs)) hn.out (fun h => ⟨rfl, HP.out h⟩) hfit.out (bvs_oneCell (recOf xs)) w2.heap.size w2 HBA.out (Nat.le_refl _) ?_; intro w3 hw3 hb3)
    have HF3 := Lib.hid (HFr.out.below hb3)
    have p0 := HF3.out.c0
    have p1 := HF3.out.c1
    have HB3 : Hid (Below w.heap.size w w3) := below_on HB2.out (Nat.le_refl _) hb3
    clear q0 q1 q3 q3' hb3
    go_quiet ((go_at_call 16; exact Calls.quiet_of_same ((CF.out _).mono fun _ _ ⟨h1, h2⟩ => ⟨h1, h2.symm⟩)))
    go_wp2_with fail
    refine bodyPost_ret_by (results_four (t := 2) (u := 3) (v := 4) (x := 5) (by kernel_rfl) _ _ _) rfl ?_
    refine ⟨HB3.out.trans ⟨rfl, rfl, rfl, Nat.le_refl _, fun _ _ => rfl⟩, .inr ⟨HC.out, some ⟨w2.heap.size, 0, none⟩, m, ?_, ?_⟩⟩
    · rw [HNS.out.1, HM.out]; rfl
    · rw [HM.out]
      have ho : w3.ownsRow w.heap.size 5 1 (.slice (some ⟨w2.heap.size, 0, none⟩) m m) m (bvs (recOf xs)) := by
        refine ⟨by rw [bvs_length, HRL.out]; simp, .inr ⟨w2.heap.size, m, _, rfl, HB2.out.size, hw3.out, Nat.le_refl _, by unfold maxLen; omega, ?_, ?_⟩⟩
        · rw [List.size_toArray, length_splice _ _ _ hfit.out, HML.out]; simp
        · simp [splice, bvs_length, HRL.out]
      exact ho

end Go.Proofs.YtfniddnfkciblaaGreatDoor

/-
  almonerref06.Get: what bytes begin with, as the document says.
-/
namespace Go.Proofs.YtfniddnfkciblaaGreatDoor
open Go.RowKit

theorem run_cut_mid {ad : Addr} {n c k m h : Nat} (hh : k + m = h) (hk : h ≤ n) (hkn : k < n) (hc : n ≤ c) (W : World) :
    (Instr.slice 23 (.slice (some ad) n c) (some (.int .i64 (k : Int))) (some (.int .i64 (h : Int))) none).run Tryz.prog W = .ok (.slice (some (ad.add k)) m (c - k)) W := by
  obtain ⟨i0, hi, hz0, hz1, hz2⟩ := info_parts infoByte
  have he : Tryz.prog.elem 23 = 5 := by kernel_rfl
  rw [run_slice_lh W 23 (some ad) n c (by rw [he]; exact Tryz.underlying23) .i64 .i64 (k : Int) (h : Int) (by omega) (by omega) (by omega), he]
  have e1 : h - k = m := by omega
  have e2 : ¬ c = k := by omega
  simp [sizeOf, typeInfo, hi, hz1, sliced, e1, e2]

set_option maxRecDepth 100000 in
theorem refSectors_any (c : Nat) (hc : c ≤ 1000000000000) (w : World) : Calls Tryz.prog 22 #[.int .i64 (c : Int)] w fun e w' => e = .returned (.int .i64 ((secs c : Nat) : Int)) ∧ w = w' := by
  have h1 : (18 + (c : Int) + 64 - 1).tdiv 64 = ((secs c : Nat) : Int) := by rw [Int.tdiv_eq_ediv_of_nonneg (by omega)]; unfold secs; omega
  obtain ⟨q, hq⟩ : ∃ q, secs c = q := ⟨_, rfl⟩
  rw [hq] at h1 ⊢
  have hq2 : q ≤ 1000000000000 := by unfold secs at hq; omega
  clear hq
  go_enter Tryz.func22, Tryz.ntmps22
  go_wp2
  go_ret
  exact ⟨rfl, rfl⟩

theorem told_is {xs : List Nat} (hx : ∀ x ∈ xs, x < 256) (hl : 64 ≤ xs.length) : (xs.drop 4).take 10 = toldL (numOf xs) (cntOf xs) := by
  have d1 : dg (numOf xs) 8 = (xs.drop 4).take 8 := dg_val _ (drop_take_lt hx 4 8) 8 (by rw [List.length_take, List.length_drop]; omega)
  have d2 : dg (cntOf xs) 2 = (xs.drop 12).take 2 := dg_val _ (drop_take_lt hx 12 2) 2 (by rw [List.length_take, List.length_drop]; omega)
  unfold toldL
  rw [d1, d2, show 10 = 8 + 2 from rfl, take_more, List.drop_drop]

/-- Where the marks and the numbers are read. -/
structure Heads (A : Option Addr) (n c : Nat) (B4 B12 B14 : Option Addr) (n4 n12 n14 c4 c12 c14 : Nat) (xs : List Nat) (w : World) : Prop where
  k4 : ∀ W : World, (Instr.slice 23 (.slice A n c) (some (.int .i64 4)) none none).run Tryz.prog W = .ok (.slice B4 n4 c4) W
  k12 : ∀ W : World, (Instr.slice 23 (.slice A n c) (some (.int .i64 12)) none none).run Tryz.prog W = .ok (.slice B12 n12 c12) W
  k14 : ∀ W : World, (Instr.slice 23 (.slice A n c) (some (.int .i64 14)) none none).run Tryz.prog W = .ok (.slice B14 n14 c14) W
  g4 : ∀ W : World, Below w.heap.size w W → Calls Tryz.prog 21 #[.slice B4 n4 c4, .int .i64 8] W fun e w' => e = .returned (.tuple #[.int .u64 (numOf xs : Int), .int .i64 0]) ∧ Below W.heap.size W w'
  g12 : ∀ W : World, Below w.heap.size w W → Calls Tryz.prog 21 #[.slice B12 n12 c12, .int .i64 2] W fun e w' => e = .returned (.tuple #[.int .u64 (cntOf xs : Int), .int .i64 0]) ∧ Below W.heap.size W w'
  g14 : ∀ W : World, Below w.heap.size w W → Calls Tryz.prog 21 #[.slice B14 n14 c14, .int .i64 4] W fun e w' => e = .returned (.tuple #[.int .u64 (sumIn xs : Int), .int .i64 0]) ∧ Below W.heap.size W w'

theorem heads_of (A : Option Addr) (n c : Nat) (xs : List Nat) (w : World) (hin : In w A n xs) (hx : ∀ x ∈ xs, x < 256) (hn : 64 ≤ n) (hc : n ≤ c) :
    ∃ B4 B12 B14 n4 n12 n14 c4 c12 c14, Heads A n c B4 B12 B14 n4 n12 n14 c4 c12 c14 xs w := by
  obtain ⟨B4, h4, e4⟩ := cut_name (A := A) (n := n) (c := c) (k := 4) (by omega)
  obtain ⟨B12, h12, e12⟩ := cut_name (A := A) (n := n) (c := c) (k := 12) (by omega)
  obtain ⟨B14, h14, e14⟩ := cut_name (A := A) (n := n) (c := c) (k := 14) (by omega)
  have hd : ∀ k, ∀ x ∈ xs.drop k, x < 256 := fun k x h => hx x (List.mem_of_mem_drop h)
  refine ⟨B4, B12, B14, n - 4, n - 12, n - 14, c - 4, c - 12, c - 14, h4, h12, h14, fun W hb => ?_, fun W hb => ?_, fun W hb => ?_⟩
  · have hi := (hin.below hb).cut (k := 4) (by omega) hc
    rw [← e4] at hi
    exact looseN (refGet_ok B4 (n - 4) (c - 4) 8 _ W hi (hd 4) (by omega) (by omega))
  · have hi := (hin.below hb).cut (k := 12) (by omega) hc
    rw [← e12] at hi
    exact looseN (refGet_ok B12 (n - 12) (c - 12) 2 _ W hi (hd 12) (by omega) (by omega))
  · have hi := (hin.below hb).cut (k := 14) (by omega) hc
    rw [← e14] at hi
    exact looseN (refGet_ok B14 (n - 14) (c - 14) 4 _ W hi (hd 14) (by omega) (by omega))

set_option maxRecDepth 100000 in
theorem refGetF_less (A : Option Addr) (n c : Nat) (xs : List Nat) (w : World) (hl : xs.length = n) (h : n < 64) :
    Calls Tryz.prog 8 #[.slice A n c] w (GetPost xs w) := by
  have hi : (n : Int) < 64 := by omega
  have hc := Lib.hid (cutL_len (xs := xs) (by omega))
  clear hl
  go_enter Tryz.func8, Tryz.ntmps8
  go_wp2_with fail
  refine bodyPost_ret_by (results_four (t := 2) (u := 3) (v := 4) (x := 5) (by kernel_rfl) _ _ _) rfl ?_
  exact ⟨Below.refl _ _, .inl ⟨.short, hc.out, rfl⟩⟩

set_option maxRecDepth 100000 in
set_option maxHeartbeats 4000000 in
theorem refGetF_long (A : Option Addr) (n c : Nat) (xs : List Nat) (w : World) (hin : In w A n xs) (hx : ∀ x ∈ xs, x < 256) (hn : 64 ≤ n) (hc : n ≤ c) (hn2 : n ≤ 1000000) :
    Calls Tryz.prog 8 #[.slice A n c] w (GetPost xs w) := by
  obtain ⟨ad, _, rfl, _⟩ := hin.at_ (show 0 < n by omega)
  have hi : ¬ (n : Int) < 64 := by omega
  obtain ⟨B4, B12, B14, n4, n12, n14, c4, c12, c14, HH⟩ := heads_of (some ad) n c xs w hin hx hn hc
  have k4 := HH.k4
  have k12 := HH.k12
  have k14 := HH.k14
  have HG := Lib.hid (And.intro HH.g4 (And.intro HH.g12 HH.g14))
  have HX := Lib.hid (And.intro hin hx)
  have H64 := Lib.hid (show ¬ xs.length < 64 by rw [hin.len]; omega)
  have HL := Lib.hid hin.len
  clear hin hx HH
  obtain ⟨nu, hnu⟩ : ∃ nu, numOf xs = nu := ⟨_, rfl⟩
  obtain ⟨m, hm⟩ : ∃ m, cntOf xs = m := ⟨_, rfl⟩
  obtain ⟨su, hsu⟩ : ∃ su, sumIn xs = su := ⟨_, rfl⟩
  rw [hnu, hm, hsu] at HG
  have hm16 : m < 65536 := by rw [← hm]; exact cntOf_lt HX.out.2
  have HN := Lib.hid (And.intro hnu (And.intro hm hsu))
  clear hnu hm hsu
  go_enter Tryz.func8, Tryz.ntmps8
  go_wp2_with fail
  refine (HG.out.1 w (Below.refl _ _)).mono ?_
  rintro e w1 ⟨rfl, hb1⟩
  have B1 := Lib.hid hb1
  clear hb1
  go_wp2_with fail
  refine (HG.out.2.1 w1 B1.out).mono ?_
  rintro e w2 ⟨rfl, hb2⟩
  have B2 : Hid (Below w.heap.size w w2) := below_on B1.out (Nat.le_refl _) hb2
  clear hb2
  go_wp2_with fail
  refine (HG.out.2.2 w2 B2.out).mono ?_
  rintro e w3 ⟨rfl, hb3⟩
  have B3 : Hid (Below w.heap.size w w3) := below_on B2.out (Nat.le_refl _) hb3
  clear hb3
  have hcv := conv_str ((HX.out.1.take (k := 4) (by omega)).below B3.out) (fun x h => HX.out.2 x (List.mem_of_mem_take h)) c
  by_cases hmk : xs.take 4 = recMark
  · rw [hmk, show strL recMark = { data := #[82, 69, 67, 49] } from rfl] at hcv
    have HMK := Lib.hid hmk
    clear hmk
    by_cases hbig : 256 < m
    · have hbi : (256 : Int) < (m : Int) := by omega
      have HC := Lib.hid (cutL_count H64.out HMK.out (by rw [HN.out.2.1]; exact hbig))
      go_wp2_with fail
      refine bodyPost_ret_by (results_four (t := 2) (u := 3) (v := 4) (x := 5) (by kernel_rfl) _ _ _) rfl ?_
      exact ⟨B3.out, .inl ⟨.form, HC.out, rfl⟩⟩
    · have hbi : ¬ (256 : Int) < (m : Int) := by omega
      have hwm : IntKind.i64.wrap (m : Int) = (m : Int) := IntWalk.i64_in _ (by omega)
      have CS := Lib.hid (fun W => refSectors_any m (by omega) W)
      have hsg := secs_ge m
      have hsl := secs_lt m
      have hs5 := secs_le m (by omega)
      obtain ⟨q, hq⟩ : ∃ q, secs m = q := ⟨_, rfl⟩
      rw [hq] at CS hsg hsl hs5
      obtain ⟨L, hL⟩ : ∃ L, 64 * q = L := ⟨_, rfl⟩
      have hLi : (q : Int) * 64 = (L : Int) := by omega
      rw [hL] at hsg hsl
      have HQ := Lib.hid (And.intro hq hL)
      clear hq hL
      go_wp2_with fail
      refine (CS.out _).mono ?_
      rintro e _ ⟨rfl, rfl⟩
      by_cases hsh : n < L
      · have hshi : (n : Int) < (L : Int) := by omega
        have HC := Lib.hid (cutL_short H64.out HMK.out (by rw [HN.out.2.1]; omega) (by rw [HN.out.2.1, HQ.out.1, HQ.out.2, HL.out]; exact hsh))
        go_wp2_with fail
        refine bodyPost_ret_by (results_four (t := 2) (u := 3) (v := 4) (x := 5) (by kernel_rfl) _ _ _) rfl ?_
        exact ⟨B3.out, .inl ⟨.short, HC.out, rfl⟩⟩
      · have hshi : ¬ (n : Int) < (L : Int) := by omega
        obtain ⟨h, hh⟩ : ∃ h, 18 + m = h := ⟨_, rfl⟩
        have hhi : 18 + (m : Int) = (h : Int) := by omega
        have k18 : ∀ W : World, (Instr.slice 23 (.slice (some ad) n c) (some (.int .i64 18)) (some (.int .i64 (h : Int))) none).run Tryz.prog W = .ok (.slice (some (ad.add 18)) m (c - 18)) W := run_cut_mid (k := 18) hh (by omega) (by omega) hc
        obtain ⟨c18, hc18⟩ : ∃ c18, c - 18 = c18 := ⟨_, rfl⟩
        rw [hc18] at k18
        have I18 := Lib.hid ((HX.out.1.below B3.out).drop_take (k := 18) (m := m) (by omega))
        have HREC : Hid ((xs.drop 18).take m = recOf xs) := by show _ = _; unfold recOf; rw [HN.out.2.1]
        rw [HREC.out] at I18
        have HRL : Hid ((recOf xs).length = m) := by
          show _ = _
          rw [← HREC.out, List.length_take, List.length_drop, HL.out]
          omega
        clear hcv
        go_wp2_with (at_builtin; refine wpList_app_k w3 rfl (.const (.slice none 0 0)) (.tmp 56) rfl w3.heap.size none 0 0 [] rfl (World.ownsRow_nil _ _ _ _) (some (ad.add 18)) m c18 (recOf xs) rfl I18.out (fun e => by cases e) m (Nat.zero_add m) (by omega) (Nat.le_refl _) ?_; intro A13 c13 w4 ho4 hn4)
        have b34 : Below w3.heap.size w3 w4 := hn4.below (World.ownsRow_nil w3 w3.heap.size 5 1) (Below.refl _ _) (Nat.le_refl _) (Nat.le_refl _)
        rw [List.nil_append] at ho4
        have B4 : Hid (Below w.heap.size w w4) := below_on B3.out (Nat.le_refl _) b34
        have O4 := Lib.hid (And.intro ho4 (own_low ho4 B3.out.size))
        have hin4 := HX.out.1.below B4.out
        clear ho4 hn4 b34
        go_loop [14] (fun i => ∃ j : Nat, h ≤ j ∧ j ≤ L ∧ i = .int .i64 (j : Int) ∧ (xs.drop h).take (j - h) = List.replicate (j - h) 0) (fun i => L - (intOf i).toNat)
        case atStart => exact ⟨h, Nat.le_refl _, by omega, rfl, by rw [Nat.sub_self]; rfl⟩
        case round =>
          obtain ⟨j, hj, hjL, rfl, hz⟩ := hrel
          have HZ := Lib.hid hz
          clear hz
          by_cases hlt : j < L
          · obtain ⟨ad', x, ea, hxx, hc1⟩ := hin4.at_ (show j < n by omega)
            cases ea
            have hjl : (j : Int) < (L : Int) := by omega
            have hjn : (j : Int) < (n : Int) := by omega
            have HXX : Hid ((xs.drop h)[j - h]? = some x) := by show _ = _; rw [List.getElem?_drop, show h + (j - h) = j by omega]; exact hxx
            clear hxx
            by_cases h0 : x = 0
            · subst h0
              go_wp2
              go_round
              case rel => exact ⟨j + 1, by omega, by omega, by go_num, by rw [show j + 1 - h = (j - h) + 1 by omega, take_snoc_of HXX.out, HZ.out, List.replicate_succ']⟩
              case measure => simp [intOf]; omega
            · have dx : ((x : Int) != 0) = true := by simp; omega
              have hne : restOf xs ≠ List.replicate (noug (cntOf xs)) 0 := by
                intro e
                have e2 : (xs.drop h).take (noug m) = List.replicate (noug m) 0 := by
                  have := e
                  unfold restOf at this
                  rw [HN.out.2.1, hh] at this
                  exact this
                have hnz : j - h < noug m := by unfold noug; rw [HQ.out.1, HQ.out.2]; omega
                have e3 := congrArg (fun l => l[j - h]?) e2
                simp only [List.getElem?_take, if_pos hnz, HXX.out, List.getElem?_replicate] at e3
                injection e3 with e3
                exact h0 e3
              have HC := Lib.hid (cutL_rest H64.out HMK.out (by rw [HN.out.2.1]; omega) (by rw [HN.out.2.1, HQ.out.1, HQ.out.2, HL.out]; omega) hne)
              clear hne
              go_wp2
              refine bodyPost_ret_by (results_four (t := 2) (u := 3) (v := 4) (x := 5) (by kernel_rfl) _ _ _) rfl ?_
              exact ⟨B4.out, .inl ⟨.form, HC.out, rfl⟩⟩
          · obtain rfl : j = L := by omega
            have hjl : ¬ (j : Int) < (j : Int) := by omega
            have HR : Hid (restOf xs = List.replicate (noug (cntOf xs)) 0) := by
              show _ = _
              unfold restOf
              rw [HN.out.2.1, hh, show noug m = j - h by unfold noug; rw [HQ.out.1, HQ.out.2]; omega]
              exact HZ.out
            have k414 : ∀ W : World, (Instr.slice 23 (.slice (some ad) n c) (some (.int .i64 4)) (some (.int .i64 14)) none).run Tryz.prog W = .ok (.slice (some (ad.add 4)) 10 (c - 4)) W := run_cut_mid (k := 4) (m := 10) (h := 14) rfl (by omega) (by omega) hc
            obtain ⟨cc4, hcc4⟩ : ∃ cc4, c - 4 = cc4 := ⟨_, rfl⟩
            rw [hcc4] at k414
            have i4 := (HX.out.1.below B4.out).drop_take (k := 4) (m := 10) (by omega)
            rw [told_is HX.out.2 (by rw [HL.out]; exact hn), HN.out.1, HN.out.2.1] at i4
            have I4 := Lib.hid i4
            obtain ⟨h2, hh2⟩ : ∃ h2, 10 + m = h2 := ⟨_, rfl⟩
            have hsum : Hid (ofL (toldL nu m ++ recOf xs) = sumL nu (recOf xs)) := by show _ = _; unfold sumL; rw [HRL.out]
            have hslt : sumL nu (recOf xs) < 4294967296 := sumL_lt _ _
            have hcon : (sumIn xs = sumL (numOf xs) (recOf xs)) ↔ su = sumL nu (recOf xs) := by rw [HN.out.2.2, HN.out.1]
            have HCON := Lib.hid hcon
            clear i4 hcc4 hcon
            go_wp2_with (first
              | (at_builtin; refine wpList_app_k w4 rfl (.const (.slice none 0 0)) (.tmp 73) rfl w4.heap.size none 0 0 [] rfl (World.ownsRow_nil _ _ _ _) (some (ad.add 4)) 10 cc4 (toldL nu m) rfl I4.out (fun e => by cases e) 10 rfl (by omega) (Nat.le_refl _) ?_; intro A5 c5 w5 ho5 hn5; have b45 : Below w4.heap.size w4 w5 := hn5.below (World.ownsRow_nil w4 w4.heap.size 5 1) (Below.refl _ _) (Nat.le_refl _) (Nat.le_refl _); rw [List.nil_append] at ho5)
              | (at_builtin; refine wpList_app_k w5 rfl (.tmp 74) (.tmp 75) rfl w4.heap.size A5 10 c5 (toldL nu m) rfl ho5 A13 m c13 (recOf xs) rfl (In.of_own (own_on O4.out.1 b45)) (own_nil O4.out.1) h2 hh2 (by omega) b45.size ?_; intro A6 c6 w6 ho6 hn6))
            have b46 : Below w4.heap.size w4 w6 := hn6.below ho5 b45 (Nat.le_refl _) b45.size
            have B6 : Hid (Below w.heap.size w w6) := below_on B4.out (Nat.le_refl _) b46
            have O6 := Lib.hid (own_on O4.out.2 b46)
            have C6 := Lib.hid (refOf_any A6 h2 c6 (toldL nu m ++ recOf xs) w6 (In.of_own ho6) (bytes_append (toldL_lt _ _) (recOf_lt HX.out.2)) (by omega))
            rw [hsum.out] at C6
            obtain ⟨s, hs⟩ : ∃ s, sumL nu (recOf xs) = s := ⟨_, rfl⟩
            rw [hs] at C6 hslt HCON
            have hwrap : IntKind.u64.wrap (s : Int) = (s : Int) := by rw [IntKind.wrap_u64]; omega
            clear ho5 hn5 ho6 hn6 b45 b46 hs hsum
            refine C6.out.mono ?_
            rintro e _ ⟨rfl, rfl⟩
            by_cases hq : su = s
            · have dq : ((s : Int) != (su : Int)) = false := by rw [hq]; simp
              have HC := Lib.hid (cutL_none H64.out HMK.out (by rw [HN.out.2.1]; omega) (by rw [HN.out.2.1, HQ.out.1, HQ.out.2, HL.out]; omega) HR.out (HCON.out.2 hq))
              clear hq
              go_wp2_with fail
              refine bodyPost_ret_by (results_four (t := 2) (u := 3) (v := 4) (x := 5) (by kernel_rfl) _ _ _) rfl ?_
              refine ⟨B6.out, .inr ⟨HC.out, A13, c13, ?_, ?_⟩⟩
              · rw [HN.out.1, HN.out.2.1, HQ.out.1]; rfl
              · rw [HN.out.2.1]; exact O6.out
            · have dq : ((s : Int) != (su : Int)) = true := by simp; omega
              have HC := Lib.hid (cutL_sum H64.out HMK.out (by rw [HN.out.2.1]; omega) (by rw [HN.out.2.1, HQ.out.1, HQ.out.2, HL.out]; omega) HR.out (fun e => hq (HCON.out.1 e)))
              clear hq
              go_wp2_with fail
              refine bodyPost_ret_by (results_four (t := 2) (u := 3) (v := 4) (x := 5) (by kernel_rfl) _ _ _) rfl ?_
              exact ⟨B6.out, .inl ⟨.sum, HC.out, rfl⟩⟩
  · have hne : (!(strL (xs.take 4)).toList == [82, 69, 67, 49]) = true := by
      rw [strL_toList, show ([82, 69, 67, 49] : List UInt8) = recMark.map UInt8.ofNat from rfl]
      simp only [Bool.not_eq_true', beq_eq_false_iff_ne, ne_eq]
      exact fun e => hmk (map_inj (fun x h => HX.out.2 x (List.mem_of_mem_take h)) recMark_lt e)
    have HC := Lib.hid (cutL_mark H64.out hmk)
    obtain ⟨s, hs⟩ : ∃ s, strL (xs.take 4) = s := ⟨_, rfl⟩
    rw [hs] at hcv hne
    clear hmk hs
    go_wp2_with fail
    refine bodyPost_ret_by (results_four (t := 2) (u := 3) (v := 4) (x := 5) (by kernel_rfl) _ _ _) rfl ?_
    exact ⟨B3.out, .inl ⟨.form, HC.out, rfl⟩⟩

theorem refGetF_any (A : Option Addr) (n c : Nat) (xs : List Nat) (w : World) (hin : In w A n xs) (hx : ∀ x ∈ xs, x < 256) (hc : n ≤ c) (hn2 : n ≤ 1000000) :
    Calls Tryz.prog 8 #[.slice A n c] w (GetPost xs w) := by
  by_cases h : n < 64
  · exact refGetF_less A n c xs w hin.len h
  · exact refGetF_long A n c xs w hin hx (by omega) hc hn2

/-- What Get answers, of any bytes. -/
def getNum (xs : List Nat) : Nat := match cutL xs with | some _ => 0 | none => numOf xs
def getRec (xs : List Nat) : List Nat := match cutL xs with | some _ => [] | none => recOf xs
def getTook (xs : List Nat) : Nat := match cutL xs with | some _ => 0 | none => secs (cntOf xs)
def getErr (xs : List Nat) : Nat := match cutL xs with | some b => b.no | none => 0
def GetUni (xs : List Nat) (w : World) (e : Ending) (w' : World) : Prop :=
  ∃ A m c, e = .returned (.tuple #[.int .u64 (getNum xs : Int), .slice A m c, .int .i64 (getTook xs : Int), .int .i64 (getErr xs : Int)]) ∧ w'.ownsRow w.heap.size 5 1 (.slice A m c) m (bvs (getRec xs)) ∧ Below w.heap.size w w'
theorem get_uni {xs : List Nat} {w w' : World} {e : Ending} (h : GetPost xs w e w') : GetUni xs w e w' := by
  obtain ⟨hb, ⟨b, hc, rfl⟩ | ⟨hc, A, c, rfl, ho⟩⟩ := h
  · exact ⟨none, 0, 0, by unfold getNum getTook getErr; rw [hc]; rfl, by unfold getRec; rw [hc]; exact World.ownsRow_nil _ _ _ _, hb⟩
  · exact ⟨A, _, c, by unfold getNum getTook getErr; rw [hc]; rfl, by unfold getRec; rw [hc]; exact ho, hb⟩

end Go.Proofs.YtfniddnfkciblaaGreatDoor

/-
  An argument of type []byte.
-/
namespace Go.Proofs.YtfniddnfkciblaaGreatDoor
open Go.ChangeShapes Go.WideShapes Go.ChangeAt Go.RowKit

/-- A slice of bytes that came in reads as the bytes xs. -/
structure Came (w : World) (A : Option Addr) (n c : Nat) (xs : List Nat) : Prop where
  in_ : In w A n xs
  lt : ∀ x ∈ xs, x < 256
  nil : A = none → c = 0
  cap : n ≤ c

theorem came_of {w : World} {a : Option Addr} {len cap : Nat} {zs : List Int}
    (h : (a = none ∧ len = 0 ∧ cap = 0) ∨ ∃ x, a = some x ∧ len ≤ cap ∧ zs.length = cap ∧ (∀ i, i < zs.length → w.cell? (x.add i) = some (.int .u8 (zs.getD i 0))) ∧ ∀ n ∈ zs, (Lit.int .u8 n).wf = true) :
    ∃ xs, Came w a len cap xs := by
  rcases h with ⟨rfl, rfl, rfl⟩ | ⟨x, rfl, hl, hz, hcell, hwf⟩
  · exact ⟨[], In.none_ _ _, (by intro x hx; cases hx), fun _ => rfl, Nat.le_refl _⟩
  · have hb : ∀ n ∈ zs, 0 ≤ n ∧ n ≤ 255 := fun n hn => bounds_u8 (hwf n hn)
    refine ⟨(zs.take len).map Int.toNat, ⟨by rw [List.length_map, List.length_take]; omega, fun j y hy => ⟨x, rfl, ?_⟩⟩, ?_, (fun h => by cases h), hl⟩
    · rw [List.getElem?_map, List.getElem?_take] at hy
      split at hy
      · obtain ⟨n, hn, rfl⟩ := Option.map_eq_some_iff.1 hy
        have hj := (List.getElem?_eq_some_iff.1 hn).1
        have h0 := hb n (List.mem_of_getElem? hn)
        rw [hcell j hj, List.getD_eq_getElem?_getD, hn, bv]
        simp [Int.toNat_of_nonneg h0.1]
      · cases hy
    · intro y hy
      obtain ⟨n, hn, rfl⟩ := List.mem_map.1 hy
      have h0 := hb n (List.mem_of_mem_take hn)
      omega

end Go.Proofs.YtfniddnfkciblaaGreatDoor

/-
  An argument of type [][]byte, and how much it holds.
-/
namespace Go.Proofs.YtfniddnfkciblaaGreatDoor
open Go.ChangeShapes Go.WideShapes Go.ChangeAt Go.RowKit Go.Deep

/-- A slice of slices of bytes reads as these lists of bytes. -/
structure CameRows (w : World) (Ao : Option Addr) (no : Nat) (rows : List (List Nat)) : Prop where
  len : rows.length = no
  row : ∀ r xs, rows[r]? = some xs → ∃ ad A n c, Ao = some ad ∧ w.cell? (ad.add r) = some (.slice A n c) ∧ Came w A n c xs ∧ n ≤ 140737488355328

theorem Came.below {w w' : World} {A : Option Addr} {n c : Nat} {xs : List Nat} (h : Came w A n c xs) (hb : Below w.heap.size w w') : Came w' A n c xs := ⟨h.in_.below hb, h.lt, h.nil, h.cap⟩
theorem CameRows.below {w w' : World} {Ao : Option Addr} {no : Nat} {rows : List (List Nat)} (h : CameRows w Ao no rows) (hb : Below w.heap.size w w') : CameRows w' Ao no rows :=
  ⟨h.len, fun r xs hx => by
    obtain ⟨ad, A, n, c, e, hc, hcame, hn⟩ := h.row r xs hx
    exact ⟨ad, A, n, c, e, (hb.cell (World.block_lt_of_cell? w _ hc)).trans hc, hcame.below hb, hn⟩⟩

theorem bytesByte : Tryz.prog.bytesOf 5 = 1 := by kernel_rfl
theorem weights_all {H : Type} {e : TypeId} {l : List (DataW H)} {d : DataW H} (h : d ∈ l) : ∀ n ∈ d.weights Tryz.prog e, n ∈ DataW.weightsAll Tryz.prog e l := by
  induction l with
  | nil => cases h
  | cons x l ih =>
    intro n hn
    rw [DataW.weightsAll, List.mem_append]
    rcases List.mem_cons.1 h with rfl | h
    · exact .inl hn
    · exact .inr (ih h n hn)

theorem came_rows {H : Type} {enc : TypeId × Value → H} {w : World} {base : Nat} {held : Bool} {fuel : Nat} {cs : List Value} {x : DataW H × List MemPlace} (h : DataW.trod enc Tryz.prog w base (fun _ => true) held fuel 82 cs = some x)
    (hw : (x.1.weights Tryz.prog 82).all (· ≤ reachBytes) = true) : ∃ Ao no co rows, cs = [.slice Ao no co] ∧ CameRows w Ao no rows := by
  rcases open_int_rows Tryz.underlying82 Tryz.underlying23 Tryz.underlying5 (by kernel_rfl) (by kernel_rfl) h with ⟨rfl, _⟩ | ⟨a, len, cap, A, L, C, Z, rfl, _, hl, _, rfl, hr⟩
  · exact ⟨none, 0, 0, [], rfl, rfl, fun r xs hx => by simp at hx⟩
  · have hex : ∀ r, ∃ xs, r < cap → Came w (A r) (L r) (C r) xs := fun r => by
      by_cases hc : r < cap
      · obtain ⟨_, h1, h2, h3, h4, h5, h6⟩ := hr r hc
        cases hA : A r with
        | none =>
          have c0 := h5 hA
          obtain ⟨xs, hxs⟩ := came_of (w := w) (a := none) (len := L r) (cap := C r) (zs := []) (.inl ⟨rfl, by omega, c0⟩)
          exact ⟨xs, fun _ => hxs⟩
        | some a' =>
          obtain ⟨xs, hxs⟩ := came_of (w := w) (a := some a') (len := L r) (cap := C r) (zs := Z r) (.inr ⟨a', rfl, h1, h3, fun i hi => (h6 a' hA).2 i (by omega), h4⟩)
          exact ⟨xs, fun _ => hxs⟩
      · exact ⟨[], fun h => absurd h hc⟩
    obtain ⟨f, hf⟩ := Classical.axiomOfChoice hex
    refine ⟨some a, len, cap, (List.range len).map f, rfl, by rw [List.length_map, List.length_range], fun r xs hx => ?_⟩
    rw [List.getElem?_map] at hx
    obtain ⟨r', hr', rfl⟩ := Option.map_eq_some_iff.1 hx
    have hlt : r < len := by have := (List.getElem?_eq_some_iff.1 hr').1; rwa [List.length_range] at this
    rw [List.getElem?_range hlt] at hr'
    cases hr'
    obtain ⟨hcell, h1, h2, h3, h4, h5, h6⟩ := hr r (by omega)
    refine ⟨a, A r, L r, C r, rfl, hcell, hf r (by omega), ?_⟩
    cases hA : A r with
    | none => have := h5 hA; omega
    | some a' =>
      have hmem : intRow (H := H) .u8 (A r) (L r) (Z r) ∈ (List.range len).map (fun r => intRow (H := H) .u8 (A r) (L r) (Z r)) := List.mem_map.2 ⟨r, List.mem_range.2 hlt, rfl⟩
      have h7 := weights_all (e := 23) hmem (C r) (by
        rw [hA, intRow, DataW.weights, Tryz.underlying23]
        refine List.mem_cons.2 (.inl ?_)
        rw [bytesByte, Nat.mul_one]
        simp [lits, h3]
        omega)
      have h8 := List.all_eq_true.1 hw (C r) (by
        rw [DataW.weights, Tryz.underlying82]
        exact List.mem_cons.2 (.inr (List.mem_append.2 (.inl h7))))
      have h9 : C r ≤ reachBytes := by simpa using h8
      have := reachBytes_lt
      omega

end Go.Proofs.YtfniddnfkciblaaGreatDoor

/-
  How much lists of bytes hold. No function of the program is named here.
-/
namespace Go.Proofs.YtfniddnfkciblaaGreatDoor
open Go.RowKit

def tot (rows : List (List Nat)) : Nat := (rows.map List.length).sum
theorem tot_snoc (rows : List (List Nat)) (xs : List Nat) : tot (rows ++ [xs]) = tot rows + xs.length := by simp [tot]
theorem rows_snoc {rows : List (List Nat)} {j : Nat} {xs : List Nat} (h : rows[j]? = some xs) : rows.take (j + 1) = rows.take j ++ [xs] := by
  rw [List.take_add_one, h]; rfl
theorem tot_take (rows : List (List Nat)) (j : Nat) : tot (rows.take j) ≤ tot rows := by
  have : tot rows = tot (rows.take j) + tot (rows.drop j) := by
    unfold tot
    rw [← List.sum_append_nat, ← List.map_append, List.take_append_drop]
  omega

end Go.Proofs.YtfniddnfkciblaaGreatDoor

/-
  Sums by value, and slices of sums, in a walk.
-/
namespace Go.Proofs.YtfniddnfkciblaaGreatDoor
open Go.RowKit

theorem sizeSum : (Tryz.prog.info? 90).map (·.size) = some 32 := by kernel_rfl

theorem infoSum : (Tryz.prog.info? 90).map (fun i => (i.zero, i.size, i.bytes)) = some (some (.agg (Array.replicate 32 (.int .u8 0))), 32, 32) := by kernel_rfl

/-- A sum as a value. -/
def sv (s : List Nat) : Value := .agg (bvs s).toArray

set_option maxRecDepth 100000 in
theorem run_load_sum (w : World) (ad : Addr) (s : List Nat) (hl : s.length = 32) (hc : At w ad s) : (loadVar 90 ad).run Tryz.prog w = .ok (sv s) w := by
  have hl' : (bvs s).length = 32 := by rw [bvs_length, hl]
  have h1 : (loadCells ad (bvs s).length).run Tryz.prog w = .ok (bvs s).toArray w :=
    run_loadCells_list (P := Tryz.prog) w ad (bvs s) (fun j v hv => by
      rw [bvs_get] at hv
      obtain ⟨y, hy, rfl⟩ := Option.map_eq_some_iff.1 hv
      exact hc j y hy)
  rw [hl'] at h1
  have hagg : (isAgg 90).run Tryz.prog w = .ok true w := by
    unfold isAgg
    rw [Sem.run_bind, run_underlying Tryz.underlying90 w]
    rfl
  cases hq : Tryz.prog.info? 90 with
  | none => have := sizeSum; simp [hq] at this
  | some i =>
    have hs : i.size = 32 := by have := sizeSum; simpa [hq] using this
    simp [loadVar, Sem.run_bind, hagg, sizeOf, typeInfo, hq, hs, h1, sv]

theorem wpList_load_sum {ops : Array Oper} {rest : List Oper} {o : Oper} {a : Act} {w : World} {Q : Exit → Act → World → Prop} (hgd : o.guard = none) (x : Operand) (ho : o.op = .load 90 x)
    (ad : Addr) (hx : a.eval x = .pointer (some ad)) (s : List Nat) (hl : s.length = 32) (hc : At w ad s)
    (h : wpList Tryz.prog ops Q rest (a.put o.dst (sv s)) w) : wpList Tryz.prog ops Q (o :: rest) a w := by
  refine wpList_plain hgd fun K hK => ?_
  unfold Oper.wp execOp
  simp only [ho, hx, Instr.loadAt, Instr.sureAddr, Sem.run_bind, Sem.run_pure, Result.andThen_ok, run_load_sum w ad s hl hc]
  exact hK _ _ h

theorem quiet_load_sum {ops : Array Oper} {o : Oper} {a : Act} {C : World → Prop} {K : Act → Prop} {E : Prop} (hgd : o.guard = none) (x : Operand) (ho : o.op = .load 90 x)
    (ad : Addr) (hx : a.eval x = .pointer (some ad)) (s : List Nat) (hl : s.length = 32) (hc : ∀ w, C w → At w ad s) (h : K (a.put o.dst (sv s))) :
    if Region.wanted o (yielded ops a.tmps) = true then o.quiet Tryz.prog a C K else E := by
  have hw : Region.wanted o (yielded ops a.tmps) = true := by simp [Region.wanted, hgd]
  rw [if_pos hw]
  refine ⟨sv s, fun w hC => ?_, h⟩
  unfold Oper.quietAt execOp
  simp only [ho, hx, Instr.loadAt, Instr.sureAddr, Sem.run_bind, Sem.run_pure, Result.andThen_ok, run_load_sum w ad s hl (hc w hC)]
  exact ⟨rfl, rfl⟩

set_option maxRecDepth 100000 in
theorem run_part_byte (w : World) (cs : Array Value) (i x : Nat) (h : cs[i]? = some (bv x)) : (part 5 cs i).run Tryz.prog w = .ok (bv x) w := by
  have hagg : (isAgg 5).run Tryz.prog w = .ok false w := by
    unfold isAgg
    rw [Sem.run_bind, run_underlying Tryz.underlying5 w]
    rfl
  simp [part, Sem.run_bind, hagg, h]

set_option maxRecDepth 100000 in
theorem run_eqItems (w : World) (s t : List Nat) (d : Nat) : ∀ (is : List Nat), (∀ i ∈ is, i < s.length ∧ i < t.length) →
    (Op.eqItems (d + 1) 5 1 (bvs s).toArray (bvs t).toArray is).run Tryz.prog w = .ok (is.all fun i => s[i]? == t[i]?) w
  | [], _ => by simp [Op.eqItems]
  | i :: is, h => by
    have h1 := h i (by simp)
    have ih := run_eqItems w s t d is (fun j hj => h j (by simp [hj]))
    have e1 : s[i]? = some s[i] := List.getElem?_eq_getElem h1.1
    have e2 : t[i]? = some t[i] := List.getElem?_eq_getElem h1.2
    have p1 := run_part_byte w (bvs s).toArray (i * 1) s[i] (by rw [Nat.mul_one, List.getElem?_toArray, bvs_get, e1]; rfl)
    have p2 := run_part_byte w (bvs t).toArray (i * 1) t[i] (by rw [Nat.mul_one, List.getElem?_toArray, bvs_get, e2]; rfl)
    have p3 : (Op.equalIn (d + 1) 5 (bv s[i]) (bv t[i])).run Tryz.prog w = .ok (s[i] == t[i]) w := by
      unfold bv
      rw [run_equalIn_int w d 5 .u8 .u8 _ _ Tryz.underlying5]
      congr 1
      rw [Bool.eq_iff_iff, beq_iff_eq, beq_iff_eq]
      exact Int.ofNat_inj
    simp only [Op.eqItems, Sem.run_bind, p1, p2, p3, Result.andThen_ok, List.all_cons, e1, e2]
    by_cases hs : s[i] = t[i]
    · simp [hs, ih]
    · simp [hs]

theorem eq_of_all {s t : List Nat} (hs : s.length = 32) (ht : t.length = 32) : ((List.range 32).all fun i => s[i]? == t[i]?) = decide (s = t) := by
  rw [Bool.eq_iff_iff]
  simp only [List.all_eq_true, List.mem_range, beq_iff_eq, decide_eq_true_eq]
  constructor
  · intro h
    apply List.ext_getElem?
    intro i
    by_cases hi : i < 32
    · exact h i hi
    · rw [List.getElem?_eq_none (by omega), List.getElem?_eq_none (by omega)]
  · rintro rfl i _
    rfl

set_option maxRecDepth 100000 in
theorem run_eq_sum (w : World) (d : Nat) (s t : List Nat) (hs : s.length = 32) (ht : t.length = 32) :
    (Op.equalIn (d + 2) 90 (sv s) (sv t)).run Tryz.prog w = .ok (decide (s = t)) w := by
  obtain ⟨i0, hi, _⟩ := info_parts infoByte
  unfold sv
  rw [run_equalIn_array w (d + 1) (bvs s).toArray (bvs t).toArray Tryz.underlying90 hi, cellsByte,
    run_eqItems w s t d (List.range 32) (fun i hi => by rw [List.mem_range] at hi; omega), eq_of_all hs ht]

set_option maxRecDepth 100000 in
theorem run_neq_sum (s t : List Nat) (hs : s.length = 32) (ht : t.length = 32) (w : World) :
    (binOp .neq 90 (sv s) (sv t)).run Tryz.prog w = .ok (.bool (!decide (s = t))) w := by
  have h := run_eq_sum w 9998 s t hs ht
  unfold sv at h ⊢
  rw [run_neq_struct, h]
  rfl
theorem run_eql_sum (s t : List Nat) (hs : s.length = 32) (ht : t.length = 32) (w : World) :
    (binOp .eql 90 (sv s) (sv t)).run Tryz.prog w = .ok (.bool (decide (s = t))) w := by
  have h := run_eq_sum w 9998 s t hs ht
  unfold sv at h ⊢
  rw [run_eql_struct, h]
  rfl

set_option maxRecDepth 100000 in
theorem run_guard_neq (x y : Operand) (s t : List Nat) (w : World) : (eqGuard .neq 90 x y (sv s) (sv t)).run Tryz.prog w = .ok () w := by
  simp [eqGuard, sv]
theorem run_guard_eql (x y : Operand) (s t : List Nat) (w : World) : (eqGuard .eql 90 x y (sv s) (sv t)).run Tryz.prog w = .ok () w := by
  simp [eqGuard, sv]

/-- A sum into the variable that was made last. -/
theorem wpList_store_new {ops : Array Oper} {rest : List Oper} {o : Oper} {a : Act} {Q : Exit → Act → World → Prop} (w : World) (Z : Array Value) (hZ : Z.size = 32) (hgd : o.guard = none) (x y : Operand) (ho : o.op = .store 90 x y)
    (hx : a.eval x = .pointer (some ⟨w.heap.size, 0, none⟩)) (s : List Nat) (hl : s.length = 32) (hy : a.eval y = sv s)
    (h : wpList Tryz.prog ops Q rest (a.put o.dst undef) (w.alloc (.cells (bvs s).toArray 90))) : wpList Tryz.prog ops Q (o :: rest) a (w.alloc (.cells Z 90)) := by
  have hs : (bvs s).toArray.size = 32 := by rw [List.size_toArray, bvs_length, hl]
  refine wpList_store_row hgd 90 x y ho w.heap.size (bvs s).toArray hx hy 90 Z (World.alloc_heap_new w _) (by rw [hs]; exact sizeSum) (by rw [hZ, hs]) ?_ ?_
  · exact Array.all_eq_true_iff_forall_mem.2 (fun v hv => bvs_oneCell s v (by simpa using hv))
  · rw [World.setRow_alloc_new]
    exact h

/-- A sum that may be asked for, in a region that only reads and calls. -/
theorem quiet_load_sum' {ops : Array Oper} {o : Oper} {a : Act} {C : World → Prop} {K : Act → Prop} {E : Prop} (hw : Region.wanted o (yielded ops a.tmps) = true) (x : Operand) (ho : o.op = .load 90 x)
    (ad : Addr) (hx : a.eval x = .pointer (some ad)) (s : List Nat) (hl : s.length = 32) (hc : ∀ w, C w → At w ad s) (h : K (a.put o.dst (sv s))) :
    if Region.wanted o (yielded ops a.tmps) = true then o.quiet Tryz.prog a C K else E := by
  rw [if_pos hw]
  refine ⟨sv s, fun w hC => ?_, h⟩
  unfold Oper.quietAt execOp
  simp only [ho, hx, Instr.loadAt, Instr.sureAddr, Sem.run_bind, Sem.run_pure, Result.andThen_ok, run_load_sum w ad s hl (hc w hC)]
  exact ⟨rfl, rfl⟩


end Go.Proofs.YtfniddnfkciblaaGreatDoor

/-
  A block that is an array of bytes.
-/
namespace Go.Proofs.YtfniddnfkciblaaGreatDoor
open Go.RowKit

/-- Block g is an array of the bytes xs. -/
def BArr (w : World) (g : Nat) (T : TypeId) (xs : List Nat) : Prop := w.heap[g]? = some (.cells (bvs xs).toArray T (0, 0))
section
variable {w w' : World} {g : Nat} {T : TypeId} {xs : List Nat}
theorem BArr.cell (h : BArr w g T xs) {i : Nat} (hi : i < xs.length) : w.cell? ⟨g, i, none⟩ = some (.int .u8 ((xs.getD i 0 : Nat) : Int)) := by
  rw [cell_of_row _ g i _ T (0, 0) h, List.getElem?_toArray, bvs_get, List.getElem?_eq_getElem hi, List.getD_eq_getElem?_getD, List.getElem?_eq_getElem hi]
  rfl
theorem BArr.free (h : BArr w g T xs) (i : Nat) : w.frozen? ⟨g, i, none⟩ = false := frozen_of_row w g i _ T h
theorem bvs_set (xs : List Nat) (i v : Nat) : (bvs xs).set i (bv v) = bvs (xs.set i v) := by unfold bvs; rw [List.map_set]
theorem BArr.set (h : BArr w g T xs) (i v : Nat) : BArr (w.setCell ⟨g, i, none⟩ (.int .u8 (v : Int))) g T (xs.set i v) := by
  unfold BArr
  rw [heap_setCell_same w g i _ T _ h, List.setIfInBounds_toArray, ← bvs_set]
  rfl
theorem BArr.other (h : BArr w g T xs) (a : Addr) (v : Value) (hne : g ≠ a.block) : BArr (w.setCell a v) g T xs := by
  unfold BArr
  rw [heap_setCell_other w a g v hne]
  exact h
theorem BArr.drew (h : BArr w g T xs) : BArr w.drew g T xs := h
theorem BArr.below (h : BArr w g T xs) (hb : Below w.heap.size w w') : BArr w' g T xs := (hb.block g (Array.getElem?_eq_some_iff.1 h).1).trans h
theorem BArr.alloc (h : BArr w g T xs) (o : Obj) : BArr (w.alloc o) g T xs := h.below (below_alloc w o)
theorem BArr.lt (h : BArr w g T xs) : g < w.heap.size := (Array.getElem?_eq_some_iff.1 h).1
theorem BArr.new (w : World) (T : TypeId) (xs : List Nat) : BArr (w.alloc (.cells (bvs xs).toArray T)) w.heap.size T xs := World.alloc_heap_new w _
theorem BArr.setRow (h : BArr w g T xs) (ys : List Nat) : BArr (w.setRow g (bvs ys).toArray) g T ys := setRow_heap w g _ _ T (0, 0) h
theorem BArr.setRow_other (h : BArr w g T xs) (k : Nat) (hne : g ≠ k) (cs : Array Value) : BArr (w.setRow k cs) g T xs := by
  unfold BArr
  rw [Go.setRow_other _ _ _ _ hne]
  exact h
theorem BArr.at_ (h : BArr w g T xs) : At w ⟨g, 0, none⟩ xs := fun j x hx => by
  rw [show (⟨g, 0, none⟩ : Addr).add j = ⟨g, j, none⟩ from by unfold Addr.add; split <;> simp_all]
  rw [cell_of_row _ g j _ T (0, 0) h, List.getElem?_toArray, bvs_get, hx]
  rfl
end

end Go.Proofs.YtfniddnfkciblaaGreatDoor
