/-
  Several texts in one: LStr, CEqual, WPure, KPure, VList, HPure, CPure, LRowS, VTools, CIs, LBut, CVar, LApp2, CTold, LRowApp, CRows, CParted, LVar, CFound, KPair, KBuild, CPair, CHeld, LZeros, HConcat, CConcat, CLeaf, CNode, WLen64, CLeft.
-/
import Derived.Test.YtcekfnngnjpeeaaDoorLMem
import Derived.Laws.BytesArg
import Derived.Laws.IdiomStrings
import Derived.Test.YtcekfnngnjpeeaaDoorLRow
import Derived.Test.YtcekfnngnjpeeaaDoorVPure
import Derived.Test.YtcekfnngnjpeeaaDoorLSums
import Derived.Great.BuildSlice
import Derived.Deep.RegionHeld
import Derived.Test.YtcekfnngnjpeeaaDoorLSum
import Derived.Deep.Slices
import Derived.Test.YtcekfnngnjpeeaaDoorVRoot
import Derived.Test.YtcekfnngnjpeeaaDoorLRows
import Derived.Deep.RegionWith
import Derived.Deep.RegionHeld3
import Derived.Deep.AppendLies
import Derived.Laws.Pointers
import Derived.StillTactics
import Derived.Laws.Tables
import Derived.Maps.AppendAt
import Derived.Test.YtcekfnngnjpeeaaDoorLBArr
import Derived.Recover
import Derived.Stop.Asserts
import Derived.Laws.CopyRow
import Derived.Deep.Cut
import Derived.Test.YtcekfnngnjpeeaaDoorVLen
/-
  string(b) of a slice of bytes.
-/
namespace Go.Proofs.YtcekfnngnjpeeaaDoor
open Go.RowKit

def strL (xs : List Nat) : ByteArray := ⟨(xs.map UInt8.ofNat).toArray⟩
theorem strL_inj {xs ys : List Nat} (hx : ∀ x ∈ xs, x < 256) (hy : ∀ y ∈ ys, y < 256) (h : strL xs = strL ys) : xs = ys := by
  have h1 : xs.map UInt8.ofNat = ys.map UInt8.ofNat := by
    have := congrArg ByteArray.data h
    exact congrArg Array.toList this
  have back : ∀ zs : List Nat, (∀ z ∈ zs, z < 256) → (zs.map UInt8.ofNat).map UInt8.toNat = zs := by
    intro zs
    induction zs with
    | nil => intro _; rfl
    | cons z zs ih =>
      intro hz
      have hz0 := hz z (by simp)
      have e : (UInt8.ofNat z).toNat = z := by simp; omega
      simp only [List.map_cons, List.cons.injEq]
      exact ⟨e, ih fun y hy => hz y (by simp [hy])⟩
  rw [← back xs hx, ← back ys hy, h1]

theorem conv_str {w : World} {A : Option Addr} {n : Nat} {xs : List Nat} (hin : In w A n xs) (hx : ∀ x ∈ xs, x < 256) (c : Nat) :
    (convert 22 9 (.slice A n c)).run Tryd.prog w = .ok (.string (strL xs)) w := by
  cases A with
  | none =>
    have h0 : xs = [] := by
      cases xs with
      | nil => rfl
      | cons x xs =>
        obtain ⟨ad, e, _⟩ := hin.rd 0 x rfl
        cases e
    subst h0
    exact run_convert_bytes_nil (P := Tryd.prog) w 22 5 Tryd.underlying22 Tryd.underlying5 n c 9 Tryd.underlying9
  | some a =>
    have := run_convert_bytes_back (P := Tryd.prog) w 22 9 5 a c (xs.map UInt8.ofNat) Tryd.underlying22 Tryd.underlying5 Tryd.underlying9 (fun j hj => by
      rw [List.length_map] at hj
      obtain ⟨ad, e, hc⟩ := hin.rd j _ (List.getElem?_eq_getElem hj)
      cases e
      rw [hc]
      have hb := hx _ (List.getElem_mem hj)
      simp only [List.getElem_map, bv]
      congr 2
      have e : (UInt8.ofNat xs[j]).toNat = xs[j] := by simp; omega
      rw [e])
    rw [List.length_map, hin.len] at this
    exact this

theorem toList_loop (s : ByteArray) : ∀ (k i : Nat) (r : List UInt8), s.size - i = k → ByteArray.toList.loop s i r = r.reverse ++ s.data.toList.drop i := by
  intro k
  induction k with
  | zero =>
    intro i r hk
    unfold ByteArray.toList.loop
    rw [if_neg (by omega), List.drop_of_length_le (by have : s.data.toList.length = s.size := rfl
                                                      omega)]
    simp
  | succ k ih =>
    intro i r hk
    unfold ByteArray.toList.loop
    have hi : i < s.data.toList.length := by
      have : s.data.toList.length = s.size := rfl
      omega
    rw [if_pos (by omega), ih (i + 1) _ (by omega), List.drop_eq_getElem_cons hi]
    have e : s.get! i = s.data.toList[i] := by
      have hi' : i < s.data.size := by simpa using hi
      show s.data[i]! = _
      rw [getElem!_pos s.data i hi']
      simp
    rw [e]
    simp
theorem toList_data (s : ByteArray) : s.toList = s.data.toList := by
  unfold ByteArray.toList
  rw [toList_loop s _ 0 [] rfl]
  simp
theorem strL_toList (xs : List Nat) : (strL xs).toList = xs.map UInt8.ofNat := by rw [toList_data]; rfl
theorem map_inj {xs ys : List Nat} (hx : ∀ x ∈ xs, x < 256) (hy : ∀ y ∈ ys, y < 256) (h : xs.map UInt8.ofNat = ys.map UInt8.ofNat) : xs = ys :=
  strL_inj hx hy (by unfold strL; rw [h])

end Go.Proofs.YtcekfnngnjpeeaaDoor

/-
  bytes.Equal, of any two lists of bytes.
-/
namespace Go.Proofs.YtcekfnngnjpeeaaDoor
open Go.RowKit

set_option maxRecDepth 100000 in
set_option maxHeartbeats 400000 in
theorem equal_any {w : World} {A B : Option Addr} {n c m d : Nat} {xs ys : List Nat} (h1 : Came w A n c xs) (h2 : Came w B m d ys) :
    Calls Tryd.prog 24 #[.slice A n c, .slice B m d] w fun e w' => e = .returned (.bool (decide (xs = ys))) ∧ w' = w := by
  have k1 := conv_str h1.in_ h1.lt c
  have k2 := conv_str h2.in_ h2.lt d
  obtain ⟨s, hs⟩ : ∃ s, strL xs = s := ⟨_, rfl⟩
  obtain ⟨t, ht⟩ : ∃ t, strL ys = t := ⟨_, rfl⟩
  rw [hs] at k1
  rw [ht] at k2
  have he : (s.toList == t.toList) = decide (xs = ys) := by
    rw [← hs, ← ht, strL_toList, strL_toList, Bool.eq_iff_iff, beq_iff_eq, decide_eq_true_iff]
    exact ⟨fun h => map_inj h1.lt h2.lt h, fun h => by rw [h]⟩
  have HE := Lib.hid he
  clear he hs ht h1 h2
  go_enter Tryd.func24, Tryd.ntmps24
  go_wp2
  go_ret
  rw [← HE.out]
  exact ⟨rfl, rfl⟩

end Go.Proofs.YtcekfnngnjpeeaaDoor

/-
  The path of a leaf, as plain functions: how many sums it has, which they are, and what a path leads to.
-/
namespace Go.Proofs.YtcekfnngnjpeeaaDoor
open Go.RowKit

/-- How many trees stand beside a leaf. -/
def dep (at_ n : Nat) : Nat := if _ : n < 2 then 0 else if at_ < cutN n then dep at_ (cutN n) + 1 else dep (at_ - cutN n) (n - cutN n) + 1
termination_by n
decreasing_by
  · exact cutN_lt (by omega)
  · have := cutN_pos n; omega
theorem dep_one {n : Nat} (h : n < 2) (at_ : Nat) : dep at_ n = 0 := by rw [dep, dif_pos h]
theorem dep_low {n at_ : Nat} (h : 2 ≤ n) (ha : at_ < cutN n) : dep at_ n = dep at_ (cutN n) + 1 := by rw [dep, dif_neg (by omega), if_pos ha]
theorem dep_high {n at_ : Nat} (h : 2 ≤ n) (ha : ¬ at_ < cutN n) : dep at_ n = dep (at_ - cutN n) (n - cutN n) + 1 := by rw [dep, dif_neg (by omega), if_neg ha]

/-- What the sums from number j on lead to, the lower ones first. -/
def leadF (f : Nat → List Nat) (leaf : List Nat) (at_ n j : Nat) : List Nat :=
  if _ : n < 2 then leaf
  else if at_ < cutN n then nodeL (leadF f leaf at_ (cutN n) j) (f (j + dep at_ (cutN n)))
  else nodeL (f (j + dep (at_ - cutN n) (n - cutN n))) (leadF f leaf (at_ - cutN n) (n - cutN n) j)
termination_by n
decreasing_by
  · exact cutN_lt (by omega)
  · have := cutN_pos n; omega
theorem leadF_one (f : Nat → List Nat) (leaf : List Nat) {n : Nat} (h : n < 2) (at_ j : Nat) : leadF f leaf at_ n j = leaf := by rw [leadF, dif_pos h]
theorem leadF_low (f : Nat → List Nat) (leaf : List Nat) {n at_ : Nat} (h : 2 ≤ n) (ha : at_ < cutN n) (j : Nat) : leadF f leaf at_ n j = nodeL (leadF f leaf at_ (cutN n) j) (f (j + dep at_ (cutN n))) := by
  rw [leadF, dif_neg (by omega), if_pos ha]
theorem leadF_high (f : Nat → List Nat) (leaf : List Nat) {n at_ : Nat} (h : 2 ≤ n) (ha : ¬ at_ < cutN n) (j : Nat) : leadF f leaf at_ n j = nodeL (f (j + dep (at_ - cutN n) (n - cutN n))) (leadF f leaf (at_ - cutN n) (n - cutN n) j) := by
  rw [leadF, dif_neg (by omega), if_neg ha]
theorem leadF_of {P : List Nat → Prop} (hs : ∀ xs, P (sha xs)) (f : Nat → List Nat) (leaf : List Nat) (hl : P leaf) (at_ n j : Nat) : P (leadF f leaf at_ n j) := by
  by_cases h : n < 2
  · rw [leadF_one f leaf h]; exact hl
  · by_cases ha : at_ < cutN n
    · rw [leadF_low f leaf (by omega) ha]; exact hs _
    · rw [leadF_high f leaf (by omega) ha]; exact hs _
theorem leadF_length (f : Nat → List Nat) (leaf : List Nat) (hl : leaf.length = 32) (at_ n j : Nat) : (leadF f leaf at_ n j).length = 32 := leadF_of (P := fun l => l.length = 32) sha_length f leaf hl at_ n j
theorem leadF_lt (f : Nat → List Nat) (leaf : List Nat) (hl : ∀ x ∈ leaf, x < 256) (at_ n j : Nat) : ∀ x ∈ leadF f leaf at_ n j, x < 256 := leadF_of (P := fun l => ∀ x ∈ l, x < 256) sha_lt f leaf hl at_ n j
theorem leadF_congr (f g : Nat → List Nat) (leaf : List Nat) : ∀ (n at_ j : Nat), (∀ k, k < dep at_ n → f (j + k) = g (j + k)) → leadF f leaf at_ n j = leadF g leaf at_ n j := by
  intro n
  induction n using Nat.strongRecOn with
  | ind n ih =>
    intro at_ j h
    by_cases h2 : n < 2
    · rw [leadF_one f leaf h2, leadF_one g leaf h2]
    · have a := cutN_lt (m := n) (by omega)
      have b := cutN_pos n
      by_cases ha : at_ < cutN n
      · rw [dep_low (by omega) ha] at h
        rw [leadF_low f leaf (by omega) ha, leadF_low g leaf (by omega) ha, h _ (by omega), ih _ a _ _ (fun k hk => h k (by omega))]
      · rw [dep_high (by omega) ha] at h
        rw [leadF_high f leaf (by omega) ha, leadF_high g leaf (by omega) ha, h _ (by omega), ih _ (by omega) _ _ (fun k hk => h k (by omega))]

/-- The path of the leaf at a place, of the n sums from i on. -/
def pathL (f : Nat → List Nat) (i n at_ : Nat) : List (List Nat) :=
  if _ : n < 2 then []
  else if at_ < cutN n then pathL f i (cutN n) at_ ++ [rt f (i + cutN n) (n - cutN n)]
  else pathL f (i + cutN n) (n - cutN n) (at_ - cutN n) ++ [rt f i (cutN n)]
termination_by n
decreasing_by
  · exact cutN_lt (by omega)
  · have := cutN_pos n; omega
theorem pathL_one (f : Nat → List Nat) {n : Nat} (h : n < 2) (i at_ : Nat) : pathL f i n at_ = [] := by rw [pathL, dif_pos h]
theorem pathL_low (f : Nat → List Nat) {n at_ : Nat} (h : 2 ≤ n) (ha : at_ < cutN n) (i : Nat) : pathL f i n at_ = pathL f i (cutN n) at_ ++ [rt f (i + cutN n) (n - cutN n)] := by
  rw [pathL, dif_neg (by omega), if_pos ha]
theorem pathL_high (f : Nat → List Nat) {n at_ : Nat} (h : 2 ≤ n) (ha : ¬ at_ < cutN n) (i : Nat) : pathL f i n at_ = pathL f (i + cutN n) (n - cutN n) (at_ - cutN n) ++ [rt f i (cutN n)] := by
  rw [pathL, dif_neg (by omega), if_neg ha]
theorem pathL_length (f : Nat → List Nat) : ∀ (n i at_ : Nat), (pathL f i n at_).length = dep at_ n := by
  intro n
  induction n using Nat.strongRecOn with
  | ind n ih =>
    intro i at_
    by_cases h2 : n < 2
    · rw [pathL_one f h2, dep_one h2]; rfl
    · have a := cutN_lt (m := n) (by omega)
      have b := cutN_pos n
      by_cases ha : at_ < cutN n
      · rw [pathL_low f (by omega) ha, dep_low (by omega) ha, List.length_append, ih _ a]; rfl
      · rw [pathL_high f (by omega) ha, dep_high (by omega) ha, List.length_append, ih _ (by omega)]; rfl
theorem pathL_of {P : List Nat → Prop} (f : Nat → List Nat) : ∀ (n i at_ : Nat), (∀ i m, P (rt f i m)) → ∀ s ∈ pathL f i n at_, P s := by
  intro n
  induction n using Nat.strongRecOn with
  | ind n ih =>
    intro i at_ h s hs
    by_cases h2 : n < 2
    · rw [pathL_one f h2] at hs; cases hs
    · have a := cutN_lt (m := n) (by omega)
      have b := cutN_pos n
      by_cases ha : at_ < cutN n
      · rw [pathL_low f (by omega) ha] at hs
        rcases List.mem_append.1 hs with hs | hs
        · exact ih _ a _ _ h s hs
        · rw [List.mem_singleton.1 hs]; exact h _ _
      · rw [pathL_high f (by omega) ha] at hs
        rcases List.mem_append.1 hs with hs | hs
        · exact ih _ (by omega) _ _ h s hs
        · rw [List.mem_singleton.1 hs]; exact h _ _
theorem pathL_len32 (f : Nat → List Nat) : ∀ (n i at_ : Nat), (∀ j, j < n → (f (i + j)).length = 32) → ∀ s ∈ pathL f i n at_, s.length = 32 := by
  intro n
  induction n using Nat.strongRecOn with
  | ind n ih =>
    intro i at_ h s hs
    by_cases h2 : n < 2
    · rw [pathL_one f h2] at hs; cases hs
    · have a := cutN_lt (m := n) (by omega)
      have b := cutN_pos n
      by_cases ha : at_ < cutN n
      · rw [pathL_low f (by omega) ha] at hs
        rcases List.mem_append.1 hs with hs | hs
        · exact ih _ a _ _ (fun j hj => h j (by omega)) s hs
        · rw [List.mem_singleton.1 hs]; exact rt_length f _ _ fun j hj => by rw [Nat.add_assoc]; exact h _ (by omega)
      · rw [pathL_high f (by omega) ha] at hs
        rcases List.mem_append.1 hs with hs | hs
        · exact ih _ (by omega) _ _ (fun j hj => by rw [Nat.add_assoc]; exact h _ (by omega)) s hs
        · rw [List.mem_singleton.1 hs]; exact rt_length f _ _ fun j hj => h j (by omega)
theorem pathL_congr (f g : Nat → List Nat) : ∀ (n i i' at_ : Nat), (∀ j, j < n → f (i + j) = g (i' + j)) → pathL f i n at_ = pathL g i' n at_ := by
  intro n
  induction n using Nat.strongRecOn with
  | ind n ih =>
    intro i i' at_ h
    by_cases h2 : n < 2
    · rw [pathL_one f h2, pathL_one g h2]
    · have a := cutN_lt (m := n) (by omega)
      have b := cutN_pos n
      by_cases ha : at_ < cutN n
      · rw [pathL_low f (by omega) ha, pathL_low g (by omega) ha, ih _ a i i' at_ (fun j hj => h j (by omega)), rt_congr f g _ (i + cutN n) (i' + cutN n) (fun j hj => by rw [Nat.add_assoc, Nat.add_assoc]; exact h _ (by omega))]
      · rw [pathL_high f (by omega) ha, pathL_high g (by omega) ha, ih _ (by omega) (i + cutN n) (i' + cutN n) _ (fun j hj => by rw [Nat.add_assoc, Nat.add_assoc]; exact h _ (by omega)), rt_congr f g _ i i' (fun j hj => h j (by omega))]

/-- The path of a leaf leads to the root. -/
theorem lead_path (f g : Nat → List Nat) : ∀ (n i at_ j : Nat), 1 ≤ n → at_ < n → (∀ k s, (pathL f i n at_)[k]? = some s → g (j + k) = s) → leadF g (f (i + at_)) at_ n j = rt f i n := by
  intro n
  induction n using Nat.strongRecOn with
  | ind n ih =>
    intro i at_ j h1 hat h
    by_cases h2 : n < 2
    · obtain rfl : n = 1 := by omega
      obtain rfl : at_ = 0 := by omega
      rw [leadF_one g _ h2, rt_one]; rfl
    · have a := cutN_lt (m := n) (by omega)
      have b := cutN_pos n
      by_cases ha : at_ < cutN n
      · rw [pathL_low f (by omega) ha] at h
        rw [leadF_low g _ (by omega) ha, rt_cut f i (by omega), ih _ a i at_ j b ha (fun k s hk => h k s (by rw [List.getElem?_append_left (List.getElem?_eq_some_iff.1 hk).1]; exact hk)),
          h (dep at_ (cutN n)) _ (by rw [List.getElem?_append_right (by rw [pathL_length]; exact Nat.le_refl _), pathL_length, Nat.sub_self]; rfl)]
      · rw [pathL_high f (by omega) ha] at h
        rw [leadF_high g _ (by omega) ha, rt_cut f i (by omega), show i + at_ = i + cutN n + (at_ - cutN n) by omega,
          ih _ (by omega) (i + cutN n) (at_ - cutN n) j (by omega) (by omega) (fun k s hk => h k s (by rw [List.getElem?_append_left (List.getElem?_eq_some_iff.1 hk).1]; exact hk)),
          h (dep (at_ - cutN n) (n - cutN n)) _ (by rw [List.getElem?_append_right (by rw [pathL_length]; exact Nat.le_refl _), pathL_length, Nat.sub_self]; rfl)]

/-- How many bits a number has. -/
def bl (x : Nat) : Nat := if x = 0 then 0 else Nat.log2 x + 1
theorem bl_le {x e : Nat} (h : x < 2 ^ e) : bl x ≤ e := by
  unfold bl
  split
  · omega
  · have := (Nat.log2_lt (by omega)).2 h; omega
theorem bl_half {x : Nat} (h : 0 < x) : bl x = bl (x / 2) + 1 := by
  unfold bl
  rw [if_neg (by omega)]
  by_cases h1 : x = 1
  · subst h1; decide
  · rw [if_neg (by omega)]
    have a : Nat.log2 x = Nat.log2 (x / 2) + 1 := by
      rw [Nat.log2_def, if_pos (by omega)]
    rw [a]
theorem bl_zero : bl 0 = 0 := rfl
theorem dep_le : ∀ (n at_ : Nat), at_ < n → dep at_ n ≤ bl (n - 1) := by
  intro n
  induction n using Nat.strongRecOn with
  | ind n ih =>
    intro at_ hat
    by_cases h2 : n < 2
    · rw [dep_one h2]; omega
    · have a := cutN_lt (m := n) (by omega)
      have b := cutN_pos n
      have c := cutN_two (m := n) (by omega)
      have hb : bl (n - 1) = Nat.log2 (n - 1) + 1 := by unfold bl; rw [if_neg (by omega)]
      have hc : cutN n = 2 ^ Nat.log2 (n - 1) := rfl
      rw [hb]
      by_cases ha : at_ < cutN n
      · rw [dep_low (by omega) ha]
        have := ih _ a at_ ha
        have := bl_le (x := cutN n - 1) (e := Nat.log2 (n - 1)) (by omega)
        omega
      · rw [dep_high (by omega) ha]
        have := ih _ (by omega) (at_ - cutN n) (show at_ - cutN n < n - cutN n by omega)
        have := bl_le (x := n - cutN n - 1) (e := Nat.log2 (n - 1)) (by omega)
        omega
theorem dep_64 {n at_ : Nat} (h : at_ < n) (hn : n ≤ 18446744073709551616) : dep at_ n ≤ 64 := Nat.le_trans (dep_le n at_ h) (bl_le (by omega))

end Go.Proofs.YtcekfnngnjpeeaaDoor

/-
  The link of a beginning, as plain functions: how many sums it has, which they are, and what a link leads to.
-/
namespace Go.Proofs.YtcekfnngnjpeeaaDoor
open Go.RowKit

theorem cutN_mid {n m : Nat} (h : cutN n < m) (hm : m ≤ n) : cutN m = cutN n := by
  have h2 : 2 ≤ n := by have := cutN_pos n; omega
  have := cutN_two h2
  exact cutN_of (e := Nat.log2 (n - 1)) h (by show m ≤ 2 * cutN n; omega)

/-- How many sums a link has. -/
def ldep (m n : Nat) (edge : Bool) : Nat := if _ : n < 2 ∨ m = n then (if edge then 0 else 1) else if m ≤ cutN n then ldep m (cutN n) edge + 1 else ldep (m - cutN n) (n - cutN n) false + 1
termination_by n
decreasing_by
  · exact cutN_lt (by omega)
  · have := cutN_pos n; omega
theorem ldep_all {n m : Nat} (h : n < 2 ∨ m = n) (edge : Bool) : ldep m n edge = if edge then 0 else 1 := by rw [ldep, dif_pos h]
theorem ldep_low {n m : Nat} (h : ¬(n < 2 ∨ m = n)) (ha : m ≤ cutN n) (edge : Bool) : ldep m n edge = ldep m (cutN n) edge + 1 := by rw [ldep, dif_neg h, if_pos ha]
theorem ldep_high {n m : Nat} (h : ¬(n < 2 ∨ m = n)) (ha : ¬ m ≤ cutN n) (edge : Bool) : ldep m n edge = ldep (m - cutN n) (n - cutN n) false + 1 := by rw [ldep, dif_neg h, if_neg ha]

/-- What the sums from number j on lead to: an old one and a new one. -/
def linkF (f : Nat → List Nat) (a : List Nat) (m n : Nat) (edge : Bool) (j : Nat) : List Nat × List Nat :=
  if _ : n < 2 ∨ m = n then (if edge then (a, a) else (f j, f j))
  else if m ≤ cutN n then ((linkF f a m (cutN n) edge j).1, nodeL (linkF f a m (cutN n) edge j).2 (f (j + ldep m (cutN n) edge)))
  else (nodeL (f (j + ldep (m - cutN n) (n - cutN n) false)) (linkF f a (m - cutN n) (n - cutN n) false j).1, nodeL (f (j + ldep (m - cutN n) (n - cutN n) false)) (linkF f a (m - cutN n) (n - cutN n) false j).2)
termination_by n
decreasing_by
  all_goals first | exact cutN_lt (by omega) | (have := cutN_pos n; omega)
theorem linkF_all (f : Nat → List Nat) (a : List Nat) {n m : Nat} (h : n < 2 ∨ m = n) (edge : Bool) (j : Nat) : linkF f a m n edge j = if edge then (a, a) else (f j, f j) := by rw [linkF, dif_pos h]
theorem linkF_low (f : Nat → List Nat) (a : List Nat) {n m : Nat} (h : ¬(n < 2 ∨ m = n)) (ha : m ≤ cutN n) (edge : Bool) (j : Nat) : linkF f a m n edge j = ((linkF f a m (cutN n) edge j).1, nodeL (linkF f a m (cutN n) edge j).2 (f (j + ldep m (cutN n) edge))) := by
  rw [linkF, dif_neg h, if_pos ha]
theorem linkF_high (f : Nat → List Nat) (a : List Nat) {n m : Nat} (h : ¬(n < 2 ∨ m = n)) (ha : ¬ m ≤ cutN n) (edge : Bool) (j : Nat) : linkF f a m n edge j = (nodeL (f (j + ldep (m - cutN n) (n - cutN n) false)) (linkF f a (m - cutN n) (n - cutN n) false j).1, nodeL (f (j + ldep (m - cutN n) (n - cutN n) false)) (linkF f a (m - cutN n) (n - cutN n) false j).2) := by
  rw [linkF, dif_neg h, if_neg ha]
/-- A law of sums that each of them keeps; of those that are taken it is asked alone. -/
theorem linkF_of {P : List Nat → Prop} (hs : ∀ xs, P (sha xs)) (f : Nat → List Nat) (a : List Nat) (hl : P a) : ∀ (n m : Nat) (edge : Bool) (j : Nat), (∀ k, k < ldep m n edge → P (f (j + k))) → P (linkF f a m n edge j).1 ∧ P (linkF f a m n edge j).2 := by
  intro n
  induction n using Nat.strongRecOn with
  | ind n ih =>
    intro m edge j h
    by_cases h2 : n < 2 ∨ m = n
    · rw [linkF_all f a h2]
      rw [ldep_all h2] at h
      cases edge with
      | true => exact ⟨hl, hl⟩
      | false => exact ⟨h 0 (by decide), h 0 (by decide)⟩
    · have hc := cutN_lt (m := n) (by omega)
      have hp := cutN_pos n
      by_cases ha : m ≤ cutN n
      · rw [ldep_low h2 ha] at h
        rw [linkF_low f a h2 ha]
        exact ⟨(ih _ hc m edge j (fun k hk => h k (by omega))).1, hs _⟩
      · rw [linkF_high f a h2 ha]
        exact ⟨hs _, hs _⟩
theorem linkF_congr (f g : Nat → List Nat) (a : List Nat) : ∀ (n m : Nat) (edge : Bool) (j : Nat), (∀ k, k < ldep m n edge → f (j + k) = g (j + k)) → linkF f a m n edge j = linkF g a m n edge j := by
  intro n
  induction n using Nat.strongRecOn with
  | ind n ih =>
    intro m edge j h
    by_cases h2 : n < 2 ∨ m = n
    · rw [linkF_all f a h2, linkF_all g a h2]
      rw [ldep_all h2] at h
      cases edge with
      | true => rfl
      | false => rw [show f j = g j from h 0 (by decide)]
    · have hc := cutN_lt (m := n) (by omega)
      have hp := cutN_pos n
      by_cases ha : m ≤ cutN n
      · rw [ldep_low h2 ha] at h
        rw [linkF_low f a h2 ha, linkF_low g a h2 ha, h _ (Nat.lt_succ_self _), ih _ hc m edge j (fun k hk => h k (by omega))]
      · rw [ldep_high h2 ha] at h
        rw [linkF_high f a h2 ha, linkF_high g a h2 ha, h _ (Nat.lt_succ_self _), ih _ (by omega) _ false j (fun k hk => h k (by omega))]

/-- The link of the first m of the n sums from i on. -/
def linkL (f : Nat → List Nat) (i n m : Nat) (edge : Bool) : List (List Nat) :=
  if _ : n < 2 ∨ m = n then (if edge then [] else [rt f i n])
  else if m ≤ cutN n then linkL f i (cutN n) m edge ++ [rt f (i + cutN n) (n - cutN n)]
  else linkL f (i + cutN n) (n - cutN n) (m - cutN n) false ++ [rt f i (cutN n)]
termination_by n
decreasing_by
  · exact cutN_lt (by omega)
  · have := cutN_pos n; omega
theorem linkL_all (f : Nat → List Nat) {n m : Nat} (h : n < 2 ∨ m = n) (i : Nat) (edge : Bool) : linkL f i n m edge = if edge then [] else [rt f i n] := by rw [linkL, dif_pos h]
theorem linkL_low (f : Nat → List Nat) {n m : Nat} (h : ¬(n < 2 ∨ m = n)) (ha : m ≤ cutN n) (i : Nat) (edge : Bool) : linkL f i n m edge = linkL f i (cutN n) m edge ++ [rt f (i + cutN n) (n - cutN n)] := by
  rw [linkL, dif_neg h, if_pos ha]
theorem linkL_high (f : Nat → List Nat) {n m : Nat} (h : ¬(n < 2 ∨ m = n)) (ha : ¬ m ≤ cutN n) (i : Nat) (edge : Bool) : linkL f i n m edge = linkL f (i + cutN n) (n - cutN n) (m - cutN n) false ++ [rt f i (cutN n)] := by
  rw [linkL, dif_neg h, if_neg ha]
theorem linkL_length (f : Nat → List Nat) : ∀ (n i m : Nat) (edge : Bool), (linkL f i n m edge).length = ldep m n edge := by
  intro n
  induction n using Nat.strongRecOn with
  | ind n ih =>
    intro i m edge
    by_cases h2 : n < 2 ∨ m = n
    · rw [linkL_all f h2, ldep_all h2]; cases edge <;> rfl
    · have hc := cutN_lt (m := n) (by omega)
      have hp := cutN_pos n
      by_cases ha : m ≤ cutN n
      · rw [linkL_low f h2 ha, ldep_low h2 ha, List.length_append, ih _ hc]; rfl
      · rw [linkL_high f h2 ha, ldep_high h2 ha, List.length_append, ih _ (by omega)]; rfl
theorem linkL_of {P : List Nat → Prop} (f : Nat → List Nat) : ∀ (n i m : Nat) (edge : Bool), (∀ i m, P (rt f i m)) → ∀ s ∈ linkL f i n m edge, P s := by
  intro n
  induction n using Nat.strongRecOn with
  | ind n ih =>
    intro i m edge h s hs
    by_cases h2 : n < 2 ∨ m = n
    · rw [linkL_all f h2] at hs
      cases edge with
      | true => cases hs
      | false => rw [List.mem_singleton.1 hs]; exact h _ _
    · have hc := cutN_lt (m := n) (by omega)
      have hp := cutN_pos n
      by_cases ha : m ≤ cutN n
      · rw [linkL_low f h2 ha] at hs
        rcases List.mem_append.1 hs with hs | hs
        · exact ih _ hc _ _ _ h s hs
        · rw [List.mem_singleton.1 hs]; exact h _ _
      · rw [linkL_high f h2 ha] at hs
        rcases List.mem_append.1 hs with hs | hs
        · exact ih _ (by omega) _ _ _ h s hs
        · rw [List.mem_singleton.1 hs]; exact h _ _
theorem linkL_len32 (f : Nat → List Nat) : ∀ (n i m : Nat) (edge : Bool), (∀ j, j < n → (f (i + j)).length = 32) → ∀ s ∈ linkL f i n m edge, s.length = 32 := by
  intro n
  induction n using Nat.strongRecOn with
  | ind n ih =>
    intro i m edge h s hs
    by_cases h2 : n < 2 ∨ m = n
    · rw [linkL_all f h2] at hs
      cases edge with
      | true => cases hs
      | false => rw [List.mem_singleton.1 hs]; exact rt_length f _ _ h
    · have hc := cutN_lt (m := n) (by omega)
      have hp := cutN_pos n
      by_cases ha : m ≤ cutN n
      · rw [linkL_low f h2 ha] at hs
        rcases List.mem_append.1 hs with hs | hs
        · exact ih _ hc _ _ _ (fun j hj => h j (by omega)) s hs
        · rw [List.mem_singleton.1 hs]; exact rt_length f _ _ fun j hj => by rw [Nat.add_assoc]; exact h _ (by omega)
      · rw [linkL_high f h2 ha] at hs
        rcases List.mem_append.1 hs with hs | hs
        · exact ih _ (by omega) _ _ _ (fun j hj => by rw [Nat.add_assoc]; exact h _ (by omega)) s hs
        · rw [List.mem_singleton.1 hs]; exact rt_length f _ _ fun j hj => h j (by omega)
theorem linkL_congr (f g : Nat → List Nat) : ∀ (n i i' m : Nat) (edge : Bool), (∀ j, j < n → f (i + j) = g (i' + j)) → linkL f i n m edge = linkL g i' n m edge := by
  intro n
  induction n using Nat.strongRecOn with
  | ind n ih =>
    intro i i' m edge h
    by_cases h2 : n < 2 ∨ m = n
    · rw [linkL_all f h2, linkL_all g h2, rt_congr f g _ i i' h]
    · have hc := cutN_lt (m := n) (by omega)
      have hp := cutN_pos n
      by_cases ha : m ≤ cutN n
      · rw [linkL_low f h2 ha, linkL_low g h2 ha, ih _ hc i i' m edge (fun j hj => h j (by omega)), rt_congr f g _ (i + cutN n) (i' + cutN n) (fun j hj => by rw [Nat.add_assoc, Nat.add_assoc]; exact h _ (by omega))]
      · rw [linkL_high f h2 ha, linkL_high g h2 ha, ih _ (by omega) (i + cutN n) (i' + cutN n) _ false (fun j hj => by rw [Nat.add_assoc, Nat.add_assoc]; exact h _ (by omega)), rt_congr f g _ i i' (fun j hj => h j (by omega))]

/-- The link of a beginning leads to both roots. -/
theorem link_back (f g : Nat → List Nat) (a : List Nat) : ∀ (n i m j : Nat) (edge : Bool), 1 ≤ m → m ≤ n → (edge = true → a = rt f i m) → (∀ k s, (linkL f i n m edge)[k]? = some s → g (j + k) = s) →
    linkF g a m n edge j = (rt f i m, rt f i n) := by
  intro n
  induction n using Nat.strongRecOn with
  | ind n ih =>
    intro i m j edge h1 hm ha h
    by_cases h2 : n < 2 ∨ m = n
    · obtain rfl : m = n := by omega
      rw [linkL_all f h2] at h
      rw [linkF_all g a h2]
      cases edge with
      | true => rw [ha rfl]; rfl
      | false =>
        have := h 0 _ rfl
        rw [Nat.add_zero] at this
        rw [this]; rfl
    · have hc := cutN_lt (m := n) (by omega)
      have hp := cutN_pos n
      by_cases hl : m ≤ cutN n
      · rw [linkL_low f h2 hl] at h
        rw [linkF_low g a h2 hl, ih _ hc i m j edge h1 hl ha (fun k s hk => h k s (by rw [List.getElem?_append_left (List.getElem?_eq_some_iff.1 hk).1]; exact hk)), rt_cut f i (m := n) (by omega),
          h (ldep m (cutN n) edge) _ (by rw [List.getElem?_append_right (by rw [linkL_length]; exact Nat.le_refl _), linkL_length, Nat.sub_self]; rfl)]
      · rw [linkL_high f h2 hl] at h
        rw [linkF_high g a h2 hl, ih _ (by omega) (i + cutN n) (m - cutN n) j false (by omega) (by omega) (fun e => by cases e) (fun k s hk => h k s (by rw [List.getElem?_append_left (List.getElem?_eq_some_iff.1 hk).1]; exact hk)),
          h (ldep (m - cutN n) (n - cutN n) false) _ (by rw [List.getElem?_append_right (by rw [linkL_length]; exact Nat.le_refl _), linkL_length, Nat.sub_self]; rfl),
          rt_cut f i (m := n) (by omega), rt_cut f i (m := m) (by omega), cutN_mid (by omega) hm]

/-- How many sums a link has at most. -/
theorem ldep_le : ∀ (n m e : Nat) (edge : Bool), n ≤ 2 ^ e → ldep m n edge ≤ e + 1 := by
  intro n
  induction n using Nat.strongRecOn with
  | ind n ih =>
    intro m e edge hn
    by_cases h2 : n < 2 ∨ m = n
    · rw [ldep_all h2]; split <;> omega
    · have hc := cutN_lt (m := n) (by omega)
      have hp := cutN_pos n
      have ht := cutN_two (m := n) (by omega)
      have he : ∃ d, e = d + 1 := by
        cases e with
        | zero => rw [Nat.pow_zero] at hn; omega
        | succ d => exact ⟨d, rfl⟩
      obtain ⟨d, rfl⟩ := he
      rw [Nat.pow_succ] at hn
      have hcd : cutN n ≤ 2 ^ d := by
        have hlt : cutN n < 2 ^ (d + 1) := by rw [Nat.pow_succ]; omega
        have : Nat.log2 (n - 1) < d + 1 := (Nat.pow_lt_pow_iff_right (by decide)).1 hlt
        exact Nat.pow_le_pow_right (by decide) (by omega)
      by_cases ha : m ≤ cutN n
      · rw [ldep_low h2 ha]
        have := ih _ hc m d edge hcd
        omega
      · rw [ldep_high h2 ha]
        have := ih _ (by omega) (m - cutN n) d false (show n - cutN n ≤ 2 ^ d by omega)
        omega
theorem ldep_64 {n : Nat} (hn : n ≤ 18446744073709551616) (m : Nat) (edge : Bool) : ldep m n edge ≤ 65 := ldep_le n m 64 edge (by omega)

/-- Of a power of two: what stands to its right, from the nearest one on. -/
theorem link_power (f : Nat → List Nat) (e : Nat) : ∀ (n i : Nat), 2 ^ e ≤ n → (linkL f i n (2 ^ e) true).foldl nodeL (rt f i (2 ^ e)) = rt f i n := by
  intro n
  induction n using Nat.strongRecOn with
  | ind n ih =>
    intro i hn
    by_cases h2 : n < 2 ∨ 2 ^ e = n
    · have h0 : 0 < 2 ^ e := Nat.two_pow_pos e
      obtain rfl : 2 ^ e = n := by omega
      rw [linkL_all f h2]; rfl
    · have hc := cutN_lt (m := n) (by omega)
      have hl : 2 ^ e ≤ cutN n := by
        have h1 : 2 ^ e ≤ n - 1 := by omega
        have : e ≤ Nat.log2 (n - 1) := (Nat.le_log2 (by omega)).2 h1
        exact Nat.pow_le_pow_right (by decide) this
      rw [linkL_low f h2 hl, List.foldl_append, ih _ hc i hl, rt_cut f i (m := n) (by omega)]; rfl

end Go.Proofs.YtcekfnngnjpeeaaDoor

/-
  '[]api.Sum{..}' of one and of three, and a sum that is loaded, in a region that draws its order.
-/
namespace Go.Proofs.YtcekfnngnjpeeaaDoor
open Go.RowKit

theorem vfold (l : List Value) : ∀ (pre suf tail : List Value) (base off : Nat), suf.length = l.length → pre.length = base + off →
    ((l.zipIdx off).foldl (fun (cs : Array Value) (x : Value × Nat) => cs.setIfInBounds (base + x.2) x.1) (pre ++ suf ++ tail).toArray) = (pre ++ l ++ tail).toArray := by
  induction l with
  | nil =>
    intro pre suf tail base off h _
    obtain rfl : suf = [] := List.eq_nil_of_length_eq_zero h
    rfl
  | cons x l ih =>
    intro pre suf tail base off h hp
    cases suf with
    | nil => simp at h
    | cons y suf =>
      rw [List.zipIdx_cons, List.foldl_cons]
      have e : (pre ++ y :: suf ++ tail).toArray.setIfInBounds (base + off) x = ((pre ++ [x]) ++ suf ++ tail).toArray := by
        rw [List.setIfInBounds_toArray, List.append_assoc, List.set_append_right _ _ (by omega), hp, Nat.sub_self, List.cons_append, List.set_cons_zero]
        simp
      rw [e, ih (pre ++ [x]) suf tail base (off + 1) (by simpa using h) (by rw [List.length_append, hp]; rfl)]
      simp

theorem fill_step (cs pre suf tail : List Value) (k : Nat) (rest : List (Nat × Value)) (hl : cs.length = 32) (hs : suf.length = 32) (hp : pre.length = k * 32) :
    Instr.fill (fun i => some (i * 32, 32)) (pre ++ suf ++ tail).toArray ((k, .agg cs.toArray) :: rest) = Instr.fill (fun i => some (i * 32, 32)) (pre ++ cs ++ tail).toArray rest := by
  have e := vfold cs pre suf tail (k * 32) 0 (by rw [hl, hs]) (by rw [hp]; rfl)
  have e2 : (cs.toArray.zipIdx.foldl (fun (c : Array Value) (x : Value × Nat) => c.setIfInBounds (k * 32 + x.2) x.1) (pre ++ suf ++ tail).toArray) = (pre ++ cs ++ tail).toArray := by
    rw [← Array.foldl_toList]
    have : cs.toArray.zipIdx.toList = cs.zipIdx 0 := by simp
    rw [this]
    exact e
  have hv : (Value.agg cs.toArray).cells = cs.toArray := rfl
  have hc : ¬ ((cs.toArray.size ≠ 32 || decide (k * 32 + cs.toArray.size > (pre ++ suf ++ tail).toArray.size)) = true) := by
    simp only [List.size_toArray, List.length_append, hl, hs, hp]
    simp
  rw [Instr.fill]
  simp only [hv]
  rw [if_neg hc]
  exact congrArg (fun c => Instr.fill (fun i => some (i * 32, 32)) c rest) e2

/-- A list of sums, one behind the other. -/
def flatS (ss : List (List Nat)) : List Nat := ss.flatten

theorem fill_all : ∀ (ss : List (List Nat)) (pre suf : List Value) (k : Nat), (∀ s ∈ ss, s.length = 32) → suf.length = 32 * ss.length → pre.length = k * 32 →
    Instr.fill (fun i => some (i * 32, 32)) (pre ++ suf).toArray ((ss.zipIdx k).map fun (p : List Nat × Nat) => (p.2, sv p.1)) = some (pre ++ bvs ss.flatten).toArray := by
  intro ss
  induction ss with
  | nil =>
    intro pre suf k _ hs _
    obtain rfl : suf = [] := List.eq_nil_of_length_eq_zero hs
    rfl
  | cons s ss ih =>
    intro pre suf k hl hs hp
    have hs0 := hl s (List.mem_cons_self ..)
    rw [List.length_cons] at hs
    rw [List.zipIdx_cons, List.map_cons]
    have hsplit : pre ++ suf = pre ++ suf.take 32 ++ suf.drop 32 := by rw [List.append_assoc, List.take_append_drop]
    have h1 := fill_step (bvs s) pre (suf.take 32) (suf.drop 32) k ((ss.zipIdx (k + 1)).map fun (p : List Nat × Nat) => (p.2, sv p.1)) (by rw [bvs_length, hs0]) (by rw [List.length_take]; omega) hp
    rw [hsplit]
    refine h1.trans ?_
    rw [ih (pre ++ bvs s) (suf.drop 32) (k + 1) (fun x hx => hl x (List.mem_cons_of_mem _ hx)) (by rw [List.length_drop]; omega) (by rw [List.length_append, bvs_length, hp, hs0]; omega), List.flatten_cons, bvs_append, List.append_assoc]

/-- The k-th sum of a list. -/
theorem nth_flatten : ∀ (ss : List (List Nat)), (∀ s ∈ ss, s.length = 32) → ∀ (k : Nat) (s : List Nat), ss[k]? = some s → nth ss.flatten k = s := by
  intro ss
  induction ss with
  | nil => intro _ k s h; simp at h
  | cons t ts ih =>
    intro hl k s h
    have ht := hl t (List.mem_cons_self ..)
    rw [List.flatten_cons, nth]
    cases k with
    | zero =>
      cases h
      rw [Nat.mul_zero, List.drop_zero, List.take_append_of_le_length (by omega), List.take_of_length_le (by omega)]
    | succ k =>
      rw [show 32 * (k + 1) = t.length + 32 * k by omega, List.drop_length_add_append]
      exact ih (fun x hx => hl x (List.mem_cons_of_mem _ hx)) k s h

/-- The operation, as a region that draws asks it. -/
theorem wp_sums {o : Oper} {a : Act} {w : World} {K : Act → World → Prop} {Q : Exit → Act → World → Prop} (parts : Array (Nat × Operand)) (ss : List (List Nat)) (n : Nat) (ho : o.op = .buildSlice 33 n parts) (hn : n = ss.length)
    (hx : (parts.map fun (i, x) => (i, a.eval x)).toList = (ss.zipIdx 0).map fun (p : List Nat × Nat) => (p.2, sv p.1)) (hl : ∀ s ∈ ss, s.length = 32) (h0 : 0 < n) (h9 : n ≤ 9)
    (h : K (a.put o.dst (.slice (some ⟨w.heap.size, 0, none⟩) n n)) (w.alloc (.cells (bvs ss.flatten).toArray 29))) : o.wp Tryd.prog a w K Q := by
  subst hn
  obtain ⟨i0, hi, hz0, hz1, hz2⟩ := info_parts infoSum
  refine wp_buildSlice 33 29 ss.length parts ho (bvs ss.flatten).toArray i0 _ Tryd.underlying33 hi hz0 (by rw [hz1]; omega) (by rw [hz1]; omega) ?_ h
  rw [hx, hz1]
  have := fill_all ss [] ((Array.range (ss.length * 32)).map ((Value.agg (Array.replicate 32 (.int .u8 0))).cells[· % (Value.agg (Array.replicate 32 (.int .u8 0))).cells.size]!)).toList 0 hl (by simp; omega) rfl
  rw [List.nil_append, Array.toArray_toList, List.nil_append] at this
  exact this

/-- A sum that is loaded, in every world that keeps it. -/
theorem yields_sum {ops : Array Oper} {S : World → Prop} {o : Oper} {a : Act} (hw : Region.wanted o (yielded ops a.tmps) = true) (x : Operand) (ho : o.op = .load 29 x)
    (ad : Addr) (hx : a.eval x = .pointer (some ad)) (s : List Nat) (hl : s.length = 32) (hc : ∀ w, S w → At w ad s) : YieldsIf Tryd.prog ops S o (sv s) a := by
  refine Or.inl ⟨hw, fun w hS => ?_⟩
  unfold execOp
  simp only [ho, hx, Instr.loadAt, Instr.sureAddr, Sem.run_bind, Sem.run_pure, Result.andThen_ok, run_load_sum w ad s hl (hc w hS)]

end Go.Proofs.YtcekfnngnjpeeaaDoor

/-
  A chain: its entries' leaves' sums, and their marks, as plain functions.
-/
namespace Go.Proofs.YtcekfnngnjpeeaaDoor
open Go.RowKit

/-- The leaf's sum of the j-th entry. -/
def lf (l : List (List Nat)) (j : Nat) : List Nat := leafL (l.getD j [])
/-- All of them, one behind the other. -/
def leavesL (l : List (List Nat)) : List Nat := (l.map leafL).flatten
/-- What all entries come to. -/
def markL (l : List (List Nat)) : List Nat := l.foldl (fun m b => sha (m ++ leafL b)) zero32

theorem markL_nil : markL [] = zero32 := rfl
theorem markL_snoc (l : List (List Nat)) (b : List Nat) : markL (l ++ [b]) = sha (markL l ++ leafL b) := by simp [markL, List.foldl_append]
theorem markL_length (l : List (List Nat)) : (markL l).length = 32 := by
  rcases List.eq_nil_or_concat l with rfl | ⟨l', b, rfl⟩
  · rfl
  · rw [List.concat_eq_append, markL_snoc]; exact sha_length _
theorem zero32_lt : ∀ x ∈ zero32, x < 256 := by
  intro x hx
  rw [List.eq_of_mem_replicate hx]
  omega
theorem markL_lt (l : List (List Nat)) : ∀ x ∈ markL l, x < 256 := by
  rcases List.eq_nil_or_concat l with rfl | ⟨l', b, rfl⟩
  · exact zero32_lt
  · rw [List.concat_eq_append, markL_snoc]; exact sha_lt _

theorem lf_length (l : List (List Nat)) (j : Nat) : (lf l j).length = 32 := leafL_length _
theorem lf_lt (l : List (List Nat)) (j : Nat) : ∀ x ∈ lf l j, x < 256 := leafL_lt _
theorem lf_of {l : List (List Nat)} {j : Nat} {b : List Nat} (h : l[j]? = some b) : lf l j = leafL b := by rw [lf, List.getD_eq_getElem?_getD, h]; rfl
theorem lf_append (l r : List (List Nat)) {j : Nat} (h : j < l.length) : lf (l ++ r) j = lf l j := by
  rw [lf, lf, List.getD_eq_getElem?_getD, List.getD_eq_getElem?_getD, List.getElem?_append_left h]
theorem lf_take (l : List (List Nat)) {j n : Nat} (h : j < n) : lf (l.take n) j = lf l j := by
  rw [lf, lf, List.getD_eq_getElem?_getD, List.getD_eq_getElem?_getD, List.getElem?_take, if_pos h]
theorem lf_snoc (l : List (List Nat)) (b : List Nat) : lf (l ++ [b]) l.length = leafL b := lf_of (by simp)

theorem leavesL_length (l : List (List Nat)) : (leavesL l).length = 32 * l.length := by
  induction l with
  | nil => rfl
  | cons b l ih => rw [leavesL, List.map_cons, List.flatten_cons, List.length_append, leafL_length, List.length_cons]; unfold leavesL at ih; rw [ih]; omega
theorem leavesL_lt (l : List (List Nat)) : ∀ x ∈ leavesL l, x < 256 := by
  intro x hx
  obtain ⟨s, hs, hxs⟩ := List.mem_flatten.1 hx
  obtain ⟨b, _, rfl⟩ := List.mem_map.1 hs
  exact leafL_lt _ x hxs
theorem leavesL_snoc (l : List (List Nat)) (b : List Nat) : leavesL (l ++ [b]) = leavesL l ++ leafL b := by simp [leavesL]
theorem nth_leaves {l : List (List Nat)} {j : Nat} (h : j < l.length) : nth (leavesL l) j = lf l j := by
  refine nth_flatten _ (fun s hs => ?_) j _ ?_
  · obtain ⟨b, _, rfl⟩ := List.mem_map.1 hs
    exact leafL_length _
  · rw [List.getElem?_map, List.getElem?_eq_getElem h, lf, List.getD_eq_getElem?_getD, List.getElem?_eq_getElem h]
    rfl

/-- What is told of the first n of a list hangs on these alone. -/
theorem root_first (l : List (List Nat)) {n : Nat} (h : n ≤ l.length) : rt (nth (leavesL (l.take n))) 0 n = rt (lf l) 0 n := rt_congr _ _ n 0 0 fun j hj => by
  rw [Nat.zero_add, nth_leaves (by rw [List.length_take]; omega), lf_take l hj]
theorem path_first (l : List (List Nat)) {n : Nat} (h : n ≤ l.length) (a : Nat) : pathL (nth (leavesL (l.take n))) 0 n a = pathL (lf l) 0 n a := pathL_congr _ _ n 0 0 a fun j hj => by
  rw [Nat.zero_add, nth_leaves (by rw [List.length_take]; omega), lf_take l hj]
theorem link_first (l : List (List Nat)) {n : Nat} (h : n ≤ l.length) (m : Nat) : linkL (nth (leavesL (l.take n))) 0 n m true = linkL (lf l) 0 n m true := linkL_congr _ _ n 0 0 m true fun j hj => by
  rw [Nat.zero_add, nth_leaves (by rw [List.length_take]; omega), lf_take l hj]
theorem root_begin (l r : List (List Nat)) {n : Nat} (h : n ≤ l.length) : rt (lf (l ++ r)) 0 n = rt (lf l) 0 n := rt_congr _ _ n 0 0 fun j hj => by rw [Nat.zero_add]; exact lf_append l r (by omega)
theorem path_begin (l r : List (List Nat)) {n : Nat} (h : n ≤ l.length) (a : Nat) : pathL (lf (l ++ r)) 0 n a = pathL (lf l) 0 n a := pathL_congr _ _ n 0 0 a fun j hj => by rw [Nat.zero_add]; exact lf_append l r (by omega)
theorem link_begin (l r : List (List Nat)) {n : Nat} (h : n ≤ l.length) (m : Nat) : linkL (lf (l ++ r)) 0 n m true = linkL (lf l) 0 n m true := linkL_congr _ _ n 0 0 m true fun j hj => by rw [Nat.zero_add]; exact lf_append l r (by omega)

end Go.Proofs.YtcekfnngnjpeeaaDoor

/-
  Clashes, as plain facts: the root of entries, cut in two; and what two nodes of one sum tell of what is below.
-/
namespace Go.Proofs.YtcekfnngnjpeeaaDoor
open Go.RowKit

/-- The root of entries. -/
def rtl (l : List (List Nat)) : List Nat := rt (lf l) 0 l.length
theorem rtl_length (l : List (List Nat)) : (rtl l).length = 32 := rt_length _ _ _ fun _ _ => lf_length _ _
theorem rtl_lt (l : List (List Nat)) : ∀ x ∈ rtl l, x < 256 := rt_lt _ _ _ fun _ _ => lf_lt _ _
theorem rtl_one (b : List Nat) : rtl [b] = leafL b := by
  show rt (lf [b]) 0 1 = _
  rw [rt_one]; rfl
theorem lf_drop (l : List (List Nat)) (k j : Nat) : lf (l.drop k) j = lf l (k + j) := by
  rw [lf, lf, List.getD_eq_getElem?_getD, List.getD_eq_getElem?_getD, List.getElem?_drop]
theorem rtl_cut {l : List (List Nat)} {n : Nat} (hn : l.length = n) (h : 2 ≤ n) : rtl l = nodeL (rtl (l.take (cutN n))) (rtl (l.drop (cutN n))) := by
  subst hn
  have a := cutN_lt h
  have e1 : (l.take (cutN l.length)).length = cutN l.length := by rw [List.length_take]; omega
  have e2 : (l.drop (cutN l.length)).length = l.length - cutN l.length := List.length_drop
  unfold rtl
  rw [e1, e2, rt_cut _ 0 h]
  congr 1
  · exact rt_congr _ _ _ 0 0 fun j hj => by rw [Nat.zero_add]; exact (lf_take l hj).symm
  · exact rt_congr _ _ _ _ 0 fun j _ => by rw [Nat.zero_add, Nat.zero_add]; exact (lf_drop l _ j).symm
theorem rtl_nth (l : List (List Nat)) : rt (nth (leavesL l)) 0 l.length = rtl l := rt_congr _ _ _ 0 0 fun j hj => by
  rw [Nat.zero_add]; exact nth_leaves hj

/-- Two unlike lists of bytes of one sum. -/
def Clashes (xs ys : List Nat) : Prop := xs ≠ ys ∧ sha xs = sha ys
/-- Of one sum they are the same: no clash. -/
def Same (xs ys : List Nat) : Prop := sha xs = sha ys → xs = ys

theorem same_leaf {a b : List Nat} (h : Same (0 :: a) (0 :: b)) : leafL a = leafL b → a = b := fun e => by
  have := h e
  injection this
theorem same_node {l0 r0 l1 r1 : List Nat} (hl : l0.length = l1.length) (h : Same (1 :: (l0 ++ r0)) (1 :: (l1 ++ r1))) : nodeL l0 r0 = nodeL l1 r1 → l0 = l1 ∧ r0 = r1 := fun e => by
  have := h e
  injection this with _ h2
  exact List.append_inj h2 hl

theorem take_drop_eq {α : Type} {a b : List α} {k : Nat} (h1 : a.take k = b.take k) (h2 : a.drop k = b.drop k) : a = b := by
  rw [← List.take_append_drop k a, h1, h2, List.take_append_drop]

/-- Both sides of two trees. -/
theorem lists_cut {a b : List (List Nat)} {n : Nat} (ha : a.length = n) (hb : b.length = n) (hn : 2 ≤ n)
    (h1 : rtl (a.take (cutN n)) = rtl (b.take (cutN n)) → a.take (cutN n) = b.take (cutN n))
    (h2 : rtl (a.drop (cutN n)) = rtl (b.drop (cutN n)) → a.drop (cutN n) = b.drop (cutN n))
    (h : nodeL (rtl (a.take (cutN n))) (rtl (a.drop (cutN n))) = nodeL (rtl (b.take (cutN n))) (rtl (b.drop (cutN n))) → rtl (a.take (cutN n)) = rtl (b.take (cutN n)) ∧ rtl (a.drop (cutN n)) = rtl (b.drop (cutN n))) :
    rtl a = rtl b → a = b := fun e => by
  rw [rtl_cut ha hn, rtl_cut hb hn] at e
  obtain ⟨e1, e2⟩ := h e
  exact take_drop_eq (h1 e1) (h2 e2)

end Go.Proofs.YtcekfnngnjpeeaaDoor

/-
  An argument of type []api.Sum.
-/
namespace Go.Proofs.YtcekfnngnjpeeaaDoor
open Go.ChangeShapes Go.WideShapes Go.ChangeAt Go.RowKit

theorem cellsSum : Tryd.prog.cellsOf 29 = 32 := by kernel_rfl

/-- A slice of sums that came in reads as the bytes ys. -/
structure CameS (w : World) (A : Option Addr) (n c : Nat) (ys : List Nat) : Prop where
  in_ : InS w A n ys
  lt : ∀ x ∈ ys, x < 256
  nil : A = none → c = 0
  cap : n ≤ c

/-- A cell that reads as a byte. -/
theorem cell_byte {H : Type} {enc : TypeId × Value → H} {w : World} {base : Nat} {sp : Nat → Bool} {held : Bool} {fuel : Nat} {cs : List Value} {x : DataW H × List MemPlace}
    (h : DataW.trod enc Tryd.prog w base sp held fuel 5 cs = some x) : ∃ b : Nat, b < 256 ∧ cs = [bv b] := by
  obtain ⟨n, hn, _, hw⟩ := DataW.trod_int Tryd.underlying5 h
  have := bounds_u8 hw
  exact ⟨n.toNat, by omega, by rw [hn, bv, Int.toNat_of_nonneg this.1]⟩

/-- The cells of a sum that is read. -/
theorem cells_sum {H : Type} {enc : TypeId × Value → H} {w : World} {base : Nat} {sp : Nat → Bool} {held : Bool} {fuel : Nat} {cs : List Value} {x : DataW H × List MemPlace}
    (h : DataW.trod enc Tryd.prog w base sp held fuel 29 cs = some x) : cs.length = 32 ∧ ∀ j, j < 32 → ∃ b : Nat, b < 256 ∧ cs[j]? = some (bv b) := by
  obtain ⟨xs, m, _, _, hl, hx, hel⟩ := DataW.trod_array Tryd.underlying29 h
  rw [cellsSum] at hl
  refine ⟨hl, fun j hj => ?_⟩
  have he := hel j hj
  rw [cellsByte, Nat.mul_one] at he
  have hs : xs[j]? = some xs[j] := List.getElem?_eq_getElem (by omega)
  rw [hs] at he
  obtain ⟨b, hb, hc⟩ := cell_byte he
  refine ⟨b, hb, ?_⟩
  have e : (cs.drop j)[0]? = some (bv b) := by
    have := congrArg (fun l => l[0]?) hc
    simpa using this
  simpa using e

theorem cameS_of {H : Type} {enc : TypeId × Value → H} {w : World} {sp : Nat → Bool} {held : Bool} {fuel : Nat} {a : Option Addr} {len cap : Nat} {x : DataW H × List MemPlace}
    (h : DataW.trod enc Tryd.prog w 0 sp held fuel 33 [.slice a len cap] = some x) : ∃ ys, CameS w a len cap ys := by
  rcases Go.Deep.open_slice Tryd.underlying33 h with ⟨h0, _⟩ | ⟨ad, l, c, m, n, D, Pl, h0, _, hl, _, hm, _, hel⟩
  · simp at h0
    obtain ⟨rfl, rfl, rfl⟩ := h0
    exact ⟨[], InS.none_ _ _, (by intro x hx; cases hx), fun _ => rfl, Nat.le_refl _⟩
  · simp at h0
    obtain ⟨rfl, rfl, rfl⟩ := h0
    have hlm : len ≤ m := by rw [hm]; split <;> omega
    have key : ∀ q, q < 32 * len → ∃ b : Nat, b < 256 ∧ w.cell? (ad.add q) = some (bv b) := by
      intro q hq
      obtain ⟨cs', hc, ht⟩ := hel (q / 32) (by omega)
      rw [cellsSum] at hc
      obtain ⟨hlen, hb⟩ := cells_sum ht
      obtain ⟨b, hb1, hb2⟩ := hb (q % 32) (Nat.mod_lt _ (by omega))
      refine ⟨b, hb1, ?_⟩
      have hcell := (World.cells?_some hc).2.2 (q % 32) (Nat.mod_lt _ (by omega))
      rw [add_add, show q / 32 * 32 + q % 32 = q by omega] at hcell
      rw [hcell, hb2]
    obtain ⟨f, hf⟩ := Go.Deep.choose_lt key
    refine ⟨(List.range (32 * len)).map f, ⟨by simp, fun j y hy => ⟨ad, rfl, ?_⟩⟩, ?_, (fun h => by cases h), hl⟩
    · rw [List.getElem?_map] at hy
      obtain ⟨i, hi, rfl⟩ := Option.map_eq_some_iff.1 hy
      have hlt : j < 32 * len := by have := (List.getElem?_eq_some_iff.1 hi).1; simpa using this
      rw [List.getElem?_range hlt] at hi
      cases hi
      exact (hf j hlt).2
    · intro y hy
      obtain ⟨i, hi, rfl⟩ := List.mem_map.1 hy
      exact (hf i (List.mem_range.1 hi)).1

end Go.Proofs.YtcekfnngnjpeeaaDoor

/-
  What the laws of layer 8 share: parts of a list of sums.
-/
namespace Go.Proofs.YtcekfnngnjpeeaaDoor
open Go.RowKit

/-- The root of three, of one. -/
theorem nth_flat (x y z : List Nat) (hx : x.length = 32) (hy : y.length = 32) (hz : z.length = 32) : nth [x, y, z].flatten 0 = x ∧ nth [x, y, z].flatten 1 = y ∧ nth [x, y, z].flatten 2 = z := by
  have hl : ∀ s ∈ [x, y, z], s.length = 32 := by intro s hs; simp at hs; rcases hs with rfl | rfl | rfl; exact hx; exact hy; exact hz
  exact ⟨nth_flatten _ hl 0 x rfl, nth_flatten _ hl 1 y rfl, nth_flatten _ hl 2 z rfl⟩
theorem rt_three (x y z : List Nat) (hx : x.length = 32) (hy : y.length = 32) (hz : z.length = 32) : rt (nth [x, y, z].flatten) 0 3 = nodeL (nodeL x y) z := by
  obtain ⟨h0, h1, h2⟩ := nth_flat x y z hx hy hz
  have c3 : cutN 3 = 2 := by decide
  have c2 : cutN 2 = 1 := by decide
  rw [rt_cut _ 0 (by omega), c3, rt_cut _ 0 (by omega), c2, rt_one, rt_one, rt_one, h0, h1, h2]
theorem rt_single (x : List Nat) (hx : x.length = 32) : rt (nth [x].flatten) 0 1 = x := by
  rw [rt_one]; exact nth_flatten [x] (by intro s hs; simp at hs; rw [hs]; exact hx) 0 x rfl

/-- Root of a list that a literal made. -/
theorem root_new (B W : World) (ss : List (List Nat)) (n : Nat) (r : List Nat) (hn : n = ss.length) (hl : ∀ s ∈ ss, s.length = 32) (hb : ∀ s ∈ ss, ∀ x ∈ s, x < 256) (h9 : n ≤ 9) (hr : rt (nth ss.flatten) 0 n = r)
    (hB : Below B.heap.size B W) (hk : Knows B) (hs : Starts B) :
    Calls Tryd.prog 14 #[.slice (some ⟨W.heap.size, 0, none⟩) n n] (W.alloc (.cells (bvs ss.flatten).toArray 29)) fun e w' => e = .returned (sv r) ∧ Below B.heap.size B w' := by
  have b2 := hB.alloc hB.size (.cells (bvs ss.flatten).toArray 29)
  have hlen : ss.flatten.length = 32 * n := by
    rw [List.length_flatten, hn]
    clear hr hn hb b2
    induction ss with
    | nil => rfl
    | cons s ss ih =>
      rw [List.map_cons, List.sum_cons, ih (fun x hx => hl x (List.mem_cons_of_mem _ hx)), hl s (List.mem_cons_self ..), List.length_cons]
      omega
  have := root_any (some ⟨W.heap.size, 0, none⟩) n n ss.flatten _ ⟨hlen, (In.new' W ss.flatten 29).rd⟩ (by intro x hx; obtain ⟨s, hs, hxs⟩ := List.mem_flatten.1 hx; exact hb s hs x hxs) (Nat.le_refl _) (by omega) (hk.below b2) (hs.below b2)
  rw [hr] at this
  exact this.mono fun e w' ⟨he, hb'⟩ => ⟨he, below_on b2 (Nat.le_refl _) hb'⟩

theorem add_zero' (a : Addr) : a.add 0 = a := by unfold Addr.add; split <;> simp_all

theorem run_take_sums {ad : Addr} {n c k : Nat} (hk : k ≤ n) (hc : n ≤ c) (W : World) :
    (Instr.slice 33 (.slice (some ad) n c) none (some (.int .i64 (k : Int))) none).run Tryd.prog W = .ok (.slice (some ad) k c) W := by
  obtain ⟨i0, hi, hz0, hz1, hz2⟩ := info_parts infoSum
  have he : Tryd.prog.elem 33 = 29 := by kernel_rfl
  rw [run_slice_h W 33 (some ad) n c (by rw [he]; exact Tryd.underlying33) .i64 (k : Int) (by omega) (by omega), he]
  simp [sizeOf, typeInfo, hi, hz1, sliced, add_zero']

theorem run_drop_sums {ad : Addr} {n c k : Nat} (hk : k < n) (hc : n ≤ c) (W : World) :
    (Instr.slice 33 (.slice (some ad) n c) (some (.int .i64 (k : Int))) none none).run Tryd.prog W = .ok (.slice (some (ad.add (k * 32))) (n - k) (c - k)) W := by
  obtain ⟨i0, hi, hz0, hz1, hz2⟩ := info_parts infoSum
  have he : Tryd.prog.elem 33 = 29 := by kernel_rfl
  rw [run_slice_l W 33 (some ad) n c (by rw [he]; exact Tryd.underlying33) .i64 (k : Int) (by omega) (by omega), he]
  have hne : c ≠ k := by omega
  simp [sizeOf, typeInfo, hi, hz1, sliced, hne]

theorem nth_take {ys : List Nat} {k j : Nat} (h : j < k) : nth (ys.take (32 * k)) j = nth ys j := by
  rw [nth, nth, List.drop_take, List.take_take, Nat.min_eq_left (by omega)]
theorem nth_drop (ys : List Nat) (k j : Nat) : nth (ys.drop (32 * k)) j = nth ys (k + j) := by
  rw [nth, nth, List.drop_drop, Nat.mul_add]
theorem rt_take (ys : List Nat) (k : Nat) : rt (nth (ys.take (32 * k))) 0 k = rt (nth ys) 0 k := rt_congr _ _ k 0 0 fun j hj => by rw [Nat.zero_add]; exact nth_take hj
theorem rt_drop (ys : List Nat) (k m : Nat) : rt (nth (ys.drop (32 * k))) 0 m = rt (nth ys) k m := rt_congr _ _ m 0 k fun j _ => by rw [Nat.zero_add]; exact nth_drop ys k j

theorem InS.some_ {w : World} {A : Option Addr} {n : Nat} {ys : List Nat} (h : InS w A n ys) (hn : 0 < n) : ∃ ad, A = some ad := by
  obtain ⟨ad, e, _⟩ := h.at_ hn
  exact ⟨ad, e⟩
theorem InS.drop_ {w : World} {ad : Addr} {n : Nat} {ys : List Nat} (h : InS w (some ad) n ys) (k : Nat) (hk : k ≤ n) : InS w (some (ad.add (k * 32))) (n - k) (ys.drop (32 * k)) :=
  ⟨by rw [List.length_drop, h.len]; omega, by rw [Nat.mul_comm k]; exact h.rd.drop (32 * k)⟩

/-- A contract, from a world that came later. -/
theorem later {P : Program} {f : FuncId} {args : Array Value} {B W : World} {v v' : Value} (hW : Below B.heap.size B W) (hv : v = v')
    (h : Calls P f args W fun e w' => e = .returned v ∧ Below W.heap.size W w') : Calls P f args W fun e w' => e = .returned v' ∧ Below B.heap.size B w' :=
  h.mono fun _ _ ⟨he, hb⟩ => ⟨by rw [he, hv], below_on hW (Nat.le_refl _) hb⟩

/-- A sum that is asked for behind '&&'. -/
theorem wpList_load_sum_g {ops : Array Oper} {rest : List Oper} {o : Oper} {a : Act} {w : World} {Q : Exit → Act → World → Prop} (hw : Region.wanted o (yielded ops a.tmps) = true) (x : Operand) (ho : o.op = .load 29 x)
    (ad : Addr) (hx : a.eval x = .pointer (some ad)) (s : List Nat) (hl : s.length = 32) (hc : At w ad s)
    (h : wpList Tryd.prog ops Q rest (a.put o.dst (sv s)) w) : wpList Tryd.prog ops Q (o :: rest) a w := by
  refine wpList_step fun K hK => ?_
  rw [if_pos hw]
  unfold Oper.wp execOp
  simp only [ho, hx, Instr.loadAt, Instr.sureAddr, Sem.run_bind, Sem.run_pure, Result.andThen_ok, run_load_sum w ad s hl hc]
  exact hK _ _ h

end Go.Proofs.YtcekfnngnjpeeaaDoor

/-
  clashes.Is: whether that are two unlike lists of bytes of one sum.
-/
namespace Go.Proofs.YtcekfnngnjpeeaaDoor
open Go.RowKit

/-- A clash as it is handed over. -/
def clv (A : Option Addr) (n c : Nat) (B : Option Addr) (m d : Nat) : Value := .agg #[.slice A n c, .slice B m d]
/-- Is it one? -/
def isC (xs ys : List Nat) : Bool := !decide (xs = ys) && decide (sha xs = sha ys)
theorem isC_true {xs ys : List Nat} : isC xs ys = true ↔ Clashes xs ys := by simp [isC, Clashes]
theorem isC_false {xs ys : List Nat} (h : isC xs ys = false) : Same xs ys := fun e => by
  simp [isC] at h
  exact Classical.byContradiction fun hne => h hne e

section
variable {w : World} {A B : Option Addr} {n c m d : Nat} {xs ys : List Nat}

set_option maxRecDepth 100000 in
set_option maxHeartbeats 2000000 in
theorem is_any (h1 : Came w A n c xs) (h2 : Came w B m d ys) (hn : n ≤ 800000000) (hm : m ≤ 800000000) (hk : Knows w) (hs : Starts w) :
    Calls Tryd.prog 9 #[clv A n c B m d] w fun e w' => e = .returned (.bool (isC xs ys)) ∧ Below w.heap.size w w' := by
  obtain ⟨w1, hw1⟩ : ∃ w1, w1 = w.alloc (.cells #[.slice A n c, .slice B m d] 24) := ⟨_, rfl⟩
  have b1 : Below w.heap.size w w1 := by rw [hw1]; exact below_alloc _ _
  obtain ⟨g, hg⟩ : ∃ g, w.heap.size = g := ⟨_, rfl⟩
  have x0 : w1.cell? ⟨g, 0, none⟩ = some (.slice A n c) := by rw [← hg, hw1, cell_of_row _ _ 0 _ _ (0, 0) (World.alloc_heap_new w _)]; rfl
  have x1 : w1.cell? ⟨g, 1, none⟩ = some (.slice B m d) := by rw [← hg, hw1, cell_of_row _ _ 1 _ _ (0, 0) (World.alloc_heap_new w _)]; rfl
  have gl : g < w1.heap.size := by rw [← hg, hw1, World.size_alloc]; omega
  have HC0 := Lib.hid (fun (W : World) (hW : Below w1.heap.size w1 W) => show W.cell? ⟨g, 0, none⟩ = some (.slice A n c) from (hW.cell gl).trans x0)
  have HC1 := Lib.hid (fun (W : World) (hW : Below w1.heap.size w1 W) => show W.cell? ⟨g, 1, none⟩ = some (.slice B m d) from (hW.cell gl).trans x1)
  have CE := Lib.hid (fun (W : World) (hW : Below w1.heap.size w1 W) => (equal_any ((h1.below b1).below hW) ((h2.below b1).below hW)).mono (R' := fun e w' => e = .returned (.bool (decide (xs = ys))) ∧ Below w1.heap.size w1 w') fun e w' ⟨he, hw⟩ => ⟨he, by rw [hw]; exact hW⟩)
  obtain ⟨s, hs0⟩ : ∃ s, sha xs = s := ⟨_, rfl⟩
  obtain ⟨t, ht0⟩ : ∃ t, sha ys = t := ⟨_, rfl⟩
  have sl : s.length = 32 := by rw [← hs0]; exact sha_length _
  have tl : t.length = 32 := by rw [← ht0]; exact sha_length _
  have CA := Lib.hid (fun (W : World) (hW : Below w1.heap.size w1 W) => later (v' := sv s) hW (by rw [hs0]) (of_any A n c xs W ((h1.in_.below b1).below hW) h1.lt h1.cap ((hk.below b1).below hW) ((hs.below b1).below hW) (by omega)))
  have CB := Lib.hid (fun (W : World) (hW : Below w1.heap.size w1 W) => later (v' := sv t) hW (by rw [ht0]) (of_any B m d ys W ((h2.in_.below b1).below hW) h2.lt h2.cap ((hk.below b1).below hW) ((hs.below b1).below hW) (by omega)))
  have n1 := run_eql_sum s t sl tl
  have n2 := run_guard_eql
  have hR : isC xs ys = (!decide (xs = ys) && decide (s = t)) := by rw [← hs0, ← ht0]; rfl
  rw [hR]
  have HW := Lib.hid (And.intro hw1 b1)
  obtain ⟨b, hb⟩ : ∃ b, decide (xs = ys) = b := ⟨_, rfl⟩
  obtain ⟨b2, hb2⟩ : ∃ b2, decide (s = t) = b2 := ⟨_, rfl⟩
  rw [hb] at CE ⊢
  rw [hb2] at n1 ⊢
  have HG := Lib.hid hg
  clear hw1 b1 x0 x1 gl h1 h2 hn hm hk hs hs0 ht0 hR hb hb2 hg
  unfold clv
  go_enter Tryd.func9, Tryd.ntmps9
  go_upto_region 1 with fail
  rw [← HW.out.1]
  rw [HG.out]
  cases b with
  | false =>
    refine wp_region_held_drew (S := fun W => Below w1.heap.size w1 W) (by kernel_rfl) ((Below.refl _ _).drew) (fun hS0 => ?_)
    change wpAnyH _ _ _ _ _ _ _ _ w1.drew
    refine' wpAnyH_take (i := 0) (oi := _) (v := _) ?hin0 (by kernel_rfl) ?hfn0 ?hrn0 ?hQn0 ?hyn0 hS0 ?restn0
    case hin0 => (simp only [List.getElem?_toArray, List.getElem?_cons_zero]; rfl)
    case hfn0 => kernel_rfl
    case hrn0 => kernel_rfl
    case hQn0 => exact fun _ _ _ h => h
    case hyn0 => refine Or.inl ⟨by rfl, ?_⟩; intro W hSw; go_simp; try with_reducible rfl
    try simp only [Act.put, List.setIfInBounds_toArray, List.set_cons_zero, List.set_cons_succ]
    refine' wpAnyH_take (i := 1) (oi := _) (v := _) ?hin1 (by kernel_rfl) ?hfn1 ?hrn1 ?hQn1 ?hyn1 hS0 ?restn1
    case hin1 => (simp only [List.getElem?_toArray, List.getElem?_cons_zero, List.getElem?_cons_succ]; rfl)
    case hfn1 => kernel_rfl
    case hrn1 => kernel_rfl
    case hQn1 => exact fun _ _ _ h => h
    case hyn1 => refine Or.inl ⟨by rfl, ?_⟩; intro W hSw; have hcc := HC0.out W hSw; go_simp; try with_reducible rfl
    try simp only [Act.put, List.setIfInBounds_toArray, List.set_cons_zero, List.set_cons_succ]
    refine' wpAnyH_take (i := 2) (oi := _) (v := _) ?hin2 (by kernel_rfl) ?hfn2 ?hrn2 ?hQn2 ?hyn2 hS0 ?restn2
    case hin2 => (simp only [List.getElem?_toArray, List.getElem?_cons_zero, List.getElem?_cons_succ]; rfl)
    case hfn2 => kernel_rfl
    case hrn2 => kernel_rfl
    case hQn2 => exact fun _ _ _ h => h
    case hyn2 => refine Or.inl ⟨by rfl, ?_⟩; intro W hSw; go_simp; try with_reducible rfl
    try simp only [Act.put, List.setIfInBounds_toArray, List.set_cons_zero, List.set_cons_succ]
    refine' wpAnyH_take (i := 3) (oi := _) (v := _) ?hin3 (by kernel_rfl) ?hfn3 ?hrn3 ?hQn3 ?hyn3 hS0 ?restn3
    case hin3 => (simp only [List.getElem?_toArray, List.getElem?_cons_zero, List.getElem?_cons_succ]; rfl)
    case hfn3 => kernel_rfl
    case hrn3 => kernel_rfl
    case hQn3 => exact fun _ _ _ h => h
    case hyn3 => refine Or.inl ⟨by rfl, ?_⟩; intro W hSw; have hcc := HC1.out W hSw; go_simp; try with_reducible rfl
    try simp only [Act.put, List.setIfInBounds_toArray, List.set_cons_zero, List.set_cons_succ]
    refine wpAnyH_ready (rs := [4]) (by kernel_rfl) (by simp) ?_
    refine' AllReadyH.cons (o := _) ?hin4 (fun K hK => ?_) AllReadyH.nil
    case hin4 => (simp only [List.getElem?_toArray, List.getElem?_cons_zero, List.getElem?_cons_succ]; rfl)
    go_simp
    go_at_call 24
    refine (CE.out _ hS0).mono ?_
    rintro e Wn2 ⟨rfl, hBn1⟩
    refine hK.out _ _ hBn1 (fun _ => ?_)
    clear hK K
    try simp only [Act.put, List.setIfInBounds_toArray, List.set_cons_zero, List.set_cons_succ]
    refine' wpAnyH_take (i := 5) (oi := _) (v := _) ?hin5 (by kernel_rfl) ?hfn5 ?hrn5 ?hQn5 ?hyn5 hBn1 ?restn5
    case hin5 => (simp only [List.getElem?_toArray, List.getElem?_cons_zero, List.getElem?_cons_succ]; rfl)
    case hfn5 => kernel_rfl
    case hrn5 => kernel_rfl
    case hQn5 => exact fun _ _ _ h => h
    case hyn5 => refine Or.inl ⟨by rfl, ?_⟩; intro W hSw; go_simp; try with_reducible rfl
    try simp only [Act.put, List.setIfInBounds_toArray, List.set_cons_zero, List.set_cons_succ]
    refine' wpAnyH_take (i := 6) (oi := _) (v := _) ?hin6 (by kernel_rfl) ?hfn6 ?hrn6 ?hQn6 ?hyn6 hBn1 ?restn6
    case hin6 => (simp only [List.getElem?_toArray, List.getElem?_cons_zero, List.getElem?_cons_succ]; rfl)
    case hfn6 => kernel_rfl
    case hrn6 => kernel_rfl
    case hQn6 => exact fun _ _ _ h => h
    case hyn6 => refine Or.inl ⟨by rfl, ?_⟩; intro W hSw; go_simp; try with_reducible rfl
    try simp only [Act.put, List.setIfInBounds_toArray, List.set_cons_zero, List.set_cons_succ]
    refine' wpAnyH_take (i := 7) (oi := _) (v := _) ?hin7 (by kernel_rfl) ?hfn7 ?hrn7 ?hQn7 ?hyn7 hBn1 ?restn7
    case hin7 => (simp only [List.getElem?_toArray, List.getElem?_cons_zero, List.getElem?_cons_succ]; rfl)
    case hfn7 => kernel_rfl
    case hrn7 => kernel_rfl
    case hQn7 => exact fun _ _ _ h => h
    case hyn7 => refine Or.inl ⟨by rfl, ?_⟩; intro W hSw; go_simp; try with_reducible rfl
    try simp only [Act.put, List.setIfInBounds_toArray, List.set_cons_zero, List.set_cons_succ]
    refine' wpAnyH_take (i := 10) (oi := _) (v := _) ?hin10 (by kernel_rfl) ?hfn10 ?hrn10 ?hQn10 ?hyn10 hBn1 ?restn10
    case hin10 => (simp only [List.getElem?_toArray, List.getElem?_cons_zero, List.getElem?_cons_succ]; rfl)
    case hfn10 => kernel_rfl
    case hrn10 => kernel_rfl
    case hQn10 => exact fun _ _ _ h => h
    case hyn10 => refine Or.inl ⟨by rfl, ?_⟩; intro W hSw; go_simp; try with_reducible rfl
    try simp only [Act.put, List.setIfInBounds_toArray, List.set_cons_zero, List.set_cons_succ]
    refine' wpAnyH_take (i := 8) (oi := _) (v := _) ?hin8 (by kernel_rfl) ?hfn8 ?hrn8 ?hQn8 ?hyn8 hBn1 ?restn8
    case hin8 => (simp only [List.getElem?_toArray, List.getElem?_cons_zero, List.getElem?_cons_succ]; rfl)
    case hfn8 => kernel_rfl
    case hrn8 => kernel_rfl
    case hQn8 => exact fun _ _ _ h => h
    case hyn8 => refine Or.inl ⟨by rfl, ?_⟩; intro W hSw; have hcc := HC0.out W hSw; go_simp; try with_reducible rfl
    try simp only [Act.put, List.setIfInBounds_toArray, List.set_cons_zero, List.set_cons_succ]
    refine' wpAnyH_take (i := 11) (oi := _) (v := _) ?hin11 (by kernel_rfl) ?hfn11 ?hrn11 ?hQn11 ?hyn11 hBn1 ?restn11
    case hin11 => (simp only [List.getElem?_toArray, List.getElem?_cons_zero, List.getElem?_cons_succ]; rfl)
    case hfn11 => kernel_rfl
    case hrn11 => kernel_rfl
    case hQn11 => exact fun _ _ _ h => h
    case hyn11 => refine Or.inl ⟨by rfl, ?_⟩; intro W hSw; have hcc := HC1.out W hSw; go_simp; try with_reducible rfl
    try simp only [Act.put, List.setIfInBounds_toArray, List.set_cons_zero, List.set_cons_succ]
    refine wpAnyH_ready (rs := [9]) (by kernel_rfl) (by simp) ?_
    refine' AllReadyH.cons (o := _) ?hin9 (fun K hK => ?_) AllReadyH.nil
    case hin9 => (simp only [List.getElem?_toArray, List.getElem?_cons_zero, List.getElem?_cons_succ]; rfl)
    go_simp
    go_at_call 11
    refine (CA.out _ hBn1).mono ?_
    rintro e Wn4 ⟨rfl, hBn3⟩
    refine hK.out _ _ hBn3 (fun _ => ?_)
    clear hK K
    try simp only [Act.put, List.setIfInBounds_toArray, List.set_cons_zero, List.set_cons_succ]
    refine wpAnyH_ready (rs := [12]) (by kernel_rfl) (by simp) ?_
    refine' AllReadyH.cons (o := _) ?hin12 (fun K hK => ?_) AllReadyH.nil
    case hin12 => (simp only [List.getElem?_toArray, List.getElem?_cons_zero, List.getElem?_cons_succ]; rfl)
    go_simp
    go_at_call 11
    refine (CB.out _ hBn3).mono ?_
    rintro e Wn6 ⟨rfl, hBn5⟩
    refine hK.out _ _ hBn5 (fun _ => ?_)
    clear hK K
    try simp only [Act.put, List.setIfInBounds_toArray, List.set_cons_zero, List.set_cons_succ]
    refine' wpAnyH_take (i := 13) (oi := _) (v := _) ?hin13 (by kernel_rfl) ?hfn13 ?hrn13 ?hQn13 ?hyn13 hBn5 ?restn13
    case hin13 => (simp only [List.getElem?_toArray, List.getElem?_cons_zero, List.getElem?_cons_succ]; rfl)
    case hfn13 => kernel_rfl
    case hrn13 => kernel_rfl
    case hQn13 => exact fun _ _ _ h => h
    case hyn13 => refine Or.inl ⟨by rfl, ?_⟩; intro W hSw; go_simp; try with_reducible rfl
    try simp only [Act.put, List.setIfInBounds_toArray, List.set_cons_zero, List.set_cons_succ]
    refine' wpAnyH_take (i := 14) (oi := _) (v := _) ?hin14 (by kernel_rfl) ?hfn14 ?hrn14 ?hQn14 ?hyn14 hBn5 ?restn14
    case hin14 => (simp only [List.getElem?_toArray, List.getElem?_cons_zero, List.getElem?_cons_succ]; rfl)
    case hfn14 => kernel_rfl
    case hrn14 => kernel_rfl
    case hQn14 => exact fun _ _ _ h => h
    case hyn14 => refine Or.inl ⟨by rfl, ?_⟩; intro W hSw; go_simp; try with_reducible rfl
    try simp only [Act.put, List.setIfInBounds_toArray, List.set_cons_zero, List.set_cons_succ]
    refine' wpAnyH_take (i := 15) (oi := _) (v := _) ?hin15 (by kernel_rfl) ?hfn15 ?hrn15 ?hQn15 ?hyn15 hBn5 ?restn15
    case hin15 => (simp only [List.getElem?_toArray, List.getElem?_cons_zero, List.getElem?_cons_succ]; rfl)
    case hfn15 => kernel_rfl
    case hrn15 => kernel_rfl
    case hQn15 => exact fun _ _ _ h => h
    case hyn15 => refine Or.inl ⟨by rfl, ?_⟩; intro W hSw; go_simp; try with_reducible rfl
    try simp only [Act.put, List.setIfInBounds_toArray, List.set_cons_zero, List.set_cons_succ]
    refine wpAnyH_done (by kernel_rfl) ?_ _
    go_wp2
    go_ret
    exact ⟨rfl, by rw [← HG.out] at *; exact below_on HW.out.2 (Nat.le_refl _) hBn5⟩
  | true =>
    refine wp_region_held_drew (S := fun W => Below w1.heap.size w1 W) (by kernel_rfl) ((Below.refl _ _).drew) (fun hS0 => ?_)
    change wpAnyH _ _ _ _ _ _ _ _ w1.drew
    refine' wpAnyH_take (i := 0) (oi := _) (v := _) ?hiy0 (by kernel_rfl) ?hfy0 ?hry0 ?hQy0 ?hyy0 hS0 ?resty0
    case hiy0 => (simp only [List.getElem?_toArray, List.getElem?_cons_zero]; rfl)
    case hfy0 => kernel_rfl
    case hry0 => kernel_rfl
    case hQy0 => exact fun _ _ _ h => h
    case hyy0 => refine Or.inl ⟨by rfl, ?_⟩; intro W hSw; go_simp; try with_reducible rfl
    try simp only [Act.put, List.setIfInBounds_toArray, List.set_cons_zero, List.set_cons_succ]
    refine' wpAnyH_take (i := 1) (oi := _) (v := _) ?hiy1 (by kernel_rfl) ?hfy1 ?hry1 ?hQy1 ?hyy1 hS0 ?resty1
    case hiy1 => (simp only [List.getElem?_toArray, List.getElem?_cons_zero, List.getElem?_cons_succ]; rfl)
    case hfy1 => kernel_rfl
    case hry1 => kernel_rfl
    case hQy1 => exact fun _ _ _ h => h
    case hyy1 => refine Or.inl ⟨by rfl, ?_⟩; intro W hSw; have hcc := HC0.out W hSw; go_simp; try with_reducible rfl
    try simp only [Act.put, List.setIfInBounds_toArray, List.set_cons_zero, List.set_cons_succ]
    refine' wpAnyH_take (i := 2) (oi := _) (v := _) ?hiy2 (by kernel_rfl) ?hfy2 ?hry2 ?hQy2 ?hyy2 hS0 ?resty2
    case hiy2 => (simp only [List.getElem?_toArray, List.getElem?_cons_zero, List.getElem?_cons_succ]; rfl)
    case hfy2 => kernel_rfl
    case hry2 => kernel_rfl
    case hQy2 => exact fun _ _ _ h => h
    case hyy2 => refine Or.inl ⟨by rfl, ?_⟩; intro W hSw; go_simp; try with_reducible rfl
    try simp only [Act.put, List.setIfInBounds_toArray, List.set_cons_zero, List.set_cons_succ]
    refine' wpAnyH_take (i := 3) (oi := _) (v := _) ?hiy3 (by kernel_rfl) ?hfy3 ?hry3 ?hQy3 ?hyy3 hS0 ?resty3
    case hiy3 => (simp only [List.getElem?_toArray, List.getElem?_cons_zero, List.getElem?_cons_succ]; rfl)
    case hfy3 => kernel_rfl
    case hry3 => kernel_rfl
    case hQy3 => exact fun _ _ _ h => h
    case hyy3 => refine Or.inl ⟨by rfl, ?_⟩; intro W hSw; have hcc := HC1.out W hSw; go_simp; try with_reducible rfl
    try simp only [Act.put, List.setIfInBounds_toArray, List.set_cons_zero, List.set_cons_succ]
    refine wpAnyH_ready (rs := [4]) (by kernel_rfl) (by simp) ?_
    refine' AllReadyH.cons (o := _) ?hiy4 (fun K hK => ?_) AllReadyH.nil
    case hiy4 => (simp only [List.getElem?_toArray, List.getElem?_cons_zero, List.getElem?_cons_succ]; rfl)
    go_simp
    go_at_call 24
    refine (CE.out _ hS0).mono ?_
    rintro e Wy2 ⟨rfl, hBy1⟩
    refine hK.out _ _ hBy1 (fun _ => ?_)
    clear hK K
    try simp only [Act.put, List.setIfInBounds_toArray, List.set_cons_zero, List.set_cons_succ]
    refine' wpAnyH_take (i := 5) (oi := _) (v := _) ?hiy5 (by kernel_rfl) ?hfy5 ?hry5 ?hQy5 ?hyy5 hBy1 ?resty5
    case hiy5 => (simp only [List.getElem?_toArray, List.getElem?_cons_zero, List.getElem?_cons_succ]; rfl)
    case hfy5 => kernel_rfl
    case hry5 => kernel_rfl
    case hQy5 => exact fun _ _ _ h => h
    case hyy5 => refine Or.inl ⟨by rfl, ?_⟩; intro W hSw; go_simp; try with_reducible rfl
    try simp only [Act.put, List.setIfInBounds_toArray, List.set_cons_zero, List.set_cons_succ]
    refine' wpAnyH_take (i := 6) (oi := _) (v := _) ?hiy6 (by kernel_rfl) ?hfy6 ?hry6 ?hQy6 ?hyy6 hBy1 ?resty6
    case hiy6 => (simp only [List.getElem?_toArray, List.getElem?_cons_zero, List.getElem?_cons_succ]; rfl)
    case hfy6 => kernel_rfl
    case hry6 => kernel_rfl
    case hQy6 => exact fun _ _ _ h => h
    case hyy6 => refine Or.inl ⟨by rfl, ?_⟩; intro W hSw; go_simp; try with_reducible rfl
    try simp only [Act.put, List.setIfInBounds_toArray, List.set_cons_zero, List.set_cons_succ]
    refine' wpAnyH_take (i := 7) (oi := _) (v := undef) ?hiy7 (by kernel_rfl) ?hfy7 ?hry7 ?hQy7 ?hyy7 hBy1 ?resty7
    case hiy7 => (simp only [List.getElem?_toArray, List.getElem?_cons_zero, List.getElem?_cons_succ]; rfl)
    case hfy7 => kernel_rfl
    case hry7 => kernel_rfl
    case hQy7 => exact fun _ _ _ h => h
    case hyy7 => exact Or.inr ⟨by rfl, rfl⟩
    try simp only [Act.put, List.setIfInBounds_toArray, List.set_cons_zero, List.set_cons_succ]
    refine' wpAnyH_take (i := 8) (oi := _) (v := undef) ?hiy8 (by kernel_rfl) ?hfy8 ?hry8 ?hQy8 ?hyy8 hBy1 ?resty8
    case hiy8 => (simp only [List.getElem?_toArray, List.getElem?_cons_zero, List.getElem?_cons_succ]; rfl)
    case hfy8 => kernel_rfl
    case hry8 => kernel_rfl
    case hQy8 => exact fun _ _ _ h => h
    case hyy8 => exact Or.inr ⟨by rfl, rfl⟩
    try simp only [Act.put, List.setIfInBounds_toArray, List.set_cons_zero, List.set_cons_succ]
    refine' wpAnyH_take (i := 9) (oi := _) (v := undef) ?hiy9 (by kernel_rfl) ?hfy9 ?hry9 ?hQy9 ?hyy9 hBy1 ?resty9
    case hiy9 => (simp only [List.getElem?_toArray, List.getElem?_cons_zero, List.getElem?_cons_succ]; rfl)
    case hfy9 => kernel_rfl
    case hry9 => kernel_rfl
    case hQy9 => exact fun _ _ _ h => h
    case hyy9 => exact Or.inr ⟨by rfl, rfl⟩
    try simp only [Act.put, List.setIfInBounds_toArray, List.set_cons_zero, List.set_cons_succ]
    refine' wpAnyH_take (i := 10) (oi := _) (v := undef) ?hiy10 (by kernel_rfl) ?hfy10 ?hry10 ?hQy10 ?hyy10 hBy1 ?resty10
    case hiy10 => (simp only [List.getElem?_toArray, List.getElem?_cons_zero, List.getElem?_cons_succ]; rfl)
    case hfy10 => kernel_rfl
    case hry10 => kernel_rfl
    case hQy10 => exact fun _ _ _ h => h
    case hyy10 => exact Or.inr ⟨by rfl, rfl⟩
    try simp only [Act.put, List.setIfInBounds_toArray, List.set_cons_zero, List.set_cons_succ]
    refine' wpAnyH_take (i := 11) (oi := _) (v := undef) ?hiy11 (by kernel_rfl) ?hfy11 ?hry11 ?hQy11 ?hyy11 hBy1 ?resty11
    case hiy11 => (simp only [List.getElem?_toArray, List.getElem?_cons_zero, List.getElem?_cons_succ]; rfl)
    case hfy11 => kernel_rfl
    case hry11 => kernel_rfl
    case hQy11 => exact fun _ _ _ h => h
    case hyy11 => exact Or.inr ⟨by rfl, rfl⟩
    try simp only [Act.put, List.setIfInBounds_toArray, List.set_cons_zero, List.set_cons_succ]
    refine' wpAnyH_take (i := 12) (oi := _) (v := undef) ?hiy12 (by kernel_rfl) ?hfy12 ?hry12 ?hQy12 ?hyy12 hBy1 ?resty12
    case hiy12 => (simp only [List.getElem?_toArray, List.getElem?_cons_zero, List.getElem?_cons_succ]; rfl)
    case hfy12 => kernel_rfl
    case hry12 => kernel_rfl
    case hQy12 => exact fun _ _ _ h => h
    case hyy12 => exact Or.inr ⟨by rfl, rfl⟩
    try simp only [Act.put, List.setIfInBounds_toArray, List.set_cons_zero, List.set_cons_succ]
    refine' wpAnyH_take (i := 13) (oi := _) (v := undef) ?hiy13 (by kernel_rfl) ?hfy13 ?hry13 ?hQy13 ?hyy13 hBy1 ?resty13
    case hiy13 => (simp only [List.getElem?_toArray, List.getElem?_cons_zero, List.getElem?_cons_succ]; rfl)
    case hfy13 => kernel_rfl
    case hry13 => kernel_rfl
    case hQy13 => exact fun _ _ _ h => h
    case hyy13 => exact Or.inr ⟨by rfl, rfl⟩
    try simp only [Act.put, List.setIfInBounds_toArray, List.set_cons_zero, List.set_cons_succ]
    refine' wpAnyH_take (i := 14) (oi := _) (v := _) ?hiy14 (by kernel_rfl) ?hfy14 ?hry14 ?hQy14 ?hyy14 hBy1 ?resty14
    case hiy14 => (simp only [List.getElem?_toArray, List.getElem?_cons_zero, List.getElem?_cons_succ]; rfl)
    case hfy14 => kernel_rfl
    case hry14 => kernel_rfl
    case hQy14 => exact fun _ _ _ h => h
    case hyy14 => refine Or.inl ⟨by rfl, ?_⟩; intro W hSw; go_simp; try with_reducible rfl
    try simp only [Act.put, List.setIfInBounds_toArray, List.set_cons_zero, List.set_cons_succ]
    refine' wpAnyH_take (i := 15) (oi := _) (v := _) ?hiy15 (by kernel_rfl) ?hfy15 ?hry15 ?hQy15 ?hyy15 hBy1 ?resty15
    case hiy15 => (simp only [List.getElem?_toArray, List.getElem?_cons_zero, List.getElem?_cons_succ]; rfl)
    case hfy15 => kernel_rfl
    case hry15 => kernel_rfl
    case hQy15 => exact fun _ _ _ h => h
    case hyy15 => refine Or.inl ⟨by rfl, ?_⟩; intro W hSw; go_simp; try with_reducible rfl
    try simp only [Act.put, List.setIfInBounds_toArray, List.set_cons_zero, List.set_cons_succ]
    refine wpAnyH_done (by kernel_rfl) ?_ _
    go_wp2
    go_ret
    exact ⟨rfl, by rw [← HG.out] at *; exact below_on HW.out.2 (Nat.le_refl _) hBy1⟩
end

end Go.Proofs.YtcekfnngnjpeeaaDoor

/-
  A frame: every block but these is as it was.
-/
namespace Go.Proofs.YtcekfnngnjpeeaaDoor
open Go.RowKit

/-- Only blocks of S, and new ones, have turned. -/
structure But (S : Nat → Prop) (w w' : World) : Prop where
  os : w'.os = w.os
  tape : w'.tape = w.tape
  output : w'.output = w.output
  size : w.heap.size ≤ w'.heap.size
  block : ∀ b, b < w.heap.size → ¬ S b → w'.heap[b]? = w.heap[b]?

theorem But.refl (S : Nat → Prop) (w : World) : But S w w := ⟨rfl, rfl, rfl, Nat.le_refl _, fun _ _ _ => rfl⟩
theorem But.trans {S : Nat → Prop} {a b c : World} (h : But S a b) (k : But S b c) : But S a c :=
  ⟨k.os.trans h.os, k.tape.trans h.tape, k.output.trans h.output, Nat.le_trans h.size k.size, fun i hi hn => (k.block i (Nat.lt_of_lt_of_le hi h.size) hn).trans (h.block i hi hn)⟩
theorem But.mono {S T : Nat → Prop} {w w' : World} (h : But S w w') (hST : ∀ b, b < w.heap.size → S b → T b) : But T w w' := ⟨h.os, h.tape, h.output, h.size, fun b hb hn => h.block b hb (fun hs => hn (hST b hb hs))⟩
theorem But.of_below {S : Nat → Prop} {w w' : World} (h : Below w.heap.size w w') : But S w w' := ⟨h.os, h.tape, h.output, h.size, fun b hb _ => h.block b hb⟩
theorem But.below {S : Nat → Prop} {w w' : World} {base : Nat} (h : But S w w') (hb : base ≤ w.heap.size) (hS : ∀ b, S b → base ≤ b) : Below base w w' :=
  ⟨h.os, h.tape, h.output, h.size, fun k hk => h.block k (by omega) (fun hs => by have := hS k hs; omega)⟩
theorem But.grown {S : Nat → Prop} {a w w' : World} {row : Option Nat} (h : But S a w) (hg : w.grownBy w' row) (hr : ∀ k, row = some k → k < a.heap.size → S k) : But S a w' :=
  ⟨hg.os.trans h.os, hg.tape.trans h.tape, hg.output.trans h.output, Nat.le_trans h.size hg.size, fun b hb hn => (hg.block b (Nat.lt_of_lt_of_le hb h.size) (fun e => hn (hr b e.symm hb))).trans (h.block b hb hn)⟩
theorem But.alloc {S : Nat → Prop} {a w : World} (h : But S a w) (o : Obj) : But S a (w.alloc o) := h.grown (World.grownBy_alloc w o none) (fun _ e => by cases e)
theorem But.drew {S : Nat → Prop} {a w : World} (h : But S a w) : But S a w.drew := ⟨h.os, h.tape, h.output, h.size, h.block⟩
theorem But.set {S : Nat → Prop} {a w : World} (h : But S a w) {b : Nat} (i : Nat) (v : Value) (hb : b < a.heap.size → S b) : But S a (w.setCell ⟨b, i, none⟩ v) :=
  h.grown (row := some b) ⟨rfl, rfl, rfl, by simp [World.setCell], fun k _ hk => Below.heap_setCell _ _ _ k (fun e => hk (by rw [e]))⟩ (fun k e hk => by cases e; exact hb hk)

end Go.Proofs.YtcekfnngnjpeeaaDoor

/-
  A variable of two cells: a clash, or two lists of entries.
-/
namespace Go.Proofs.YtcekfnngnjpeeaaDoor
open Go.RowKit

/-- Block g is a variable of these cells. -/
def Cells (w : World) (g : Nat) (T : TypeId) (cs : Array Value) : Prop := w.heap[g]? = some (.cells cs T (0, 0))
section
variable {w w' : World} {g : Nat} {T : TypeId} {cs : Array Value}
theorem Cells.cell (h : Cells w g T cs) (i : Nat) {v : Value} (hv : cs[i]? = some v) : w.cell? ⟨g, i, none⟩ = some v := by rw [cell_of_row _ g i _ T (0, 0) h]; exact hv
theorem Cells.free (h : Cells w g T cs) (i : Nat) : w.frozen? ⟨g, i, none⟩ = false := frozen_of_row w g i _ T h
theorem Cells.below (h : Cells w g T cs) (hb : Below w.heap.size w w') : Cells w' g T cs := (hb.block g (Array.getElem?_eq_some_iff.1 h).1).trans h
theorem Cells.lt (h : Cells w g T cs) : g < w.heap.size := (Array.getElem?_eq_some_iff.1 h).1
theorem Cells.new (w : World) (T : TypeId) (cs : Array Value) : Cells (w.alloc (.cells cs T)) w.heap.size T cs := World.alloc_heap_new w _
theorem Cells.setRow (h : Cells w g T cs) (ds : Array Value) : Cells (w.setRow g ds) g T ds := setRow_heap w g _ _ T (0, 0) h
theorem Cells.setRow_other (h : Cells w g T cs) (k : Nat) (hne : g ≠ k) (ds : Array Value) : Cells (w.setRow k ds) g T cs := by
  unfold Cells
  rw [Go.setRow_other _ _ _ _ hne]
  exact h
end

theorem cells_at {w : World} {ad : Addr} {x y : Value} (h0 : w.cell? ad = some x) (h1 : w.cell? (ad.add 1) = some y) : (loadCells ad 2).run Tryd.prog w = .ok #[x, y] w :=
  run_loadCells_list (P := Tryd.prog) w ad [x, y] (fun j v hv => by
    match j with
    | 0 => cases hv; rw [add_zero']; exact h0
    | 1 => cases hv; exact h1)

theorem sizeClash : (Tryd.prog.info? 24).map (·.size) = some 2 := by kernel_rfl
theorem run_load_clash {w : World} {ad : Addr} {x y : Value} (h0 : w.cell? ad = some x) (h1 : w.cell? (ad.add 1) = some y) : (loadVar 24 ad).run Tryd.prog w = .ok (.agg #[x, y]) w := by
  have hl := cells_at h0 h1
  have hagg : (isAgg 24).run Tryd.prog w = .ok true w := by
    unfold isAgg
    rw [Sem.run_bind, run_underlying Tryd.underlying24 w]
    rfl
  cases hq : Tryd.prog.info? 24 with
  | none => have := sizeClash; simp [hq] at this
  | some i =>
    have hs : i.size = 2 := by have := sizeClash; simpa [hq] using this
    simp [loadVar, Sem.run_bind, hagg, sizeOf, typeInfo, hq, hs, hl]

theorem wpList_store_clash {ops : Array Oper} {rest : List Oper} {o : Oper} {a : Act} {w : World} {Q : Exit → Act → World → Prop} (hgd : o.guard = none) (x y : Operand) (ho : o.op = .store 24 x y)
    (g : Nat) (hx : a.eval x = .pointer (some ⟨g, 0, none⟩)) {T : TypeId} {u v : Value} (hc : Cells w g T #[u, v]) (A : Option Addr) (n c : Nat) (B : Option Addr) (m d : Nat) (hy : a.eval y = clv A n c B m d)
    (h : wpList Tryd.prog ops Q rest (a.put o.dst undef) (w.setRow g #[.slice A n c, .slice B m d])) : wpList Tryd.prog ops Q (o :: rest) a w :=
  wpList_store_row hgd 24 x y ho g #[.slice A n c, .slice B m d] hx hy T #[u, v] hc sizeClash rfl (by simp [Value.oneCell']) h

end Go.Proofs.YtcekfnngnjpeeaaDoor

/-
  append to one of several rows of the call's own: the others stay as they are.
-/
namespace Go.Proofs.YtcekfnngnjpeeaaDoor
open Go.RowKit

theorem own_on {w w' : World} {base : Nat} {e : TypeId} {size : Nat} {v : Value} {n : Nat} {xs : List Value} (h : w.ownsRow base e size v n xs) (hb : Below w.heap.size w w') : w'.ownsRow base e size v n xs := by
  refine ⟨h.1, ?_⟩
  rcases h.2 with ⟨e1, h0⟩ | ⟨g, cap, cur, e1, h1, hg, h2⟩
  · exact .inl ⟨e1, h0⟩
  · exact .inr ⟨g, cap, cur, e1, h1, (hb.block g (Array.getElem?_eq_some_iff.1 hg).1).trans hg, h2⟩

/-- Two slices that have no block in common. -/
def Apart (u v : Value) : Prop := ∀ k, u.ownBlock = some k → v.ownBlock ≠ some k
theorem Apart.symm {u v : Value} (h : Apart u v) : Apart v u := fun k hv hu => h k hu hv
theorem apart_nil (u : Value) : Apart u (.slice none 0 0) := fun _ _ h => by cases h

/-- v became v' by an append, w became w'. -/
structure Next (w w' : World) (v v' : Value) : Prop where
  grown : w.grownBy w' v.ownBlock
  at_ : v'.ownBlock = v.ownBlock ∨ v'.ownBlock = some w.heap.size
section
variable {w w' : World} {v v' u : Value} {base : Nat} {e : TypeId} {size n : Nat} {ys : List Value}
theorem Next.keep (h : Next w w' v v') (hu : w.ownsRow base e size u n ys) (ha : Apart v u) : w'.ownsRow base e size u n ys := by
  refine hu.kept h.grown ?_
  cases hk : u.ownBlock with
  | none => exact .inl rfl
  | some k => exact .inr fun e => ha k e.symm hk
theorem Next.apart (h : Next w w' v v') (hu : w.ownsRow base e size u n ys) (ha : Apart v u) : Apart v' u := by
  intro k hk hk2
  rcases h.at_ with e | e
  · exact ha k (e ▸ hk) hk2
  · rw [e] at hk
    cases hk
    have := (hu.lt _ hk2).2
    omega
theorem Next.cell (h : Next w w' v v') {a : Addr} {x : Value} (hc : w.cell? a = some x) (hne : some a.block ≠ v.ownBlock) : w'.cell? a = some x := h.grown.cell hc hne
theorem Next.below {w0 : World} {B : Nat} (h : Next w w' v v') (hv : w.ownsRow base e size v n ys) (hb : Below B w0 w) (hB : B ≤ base) (hs : B ≤ w.heap.size) : Below B w0 w' :=
  hb.grown h.grown hs fun k hk => Nat.le_trans hB (hv.lt k hk).1
end

theorem run_app_at (w : World) (ty : TypeId) (base : Nat) (A : Option Addr) (n c : Nat) (xs : List Nat) (hown : w.ownsRow base 5 1 (.slice A n c) n (bvs xs))
    (A2 : Option Addr) (m c2 : Nat) (ys : List Nat) (hin : In w A2 m ys) (hnil : A2 = none → c2 = 0) (hle : n + m ≤ 140737488355328) (hbase : base ≤ w.heap.size) :
    ∃ A' c' w', (Builtin.append_ #[22, 22] ty #[.slice A n c, .slice A2 m c2]).run Tryd.prog w = .ok (.slice A' (n + m) c') w' ∧
      w'.ownsRow base 5 1 (.slice A' (n + m) c') (n + m) (bvs (xs ++ ys)) ∧ Next w w' (.slice A n c) (.slice A' (n + m) c') := by
  obtain ⟨i0, hi, hz0, hz1, hz2⟩ := info_parts infoByte
  cases A2 with
  | none =>
    obtain rfl := hnil rfl
    have hy : ys = [] := by
      cases ys with
      | nil => rfl
      | cons y ys =>
        obtain ⟨ad, e, _⟩ := hin.rd 0 y rfl
        cases e
    subst hy
    obtain rfl : m = 0 := hin.len.symm
    exact ⟨A, c, w, run_append_owned_none (P := Tryd.prog) (w := w) base 22 ty 5 i0 1 Tryd.underlying22 hi _ n (bvs xs) hown, by simpa using hown, ⟨rfl, rfl, rfl, Nat.le_refl _, fun _ _ _ => rfl⟩, .inl rfl⟩
  | some ad =>
    obtain ⟨v', w', hr, h2, h3, _, h5⟩ := run_append_own_at (P := Tryd.prog) (w := w) base 22 ty 5 i0 _ 1 1 Tryd.underlying22 hi hz0 hz1 hz2 rfl (by decide) _ n (bvs xs) hown ad m c2 (bvs ys) (by rw [bvs_length, hin.len]; simp)
      (fun j u hu => by
        rw [bvs_get] at hu
        obtain ⟨y, hy, rfl⟩ := Option.map_eq_some_iff.1 hu
        obtain ⟨ad', e, hc⟩ := hin.rd j y hy
        cases e
        exact hc) (bvs_oneCell ys) (by unfold maxLen; omega) (by omega) hbase
    rw [← bvs_append] at h2
    obtain ⟨A', c', rfl⟩ := own_form h2
    exact ⟨A', c', w', hr, h2, h3, h5⟩

theorem wpList_app_at {ops : Array Oper} {rest : List Oper} {o : Oper} {a : Act} {Q : Exit → Act → World → Prop} (w : World) (hgd : o.guard = none) (s x : Operand)
    (ho : o.op = .call { callee := .builtin .append, args := #[s, x], argTypes := #[22, 22] })
    (base : Nat) (A : Option Addr) (n c : Nat) (xs : List Nat) (hs : a.eval s = .slice A n c) (hown : w.ownsRow base 5 1 (.slice A n c) n (bvs xs))
    (A2 : Option Addr) (m c2 : Nat) (ys : List Nat) (hx : a.eval x = .slice A2 m c2) (hin : In w A2 m ys) (hnil : A2 = none → c2 = 0) (hle : n + m ≤ 140737488355328) (hbase : base ≤ w.heap.size)
    (h : ∀ A' c' w', w'.ownsRow base 5 1 (.slice A' (n + m) c') (n + m) (bvs (xs ++ ys)) → Next w w' (.slice A n c) (.slice A' (n + m) c') → wpList Tryd.prog ops Q rest (a.put o.dst (.slice A' (n + m) c')) w') :
    wpList Tryd.prog ops Q (o :: rest) a w := by
  refine wpList_plain hgd fun K hK => ?_
  obtain ⟨A', c', w', hr, h2, h3⟩ := run_app_at w o.type base A n c xs hown A2 m c2 ys hin hnil hle hbase
  unfold Oper.wp execOp
  simp only [ho, resolve, invoke, builtin, Sem.run_bind, Sem.run_pure, Result.andThen_ok, List.map_toArray, List.map_cons, List.map_nil, hs, hx, hr]
  exact hK _ _ (h A' c' w' h2 h3)

/-- The same in a region that draws, behind '&&' or not. -/
theorem step_app_at {ops : Array Oper} {o : Oper} {a : Act} {w : World} {K : Act → World → Prop} {Q : Exit → Act → World → Prop} {E : Prop} (hw : Region.wanted o (yielded ops a.tmps) = true) (s x : Operand)
    (ho : o.op = .call { callee := .builtin .append, args := #[s, x], argTypes := #[22, 22] })
    (base : Nat) (A : Option Addr) (n c : Nat) (xs : List Nat) (hs : a.eval s = .slice A n c) (hown : w.ownsRow base 5 1 (.slice A n c) n (bvs xs))
    (A2 : Option Addr) (m c2 : Nat) (ys : List Nat) (hx : a.eval x = .slice A2 m c2) (hin : In w A2 m ys) (hnil : A2 = none → c2 = 0) (hle : n + m ≤ 140737488355328) (hbase : base ≤ w.heap.size)
    (h : ∀ A' c' w', w'.ownsRow base 5 1 (.slice A' (n + m) c') (n + m) (bvs (xs ++ ys)) → Next w w' (.slice A n c) (.slice A' (n + m) c') → K (a.put o.dst (.slice A' (n + m) c')) w') :
    if Region.wanted o (yielded ops a.tmps) = true then Oper.wp Tryd.prog o a w K Q else E := by
  rw [if_pos hw]
  obtain ⟨A', c', w', hr, h2, h3⟩ := run_app_at w o.type base A n c xs hown A2 m c2 ys hin hnil hle hbase
  unfold Oper.wp execOp
  simp only [ho, resolve, invoke, builtin, Sem.run_bind, Sem.run_pure, Result.andThen_ok, List.map_toArray, List.map_cons, List.map_nil, hs, hx, hr]
  exact h A' c' w' h2 h3

end Go.Proofs.YtcekfnngnjpeeaaDoor

/-
  What a walk down both trees comes to: it is handed back, and what is of one sum is the same; or a clash is panicked with.
-/
namespace Go.Proofs.YtcekfnngnjpeeaaDoor
open Go.RowKit

/-- Two lists of bytes that are the call's own, in blocks of their own. -/
structure Two (base : Nat) (w : World) (A : Option Addr) (n c : Nat) (xs : List Nat) (B : Option Addr) (m d : Nat) (ys : List Nat) : Prop where
  a : w.ownsRow base 5 1 (.slice A n c) n (bvs xs)
  b : w.ownsRow base 5 1 (.slice B m d) m (bvs ys)
  apart : ∀ x, (Value.slice A n c).ownBlock = some x → (Value.slice B m d).ownBlock = some x → False
  lta : ∀ x ∈ xs, x < 256
  ltb : ∀ x ∈ ys, x < 256
  na : n ≤ 60000
  nb : m ≤ 60000
theorem Two.below {base : Nat} {w w' : World} {A : Option Addr} {n c : Nat} {xs : List Nat} {B : Option Addr} {m d : Nat} {ys : List Nat} (h : Two base w A n c xs B m d ys) (hb : Below w.heap.size w w') : Two base w' A n c xs B m d ys :=
  ⟨own_on h.a hb, own_on h.b hb, h.apart, h.lta, h.ltb, h.na, h.nb⟩
theorem own_low2 {w : World} {base base' e size n : Nat} {v : Value} {xs : List Value} (h : w.ownsRow base e size v n xs) (hb : base' ≤ base) : w.ownsRow base' e size v n xs :=
  ⟨h.1, h.2.elim Or.inl (fun ⟨g, cap, cur, hv, hg, r⟩ => Or.inr ⟨g, cap, cur, hv, Nat.le_trans hb hg, r⟩)⟩
theorem Two.low {base base' : Nat} {w : World} {A : Option Addr} {n c : Nat} {xs : List Nat} {B : Option Addr} {m d : Nat} {ys : List Nat} (h : Two base w A n c xs B m d ys) (hb : base' ≤ base) : Two base' w A n c xs B m d ys :=
  ⟨own_low2 h.a hb, own_low2 h.b hb, h.apart, h.lta, h.ltb, h.na, h.nb⟩
theorem came_own {base : Nat} {w : World} {A : Option Addr} {n c : Nat} {xs : List Nat} (h : w.ownsRow base 5 1 (.slice A n c) n (bvs xs)) (hx : ∀ x ∈ xs, x < 256) : Came w A n c xs := ⟨In.of_own h, hx, own_nil h, own_cap h⟩

/-- What is panicked with. -/
def tells (v : Value) : List PanicEntry := [{ v := .iface 24 v, recovered := false }]
/-- A clash that is told, in memory of the call's own. -/
def Shown (base : Nat) (w : World) (v : Value) : Prop := ∃ A n c xs B m d ys, v = clv A n c B m d ∧ Two base w A n c xs B m d ys ∧ Clashes xs ys
theorem Shown.below {base : Nat} {w w' : World} {v : Value} (h : Shown base w v) (hb : Below w.heap.size w w') : Shown base w' v := by
  obtain ⟨A, n, c, xs, B, m, d, ys, e, ht, hc⟩ := h
  exact ⟨A, n, c, xs, B, m, d, ys, e, ht.below hb, hc⟩
theorem Shown.low {base base' : Nat} {w : World} {v : Value} (h : Shown base w v) (hb : base' ≤ base) : Shown base' w v := by
  obtain ⟨A, n, c, xs, B, m, d, ys, e, ht, hc⟩ := h
  exact ⟨A, n, c, xs, B, m, d, ys, e, ht.low hb, hc⟩

/-- Either v is handed back, and so it is, or a clash is panicked with. -/
def Told (base : Nat) (v : Value) (C : Prop) (e : Ending) (w' : World) : Prop := (e = .returned v ∧ C) ∨ ∃ u, e = .panicked (tells u) ∧ Shown base w' u

end Go.Proofs.YtcekfnngnjpeeaaDoor

/-
  append to a row of slices of the call's own; such a row read as rows of bytes.
-/
namespace Go.Proofs.YtcekfnngnjpeeaaDoor
open Go.ChangeShapes Go.WideShapes Go.ChangeAt Go.RowKit Go.Deep

theorem infoSlc : (Tryd.prog.info? 22).map (fun i => (i.zero, i.size, i.bytes)) = some (some (.slice none 0 0), 1, 24) := by kernel_rfl

/-- Y: slices, one for each list of R. -/
structure RowsIs (w : World) (Y : List Value) (R : List (List Nat)) : Prop where
  len : Y.length = R.length
  row : ∀ (j : Nat) (b : List Nat), R[j]? = some b → ∃ (A : Option Addr) (n c : Nat), Y[j]? = some (Value.slice A n c) ∧ Came w A n c b ∧ n ≤ 140737488355328
theorem RowsIs.one {w : World} {Y : List Value} {R : List (List Nat)} (h : RowsIs w Y R) : ∀ v ∈ Y, v.oneCell' = true := fun v hv => by
  obtain ⟨j, hj⟩ := List.mem_iff_getElem?.1 hv
  have hlt : j < R.length := by rw [← h.len]; exact (List.getElem?_eq_some_iff.1 hj).1
  obtain ⟨A, n, c, e, _⟩ := h.row j R[j] (List.getElem?_eq_getElem hlt)
  rw [hj] at e
  cases e
  rfl
theorem RowsIs.append {w : World} {Y Z : List Value} {R S : List (List Nat)} (h : RowsIs w Y R) (h2 : RowsIs w Z S) : RowsIs w (Y ++ Z) (R ++ S) :=
  ⟨by rw [List.length_append, List.length_append, h.len, h2.len], fun j b hb => by
    by_cases hj : j < R.length
    · rw [List.getElem?_append_left hj] at hb
      rw [List.getElem?_append_left (by rw [h.len]; exact hj)]
      exact h.row j b hb
    · rw [List.getElem?_append_right (by omega)] at hb
      rw [List.getElem?_append_right (by rw [h.len]; omega), h.len]
      exact h2.row _ b hb⟩
theorem RowsIs.take {w : World} {Y : List Value} {R : List (List Nat)} (h : RowsIs w Y R) (k : Nat) : RowsIs w (Y.take k) (R.take k) :=
  ⟨by rw [List.length_take, List.length_take, h.len], fun j b hb => by
    rw [List.getElem?_take] at hb ⊢
    split at hb
    · rename_i hj; rw [if_pos hj]; exact h.row j b hb
    · cases hb⟩
theorem rowsIs_nil (w : World) : RowsIs w [] [] := ⟨rfl, fun j b hb => by simp at hb⟩
theorem rowsIs_one {w : World} {A : Option Addr} {n c : Nat} {b : List Nat} (h : Came w A n c b) (hn : n ≤ 140737488355328) : RowsIs w [.slice A n c] [b] := ⟨rfl, fun j x hx => by
  cases j with
  | zero => cases hx; exact ⟨A, n, c, rfl, h, hn⟩
  | succ j => simp at hx⟩
theorem rows_out {w : World} {A : Option Addr} {n : Nat} {R : List (List Nat)} (h : CameRows w A n R) : ∃ Y, RowsIs w Y R ∧ ∀ (j : Nat) (v : Value), Y[j]? = some v → ∃ ad, A = some ad ∧ w.cell? (ad.add j) = some v := by
  have key : ∀ j, j < R.length → ∃ v : Value, (∃ B m c, v = .slice B m c ∧ Came w B m c (R.getD j []) ∧ m ≤ 140737488355328) ∧ ∃ ad, A = some ad ∧ w.cell? (ad.add j) = some v := fun j hj => by
    obtain ⟨ad, B, m, c, e, hc, hcame, hm⟩ := h.row j R[j] (List.getElem?_eq_getElem hj)
    refine ⟨_, ⟨B, m, c, rfl, ?_, hm⟩, ad, e, hc⟩
    rw [List.getD_eq_getElem?_getD, List.getElem?_eq_getElem hj]
    exact hcame
  obtain ⟨f, hf⟩ := choose_lt key
  refine ⟨(List.range R.length).map f, ⟨by simp, fun j b hb => ?_⟩, fun j v hv => ?_⟩
  · have hlt := (List.getElem?_eq_some_iff.1 hb).1
    obtain ⟨⟨B, m, c, e, hcame, hm⟩, _⟩ := hf j hlt
    refine ⟨B, m, c, ?_, ?_, hm⟩
    · rw [List.getElem?_map, List.getElem?_range hlt]; simp [e]
    · rw [List.getD_eq_getElem?_getD, hb] at hcame; exact hcame
  · rw [List.getElem?_map] at hv
    obtain ⟨i, hi, rfl⟩ := Option.map_eq_some_iff.1 hv
    have hlt : j < R.length := by have := (List.getElem?_eq_some_iff.1 hi).1; simpa using this
    rw [List.getElem?_range hlt] at hi
    cases hi
    exact (hf j hlt).2

theorem rows_nil {H : Type} {enc : TypeId × Value → H} {w : World} {base : Nat} {held : Bool} {fuel n c : Nat} {A : Option Addr} {x : DataW H × List MemPlace} (h : DataW.trod enc Tryd.prog w base (fun _ => true) held fuel 31 [.slice A n c] = some x) : A = none → c = 0 := by
  intro e
  subst e
  rcases open_int_rows Tryd.underlying31 Tryd.underlying22 Tryd.underlying5 (by kernel_rfl) (by kernel_rfl) h with ⟨e, _⟩ | ⟨a, len, cap, B, L, C, Z, e, _⟩
  · simp at e; exact e.2
  · simp at e

theorem run_rapp (w : World) (ty : TypeId) (base : Nat) (A : Option Addr) (n c : Nat) (X : List Value) (hown : w.ownsRow base 22 1 (.slice A n c) n X)
    (A2 : Option Addr) (m c2 : Nat) (Y : List Value) (hl : Y.length = m) (hin : ∀ (j : Nat) (v : Value), Y[j]? = some v → ∃ ad, A2 = some ad ∧ w.cell? (ad.add j) = some v) (h1 : ∀ v ∈ Y, v.oneCell' = true) (hnil : A2 = none → c2 = 0) (hle : n + m ≤ 1000000) (hbase : base ≤ w.heap.size) :
    ∃ A' c' w', (Builtin.append_ #[31, 31] ty #[.slice A n c, .slice A2 m c2]).run Tryd.prog w = .ok (.slice A' (n + m) c') w' ∧
      w'.ownsRow base 22 1 (.slice A' (n + m) c') (n + m) (X ++ Y) ∧ Below base w w' := by
  obtain ⟨i0, hi, hz0, hz1, hz2⟩ := info_parts infoSlc
  cases A2 with
  | none =>
    obtain rfl := hnil rfl
    have hy : Y = [] := by
      cases Y with
      | nil => rfl
      | cons y ys =>
        obtain ⟨ad, e, _⟩ := hin 0 y rfl
        cases e
    subst hy
    obtain rfl : m = 0 := hl.symm
    exact ⟨A, c, w, run_append_owned_none (P := Tryd.prog) (w := w) base 31 ty 22 i0 1 Tryd.underlying31 hi _ n X hown, by simpa using hown, Below.refl _ _⟩
  | some ad =>
    obtain ⟨v', w', hr, h2, h3, _⟩ := run_append_own (P := Tryd.prog) w base 31 ty 22 i0 _ 1 24 Tryd.underlying31 hi hz0 hz1 hz2 rfl (by decide) _ n X hown ad m c2 Y (by rw [hl]; simp)
      (fun j u hu => by
        obtain ⟨ad', e, hc⟩ := hin j u hu
        cases e
        exact hc) h1 (by unfold maxLen; omega) (by omega) hbase
    have hf : ∃ A c, v' = .slice A (n + m) c := by
      rcases h2.2 with ⟨rfl, e⟩ | ⟨g, cap, cur, rfl, _⟩
      · rw [e]; exact ⟨_, _, rfl⟩
      · exact ⟨_, _, rfl⟩
    obtain ⟨A', c', rfl⟩ := hf
    exact ⟨A', c', w', hr, h2, (Below.refl _ _).grown h3 hbase fun k hk => (hown.lt k hk).1⟩

theorem step_rapp {ops : Array Oper} {o : Oper} {a : Act} {w : World} {K : Act → World → Prop} {Q : Exit → Act → World → Prop} {E : Prop} (hgd : o.guard = none) (s x : Operand)
    (ho : o.op = .call { callee := .builtin .append, args := #[s, x], argTypes := #[31, 31] })
    (base : Nat) (A : Option Addr) (n c : Nat) (X : List Value) (hs : a.eval s = .slice A n c) (hown : w.ownsRow base 22 1 (.slice A n c) n X)
    (A2 : Option Addr) (m c2 : Nat) (Y : List Value) (hx : a.eval x = .slice A2 m c2) (hl : Y.length = m) (hin : ∀ (j : Nat) (v : Value), Y[j]? = some v → ∃ ad, A2 = some ad ∧ w.cell? (ad.add j) = some v) (h1 : ∀ v ∈ Y, v.oneCell' = true) (hnil : A2 = none → c2 = 0) (N : Nat) (hN : n + m = N) (hle : N ≤ 1000000) (hbase : base ≤ w.heap.size)
    (h : ∀ A' c' w', w'.ownsRow base 22 1 (.slice A' N c') N (X ++ Y) → Below base w w' → K (a.put o.dst (.slice A' N c')) w') :
    if Region.wanted o (yielded ops a.tmps) = true then Oper.wp Tryd.prog o a w K Q else E := by
  subst hN
  have hw : Region.wanted o (yielded ops a.tmps) = true := by simp [Region.wanted, hgd]
  rw [if_pos hw]
  obtain ⟨A', c', w', hr, h2, h3⟩ := run_rapp w o.type base A n c X hown A2 m c2 Y hl hin h1 hnil hle hbase
  unfold Oper.wp execOp
  simp only [ho, resolve, invoke, builtin, Sem.run_bind, Sem.run_pure, Result.andThen_ok, List.map_toArray, List.map_cons, List.map_nil, hs, hx, hr]
  exact h A' c' w' h2 h3

/-- A row of slices in blocks of O; what they read was there at v. -/
structure RowIn (v W : World) (O : Nat → Prop) (A : Option Addr) (n : Nat) (R : List (List Nat)) : Prop where
  len : R.length = n
  row : ∀ (r : Nat) (b : List Nat), R[r]? = some b → ∃ (ad : Addr) (B : Option Addr) (m c : Nat), A = some ad ∧ O ad.block ∧ W.cell? (ad.add r) = some (Value.slice B m c) ∧ Came v B m c b ∧ m ≤ 140737488355328
section
variable {v W W' : World} {O S : Nat → Prop} {A : Option Addr} {n c : Nat} {R : List (List Nat)}
theorem RowIn.came (h : RowIn v W O A n R) (hb : Below v.heap.size v W) : CameRows W A n R := ⟨h.len, fun r b hr => by
  obtain ⟨ad, B, m, c, e, _, hc, hcame, hm⟩ := h.row r b hr
  exact ⟨ad, B, m, c, e, hc, hcame.below hb, hm⟩⟩
theorem RowIn.but (h : RowIn v W O A n R) (hb : But S W W') (hO : ∀ x, O x → ¬ S x) : RowIn v W' O A n R := ⟨h.len, fun r b hr => by
  obtain ⟨ad, B, m, c, e, ho, hc, hcame, hm⟩ := h.row r b hr
  have hlt := World.block_lt_of_cell? W _ hc
  have hbl : (ad.add r).block = ad.block := block_add _ _
  refine ⟨ad, B, m, c, e, ho, ?_, hcame, hm⟩
  exact (World.cell?_of_block (w := W) (hb.block _ hlt (by rw [hbl]; exact hO _ ho))).trans hc⟩
theorem RowIn.below (h : RowIn v W O A n R) (hb : Below W.heap.size W W') : RowIn v W' O A n R := h.but (S := fun _ => False) (But.of_below hb) (fun _ _ hf => hf)
theorem rowIn_of_own {base : Nat} {e : TypeId} {Y : List Value} (h : W.ownsRow base e 1 (.slice A n c) n Y) (hY : RowsIs v Y R) : RowIn v W (fun x => base ≤ x ∧ x < W.heap.size) A n R := by
  have hlen : R.length = n := by rw [← hY.len, h.1]; omega
  refine ⟨hlen, fun r b hr => ?_⟩
  obtain ⟨B, m, k, hy, hcame, hm⟩ := hY.row r b hr
  rcases h.2 with ⟨e1, h0⟩ | ⟨g, cap, cur, e1, hg, _⟩
  · have := (List.getElem?_eq_some_iff.1 hr).1
    omega
  · cases e1
    have hc := h.cells rfl r _ hy
    refine ⟨_, B, m, k, rfl, ⟨hg, ?_⟩, hc, hcame, hm⟩
    have := World.block_lt_of_cell? W _ hc
    rwa [block_add] at this
end

end Go.Proofs.YtcekfnngnjpeeaaDoor

/-
  Entries as they are handed on: a slice of them, its beginning, its end.
-/
namespace Go.Proofs.YtcekfnngnjpeeaaDoor
open Go.RowKit

/-- A slice of entries, none of which is long. -/
structure Ent (w : World) (A : Option Addr) (n c : Nat) (R : List (List Nat)) : Prop where
  rows : CameRows w A n R
  cap : n ≤ c
  nil : A = none → c = 0
  small : ∀ b ∈ R, b.length ≤ 20000
theorem Ent.below {w w' : World} {A : Option Addr} {n c : Nat} {R : List (List Nat)} (h : Ent w A n c R) (hb : Below w.heap.size w w') : Ent w' A n c R := ⟨h.rows.below hb, h.cap, h.nil, h.small⟩
theorem Ent.len {w : World} {A : Option Addr} {n c : Nat} {R : List (List Nat)} (h : Ent w A n c R) : R.length = n := h.rows.len
theorem Ent.take {w : World} {A : Option Addr} {n c k : Nat} {R : List (List Nat)} (h : Ent w A n c R) (hk : k ≤ n) : Ent w A k c (R.take k) :=
  ⟨⟨by rw [List.length_take, h.len]; omega, fun r xs hx => by
    rw [List.getElem?_take] at hx
    split at hx
    · exact h.rows.row r xs hx
    · cases hx⟩, Nat.le_trans hk h.cap, h.nil, fun b hb => h.small b (List.mem_of_mem_take hb)⟩
theorem Ent.drop {w : World} {ad : Addr} {n c k : Nat} {R : List (List Nat)} (h : Ent w (some ad) n c R) : Ent w (some (ad.add k)) (n - k) (c - k) (R.drop k) :=
  ⟨⟨by rw [List.length_drop, h.len], fun r xs hx => by
    rw [List.getElem?_drop] at hx
    obtain ⟨ad', B, m, d, e, hc, hcame, hm⟩ := h.rows.row _ xs hx
    cases e
    exact ⟨_, B, m, d, rfl, by rw [add_add]; exact hc, hcame, hm⟩⟩, Nat.sub_le_sub_right h.cap k, (fun e => by cases e), fun b hb => h.small b (List.mem_of_mem_drop hb)⟩
/-- The entry at a place. -/
theorem Ent.at_ {w : World} {A : Option Addr} {n c j : Nat} {R : List (List Nat)} (h : Ent w A n c R) (hj : j < n) : ∃ ad B m d b, A = some ad ∧ R[j]? = some b ∧ w.cell? (ad.add j) = some (.slice B m d) ∧ Came w B m d b ∧ m ≤ 20000 := by
  obtain ⟨b, hb⟩ : ∃ b, R[j]? = some b := ⟨_, List.getElem?_eq_getElem (by rw [h.len]; exact hj)⟩
  obtain ⟨ad, B, m, d, e, hc, hcame, _⟩ := h.rows.row j b hb
  exact ⟨ad, B, m, d, b, e, hb, hc, hcame, by have := h.small b (List.mem_of_getElem? hb); rw [hcame.in_.len] at this; exact this⟩
theorem Ent.some_ {w : World} {A : Option Addr} {n c : Nat} {R : List (List Nat)} (h : Ent w A n c R) (h0 : 0 < n) : ∃ ad, A = some ad := by
  obtain ⟨ad, _, _, _, _, e, _⟩ := h.at_ h0
  exact ⟨ad, e⟩

theorem run_takeR {A : Option Addr} {n c k : Nat} (hk : k ≤ n) (hc : n ≤ c) (hn : A = none → c = 0) (W : World) :
    (Instr.slice 31 (.slice A n c) none (some (.int .i64 (k : Int))) none).run Tryd.prog W = .ok (.slice A k c) W := by
  obtain ⟨i0, hi, hz0, hz1, hz2⟩ := info_parts infoSlc
  have he : Tryd.prog.elem 31 = 22 := by kernel_rfl
  rw [run_slice_h W 31 A n c (by rw [he]; exact Tryd.underlying31) .i64 (k : Int) (by omega) (by omega), he]
  cases A with
  | none =>
    obtain rfl := hn rfl
    obtain rfl : k = 0 := by omega
    simp [sizeOf, typeInfo, hi, hz1, sliced]
  | some ad => simp [sizeOf, typeInfo, hi, hz1, sliced, add_zero']
theorem run_dropR {ad : Addr} {n c k : Nat} (hk : k < n) (hc : n ≤ c) (W : World) :
    (Instr.slice 31 (.slice (some ad) n c) (some (.int .i64 (k : Int))) none none).run Tryd.prog W = .ok (.slice (some (ad.add k)) (n - k) (c - k)) W := by
  obtain ⟨i0, hi, hz0, hz1, hz2⟩ := info_parts infoSlc
  have he : Tryd.prog.elem 31 = 22 := by kernel_rfl
  rw [run_slice_l W 31 (some ad) n c (by rw [he]; exact Tryd.underlying31) .i64 (k : Int) (by omega) (by omega), he]
  have hne : c ≠ k := by omega
  simp [sizeOf, typeInfo, hi, hz1, sliced, hne]

end Go.Proofs.YtcekfnngnjpeeaaDoor

/-
  clashes.parted: the first entries of both lists, and the others.
-/
namespace Go.Proofs.YtcekfnngnjpeeaaDoor
open Go.RowKit

theorem infoRws : (Tryd.prog.info? 31).map (fun i => (i.zero, i.size, i.bytes)) = some (some (.slice none 0 0), 1, 24) := by kernel_rfl
theorem sizeBoth : (Tryd.prog.info? 60).map (·.size) = some 2 := by kernel_rfl
theorem run_load_both {w : World} {ad : Addr} {x y : Value} (h0 : w.cell? ad = some x) (h1 : w.cell? (ad.add 1) = some y) : (loadVar 60 ad).run Tryd.prog w = .ok (.agg #[x, y]) w := by
  have hl := cells_at h0 h1
  have hagg : (isAgg 60).run Tryd.prog w = .ok true w := by
    unfold isAgg
    rw [Sem.run_bind, run_underlying Tryd.underlying60 w]
    rfl
  cases hq : Tryd.prog.info? 60 with
  | none => have := sizeBoth; simp [hq] at this
  | some i =>
    have hs : i.size = 2 := by have := sizeBoth; simpa [hq] using this
    simp [loadVar, Sem.run_bind, hagg, sizeOf, typeInfo, hq, hs, hl]

/-- One of both. -/
theorem run_index_both (x y : Value) (j : Nat) (v : Value) (hv : #[x, y][j]? = some v) (w : World) : (Instr.index 60 (.agg #[x, y]) (.int .i64 (j : Int))).run Tryd.prog w = .ok v w := by
  obtain ⟨i0, hi, hz0, hz1, hz2⟩ := info_parts infoRws
  have hj : j < 2 := (Array.getElem?_eq_some_iff.1 hv).1
  have hv' : [x, y][j]? = some v := by simpa using hv
  simp [Instr.index, run_underlying Tryd.underlying60, asIntOf, sizeOf, typeInfo, hi, hz1, part]
  rw [if_pos hj, hv']
  rfl

theorem load_both_op {o : Oper} {a : Act} {W : World} {g : Nat} {T : TypeId} {x y : Value} (p : Operand) (ho : o.op = .load 60 p) (hp : a.eval p = .pointer (some ⟨g, 0, none⟩)) (h : Cells W g T #[x, y]) : (execOp a.eval o).run Tryd.prog W = .ok (.value (.agg #[x, y])) W := by
  unfold execOp
  simp only [ho, hp, Instr.loadAt, Instr.sureAddr, Sem.run_bind, Sem.run_pure, Result.andThen_ok, run_load_both (h.cell 0 (v := x) rfl) (h.cell 1 (v := y) rfl)]
theorem Cells.set {w : World} {g : Nat} {T : TypeId} {cs : Array Value} (h : Cells w g T cs) (i : Nat) (v : Value) : Cells (w.setCell ⟨g, i, none⟩ v) g T (cs.setIfInBounds i v) := by
  unfold Cells
  rw [heap_setCell_same w g i _ T _ h]
theorem Cells.set_other {w : World} {g : Nat} {T : TypeId} {cs : Array Value} (h : Cells w g T cs) (a : Addr) (v : Value) (hne : g ≠ a.block) : Cells (w.setCell a v) g T cs := by
  unfold Cells
  rw [heap_setCell_other w a g v hne]
  exact h
theorem below_setC {g : Nat} {w w' : World} {a : Addr} {v : Value} (h : Below g w w') (ha : g ≤ a.block) : Below g w (w'.setCell a v) :=
  ⟨h.os, h.tape, h.output, by rw [World.size_setCell]; exact h.size, fun b hb => (heap_setCell_other w' a b v (by omega)).trans (h.block b hb)⟩
/-- Two results that lie in memory. -/
theorem results_cell_cell {P : Program} {fn : Func} {p q : Tmp} {ty ty2 : TypeId} (h : fn.results = #[.cell p ty, .cell q ty2]) (tmps : Array Value) (w : World) (ad ad2 : Addr) (v v2 : Value)
    (hp : tmps.getD p undef = .pointer (some ad)) (hq : tmps.getD q undef = .pointer (some ad2)) (hl : (loadVar ty ad).run P w = .ok v w) (hl2 : (loadVar ty2 ad2).run P w = .ok v2 w) : (results fn tmps).run P w = .ok (.tuple #[v, v2]) w := by
  have hp' : tmps[p]?.getD undef = .pointer (some ad) := by simpa using hp
  have hq' : tmps[q]?.getD undef = .pointer (some ad2) := by simpa using hq
  simp [results, h, hp', hq', asAddr, hl, hl2]

/-- What stands in 'first', in 'others' behind j rounds. -/
def firstsA (u v : Value) : Nat → Array Value
  | 0 => #[.slice none 0 0, .slice none 0 0]
  | 1 => #[u, .slice none 0 0]
  | _ => #[u, v]

set_option maxRecDepth 100000 in
set_option maxHeartbeats 4000000 in
theorem parted_any {w : World} {A B : Addr} {n c m d k : Nat} (hkn : k < n) (hkm : k < m) (hn : n ≤ c) (hm : m ≤ d) :
    Calls Tryd.prog 57 #[.agg #[.slice (some A) n c, .slice (some B) m d], .int .i64 (k : Int)] w fun e w' =>
      e = .returned (.tuple #[.agg #[.slice (some A) k c, .slice (some B) k d], .agg #[.slice (some (A.add k)) (n - k) (c - k), .slice (some (B.add k)) (m - k) (d - k)]]) ∧ Below w.heap.size w w' := by
  obtain ⟨g, hg⟩ : ∃ g, w.heap.size = g := ⟨_, rfl⟩
  have h0 := Cells.new w 60 #[.slice (some A) n c, .slice (some B) m d]
  have b0 := below_alloc w (.cells #[.slice (some A) n c, .slice (some B) m d] 60)
  obtain ⟨w0, e0⟩ : ∃ w0, w0 = w.alloc (.cells #[.slice (some A) n c, .slice (some B) m d] 60) := ⟨_, rfl⟩
  have s0 : w0.heap.size = g + 1 := by rw [e0]; simp [hg]
  rw [← e0] at h0 b0
  have h1 := Cells.new w0 60 #[.slice none 0 0, .slice none 0 0]
  have b1 := below_alloc w0 (.cells #[.slice none 0 0, .slice none 0 0] 60)
  obtain ⟨w1, e1⟩ : ∃ w1, w1 = w0.alloc (.cells #[.slice none 0 0, .slice none 0 0] 60) := ⟨_, rfl⟩
  have s1 : w1.heap.size = g + 2 := by rw [e1]; simp [s0]
  rw [← e1] at h1 b1
  have h2 := Cells.new w1 60 #[.slice none 0 0, .slice none 0 0]
  have b2 := below_alloc w1 (.cells #[.slice none 0 0, .slice none 0 0] 60)
  obtain ⟨w2, e2⟩ : ∃ w2, w2 = w1.alloc (.cells #[.slice none 0 0, .slice none 0 0] 60) := ⟨_, rfl⟩
  have s2 : w2.heap.size = g + 3 := by rw [e2]; simp [s1]
  rw [← e2] at h2 b2
  rw [hg] at h0 b0
  rw [s0] at h1
  rw [s1] at h2
  have hb := below_on (below_on b0 (by omega) b1) (by omega) b2
  have x0 : w2.cell? ⟨g, 0, none⟩ = some (.slice (some A) n c) := ((h0.below b1).below b2).cell 0 rfl
  have x1 : w2.cell? ⟨g, 1, none⟩ = some (.slice (some B) m d) := ((h0.below b1).below b2).cell 1 rfl
  have HI := Lib.hid (And.intro (h1.below b2) (And.intro h2 hb))
  have HW := Lib.hid (show w2 = ((w.alloc (.cells #[.slice (some A) n c, .slice (some B) m d] 60)).alloc (.cells #[.slice none 0 0, .slice none 0 0] 60)).alloc (.cells #[.slice none 0 0, .slice none 0 0] 60) by rw [e2, e1, e0])
  have t1 := fun W => run_takeR (A := some A) (n := n) (c := c) (k := k) (by omega) hn (fun e => by cases e) W
  have t2 := fun W => run_takeR (A := some B) (n := m) (c := d) (k := k) (by omega) hm (fun e => by cases e) W
  have t3 := fun W => run_dropR (ad := A) (n := n) (c := c) (k := k) hkn hn W
  have t4 := fun W => run_dropR (ad := B) (n := m) (c := d) (k := k) hkm hm W
  have ix0 : ∀ W : World, (Instr.index 60 (.agg #[.slice (some A) n c, .slice (some B) m d]) (.int .i64 0)).run Tryd.prog W = .ok (.slice (some A) n c) W := fun W => run_index_both _ _ 0 _ rfl W
  have ix1 : ∀ W : World, (Instr.index 60 (.agg #[.slice (some A) n c, .slice (some B) m d]) (.int .i64 1)).run Tryd.prog W = .ok (.slice (some B) m d) W := fun W => run_index_both _ _ 1 _ rfl W
  have HG := Lib.hid hg
  rw [hg]
  clear h0 b0 e0 s0 h1 b1 e1 s1 h2 b2 e2 s2 hb hkn hkm hn hm hg
  go_enter Tryd.func57, Tryd.ntmps57
  go_upto_region 1 with fail
  rw [← HW.out]
  rw [HG.out]
  go_wp2
  go_loopw [6, 7, 9] (fun _ _ i wr => ∃ j : Nat, j ≤ 2 ∧ i = .int .i64 (j : Int) ∧ Hid (Cells wr (g + 1) 60 (firstsA (.slice (some A) k c) (.slice (some B) k d) j) ∧ Cells wr (g + 2) 60 (firstsA (.slice (some (A.add k)) (n - k) (c - k)) (.slice (some (B.add k)) (m - k) (d - k)) j) ∧ Below g w wr)) (fun _ _ i _ => 2 - (intOf i).toNat)
  case atStart => exact ⟨0, by omega, rfl, HI⟩
  case round =>
    obtain ⟨j, hj, rfl, HR⟩ := hrel
    obtain rfl | rfl | rfl : j = 0 ∨ j = 1 ∨ j = 2 := by omega
    · have c1 := HR.out.1.cell 0 (v := .slice none 0 0) rfl
      have c2 := HR.out.2.1.cell 0 (v := .slice none 0 0) rfl
      have f1 := HR.out.1.free 0
      have f2 := HR.out.2.1.free 0
      go_upto_region 4 with fail
      refine wp_region_held_drew (S := fun _ => True) (by kernel_rfl) trivial (fun _ => ?_)
      change wpAnyH _ _ _ _ _ _ _ _ wr.drew
      refine' wpAnyH_take (i := 0) (oi := _) (v := _) ?hia0 (by kernel_rfl) ?hfa0 ?hra0 ?hQa0 ?hya0 trivial ?resta0
      case hia0 => (simp only [List.getElem?_toArray, List.getElem?_cons_zero]; rfl)
      case hfa0 => kernel_rfl
      case hra0 => kernel_rfl
      case hQa0 => exact fun _ _ _ h => h
      case hya0 => refine Or.inl ⟨by rfl, ?_⟩; intro W hSw; go_simp; try with_reducible rfl
      try simp only [Act.put, List.setIfInBounds_toArray, List.set_cons_zero, List.set_cons_succ]
      refine' wpAnyH_take (i := 1) (oi := _) (v := _) ?hia1 (by kernel_rfl) ?hfa1 ?hra1 ?hQa1 ?hya1 trivial ?resta1
      case hia1 => (simp only [List.getElem?_toArray, List.getElem?_cons_zero, List.getElem?_cons_succ]; rfl)
      case hfa1 => kernel_rfl
      case hra1 => kernel_rfl
      case hQa1 => exact fun _ _ _ h => h
      case hya1 => refine Or.inl ⟨by rfl, ?_⟩; intro W hSw; go_simp; try with_reducible rfl
      try simp only [Act.put, List.setIfInBounds_toArray, List.set_cons_zero, List.set_cons_succ]
      refine' wpAnyH_take (i := 2) (oi := _) (v := _) ?hia2 (by kernel_rfl) ?hfa2 ?hra2 ?hQa2 ?hya2 trivial ?resta2
      case hia2 => (simp only [List.getElem?_toArray, List.getElem?_cons_zero, List.getElem?_cons_succ]; rfl)
      case hfa2 => kernel_rfl
      case hra2 => kernel_rfl
      case hQa2 => exact fun _ _ _ h => h
      case hya2 => refine Or.inl ⟨by rfl, ?_⟩; intro W hSw; go_simp; try with_reducible rfl
      try simp only [Act.put, List.setIfInBounds_toArray, List.set_cons_zero, List.set_cons_succ]
      refine' wpAnyH_take (i := 3) (oi := _) (v := _) ?hia3 (by kernel_rfl) ?hfa3 ?hra3 ?hQa3 ?hya3 trivial ?resta3
      case hia3 => (simp only [List.getElem?_toArray, List.getElem?_cons_zero, List.getElem?_cons_succ]; rfl)
      case hfa3 => kernel_rfl
      case hra3 => kernel_rfl
      case hQa3 => exact fun _ _ _ h => h
      case hya3 => refine Or.inl ⟨by rfl, ?_⟩; intro W hSw; go_simp; try with_reducible rfl
      try simp only [Act.put, List.setIfInBounds_toArray, List.set_cons_zero, List.set_cons_succ]
      refine' wpAnyH_take (i := 4) (oi := _) (v := _) ?hia4 (by kernel_rfl) ?hfa4 ?hra4 ?hQa4 ?hya4 trivial ?resta4
      case hia4 => (simp only [List.getElem?_toArray, List.getElem?_cons_zero, List.getElem?_cons_succ]; rfl)
      case hfa4 => kernel_rfl
      case hra4 => kernel_rfl
      case hQa4 => exact fun _ _ _ h => h
      case hya4 => refine Or.inl ⟨by rfl, ?_⟩; intro W hSw; go_simp; try with_reducible rfl
      try simp only [Act.put, List.setIfInBounds_toArray, List.set_cons_zero, List.set_cons_succ]
      refine' wpAnyH_take (i := 5) (oi := _) (v := _) ?hia5 (by kernel_rfl) ?hfa5 ?hra5 ?hQa5 ?hya5 trivial ?resta5
      case hia5 => (simp only [List.getElem?_toArray, List.getElem?_cons_zero, List.getElem?_cons_succ]; rfl)
      case hfa5 => kernel_rfl
      case hra5 => kernel_rfl
      case hQa5 => exact fun _ _ _ h => h
      case hya5 => refine Or.inl ⟨by rfl, ?_⟩; intro W hSw; go_simp; try with_reducible rfl
      try simp only [Act.put, List.setIfInBounds_toArray, List.set_cons_zero, List.set_cons_succ]
      refine' wpAnyH_take (i := 6) (oi := _) (v := _) ?hia6 (by kernel_rfl) ?hfa6 ?hra6 ?hQa6 ?hya6 trivial ?resta6
      case hia6 => (simp only [List.getElem?_toArray, List.getElem?_cons_zero, List.getElem?_cons_succ]; rfl)
      case hfa6 => kernel_rfl
      case hra6 => kernel_rfl
      case hQa6 => exact fun _ _ _ h => h
      case hya6 => refine Or.inl ⟨by rfl, ?_⟩; intro W hSw; go_simp; try with_reducible rfl
      try simp only [Act.put, List.setIfInBounds_toArray, List.set_cons_zero, List.set_cons_succ]
      refine' wpAnyH_take (i := 7) (oi := _) (v := _) ?hia7 (by kernel_rfl) ?hfa7 ?hra7 ?hQa7 ?hya7 trivial ?resta7
      case hia7 => (simp only [List.getElem?_toArray, List.getElem?_cons_zero, List.getElem?_cons_succ]; rfl)
      case hfa7 => kernel_rfl
      case hra7 => kernel_rfl
      case hQa7 => exact fun _ _ _ h => h
      case hya7 => refine Or.inl ⟨by rfl, ?_⟩; intro W hSw; go_simp; try with_reducible rfl
      try simp only [Act.put, List.setIfInBounds_toArray, List.set_cons_zero, List.set_cons_succ]
      refine' wpAnyH_take (i := 8) (oi := _) (v := _) ?hia8 (by kernel_rfl) ?hfa8 ?hra8 ?hQa8 ?hya8 trivial ?resta8
      case hia8 => (simp only [List.getElem?_toArray, List.getElem?_cons_zero, List.getElem?_cons_succ]; rfl)
      case hfa8 => kernel_rfl
      case hra8 => kernel_rfl
      case hQa8 => exact fun _ _ _ h => h
      case hya8 => refine Or.inl ⟨by rfl, ?_⟩; intro W hSw; go_simp; try with_reducible rfl
      try simp only [Act.put, List.setIfInBounds_toArray, List.set_cons_zero, List.set_cons_succ]
      refine wpAnyH_ready (rs := [9]) (by kernel_rfl) (by simp) ?_
      refine' AllReadyH.cons (o := _) ?hia9 (fun K hK => ?_) AllReadyH.nil
      case hia9 => (simp only [List.getElem?_toArray, List.getElem?_cons_zero, List.getElem?_cons_succ]; rfl)
      rw [if_pos (by rfl)]
      go_simp
      refine hK.out _ _ trivial (fun _ => ?_)
      clear hK K
      try simp only [Act.put, List.setIfInBounds_toArray, List.set_cons_zero, List.set_cons_succ]
      have e1 := HR.out.1.set 0 (.slice (some A) k c)
      have e2 := HR.out.2.1.set_other ⟨g + 1, 0, none⟩ (.slice (some A) k c) (by simp)
      have e3 : Below g w (wr.setCell ⟨g + 1, 0, none⟩ (.slice (some A) k c)) := below_setC HR.out.2.2 (by simp)
      generalize (wr.setCell ⟨g + 1, 0, none⟩ (.slice (some A) k c)) = wy at e1 e2 e3 ⊢
      have c2 : wy.drew.cell? ⟨g + 2, 0, none⟩ = some (.slice none 0 0) := e2.cell 0 rfl
      have f2 : wy.drew.frozen? ⟨g + 2, 0, none⟩ = false := e2.free 0
      refine' wpAnyH_take (i := 10) (oi := _) (v := _) ?hia10 (by kernel_rfl) ?hfa10 ?hra10 ?hQa10 ?hya10 trivial ?resta10
      case hia10 => (simp only [List.getElem?_toArray, List.getElem?_cons_zero, List.getElem?_cons_succ]; rfl)
      case hfa10 => kernel_rfl
      case hra10 => kernel_rfl
      case hQa10 => exact fun _ _ _ h => h
      case hya10 => refine Or.inl ⟨by rfl, ?_⟩; intro W hSw; go_simp; try with_reducible rfl
      try simp only [Act.put, List.setIfInBounds_toArray, List.set_cons_zero, List.set_cons_succ]
      refine wpAnyH_ready (rs := [11]) (by kernel_rfl) (by simp) ?_
      refine' AllReadyH.cons (o := _) ?hia11 (fun K hK => ?_) AllReadyH.nil
      case hia11 => (simp only [List.getElem?_toArray, List.getElem?_cons_zero, List.getElem?_cons_succ]; rfl)
      rw [if_pos (by rfl)]
      go_simp
      refine hK.out _ _ trivial (fun _ => ?_)
      clear hK K
      try simp only [Act.put]
      have e4 := e2.set 0 (.slice (some (A.add k)) (n - k) (c - k))
      have e5 := e1.set_other ⟨g + 2, 0, none⟩ (.slice (some (A.add k)) (n - k) (c - k)) (by simp)
      have e6 : Below g w (wy.setCell ⟨g + 2, 0, none⟩ (.slice (some (A.add k)) (n - k) (c - k))) := below_setC e3 (by simp)
      generalize (wy.setCell ⟨g + 2, 0, none⟩ (.slice (some (A.add k)) (n - k) (c - k))) = wz at e4 e5 e6 ⊢
      clear c1 c2 f1 f2 e1 e2 e3
      refine wpAnyH_done (by kernel_rfl) ?_ _
      go_wp2_with fail
      go_roundw
      case rel => exact ⟨1, by omega, by go_num, Lib.hid ⟨e5, e4, e6.drew⟩⟩
      case measure => simp [intOf]
    · have c1 := HR.out.1.cell 1 (v := .slice none 0 0) rfl
      have c2 := HR.out.2.1.cell 1 (v := .slice none 0 0) rfl
      have f1 := HR.out.1.free 1
      have f2 := HR.out.2.1.free 1
      go_upto_region 4 with fail
      refine wp_region_held_drew (S := fun _ => True) (by kernel_rfl) trivial (fun _ => ?_)
      change wpAnyH _ _ _ _ _ _ _ _ wr.drew
      refine' wpAnyH_take (i := 0) (oi := _) (v := _) ?hib0 (by kernel_rfl) ?hfb0 ?hrb0 ?hQb0 ?hyb0 trivial ?restb0
      case hib0 => (simp only [List.getElem?_toArray, List.getElem?_cons_zero]; rfl)
      case hfb0 => kernel_rfl
      case hrb0 => kernel_rfl
      case hQb0 => exact fun _ _ _ h => h
      case hyb0 => refine Or.inl ⟨by rfl, ?_⟩; intro W hSw; go_simp; try with_reducible rfl
      try simp only [Act.put, List.setIfInBounds_toArray, List.set_cons_zero, List.set_cons_succ]
      refine' wpAnyH_take (i := 1) (oi := _) (v := _) ?hib1 (by kernel_rfl) ?hfb1 ?hrb1 ?hQb1 ?hyb1 trivial ?restb1
      case hib1 => (simp only [List.getElem?_toArray, List.getElem?_cons_zero, List.getElem?_cons_succ]; rfl)
      case hfb1 => kernel_rfl
      case hrb1 => kernel_rfl
      case hQb1 => exact fun _ _ _ h => h
      case hyb1 => refine Or.inl ⟨by rfl, ?_⟩; intro W hSw; go_simp; try with_reducible rfl
      try simp only [Act.put, List.setIfInBounds_toArray, List.set_cons_zero, List.set_cons_succ]
      refine' wpAnyH_take (i := 2) (oi := _) (v := _) ?hib2 (by kernel_rfl) ?hfb2 ?hrb2 ?hQb2 ?hyb2 trivial ?restb2
      case hib2 => (simp only [List.getElem?_toArray, List.getElem?_cons_zero, List.getElem?_cons_succ]; rfl)
      case hfb2 => kernel_rfl
      case hrb2 => kernel_rfl
      case hQb2 => exact fun _ _ _ h => h
      case hyb2 => refine Or.inl ⟨by rfl, ?_⟩; intro W hSw; go_simp; try with_reducible rfl
      try simp only [Act.put, List.setIfInBounds_toArray, List.set_cons_zero, List.set_cons_succ]
      refine' wpAnyH_take (i := 3) (oi := _) (v := _) ?hib3 (by kernel_rfl) ?hfb3 ?hrb3 ?hQb3 ?hyb3 trivial ?restb3
      case hib3 => (simp only [List.getElem?_toArray, List.getElem?_cons_zero, List.getElem?_cons_succ]; rfl)
      case hfb3 => kernel_rfl
      case hrb3 => kernel_rfl
      case hQb3 => exact fun _ _ _ h => h
      case hyb3 => refine Or.inl ⟨by rfl, ?_⟩; intro W hSw; go_simp; try with_reducible rfl
      try simp only [Act.put, List.setIfInBounds_toArray, List.set_cons_zero, List.set_cons_succ]
      refine' wpAnyH_take (i := 4) (oi := _) (v := _) ?hib4 (by kernel_rfl) ?hfb4 ?hrb4 ?hQb4 ?hyb4 trivial ?restb4
      case hib4 => (simp only [List.getElem?_toArray, List.getElem?_cons_zero, List.getElem?_cons_succ]; rfl)
      case hfb4 => kernel_rfl
      case hrb4 => kernel_rfl
      case hQb4 => exact fun _ _ _ h => h
      case hyb4 => refine Or.inl ⟨by rfl, ?_⟩; intro W hSw; go_simp; try with_reducible rfl
      try simp only [Act.put, List.setIfInBounds_toArray, List.set_cons_zero, List.set_cons_succ]
      refine' wpAnyH_take (i := 5) (oi := _) (v := _) ?hib5 (by kernel_rfl) ?hfb5 ?hrb5 ?hQb5 ?hyb5 trivial ?restb5
      case hib5 => (simp only [List.getElem?_toArray, List.getElem?_cons_zero, List.getElem?_cons_succ]; rfl)
      case hfb5 => kernel_rfl
      case hrb5 => kernel_rfl
      case hQb5 => exact fun _ _ _ h => h
      case hyb5 => refine Or.inl ⟨by rfl, ?_⟩; intro W hSw; go_simp; try with_reducible rfl
      try simp only [Act.put, List.setIfInBounds_toArray, List.set_cons_zero, List.set_cons_succ]
      refine' wpAnyH_take (i := 6) (oi := _) (v := _) ?hib6 (by kernel_rfl) ?hfb6 ?hrb6 ?hQb6 ?hyb6 trivial ?restb6
      case hib6 => (simp only [List.getElem?_toArray, List.getElem?_cons_zero, List.getElem?_cons_succ]; rfl)
      case hfb6 => kernel_rfl
      case hrb6 => kernel_rfl
      case hQb6 => exact fun _ _ _ h => h
      case hyb6 => refine Or.inl ⟨by rfl, ?_⟩; intro W hSw; go_simp; try with_reducible rfl
      try simp only [Act.put, List.setIfInBounds_toArray, List.set_cons_zero, List.set_cons_succ]
      refine' wpAnyH_take (i := 7) (oi := _) (v := _) ?hib7 (by kernel_rfl) ?hfb7 ?hrb7 ?hQb7 ?hyb7 trivial ?restb7
      case hib7 => (simp only [List.getElem?_toArray, List.getElem?_cons_zero, List.getElem?_cons_succ]; rfl)
      case hfb7 => kernel_rfl
      case hrb7 => kernel_rfl
      case hQb7 => exact fun _ _ _ h => h
      case hyb7 => refine Or.inl ⟨by rfl, ?_⟩; intro W hSw; go_simp; try with_reducible rfl
      try simp only [Act.put, List.setIfInBounds_toArray, List.set_cons_zero, List.set_cons_succ]
      refine' wpAnyH_take (i := 8) (oi := _) (v := _) ?hib8 (by kernel_rfl) ?hfb8 ?hrb8 ?hQb8 ?hyb8 trivial ?restb8
      case hib8 => (simp only [List.getElem?_toArray, List.getElem?_cons_zero, List.getElem?_cons_succ]; rfl)
      case hfb8 => kernel_rfl
      case hrb8 => kernel_rfl
      case hQb8 => exact fun _ _ _ h => h
      case hyb8 => refine Or.inl ⟨by rfl, ?_⟩; intro W hSw; go_simp; try with_reducible rfl
      try simp only [Act.put, List.setIfInBounds_toArray, List.set_cons_zero, List.set_cons_succ]
      refine wpAnyH_ready (rs := [9]) (by kernel_rfl) (by simp) ?_
      refine' AllReadyH.cons (o := _) ?hib9 (fun K hK => ?_) AllReadyH.nil
      case hib9 => (simp only [List.getElem?_toArray, List.getElem?_cons_zero, List.getElem?_cons_succ]; rfl)
      rw [if_pos (by rfl)]
      go_simp
      refine hK.out _ _ trivial (fun _ => ?_)
      clear hK K
      try simp only [Act.put, List.setIfInBounds_toArray, List.set_cons_zero, List.set_cons_succ]
      have e1 := HR.out.1.set 1 (.slice (some B) k d)
      have e2 := HR.out.2.1.set_other ⟨g + 1, 1, none⟩ (.slice (some B) k d) (by simp)
      have e3 : Below g w (wr.setCell ⟨g + 1, 1, none⟩ (.slice (some B) k d)) := below_setC HR.out.2.2 (by simp)
      generalize (wr.setCell ⟨g + 1, 1, none⟩ (.slice (some B) k d)) = wy at e1 e2 e3 ⊢
      have c2 : wy.drew.cell? ⟨g + 2, 1, none⟩ = some (.slice none 0 0) := e2.cell 1 rfl
      have f2 : wy.drew.frozen? ⟨g + 2, 1, none⟩ = false := e2.free 1
      refine' wpAnyH_take (i := 10) (oi := _) (v := _) ?hib10 (by kernel_rfl) ?hfb10 ?hrb10 ?hQb10 ?hyb10 trivial ?restb10
      case hib10 => (simp only [List.getElem?_toArray, List.getElem?_cons_zero, List.getElem?_cons_succ]; rfl)
      case hfb10 => kernel_rfl
      case hrb10 => kernel_rfl
      case hQb10 => exact fun _ _ _ h => h
      case hyb10 => refine Or.inl ⟨by rfl, ?_⟩; intro W hSw; go_simp; try with_reducible rfl
      try simp only [Act.put, List.setIfInBounds_toArray, List.set_cons_zero, List.set_cons_succ]
      refine wpAnyH_ready (rs := [11]) (by kernel_rfl) (by simp) ?_
      refine' AllReadyH.cons (o := _) ?hib11 (fun K hK => ?_) AllReadyH.nil
      case hib11 => (simp only [List.getElem?_toArray, List.getElem?_cons_zero, List.getElem?_cons_succ]; rfl)
      rw [if_pos (by rfl)]
      go_simp
      refine hK.out _ _ trivial (fun _ => ?_)
      clear hK K
      try simp only [Act.put]
      have e4 := e2.set 1 (.slice (some (B.add k)) (m - k) (d - k))
      have e5 := e1.set_other ⟨g + 2, 1, none⟩ (.slice (some (B.add k)) (m - k) (d - k)) (by simp)
      have e6 : Below g w (wy.setCell ⟨g + 2, 1, none⟩ (.slice (some (B.add k)) (m - k) (d - k))) := below_setC e3 (by simp)
      generalize (wy.setCell ⟨g + 2, 1, none⟩ (.slice (some (B.add k)) (m - k) (d - k))) = wz at e4 e5 e6 ⊢
      clear c1 c2 f1 f2 e1 e2 e3
      refine wpAnyH_done (by kernel_rfl) ?_ _
      go_wp2_with fail
      go_roundw
      case rel => exact ⟨2, by omega, by go_num, Lib.hid ⟨e5, e4, e6.drew⟩⟩
      case measure => simp [intOf]
    · have H := Lib.hid HR.out
      clear HR
      have c0 := H.out.1.cell 0 (v := .slice (some A) k c) rfl
      go_upto_region 6 with fail
      refine wp_region_held_drew (S := fun W => Cells W (g + 1) 60 #[.slice (some A) k c, .slice (some B) k d] ∧ Cells W (g + 2) 60 #[.slice (some (A.add k)) (n - k) (c - k), .slice (some (B.add k)) (m - k) (d - k)]) (by kernel_rfl) ⟨H.out.1, H.out.2.1⟩ (fun hS0 => ?_)
      change wpAnyH _ _ _ _ _ _ _ _ wr.drew
      refine' wpAnyH_take (i := 0) (oi := _) (v := .agg #[.slice (some A) k c, .slice (some B) k d]) ?hiz0 (by kernel_rfl) ?hfz0 ?hrz0 ?hQz0 ?hyz0 hS0 ?restz0
      case hiz0 => (simp only [List.getElem?_toArray, List.getElem?_cons_zero]; rfl)
      case hfz0 => kernel_rfl
      case hrz0 => kernel_rfl
      case hQz0 => exact fun _ _ _ h => h
      case hyz0 => refine Or.inl ⟨by rfl, ?_⟩; intro W hSw; exact load_both_op (.tmp 4) (by rfl) (by rfl) hSw.1
      try simp only [Act.put, List.setIfInBounds_toArray, List.set_cons_zero, List.set_cons_succ]
      refine' wpAnyH_take (i := 1) (oi := _) (v := .agg #[.slice (some (A.add k)) (n - k) (c - k), .slice (some (B.add k)) (m - k) (d - k)]) ?hiz1 (by kernel_rfl) ?hfz1 ?hrz1 ?hQz1 ?hyz1 hS0 ?restz1
      case hiz1 => (simp only [List.getElem?_toArray, List.getElem?_cons_zero, List.getElem?_cons_succ]; rfl)
      case hfz1 => kernel_rfl
      case hrz1 => kernel_rfl
      case hQz1 => exact fun _ _ _ h => h
      case hyz1 => refine Or.inl ⟨by rfl, ?_⟩; intro W hSw; exact load_both_op (.tmp 5) (by rfl) (by rfl) hSw.2
      try simp only [Act.put, List.setIfInBounds_toArray, List.set_cons_zero, List.set_cons_succ]
      refine wpAnyH_ready (rs := [2]) (by kernel_rfl) (by simp) ?_
      refine' AllReadyH.cons (o := _) ?hiz2 (fun K hK => ?_) AllReadyH.nil
      case hiz2 => (simp only [List.getElem?_toArray, List.getElem?_cons_zero, List.getElem?_cons_succ]; rfl)
      rw [if_pos (by rfl)]
      refine wp_store_row 60 (.tmp 4) (.tmp 24) rfl (g + 1) #[.slice (some A) k c, .slice (some B) k d] rfl rfl 60 _ hS0.1 sizeBoth rfl (by simp [Value.oneCell']) ?_
      have y1 := H.out.1.setRow #[.slice (some A) k c, .slice (some B) k d]
      have y2 := H.out.2.1.setRow_other (g + 1) (by omega) #[.slice (some A) k c, .slice (some B) k d]
      have y3 := below_setRow H.out.2.2 (show g ≤ g + 1 by omega) #[.slice (some A) k c, .slice (some B) k d]
      refine hK.out _ _ ⟨y1, y2⟩ (fun hS1 => ?_)
      clear hK K
      try simp only [Act.put]
      generalize hwy : wr.setRow (g + 1) #[.slice (some A) k c, .slice (some B) k d] = wy at y1 y2 y3
      change wpAnyH _ _ _ _ _ _ _ _ (wr.setRow (g + 1) #[.slice (some A) k c, .slice (some B) k d]).drew
      change _ ∧ _ at hS1
      rw [hwy]
      refine wpAnyH_ready (rs := [3]) (by kernel_rfl) (by simp) ?_
      refine' AllReadyH.cons (o := _) ?hiz3 (fun K hK => ?_) AllReadyH.nil
      case hiz3 => (simp only [List.getElem?_toArray, List.getElem?_cons_zero, List.getElem?_cons_succ]; rfl)
      rw [if_pos (by rfl)]
      refine wp_store_row 60 (.tmp 5) (.tmp 25) rfl (g + 2) #[.slice (some (A.add k)) (n - k) (c - k), .slice (some (B.add k)) (m - k) (d - k)] rfl rfl 60 _ y2 sizeBoth rfl (by simp [Value.oneCell']) ?_
      have z1 := y1.setRow_other (g + 2) (by omega) #[.slice (some (A.add k)) (n - k) (c - k), .slice (some (B.add k)) (m - k) (d - k)]
      have z2 := y2.setRow #[.slice (some (A.add k)) (n - k) (c - k), .slice (some (B.add k)) (m - k) (d - k)]
      have z3 := below_setRow y3.drew (show g ≤ g + 2 by omega) #[.slice (some (A.add k)) (n - k) (c - k), .slice (some (B.add k)) (m - k) (d - k)]
      refine hK.out _ _ ⟨z1, z2⟩ (fun hS2 => ?_)
      clear hK K
      try simp only [Act.put]
      refine wpAnyH_done (by kernel_rfl) ?_ _
      go_wp2_with fail
      refine bodyPost_ret_by (results_cell_cell (p := 4) (q := 5) (ty := 60) (ty2 := 60) (by kernel_rfl) _ _ ⟨g + 1, 0, none⟩ ⟨g + 2, 0, none⟩ _ _ rfl rfl (run_load_both (z1.cell 0 rfl) (z1.cell 1 rfl)) (run_load_both (z2.cell 0 rfl) (z2.cell 1 rfl))) rfl ?_
      exact ⟨rfl, z3⟩

end Go.Proofs.YtcekfnngnjpeeaaDoor

/-
  A variable of one cell, in a block of its own.
-/
namespace Go.Proofs.YtcekfnngnjpeeaaDoor
open Go.RowKit

/-- Block g is a variable of one cell. -/
def VarAt (w : World) (g : Nat) (T : TypeId) (v : Value) : Prop := w.heap[g]? = some (.cells #[v] T (0, 0))
section
variable {w w' : World} {g : Nat} {T : TypeId} {v : Value}
theorem VarAt.cell (h : VarAt w g T v) : w.cell? ⟨g, 0, none⟩ = some v := by rw [cell_of_row _ g 0 _ T (0, 0) h]; rfl
theorem VarAt.free (h : VarAt w g T v) : w.frozen? ⟨g, 0, none⟩ = false := frozen_of_row w g 0 _ T h
theorem VarAt.below (h : VarAt w g T v) (hb : Below w.heap.size w w') : VarAt w' g T v := (hb.block g (Array.getElem?_eq_some_iff.1 h).1).trans h
theorem VarAt.lt (h : VarAt w g T v) : g < w.heap.size := (Array.getElem?_eq_some_iff.1 h).1
theorem VarAt.new (w : World) (T : TypeId) (v : Value) : VarAt (w.alloc (.cells #[v] T)) w.heap.size T v := World.alloc_heap_new w _
theorem VarAt.set (h : VarAt w g T v) (u : Value) : VarAt (w.setCell ⟨g, 0, none⟩ u) g T u := by
  unfold VarAt
  rw [heap_setCell_same w g 0 _ T _ h]
  rfl
theorem VarAt.setRow_other (h : VarAt w g T v) (k : Nat) (hne : g ≠ k) (cs : Array Value) : VarAt (w.setRow k cs) g T v := by
  unfold VarAt
  rw [Go.setRow_other _ _ _ _ hne]
  exact h
end

theorem VarAt.but {S : Nat → Prop} {w w' : World} {g : Nat} {T : TypeId} {v : Value} (h : VarAt w g T v) (hb : But S w w') (hS : ¬ S g) : VarAt w' g T v := (hb.block g h.lt hS).trans h

end Go.Proofs.YtcekfnngnjpeeaaDoor

/-
  clashes.found: what is panicked with is caught, and told.
-/
namespace Go.Proofs.YtcekfnngnjpeeaaDoor
open Go.RowKit

theorem var_set_other {w : World} {g : Nat} {T : TypeId} {v : Value} (h : VarAt w g T v) (a : Addr) (x : Value) (hne : g ≠ a.block) : VarAt (w.setCell a x) g T v := by
  unfold VarAt
  rw [heap_setCell_other w a g x hne]
  exact h
theorem run_assert_clash (v : Value) (w : World) : (Instr.typeAssert (.iface 24 v) 20 24 true).run Tryd.prog w = .ok (.tuple #[v, .bool true]) w := by
  simp [Instr.typeAssert, run_underlying Tryd.underlying24]

set_option maxRecDepth 100000 in
set_option maxHeartbeats 2000000 in
theorem catch_told {w : World} {g : Nat} {u v : Value} {A B : Option Addr} {n c m d : Nat} (hc : Cells w g 24 #[u, v]) (hb : VarAt w (g + 1) 4 (.bool false)) :
    CallsD Tryd.prog 55 #[.pointer (some ⟨g, 0, none⟩), .pointer (some ⟨g + 1, 0, none⟩)] (.panicking (tells (clv A n c B m d))) w fun e u' w' =>
      e = .returned (.tuple #[]) ∧ settle u' = .returning ∧ w' = ((w.setCell ⟨g, 0, none⟩ (.slice A n c)).setCell ⟨g, 1, none⟩ (.slice B m d)).setCell ⟨g + 1, 0, none⟩ (.bool true) := by
  have hta := run_assert_clash (.agg #[.slice A n c, .slice B m d])
  have i0 := hc.cell 0 (v := u) rfl
  have j0 := hc.free 0
  have hc1 : Cells (w.setCell ⟨g, 0, none⟩ (.slice A n c)) g 24 #[.slice A n c, v] := hc.set 0 (.slice A n c)
  have hb1 : VarAt (w.setCell ⟨g, 0, none⟩ (.slice A n c)) (g + 1) 4 (.bool false) := var_set_other hb _ _ (by simp)
  have i1 := hc1.cell 1 (v := v) rfl
  have j1 := hc1.free 1
  have hb2 : VarAt ((w.setCell ⟨g, 0, none⟩ (.slice A n c)).setCell ⟨g, 1, none⟩ (.slice B m d)) (g + 1) 4 (.bool false) := var_set_other hb1 _ _ (by simp)
  have k1 := hb2.cell
  have k2 := hb2.free
  unfold clv tells
  refine callsD_of_wpS Tryd.func55 rfl fun c₀ cs hu => ?_
  apply wpS_region
  simp [wpOpsS, go_sem, recoverD, hu, Tryd.ntmps55, bodyPostS, results, Tryd.results55, settle, hta, i0, j0, i1, j1, k1, k2]

theorem two_set {base : Nat} {w : World} {A : Option Addr} {n c : Nat} {xs : List Nat} {B : Option Addr} {m d : Nat} {ys : List Nat} (h : Two base w A n c xs B m d ys) (a : Addr) (v : Value) (ha : a.block < base) : Two base (w.setCell a v) A n c xs B m d ys :=
  ⟨ownsRow_setCell_below h.a ha v, ownsRow_setCell_below h.b ha v, h.apart, h.lta, h.ltb, h.na, h.nb⟩
theorem run_load_bool {w : World} {ad : Addr} {b : Bool} (h : w.cell? ad = some (.bool b)) : (loadVar 4 ad).run Tryd.prog w = .ok (.bool b) w := by
  have hagg : (isAgg 4).run Tryd.prog w = .ok false w := by
    unfold isAgg
    rw [Sem.run_bind, run_underlying Tryd.underlying4 w]
    rfl
  simp [loadVar, Sem.run_bind, hagg, go_sem, h]

set_option maxRecDepth 100000 in
set_option maxHeartbeats 2000000 in
theorem found_any {w : World} {fid : FuncId} {caps : Array Value} (hcf : ∀ W : World, (callFunc fid caps).run Tryd.prog W = .ok (.enter fid caps) W)
    (hw : ∀ W : World, Below w.heap.size w W → Calls Tryd.prog fid caps W fun e w' => (∃ u, e = .panicked (tells u) ∧ Shown W.heap.size w' u) ∧ Below W.heap.size W w') :
    Calls Tryd.prog 31 #[.func (.func fid) #[] caps] w fun e w' => ∃ u, e = .returned (.tuple #[u, .bool true]) ∧ Shown w.heap.size w' u ∧ Below w.heap.size w w' := by
  have c0 := Cells.new w 24 #[.slice none 0 0, .slice none 0 0]
  have b0 := below_alloc w (.cells #[.slice none 0 0, .slice none 0 0] 24)
  obtain ⟨w0, e0⟩ : ∃ w0, w0 = w.alloc (.cells #[.slice none 0 0, .slice none 0 0] 24) := ⟨_, rfl⟩
  obtain ⟨g, hg⟩ : ∃ g, w.heap.size = g := ⟨_, rfl⟩
  have s0 : w0.heap.size = g + 1 := by rw [e0]; simp [hg]
  rw [← e0] at c0 b0
  have v1 := VarAt.new w0 4 (.bool false)
  have b1 := below_alloc w0 (.cells #[.bool false] 4)
  obtain ⟨w1, e1⟩ : ∃ w1, w1 = w0.alloc (.cells #[.bool false] 4) := ⟨_, rfl⟩
  rw [← e1] at v1 b1
  have s1 : w1.heap.size = g + 2 := by rw [e1]; simp [s0]
  rw [hg] at c0 b0
  rw [s0] at v1
  have b01 := below_on b0 (by omega) b1
  have H1 := Lib.hid (And.intro (c0.below b1) (And.intro v1 (And.intro b01 s1)))
  have HW := Lib.hid (show w1 = (w.alloc (.cells #[.slice none 0 0, .slice none 0 0] 24)).alloc (.cells #[.bool false] 4) by rw [e1, e0])
  have HG := Lib.hid hg
  have C := Lib.hid (hw w1 (by rw [hg]; exact b01))
  have hmf : ∀ (fn : Fn) (first cap : Array Value) (w : World), (Instr.makeFunc fn first cap).run Tryd.prog w = .ok (.func fn first cap) w := fun _ _ _ _ => rfl
  rw [hg]
  clear c0 b0 e0 s0 v1 b1 e1 s1 b01 hw hg
  go_enter_defers Tryd.func31, Tryd.ntmps31
  go_upto_region 1 with fail
  rw [← HW.out]
  rw [HG.out]
  go_wp2_with fail
  refine C.out.mono ?_
  rintro e w3 ⟨⟨u, rfl, hu⟩, hb3⟩
  obtain ⟨A, n, c, xs, B, m, d, ys, rfl, hT, hC⟩ := hu
  have c3 := H1.out.1.below hb3
  have v3 := H1.out.2.1.below hb3
  have b3 := below_on H1.out.2.2.1 (Nat.le_of_eq HG.out.symm) hb3
  have H3 := Lib.hid (And.intro hT (And.intro hC (And.intro c3 (And.intro v3 b3))))
  clear hT hC c3 v3 b3 hb3
  go_wp2_with fail
  refine leaves_cons (f := 55) (args := #[.pointer (some ⟨g, 0, none⟩), .pointer (some ⟨g + 1, 0, none⟩)]) (by simp) (by simp [go_sem]) ?_
  refine (catch_told (A := A) (n := n) (c := c) (B := B) (m := m) (d := d) H3.out.2.2.1 H3.out.2.2.2.1).mono ?_
  rintro e u' w4 ⟨rfl, hu, e4⟩
  simp only [hu]
  have x1 : Cells (w3.setCell ⟨g, 0, none⟩ (.slice A n c)) g 24 #[.slice A n c, .slice none 0 0] := H3.out.2.2.1.set 0 _
  have x2 : Cells ((w3.setCell ⟨g, 0, none⟩ (.slice A n c)).setCell ⟨g, 1, none⟩ (.slice B m d)) g 24 #[.slice A n c, .slice B m d] := x1.set 1 _
  have y2 := var_set_other (var_set_other H3.out.2.2.2.1 ⟨g, 0, none⟩ (.slice A n c) (by simp)) ⟨g, 1, none⟩ (.slice B m d) (by simp)
  have x3 := x2.set_other ⟨g + 1, 0, none⟩ (.bool true) (by simp)
  have y3 := y2.set (.bool true)
  have b5 := below_setC (below_setC (below_setC H3.out.2.2.2.2 (a := ⟨g, 0, none⟩) (v := .slice A n c) (Nat.le_refl g)) (a := ⟨g, 1, none⟩) (v := .slice B m d) (Nat.le_refl g)) (a := ⟨g + 1, 0, none⟩) (v := .bool true) (Nat.le_succ g)
  have hs1 := H1.out.2.2.2
  have T5 := (two_set (two_set (two_set H3.out.1 ⟨g, 0, none⟩ (.slice A n c) (by simp only; omega)) ⟨g, 1, none⟩ (.slice B m d) (by simp only; omega)) ⟨g + 1, 0, none⟩ (.bool true) (by simp only; omega)).low (base' := g) (by omega)
  rw [← e4] at x3 y3 b5 T5
  refine ⟨_, results_cell_cell (p := 2) (q := 3) (ty := 24) (ty2 := 4) (by kernel_rfl) _ _ ⟨g, 0, none⟩ ⟨g + 1, 0, none⟩ _ _ rfl rfl (run_load_clash (x3.cell 0 (v := .slice A n c) rfl) (x3.cell 1 (v := .slice B m d) rfl)) (run_load_bool y3.cell), ?_⟩
  exact ⟨_, rfl, ⟨A, n, c, xs, B, m, d, ys, rfl, T5, H3.out.2.1⟩, b5⟩

end Go.Proofs.YtcekfnngnjpeeaaDoor

/-
  Two sums as one value: an array of them, loaded, stored, held against another one.
-/
namespace Go.Proofs.YtcekfnngnjpeeaaDoor
open Go.RowKit

theorem sizePair : (Tryd.prog.info? 57).map (·.size) = some 64 := by kernel_rfl
theorem cellsSumP : Tryd.prog.cellsOf 29 = 32 := by kernel_rfl

set_option maxRecDepth 100000 in
theorem run_part_sum (w : World) (l s : List Nat) (i : Nat) (h : (l.drop i).take 32 = s) : (part 29 (bvs l).toArray i).run Tryd.prog w = .ok (sv s) w := by
  have hagg : (isAgg 29).run Tryd.prog w = .ok true w := by
    unfold isAgg
    rw [Sem.run_bind, run_underlying Tryd.underlying29 w]
    rfl
  have hx : List.take 32 (List.drop i (bvs l)) = bvs s := by
    rw [← h]
    unfold bvs
    rw [List.map_take, List.map_drop]
  cases hq : Tryd.prog.info? 29 with
  | none => have := sizeSum; simp [hq] at this
  | some j =>
    have hs : j.size = 32 := by have := sizeSum; simpa [hq] using this
    simp [part, Sem.run_bind, hagg, sizeOf, typeInfo, hq, hs, hx, sv]

theorem run_items_cons {P : Program} {w : World} {d : Nat} {e : TypeId} {c i : Nat} {xs ys : Array Value} {is : List Nat} {x y : Value} {r : Bool} (h1 : (part e xs (i * c)).run P w = .ok x w) (h2 : (part e ys (i * c)).run P w = .ok y w)
    (h3 : (Op.equalIn d e x y).run P w = .ok r w) : (Op.eqItems d e c xs ys (i :: is)).run P w = if r = true then (Op.eqItems d e c xs ys is).run P w else .ok false w := by
  simp only [Op.eqItems, Sem.run_bind, h1, h2, h3, Result.andThen_ok]
  cases r <;> rfl

set_option maxRecDepth 100000 in
theorem run_eq_pair (w : World) (d : Nat) (x y x' y' : List Nat) (hx : x.length = 32) (hy : y.length = 32) (hx' : x'.length = 32) (hy' : y'.length = 32) :
    (Op.equalIn (d + 3) 57 (sv (x ++ y)) (sv (x' ++ y'))).run Tryd.prog w = .ok (decide (x = x') && decide (y = y')) w := by
  obtain ⟨i0, hi⟩ : ∃ i0, Tryd.prog.info? 29 = some i0 := by
    cases hq : Tryd.prog.info? 29 with
    | none => have := sizeSum; simp [hq] at this
    | some j => exact ⟨j, rfl⟩
  have p1 := run_part_sum w (x ++ y) x (0 * 32) (by rw [Nat.zero_mul, List.drop_zero, ← hx, List.take_left])
  have p2 := run_part_sum w (x ++ y) y (1 * 32) (by rw [Nat.one_mul, ← hx, List.drop_left, hx, ← hy, List.take_length])
  have p3 := run_part_sum w (x' ++ y') x' (0 * 32) (by rw [Nat.zero_mul, List.drop_zero, ← hx', List.take_left])
  have p4 := run_part_sum w (x' ++ y') y' (1 * 32) (by rw [Nat.one_mul, ← hx', List.drop_left, hx', ← hy', List.take_length])
  have q1 := run_eq_sum w d x x' hx hx'
  have q2 := run_eq_sum w d y y' hy hy'
  generalize hc : (32 : Nat) = c at p1 p2 p3 p4
  have hce : Tryd.prog.cellsOf 29 = c := by rw [← hc]; exact cellsSumP
  have e1 : sv (x ++ y) = .agg (bvs (x ++ y)).toArray := rfl
  have e2 : sv (x' ++ y') = .agg (bvs (x' ++ y')).toArray := rfl
  rw [e1, e2, run_equalIn_array w (d + 2) _ _ Tryd.underlying57 hi, hce, show List.range 2 = [0, 1] from rfl, run_items_cons p1 p3 q1, run_items_cons p2 p4 q2]
  have hnil : (Op.eqItems (d + 2) 29 c (bvs (x ++ y)).toArray (bvs (x' ++ y')).toArray []).run Tryd.prog w = .ok true w := by simp only [Op.eqItems, Sem.run_pure]
  rw [hnil]
  cases decide (x = x') <;> cases decide (y = y') <;> rfl

set_option maxRecDepth 100000 in
theorem run_eql_pair (x y x' y' : List Nat) (hx : x.length = 32) (hy : y.length = 32) (hx' : x'.length = 32) (hy' : y'.length = 32) (w : World) :
    (binOp .eql 57 (sv (x ++ y)) (sv (x' ++ y'))).run Tryd.prog w = .ok (.bool (decide (x = x') && decide (y = y'))) w := by
  have h := run_eq_pair w 9997 x y x' y' hx hy hx' hy'
  unfold sv at h ⊢
  rw [run_eql_struct, h]
  rfl
theorem run_guard_pair (x y : Operand) (s t : List Nat) (w : World) : (eqGuard .eql 57 x y (sv s) (sv t)).run Tryd.prog w = .ok () w := by
  simp [eqGuard, sv]

set_option maxRecDepth 100000 in
theorem run_load_pair (w : World) (ad : Addr) (s : List Nat) (hl : s.length = 64) (hc : At w ad s) : (loadVar 57 ad).run Tryd.prog w = .ok (sv s) w := by
  have hl' : (bvs s).length = 64 := by rw [bvs_length, hl]
  have h1 : (loadCells ad (bvs s).length).run Tryd.prog w = .ok (bvs s).toArray w :=
    run_loadCells_list (P := Tryd.prog) w ad (bvs s) (fun j v hv => by
      rw [bvs_get] at hv
      obtain ⟨y, hy, rfl⟩ := Option.map_eq_some_iff.1 hv
      exact hc j y hy)
  rw [hl'] at h1
  have hagg : (isAgg 57).run Tryd.prog w = .ok true w := by
    unfold isAgg
    rw [Sem.run_bind, run_underlying Tryd.underlying57 w]
    rfl
  cases hq : Tryd.prog.info? 57 with
  | none => have := sizePair; simp [hq] at this
  | some i =>
    have hs : i.size = 64 := by have := sizePair; simpa [hq] using this
    simp [loadVar, Sem.run_bind, hagg, sizeOf, typeInfo, hq, hs, h1, sv]

theorem wpList_load_pair {ops : Array Oper} {rest : List Oper} {o : Oper} {a : Act} {w : World} {Q : Exit → Act → World → Prop} (hgd : o.guard = none) (x : Operand) (ho : o.op = .load 57 x)
    (ad : Addr) (hx : a.eval x = .pointer (some ad)) (s : List Nat) (hl : s.length = 64) (hc : At w ad s)
    (h : wpList Tryd.prog ops Q rest (a.put o.dst (sv s)) w) : wpList Tryd.prog ops Q (o :: rest) a w := by
  refine wpList_plain hgd fun K hK => ?_
  unfold Oper.wp execOp
  simp only [ho, hx, Instr.loadAt, Instr.sureAddr, Sem.run_bind, Sem.run_pure, Result.andThen_ok, run_load_pair w ad s hl hc]
  exact hK _ _ h

/-- A pair into the variable that was made last. -/
theorem wpList_store_newP {ops : Array Oper} {rest : List Oper} {o : Oper} {a : Act} {Q : Exit → Act → World → Prop} (w : World) (Z : Array Value) (hZ : Z.size = 64) (hgd : o.guard = none) (x y : Operand) (ho : o.op = .store 57 x y)
    (hx : a.eval x = .pointer (some ⟨w.heap.size, 0, none⟩)) (s : List Nat) (hl : s.length = 64) (hy : a.eval y = sv s)
    (h : wpList Tryd.prog ops Q rest (a.put o.dst undef) (w.alloc (.cells (bvs s).toArray 57))) : wpList Tryd.prog ops Q (o :: rest) a (w.alloc (.cells Z 57)) := by
  have hs : (bvs s).toArray.size = 64 := by rw [List.size_toArray, bvs_length, hl]
  refine wpList_store_row hgd 57 x y ho w.heap.size (bvs s).toArray hx hy 57 Z (World.alloc_heap_new w _) (by rw [hs]; exact sizePair) (by rw [hZ, hs]) ?_ ?_
  · exact Array.all_eq_true_iff_forall_mem.2 (fun v hv => bvs_oneCell s v (by simpa using hv))
  · rw [World.setRow_alloc_new]
    exact h

theorem wpList_store_pair {ops : Array Oper} {rest : List Oper} {o : Oper} {a : Act} {w : World} {Q : Exit → Act → World → Prop} (hgd : o.guard = none) (x y : Operand) (ho : o.op = .store 57 x y)
    (g : Nat) (hx : a.eval x = .pointer (some ⟨g, 0, none⟩)) {T : TypeId} (xs ys : List Nat) (hl : xs.length = 64) (hl' : ys.length = 64) (hc : BArr w g T xs) (hy : a.eval y = sv ys)
    (h : wpList Tryd.prog ops Q rest (a.put o.dst undef) (w.setRow g (bvs ys).toArray)) : wpList Tryd.prog ops Q (o :: rest) a w := by
  refine wpList_store_row hgd 57 x y ho g (bvs ys).toArray hx hy T (bvs xs).toArray hc (by rw [List.size_toArray, bvs_length, hl']; exact sizePair) (by rw [List.size_toArray, List.size_toArray, bvs_length, bvs_length, hl, hl']) ?_ h
  exact Array.all_eq_true_iff_forall_mem.2 (fun v hv => bvs_oneCell ys v (by simpa using hv))

end Go.Proofs.YtcekfnngnjpeeaaDoor

/-
  '[2]api.Sum{x, y}', and what is done with such a variable.
-/
namespace Go.Proofs.YtcekfnngnjpeeaaDoor
open Go.RowKit

theorem infoPair : (Tryd.prog.info? 57).map (fun i => (i.zero, i.size, i.bytes)) = some (some (.agg (Array.replicate 64 (.int .u8 0))), 64, 64) := by kernel_rfl

set_option maxRecDepth 100000 in
theorem run_build_pair (x y : List Nat) (hx : x.length = 32) (hy : y.length = 32) (w : World) : (Instr.build 57 #[(0, sv x), (1, sv y)]).run Tryd.prog w = .ok (sv (x ++ y)) w := by
  obtain ⟨i0, hi, hz0, hz1, _⟩ := info_parts infoSum
  obtain ⟨j0, hj, hy0, hy1, _⟩ := info_parts infoPair
  refine run_build w _ _ _ ?_
  unfold Program.built
  simp only [hj, Tryd.underlying57, hy0, hi, hz1]
  have := fill_all [x, y] [] (List.replicate 64 (.int .u8 0)) 0 (by intro s hs; simp at hs; rcases hs with rfl | rfl; exact hx; exact hy) (by simp) rfl
  rw [List.nil_append, List.nil_append, show [x, y].flatten = x ++ y by simp, List.toArray_replicate] at this
  exact this

theorem run_build_op {o : Oper} {a : Act} (u v : Operand) (ho : o.op = .build 57 #[(0, u), (1, v)]) (x y : List Nat) (hu : a.eval u = sv x) (hv : a.eval v = sv y) (hx : x.length = 32) (hy : y.length = 32) (w : World) :
    (execOp a.eval o).run Tryd.prog w = .ok (.value (sv (x ++ y))) w := by
  have hp : (#[((0 : Nat), u), (1, v)].map fun ((i, x) : Nat × Operand) => (i, a.eval x)) = #[(0, sv x), (1, sv y)] := by simp [hu, hv]
  unfold execOp
  simp only [ho, hp, Sem.run_bind, Sem.run_pure, Result.andThen_ok, run_build_pair x y hx hy w]

theorem wpList_build_pair {ops : Array Oper} {rest : List Oper} {o : Oper} {a : Act} {w : World} {Q : Exit → Act → World → Prop} (hgd : o.guard = none) (u v : Operand) (ho : o.op = .build 57 #[(0, u), (1, v)])
    (x y : List Nat) (hu : a.eval u = sv x) (hv : a.eval v = sv y) (hx : x.length = 32) (hy : y.length = 32)
    (h : wpList Tryd.prog ops Q rest (a.put o.dst (sv (x ++ y))) w) : wpList Tryd.prog ops Q (o :: rest) a w := by
  refine wpList_plain hgd fun K hK => ?_
  unfold Oper.wp
  rw [run_build_op u v ho x y hu hv hx hy]
  exact hK _ _ h

theorem yields_build_pair {ops : Array Oper} {S : World → Prop} {o : Oper} {a : Act} (hw : Region.wanted o (yielded ops a.tmps) = true) (u v : Operand) (ho : o.op = .build 57 #[(0, u), (1, v)])
    (x y : List Nat) (hu : a.eval u = sv x) (hv : a.eval v = sv y) (hx : x.length = 32) (hy : y.length = 32) : YieldsIf Tryd.prog ops S o (sv (x ++ y)) a :=
  Or.inl ⟨hw, fun w _ => run_build_op u v ho x y hu hv hx hy w⟩

theorem yields_pair {ops : Array Oper} {S : World → Prop} {o : Oper} {a : Act} (hw : Region.wanted o (yielded ops a.tmps) = true) (x : Operand) (ho : o.op = .load 57 x)
    (ad : Addr) (hx : a.eval x = .pointer (some ad)) (s : List Nat) (hl : s.length = 64) (hc : ∀ w, S w → At w ad s) : YieldsIf Tryd.prog ops S o (sv s) a := by
  refine Or.inl ⟨hw, fun w hS => ?_⟩
  unfold execOp
  simp only [ho, hx, Instr.loadAt, Instr.sureAddr, Sem.run_bind, Sem.run_pure, Result.andThen_ok, run_load_pair w ad s hl (hc w hS)]

theorem step_store_pair {o : Oper} {a : Act} {w : World} {K : Act → World → Prop} {Q : Exit → Act → World → Prop} (x y : Operand) (ho : o.op = .store 57 x y)
    (g : Nat) (hx : a.eval x = .pointer (some ⟨g, 0, none⟩)) {T : TypeId} (xs ys : List Nat) (hl : xs.length = 64) (hl' : ys.length = 64) (hc : BArr w g T xs) (hy : a.eval y = sv ys)
    (h : K (a.put o.dst undef) (w.setRow g (bvs ys).toArray)) : Oper.wp Tryd.prog o a w K Q := by
  have hr := run_storeVar_row (P := Tryd.prog) w g T 57 (bvs xs).toArray (bvs ys).toArray hc (by rw [List.size_toArray, bvs_length, hl']; exact sizePair) (by rw [List.size_toArray, bvs_length, hl, List.size_toArray, bvs_length, hl']) (all_oneCell_toArray (bvs_oneCell ys))
  unfold Oper.wp execOp
  simp only [ho, hx, hy, sv, Instr.storeAt, Instr.sureAddr, Sem.run_bind, Sem.run_pure, Result.andThen_ok, hr]
  exact h

/-- The two halves of such a variable. -/
theorem BArr.first {w : World} {g : Nat} {T : TypeId} {x y : List Nat} (h : BArr w g T (x ++ y)) : At w ⟨g, 0, none⟩ x := fun j v hv => h.at_ j v (by rw [List.getElem?_append_left (List.getElem?_eq_some_iff.1 hv).1]; exact hv)
theorem BArr.second {w : World} {g : Nat} {T : TypeId} {x y : List Nat} (h : BArr w g T (x ++ y)) (hx : x.length = 32) : At w ⟨g, 32, none⟩ y := fun j v hv => by
  have := h.at_ (32 + j) v (by rw [List.getElem?_append_right (by omega), hx, show 32 + j - 32 = j by omega]; exact hv)
  have ha : ∀ o k : Nat, (⟨g, o, none⟩ : Addr).add k = ⟨g, o + k, none⟩ := fun o k => by unfold Addr.add; split <;> simp_all
  rw [ha] at this ⊢
  rw [Nat.zero_add] at this
  exact this

end Go.Proofs.YtcekfnngnjpeeaaDoor

/-
  A pair of sums (clashes.pair) as a value, and what is done with such a variable.
-/
namespace Go.Proofs.YtcekfnngnjpeeaaDoor
open Go.RowKit

theorem sizePairC : (Tryd.prog.info? 58).map (·.size) = some 64 := by kernel_rfl
theorem run_load_pairC (w : World) (ad : Addr) (s : List Nat) (hl : s.length = 64) (hc : At w ad s) : (loadVar 58 ad).run Tryd.prog w = .ok (sv s) w := by
  have hl' : (bvs s).length = 64 := by rw [bvs_length, hl]
  have h1 : (loadCells ad (bvs s).length).run Tryd.prog w = .ok (bvs s).toArray w :=
    run_loadCells_list (P := Tryd.prog) w ad (bvs s) (fun j v hv => by
      rw [bvs_get] at hv
      obtain ⟨y, hy, rfl⟩ := Option.map_eq_some_iff.1 hv
      exact hc j y hy)
  rw [hl'] at h1
  have hagg : (isAgg 58).run Tryd.prog w = .ok true w := by
    unfold isAgg
    rw [Sem.run_bind, run_underlying Tryd.underlying58 w]
    rfl
  cases hq : Tryd.prog.info? 58 with
  | none => have := sizePairC; simp [hq] at this
  | some i =>
    have hs : i.size = 64 := by have := sizePairC; simpa [hq] using this
    simp [loadVar, Sem.run_bind, hagg, sizeOf, typeInfo, hq, hs, h1, sv]

theorem wpList_load_pairC {ops : Array Oper} {rest : List Oper} {o : Oper} {a : Act} {w : World} {Q : Exit → Act → World → Prop} (hgd : o.guard = none) (x : Operand) (ho : o.op = .load 58 x)
    (ad : Addr) (hx : a.eval x = .pointer (some ad)) (s : List Nat) (hl : s.length = 64) (hc : At w ad s)
    (h : wpList Tryd.prog ops Q rest (a.put o.dst (sv s)) w) : wpList Tryd.prog ops Q (o :: rest) a w := by
  refine wpList_plain hgd fun K hK => ?_
  unfold Oper.wp execOp
  simp only [ho, hx, Instr.loadAt, Instr.sureAddr, Sem.run_bind, Sem.run_pure, Result.andThen_ok, run_load_pairC w ad s hl hc]
  exact hK _ _ h

theorem wpList_store_newPC {ops : Array Oper} {rest : List Oper} {o : Oper} {a : Act} {Q : Exit → Act → World → Prop} (w : World) (Z : Array Value) (hZ : Z.size = 64) (hgd : o.guard = none) (x y : Operand) (ho : o.op = .store 58 x y)
    (hx : a.eval x = .pointer (some ⟨w.heap.size, 0, none⟩)) (s : List Nat) (hl : s.length = 64) (hy : a.eval y = sv s)
    (h : wpList Tryd.prog ops Q rest (a.put o.dst undef) (w.alloc (.cells (bvs s).toArray 58))) : wpList Tryd.prog ops Q (o :: rest) a (w.alloc (.cells Z 58)) := by
  have hs : (bvs s).toArray.size = 64 := by rw [List.size_toArray, bvs_length, hl]
  refine wpList_store_row hgd 58 x y ho w.heap.size (bvs s).toArray hx hy 58 Z (World.alloc_heap_new w _) (by rw [hs]; exact sizePairC) (by rw [hZ, hs]) ?_ ?_
  · exact Array.all_eq_true_iff_forall_mem.2 (fun v hv => bvs_oneCell s v (by simpa using hv))
  · rw [World.setRow_alloc_new]
    exact h

theorem wpList_store_pairC {ops : Array Oper} {rest : List Oper} {o : Oper} {a : Act} {w : World} {Q : Exit → Act → World → Prop} (hgd : o.guard = none) (x y : Operand) (ho : o.op = .store 58 x y)
    (g : Nat) (hx : a.eval x = .pointer (some ⟨g, 0, none⟩)) {T : TypeId} (xs ys : List Nat) (hl : xs.length = 64) (hl' : ys.length = 64) (hc : BArr w g T xs) (hy : a.eval y = sv ys)
    (h : wpList Tryd.prog ops Q rest (a.put o.dst undef) (w.setRow g (bvs ys).toArray)) : wpList Tryd.prog ops Q (o :: rest) a w := by
  refine wpList_store_row hgd 58 x y ho g (bvs ys).toArray hx hy T (bvs xs).toArray hc (by rw [List.size_toArray, bvs_length, hl']; exact sizePairC) (by rw [List.size_toArray, List.size_toArray, bvs_length, bvs_length, hl, hl']) ?_ h
  exact Array.all_eq_true_iff_forall_mem.2 (fun v hv => bvs_oneCell ys v (by simpa using hv))

theorem infoPairC : (Tryd.prog.info? 58).map (fun i => (i.zero, i.size, i.bytes)) = some (some (.agg (Array.replicate 64 (.int .u8 0))), 64, 64) := by kernel_rfl

theorem run_build_pairC (x y : List Nat) (hx : x.length = 32) (hy : y.length = 32) (w : World) : (Instr.build 58 #[(0, sv x), (1, sv y)]).run Tryd.prog w = .ok (sv (x ++ y)) w := by
  obtain ⟨i0, hi, hz0, hz1, _⟩ := info_parts infoSum
  obtain ⟨j0, hj, hy0, hy1, _⟩ := info_parts infoPairC
  refine run_build w _ _ _ ?_
  unfold Program.built
  simp only [hj, Tryd.underlying58, hy0, hi, hz1]
  have := fill_all [x, y] [] (List.replicate 64 (.int .u8 0)) 0 (by intro s hs; simp at hs; rcases hs with rfl | rfl; exact hx; exact hy) (by simp) rfl
  rw [List.nil_append, List.nil_append, show [x, y].flatten = x ++ y by simp, List.toArray_replicate] at this
  exact this

theorem run_build_opC {o : Oper} {a : Act} (u v : Operand) (ho : o.op = .build 58 #[(0, u), (1, v)]) (x y : List Nat) (hu : a.eval u = sv x) (hv : a.eval v = sv y) (hx : x.length = 32) (hy : y.length = 32) (w : World) :
    (execOp a.eval o).run Tryd.prog w = .ok (.value (sv (x ++ y))) w := by
  have hp : (#[((0 : Nat), u), (1, v)].map fun ((i, x) : Nat × Operand) => (i, a.eval x)) = #[(0, sv x), (1, sv y)] := by simp [hu, hv]
  unfold execOp
  simp only [ho, hp, Sem.run_bind, Sem.run_pure, Result.andThen_ok, run_build_pairC x y hx hy w]

theorem wpList_build_pairC {ops : Array Oper} {rest : List Oper} {o : Oper} {a : Act} {w : World} {Q : Exit → Act → World → Prop} (hgd : o.guard = none) (u v : Operand) (ho : o.op = .build 58 #[(0, u), (1, v)])
    (x y : List Nat) (hu : a.eval u = sv x) (hv : a.eval v = sv y) (hx : x.length = 32) (hy : y.length = 32)
    (h : wpList Tryd.prog ops Q rest (a.put o.dst (sv (x ++ y))) w) : wpList Tryd.prog ops Q (o :: rest) a w := by
  refine wpList_plain hgd fun K hK => ?_
  unfold Oper.wp
  rw [run_build_opC u v ho x y hu hv hx hy]
  exact hK _ _ h

theorem yields_build_pairC {ops : Array Oper} {S : World → Prop} {o : Oper} {a : Act} (hw : Region.wanted o (yielded ops a.tmps) = true) (u v : Operand) (ho : o.op = .build 58 #[(0, u), (1, v)])
    (x y : List Nat) (hu : a.eval u = sv x) (hv : a.eval v = sv y) (hx : x.length = 32) (hy : y.length = 32) : YieldsIf Tryd.prog ops S o (sv (x ++ y)) a :=
  Or.inl ⟨hw, fun w _ => run_build_opC u v ho x y hu hv hx hy w⟩

theorem yields_pairC {ops : Array Oper} {S : World → Prop} {o : Oper} {a : Act} (hw : Region.wanted o (yielded ops a.tmps) = true) (x : Operand) (ho : o.op = .load 58 x)
    (ad : Addr) (hx : a.eval x = .pointer (some ad)) (s : List Nat) (hl : s.length = 64) (hc : ∀ w, S w → At w ad s) : YieldsIf Tryd.prog ops S o (sv s) a := by
  refine Or.inl ⟨hw, fun w hS => ?_⟩
  unfold execOp
  simp only [ho, hx, Instr.loadAt, Instr.sureAddr, Sem.run_bind, Sem.run_pure, Result.andThen_ok, run_load_pairC w ad s hl (hc w hS)]

theorem step_store_pairC {o : Oper} {a : Act} {w : World} {K : Act → World → Prop} {Q : Exit → Act → World → Prop} (x y : Operand) (ho : o.op = .store 58 x y)
    (g : Nat) (hx : a.eval x = .pointer (some ⟨g, 0, none⟩)) {T : TypeId} (xs ys : List Nat) (hl : xs.length = 64) (hl' : ys.length = 64) (hc : BArr w g T xs) (hy : a.eval y = sv ys)
    (h : K (a.put o.dst undef) (w.setRow g (bvs ys).toArray)) : Oper.wp Tryd.prog o a w K Q := by
  have hr := run_storeVar_row (P := Tryd.prog) w g T 58 (bvs xs).toArray (bvs ys).toArray hc (by rw [List.size_toArray, bvs_length, hl']; exact sizePairC) (by rw [List.size_toArray, bvs_length, hl, List.size_toArray, bvs_length, hl']) (all_oneCell_toArray (bvs_oneCell ys))
  unfold Oper.wp execOp
  simp only [ho, hx, hy, sv, Instr.storeAt, Instr.sureAddr, Sem.run_bind, Sem.run_pure, Result.andThen_ok, hr]
  exact h

end Go.Proofs.YtcekfnngnjpeeaaDoor

/-
  clashes.held: the sums of both, or both are a clash.
-/
namespace Go.Proofs.YtcekfnngnjpeeaaDoor
open Go.RowKit

section
variable {base : Nat} {w : World} {A B : Option Addr} {n c m d : Nat} {xs ys : List Nat}

set_option maxRecDepth 100000 in
set_option maxHeartbeats 2000000 in
theorem held_any (h : Two base w A n c xs B m d ys) (hbase : base ≤ w.heap.size) (hk : Knows w) (hks : Starts w) :
    Calls Tryd.prog 75 #[.slice A n c, .slice B m d] w fun e w' => Told base (sv (sha xs ++ sha ys)) (Same xs ys) e w' ∧ Below w.heap.size w w' := by
  have b1 := below_alloc w (.cells (bvs zero64).toArray 58)
  have f1 := BArr.new w 58 zero64
  have e0 : (bvs zero64).toArray = #[.int .u8 0, .int .u8 0, .int .u8 0, .int .u8 0, .int .u8 0, .int .u8 0, .int .u8 0, .int .u8 0, .int .u8 0, .int .u8 0, .int .u8 0, .int .u8 0, .int .u8 0, .int .u8 0, .int .u8 0, .int .u8 0, .int .u8 0, .int .u8 0, .int .u8 0, .int .u8 0, .int .u8 0, .int .u8 0, .int .u8 0, .int .u8 0, .int .u8 0, .int .u8 0, .int .u8 0, .int .u8 0, .int .u8 0, .int .u8 0, .int .u8 0, .int .u8 0, .int .u8 0, .int .u8 0, .int .u8 0, .int .u8 0, .int .u8 0, .int .u8 0, .int .u8 0, .int .u8 0, .int .u8 0, .int .u8 0, .int .u8 0, .int .u8 0, .int .u8 0, .int .u8 0, .int .u8 0, .int .u8 0, .int .u8 0, .int .u8 0, .int .u8 0, .int .u8 0, .int .u8 0, .int .u8 0, .int .u8 0, .int .u8 0, .int .u8 0, .int .u8 0, .int .u8 0, .int .u8 0, .int .u8 0, .int .u8 0, .int .u8 0, .int .u8 0] := rfl
  rw [e0] at b1 f1
  obtain ⟨w1, hw1⟩ : ∃ w1, w1 = w.alloc (.cells #[.int .u8 0, .int .u8 0, .int .u8 0, .int .u8 0, .int .u8 0, .int .u8 0, .int .u8 0, .int .u8 0, .int .u8 0, .int .u8 0, .int .u8 0, .int .u8 0, .int .u8 0, .int .u8 0, .int .u8 0, .int .u8 0, .int .u8 0, .int .u8 0, .int .u8 0, .int .u8 0, .int .u8 0, .int .u8 0, .int .u8 0, .int .u8 0, .int .u8 0, .int .u8 0, .int .u8 0, .int .u8 0, .int .u8 0, .int .u8 0, .int .u8 0, .int .u8 0, .int .u8 0, .int .u8 0, .int .u8 0, .int .u8 0, .int .u8 0, .int .u8 0, .int .u8 0, .int .u8 0, .int .u8 0, .int .u8 0, .int .u8 0, .int .u8 0, .int .u8 0, .int .u8 0, .int .u8 0, .int .u8 0, .int .u8 0, .int .u8 0, .int .u8 0, .int .u8 0, .int .u8 0, .int .u8 0, .int .u8 0, .int .u8 0, .int .u8 0, .int .u8 0, .int .u8 0, .int .u8 0, .int .u8 0, .int .u8 0, .int .u8 0, .int .u8 0] 58) := ⟨_, rfl⟩
  rw [← hw1] at b1 f1
  have HW := Lib.hid hw1
  have H1 := Lib.hid (And.intro b1 f1)
  have HK := Lib.hid (And.intro h (And.intro hbase (And.intro hk hks)))
  obtain ⟨s, hs⟩ : ∃ s, sha xs = s := ⟨_, rfl⟩
  obtain ⟨t, ht⟩ : ∃ t, sha ys = t := ⟨_, rfl⟩
  have sl : s.length = 32 := by rw [← hs]; exact sha_length _
  have tl : t.length = 32 := by rw [← ht]; exact sha_length _
  have stl : (s ++ t).length = 64 := by rw [List.length_append, sl, tl]
  have CA := Lib.hid (fun (W : World) (hW : Below w.heap.size w W) => later (v' := sv s) (Below.refl _ W) (by rw [hs]) (of_any A n c xs W (In.of_own (HK.out.1.below hW).a) HK.out.1.lta (own_cap HK.out.1.a) (HK.out.2.2.1.below hW) (HK.out.2.2.2.below hW) (by have := HK.out.1.na; omega)))
  have CB := Lib.hid (fun (W : World) (hW : Below w.heap.size w W) => later (v' := sv t) (Below.refl _ W) (by rw [ht]) (of_any B m d ys W (In.of_own (HK.out.1.below hW).b) HK.out.1.ltb (own_cap HK.out.1.b) (HK.out.2.2.1.below hW) (HK.out.2.2.2.below hW) (by have := HK.out.1.nb; omega)))
  rw [hs, ht]
  clear hw1 b1 f1 e0 h hbase hk hks hs ht
  go_enter Tryd.func75, Tryd.ntmps75
  go_upto_region 1 with fail
  rw [← HW.out]
  go_upto_region 2 with fail
  have b2 := below_alloc w1 (.cells #[.slice A n c, .slice B m d] 24)
  have c2 := Cells.new w1 24 #[.slice A n c, .slice B m d]
  obtain ⟨w2, hw2⟩ : ∃ w2, w2 = w1.alloc (.cells #[.slice A n c, .slice B m d] 24) := ⟨_, rfl⟩
  rw [← hw2] at b2 c2 ⊢
  have b02 := below_on H1.out.1 (Nat.le_refl _) b2
  have T2 := HK.out.1.below b02
  have CI := Lib.hid (is_any (came_own T2.a T2.lta) (came_own T2.b T2.ltb) (by have := T2.na; omega) (by have := T2.nb; omega) (HK.out.2.2.1.below b02) (HK.out.2.2.2.below b02))
  have x0 := c2.cell 0 (v := .slice A n c) rfl
  have x1 := c2.cell 1 (v := .slice B m d) rfl
  have H2 := Lib.hid (And.intro b02 (And.intro c2 (H1.out.2.below b2)))
  clear hw2 b2 c2 b02 T2 H1
  obtain ⟨b, hb⟩ : ∃ b, isC xs ys = b := ⟨_, rfl⟩
  rw [hb] at CI
  have HB := Lib.hid hb
  clear hb
  obtain ⟨g2, hg2⟩ : ∃ g, w1.heap.size = g := ⟨_, rfl⟩
  rw [hg2] at x0 x1 H2 ⊢
  clear hg2
  unfold clv at CI
  go_wp2_with fail
  refine CI.out.mono ?_
  rintro e w3 ⟨rfl, hb3⟩
  have y0 := (hb3.cell (World.block_lt_of_cell? w2 _ x0)).trans x0
  have y1 := (hb3.cell (World.block_lt_of_cell? w2 _ x1)).trans x1
  have H3 := Lib.hid (And.intro (below_on H2.out.1 (Nat.le_refl _) hb3) (H2.out.2.2.below hb3))
  clear x0 x1 hb3 CI H2
  cases b with
  | true =>
    go_wp2_with fail
    exact ⟨rfl, .inr ⟨_, rfl, A, n, c, xs, B, m, d, ys, rfl, HK.out.1.below H3.out.1, isC_true.1 HB.out⟩, H3.out.1⟩
  | false =>
    clear y0 y1
    have C1 := Lib.hid (CA.out w3 H3.out.1)
    go_upto_region 4 with fail
    go_wp2_with fail
    refine C1.out.mono ?_
    rintro e w4 ⟨rfl, hb4⟩
    have C2 := Lib.hid (CB.out w4 (below_on H3.out.1 (Nat.le_refl _) hb4))
    have f4b := Lib.hid hb4
    have f4 := Lib.hid (below_on H3.out.1 (Nat.le_refl _) hb4)
    clear C1 hb4
    go_wp2_with fail
    refine C2.out.mono ?_
    rintro e w5 ⟨rfl, hb5⟩
    have f5 := (H3.out.2.below f4b.out).below hb5
    have HB5 := Lib.hid (below_on f4.out (Nat.le_refl _) hb5)
    clear hb5 C2
    have HZ64 : zero64.length = 64 := rfl
    go_upto_region 5 with (first
      | (with_reducible refine wpList_build_pairC rfl (.tmp 14) (.tmp 16) rfl s t rfl rfl sl tl ?_)
      | (with_reducible refine wpList_store_pairC rfl (.tmp 4) (.tmp 17) rfl w.heap.size rfl zero64 (s ++ t) HZ64 stl f5 rfl ?_))
    refine bodyPost_ret_by (results_cell_row (p := 4) (ty := 58) (by kernel_rfl) _ _ w.heap.size 58 (bvs (s ++ t)).toArray (0, 0) _ rfl (f5.setRow _) Tryd.underlying58 rfl (by rw [List.size_toArray, bvs_length, stl]; exact sizePairC)) rfl ?_
    exact ⟨.inl ⟨rfl, isC_false HB.out⟩, below_setRow HB5.out (Nat.le_refl _) _⟩
end

end Go.Proofs.YtcekfnngnjpeeaaDoor

/-
  'append(b, make([]byte, m)...)' to a row of the call's own, whether there is room or not, m whatever.
-/
namespace Go.Proofs.YtcekfnngnjpeeaaDoor
open Go.RowKit

theorem zeroCells_list (m : Nat) : (Builtin.zeroCells #[.int .u8 0] m).toList = bvs (List.replicate m 0) := by rw [zeroCells_bytes]

theorem run_zeros_own (w : World) (ty : TypeId) (base g n c m : Nat) (xs : List Nat) (hown : w.ownsRow base 5 1 (.slice (some ⟨g, 0, none⟩) n c) n (bvs xs)) (hbase : base ≤ w.heap.size) (hle : n + m ≤ 1000000000) :
    ∃ A' c' w', (Builtin.append_ #[22, 3] ty #[.slice (some ⟨g, 0, none⟩) n c, .int .i64 (m : Int)]).run Tryd.prog w = .ok (.slice A' (n + m) c') w' ∧
      In w' A' (n + m) (xs ++ List.replicate m 0) ∧ A' ≠ none ∧ n + m ≤ c' ∧ Below base w w' := by
  have hin : In w (some ⟨g, 0, none⟩) n xs := In.of_own hown
  by_cases hroom : n + m ≤ c
  · obtain ⟨i0, hi, hz0, hz1, hz2⟩ := info_parts infoByte
    rcases hown.2 with ⟨e, _⟩ | ⟨g', cap, cur, e, hbg, hg, hnc, hcm, hcs, htake⟩
    · cases e
    · cases e
      have hl : (bvs (List.replicate m 0)).length = m := by rw [bvs_length, List.length_replicate]
      have hst := run_storeCells_at Tryd.prog g n 5 (bvs (List.replicate m 0)) 0 cur w hg (by rw [hl, hcs]; omega) (bvs_oneCell _)
      rw [Nat.add_zero, hl, ← zeroCells_list] at hst
      have hw : IntKind.i64.wrap (m : Int) = (m : Int) := by rw [IntKind.wrap_i64]; omega
      have hn0 : ¬ ((m : Int) < 0) := by omega
      have hnb : ¬ (281474976710656 < (m : Int)) := by omega
      have hrun : (Builtin.append_ #[22, 3] ty #[.slice (some ⟨g, 0, none⟩) n c, .int .i64 (m : Int)]).run Tryd.prog w =
          .ok (.slice (some ⟨g, 0, none⟩) (n + m) c) (w.setRow g (cur.toList.take n ++ (Builtin.zeroCells #[.int .u8 0] m).toList ++ cur.toList.drop (n + m)).toArray) := by
        by_cases hm : m = 0
        · subst hm
          simp [Builtin.append_, run_underlying Tryd.underlying22, run_underlying Tryd.underlying3, sizeOf, typeInfo, hi, hz1, asInt, asIntOf, IntKind.wrap_i64, storeCells, Builtin.zeroCells]
          rw [if_pos (by omega)]
          simp
          rw [setRow_self w g cur _ (0, 0) hg]
        · simp [Builtin.append_, run_underlying Tryd.underlying22, run_underlying Tryd.underlying3, sizeOf, typeInfo, zeroValue, hi, hz0, hz1, hz2, asInt, asIntOf, hw, hn0, hnb, hroom, hm, Value.cells, Addr.add_lit, hst]
      rw [zeroCells_list] at hrun
      have hx : cur.toList.take n = bvs xs := by rw [← htake, Nat.mul_one]
      rw [hx] at hrun
      refine ⟨_, _, _, hrun, ⟨by rw [List.length_append, hin.len, List.length_replicate], fun j x hj => ⟨_, rfl, ?_⟩⟩, (fun h => by cases h), hroom, below_setRow (Below.refl _ _) hbg _⟩
      rw [show (⟨g, 0, none⟩ : Addr).add j = ⟨g, j, none⟩ from by unfold Addr.add; split <;> simp_all]
      rw [cell_of_row _ g j _ _ (0, 0) (setRow_heap w g cur _ _ (0, 0) hg), List.getElem?_toArray, ← bvs_append]
      have hlt : j < (xs ++ List.replicate m 0).length := (List.getElem?_eq_some_iff.1 hj).1
      rw [List.getElem?_append_left (by rw [bvs_length]; exact hlt), bvs_get, hj]
      rfl
  · obtain ⟨A', c', w', h1, h2, h3, h4⟩ := run_append_zeros w ty ⟨g, 0, none⟩ n c m xs hin (by have := own_cap hown; omega) (by omega) hle
    refine ⟨A', c', w', h1, h2, ?_, h3, h4.mono hbase⟩
    rintro rfl
    have hpos : 0 < n + m := by have := own_cap hown; omega
    obtain ⟨ad, _, e, _⟩ := h2.at_ hpos
    cases e

theorem wpList_zeros_own {ops : Array Oper} {rest : List Oper} {o : Oper} {a : Act} {Q : Exit → Act → World → Prop} (w : World) (hgd : o.guard = none) (s x : Operand)
    (ho : o.op = .call { callee := .builtin .append, args := #[s, x], argTypes := #[22, 3] })
    (base g n c m : Nat) (xs : List Nat) (hs : a.eval s = .slice (some ⟨g, 0, none⟩) n c) (hx : a.eval x = .int .i64 (m : Int)) (hown : w.ownsRow base 5 1 (.slice (some ⟨g, 0, none⟩) n c) n (bvs xs)) (hbase : base ≤ w.heap.size) (hle : n + m ≤ 1000000000)
    (h : ∀ A' c' w', In w' A' (n + m) (xs ++ List.replicate m 0) → A' ≠ none → n + m ≤ c' → Below base w w' → wpList Tryd.prog ops Q rest (a.put o.dst (.slice A' (n + m) c')) w') :
    wpList Tryd.prog ops Q (o :: rest) a w := by
  refine wpList_plain hgd fun K hK => ?_
  obtain ⟨A', c', w', hr, h2, h3, h4, h5⟩ := run_zeros_own w o.type base g n c m xs hown hbase hle
  unfold Oper.wp execOp
  simp only [ho, resolve, invoke, builtin, Sem.run_bind, Sem.run_pure, Result.andThen_ok, List.map_toArray, List.map_cons, List.map_nil, hs, hx, hr]
  exact hK _ _ (h A' c' w' h2 h3 h4 h5)

end Go.Proofs.YtcekfnngnjpeeaaDoor

/-
  slices.Grow of no bytes, slices.Concat of two lists of bytes.
-/
namespace Go.Proofs.YtcekfnngnjpeeaaDoor
open Go.RowKit

/-- 'append([]byte(nil), make([]byte, m)...)'. -/
theorem run_grow_bytes (w : World) (ty : TypeId) (m : Nat) (hm : 0 < m) (hle : m ≤ 1000000) :
    ∃ c' w', (Builtin.append_ #[22, 3] ty #[.slice none 0 0, .int .i64 (m : Int)]).run Tryd.prog w = .ok (.slice (some ⟨w.heap.size, 0, none⟩) m c') w' ∧ m ≤ c' ∧
      w'.ownsRow w.heap.size 5 1 (.slice (some ⟨w.heap.size, 0, none⟩) 0 c') 0 (bvs []) ∧ Below w.heap.size w w' := by
  obtain ⟨i0, hi, hz0, hz1, hz2⟩ := info_parts infoByte
  have hf := growslice_fits (need := m) (old := 0) (bytes := 1) (by omega) (by omega)
  have h48' : ¬ (281474976710656 < Builtin.nextslicecap m 0) := by omega
  have hw : IntKind.i64.wrap (m : Int) = (m : Int) := by rw [IntKind.wrap_i64]; omega
  have hn0 : ¬ ((m : Int) < 0) := by omega
  have hnb : ¬ (281474976710656 < (m : Int)) := by omega
  have hnc : ¬ (9223372036854775807 < (m : Int)) := by omega
  have hm0 : ¬ m = 0 := by omega
  have hge := grownCap_ge w m 0 5
  have hgl := grownCap_le_maxLen w m 0 5 (by unfold maxLen; omega)
  have hfo := run_firstCells_none (P := Tryd.prog) (w := w.drew) 1 0 0 0
  have hrun : (Builtin.append_ #[22, 3] ty #[.slice none 0 0, .int .i64 (m : Int)]).run Tryd.prog w =
      .ok (.slice (some ⟨w.heap.size, 0, none⟩) m (grownCap w m 0 5)) (w.drew.alloc (.cells (#[] ++ Builtin.zeroCells (#[.int .u8 0]) m ++ Builtin.zeroCells (#[.int .u8 0]) (grownCap w m 0 5 - m)) 5)) := by
    simp [Builtin.append_, run_underlying Tryd.underlying22, run_underlying Tryd.underlying3, sizeOf, typeInfo, zeroValue, hi, hz0, hz1, hz2, asInt, asIntOf, hw, hn0, hnb, hnc, hm0, h48', Question.forced, hfo, newRow, grownCap, Value.cells]

  refine ⟨_, _, hrun, hge, ⟨rfl, .inr ⟨w.heap.size, _, _, rfl, Nat.le_refl _, World.alloc_heap_new w.drew _, Nat.zero_le _, hgl, ?_, rfl⟩⟩, ((Below.refl _ w).drew).alloc (Nat.le_refl _) _⟩
  rw [Array.size_append, Array.size_append, size_zeroCells, size_zeroCells]
  simp
  omega

theorem wpList_grow_bytes {ops : Array Oper} {rest : List Oper} {o : Oper} {a : Act} {Q : Exit → Act → World → Prop} (w : World) (hgd : o.guard = none) (s x : Operand)
    (ho : o.op = .call { callee := .builtin .append, args := #[s, x], argTypes := #[22, 3] }) (m : Nat) (hs : a.eval s = .slice none 0 0) (hx : a.eval x = .int .i64 (m : Int)) (hm : 0 < m) (hle : m ≤ 1000000)
    (h : ∀ c' w', m ≤ c' → w'.ownsRow w.heap.size 5 1 (.slice (some ⟨w.heap.size, 0, none⟩) 0 c') 0 (bvs []) → Below w.heap.size w w' → wpList Tryd.prog ops Q rest (a.put o.dst (.slice (some ⟨w.heap.size, 0, none⟩) m c')) w') :
    wpList Tryd.prog ops Q (o :: rest) a w := by
  refine wpList_plain hgd fun K hK => ?_
  obtain ⟨c', w', hr, h2, h3, h4⟩ := run_grow_bytes w o.type m hm hle
  unfold Oper.wp execOp
  simp only [ho, resolve, invoke, builtin, Sem.run_bind, Sem.run_pure, Result.andThen_ok, List.map_toArray, List.map_cons, List.map_nil, hs, hx, hr]
  exact hK _ _ (h c' w' h2 h3 h4)

set_option maxRecDepth 100000 in
set_option maxHeartbeats 1000000 in
theorem growB_any (m : Nat) (w : World) (hm : 0 < m) (hle : m ≤ 1000000) :
    Calls Tryd.prog 80 #[.slice none 0 0, .int .i64 (m : Int)] w fun e w' =>
      ∃ c', e = .returned (.slice (some ⟨w.heap.size, 0, none⟩) 0 c') ∧ w'.ownsRow w.heap.size 5 1 (.slice (some ⟨w.heap.size, 0, none⟩) 0 c') 0 (bvs []) ∧ Below w.heap.size w w' := by
  have h0 : ¬ ((m : Int) < 0) := by omega
  have h1 : (0 : Int) < (m : Int) := by omega
  go_enter Tryd.func80, Tryd.ntmps80
  go_wp2_with (refine wpList_grow_bytes w rfl _ _ rfl m rfl rfl hm hle ?_; intro c' w1 hc ho hb; have HR := Lib.hid (And.intro ho hb); clear ho hb)
  go_ret
  exact ⟨c', rfl, HR.out.1, HR.out.2⟩

/-- How many, and what, the first j of two lists have. -/
def first2N (n m : Nat) : Nat → Nat
  | 0 => 0
  | 1 => n
  | _ => n + m
def first2L (xs ys : List Nat) : Nat → List Nat
  | 0 => []
  | 1 => xs
  | _ => xs ++ ys

set_option maxRecDepth 100000 in
set_option maxHeartbeats 2000000 in
theorem concatB_any (b : Nat) (A A2 : Option Addr) (n c m c2 : Nat) (xs ys : List Nat) (w : World) (h1 : w.cell? ⟨b, 0, none⟩ = some (.slice A n c)) (h2 : w.cell? ⟨b, 1, none⟩ = some (.slice A2 m c2))
    (hx : In w A n xs) (hy : In w A2 m ys) (nx : A = none → c = 0) (ny : A2 = none → c2 = 0) (h0 : 0 < n + m) (hle : n + m ≤ 1000000) :
    Calls Tryd.prog 76 #[.slice (some ⟨b, 0, none⟩) 2 2] w fun e w' =>
      ∃ A' c', e = .returned (.slice A' (n + m) c') ∧ w'.ownsRow w.heap.size 5 1 (.slice A' (n + m) c') (n + m) (bvs (xs ++ ys)) ∧ Below w.heap.size w w' := by
  have HX := Lib.hid (And.intro hx (And.intro hy (And.intro nx ny)))
  have G := Lib.hid (growB_any (n + m) w h0 hle)
  have hbl : b < w.heap.size := World.block_lt_of_cell? w _ h1
  clear hx hy nx ny
  go_enter Tryd.func76, Tryd.ntmps76
  go_wp2
  go_loopw [3, 5, 11] (fun sz _ i wr => ∃ j : Nat, j ≤ 2 ∧ i = .int .i64 (j : Int) ∧ sz = .int .i64 (first2N n m j : Int) ∧ wr = w) (fun _ _ i _ => 2 - (intOf i).toNat)
  case atStart => exact ⟨0, by omega, rfl, rfl, rfl⟩
  case round =>
    obtain ⟨j, hj, rfl, rfl, e⟩ := hrel
    have e' := e.symm
    clear e
    subst e'
    obtain rfl | rfl | rfl : j = 0 ∨ j = 1 ∨ j = 2 := by omega
    · have hn : ¬ ((n : Int) < 0) := by omega
      simp only [first2N]
      go_wp2
      go_roundw
      case rel => exact ⟨1, by omega, by go_num, rfl, trivial⟩
      case measure => simp [intOf]
    · have hn : ¬ ((n : Int) + (m : Int) < 0) := by omega
      simp only [first2N]
      go_wp2
      go_roundw
      case rel => exact ⟨2, by omega, by go_num, by simp, trivial⟩
      case measure => simp [intOf]
    · simp only [first2N]
      go_wp2_with fail
      refine G.out.mono ?_
      rintro e w1 ⟨c1, rfl, ho, hb⟩
      have HO := Lib.hid (And.intro ho hb)
      clear ho hb
      have hw1 := HO.out.2
      have d1 : w1.cell? ⟨b, 0, none⟩ = some (.slice A n c) := (hw1.cell (World.block_lt_of_cell? w _ h1)).trans h1
      have d2 : w1.cell? ⟨b, 1, none⟩ = some (.slice A2 m c2) := (hw1.cell (World.block_lt_of_cell? w _ h2)).trans h2
      have HD := Lib.hid (And.intro d1 d2)
      clear h1 h2 hw1 d1 d2
      go_wp2
      go_loopw [6, 8, 27] (fun nw _ i w2 => ∃ (j : Nat) (A' : Option Addr) (c' : Nat), j ≤ 2 ∧ i = .int .i64 (j : Int) ∧ nw = .slice A' (first2N n m j) c' ∧ w2.ownsRow w.heap.size 5 1 (.slice A' (first2N n m j) c') (first2N n m j) (bvs (first2L xs ys j)) ∧ Below w.heap.size w w2 ∧
        w2.cell? ⟨b, 0, none⟩ = some (.slice A n c) ∧ w2.cell? ⟨b, 1, none⟩ = some (.slice A2 m c2)) (fun _ _ i _ => 2 - (intOf i).toNat)
      case atStart => exact ⟨0, _, c1, by omega, rfl, rfl, HO.out.1, HO.out.2, HD.out.1, HD.out.2⟩
      case round =>
        obtain ⟨j, A', c', hj, rfl, rfl, how, hbw, e1, e2⟩ := hrel
        have HW := Lib.hid (And.intro how hbw)
        clear how hbw
        obtain rfl | rfl | rfl : j = 0 ∨ j = 1 ∨ j = 2 := by omega
        · simp only [first2N, first2L] at HW ⊢
          go_wp2_with (refine wpList_step fun K hK => ?_; refine step_app_at (K := K) (by rfl) _ _ (by rfl) w.heap.size A' 0 c' [] (by rfl) HW.out.1 A n c xs (by rfl) (HX.out.1.below HW.out.2) HX.out.2.2.1 (by omega) HW.out.2.size ?_; intro A3 c3 w3 ow3 nx3; have HN := Lib.hid (And.intro ow3 nx3); clear ow3 nx3; refine hK _ _ ?_; clear hK K)
          have hb3 := HN.out.2.below HW.out.1 HW.out.2 (Nat.le_refl _) HW.out.2.size
          have ow3 := HN.out.1
          rw [Nat.zero_add, List.nil_append] at ow3
          have H3 := Lib.hid (And.intro ow3 hb3)
          have k1 := HN.out.2.cell e1 (fun e => by have := (HW.out.1.lt b e.symm).1; omega)
          have k2 := HN.out.2.cell e2 (fun e => by have := (HW.out.1.lt b e.symm).1; omega)
          clear ow3 hb3
          go_wp2
          go_roundw
          case rel => exact ⟨1, A3, c3, by omega, by go_num, by simp, H3.out.1, H3.out.2, k1, k2⟩
          case measure => simp [intOf]
        · simp only [first2N, first2L] at HW ⊢
          go_wp2_with (refine wpList_step fun K hK => ?_; refine step_app_at (K := K) (by rfl) _ _ (by rfl) w.heap.size A' n c' xs (by rfl) HW.out.1 A2 m c2 ys (by rfl) (HX.out.2.1.below HW.out.2) HX.out.2.2.2 (by omega) HW.out.2.size ?_; intro A3 c3 w3 ow3 nx3; have HN := Lib.hid (And.intro ow3 nx3); clear ow3 nx3; refine hK _ _ ?_; clear hK K)
          have hb3 := HN.out.2.below HW.out.1 HW.out.2 (Nat.le_refl _) HW.out.2.size
          have H3 := Lib.hid (And.intro HN.out.1 hb3)
          have k1 := HN.out.2.cell e1 (fun e => by have := (HW.out.1.lt b e.symm).1; omega)
          have k2 := HN.out.2.cell e2 (fun e => by have := (HW.out.1.lt b e.symm).1; omega)
          clear hb3
          go_wp2
          go_roundw
          case rel => exact ⟨2, A3, c3, by omega, by go_num, rfl, H3.out.1, H3.out.2, k1, k2⟩
          case measure => simp [intOf]
        · simp only [first2N, first2L] at HW ⊢
          go_wp2
          go_ret
          exact ⟨A', c', rfl, HW.out.1, HW.out.2⟩

end Go.Proofs.YtcekfnngnjpeeaaDoor

/-
  slices.Concat of any lists of bytes.
-/
namespace Go.Proofs.YtcekfnngnjpeeaaDoor
open Go.RowKit

set_option maxRecDepth 100000 in
set_option maxHeartbeats 2000000 in
theorem concat_any {w : World} {A : Option Addr} {k c : Nat} {R : List (List Nat)} (h : Ent w A k c R) (hk : k ≤ 100) (h0 : 0 < tot R) (hle : tot R ≤ 1000000) :
    Calls Tryd.prog 76 #[.slice A k c] w fun e w' =>
      ∃ A' c', e = .returned (.slice A' (tot R) c') ∧ w'.ownsRow w.heap.size 5 1 (.slice A' (tot R) c') (tot R) (bvs R.flatten) ∧ Below w.heap.size w w' := by
  have HX := Lib.hid h
  have hlen := Lib.hid h.len
  have HTT := Lib.hid (tot_take R)
  obtain ⟨T, hT⟩ : ∃ T, tot R = T := ⟨_, rfl⟩
  have HT := Lib.hid hT
  rw [hT] at h0 hle ⊢
  have G := Lib.hid (growB_any T w h0 hle)
  clear h hT
  go_enter Tryd.func76, Tryd.ntmps76
  go_wp2
  go_loopw [3, 5, 11] (fun sz _ i wr => ∃ j z : Nat, j ≤ k ∧ i = .int .i64 (j : Int) ∧ sz = .int .i64 (z : Int) ∧ Hid (z = tot (R.take j)) ∧ z ≤ T ∧ wr = w) (fun _ _ i _ => k - (intOf i).toNat)
  case atStart => exact ⟨0, 0, by omega, rfl, rfl, Lib.hid rfl, by omega, rfl⟩
  case round =>
    obtain ⟨j, z, hj, rfl, rfl, HZ, hz, e⟩ := hrel
    have e' := e.symm
    clear e
    subst e'
    by_cases hlt : j < k
    · obtain ⟨ad, B, m, d, b, rfl, hb, hcell, hcame, hm⟩ := HX.out.at_ hlt
      have hji : (j : Int) < (k : Int) := by omega
      have hz2 : z + m = tot (R.take (j + 1)) := by rw [rows_snoc hb, tot_snoc, ← HZ.out, hcame.in_.len]
      have hz3 : z + m ≤ T := by rw [hz2, ← HT.out]; exact HTT.out _
      have HZ2 := Lib.hid hz2
      have hn : ¬ ((z : Int) + (m : Int) < 0) := by omega
      clear hb hcame hz2 HZ
      go_wp2
      go_roundw
      case rel => exact ⟨j + 1, z + m, by omega, by go_num, by go_num, HZ2, hz3, trivial⟩
      case measure => simp [intOf]; omega
    · obtain rfl : j = k := by omega
      have hzT : z = T := by
        have := HZ.out
        rw [List.take_of_length_le (by rw [hlen.out]; exact Nat.le_refl _), HT.out] at this
        exact this
      subst hzT
      have hji : ¬ ((j : Int) < (j : Int)) := by omega
      clear HZ
      go_wp2_with fail
      refine G.out.mono ?_
      rintro e w1 ⟨c1, rfl, ho, hb⟩
      have HO := Lib.hid (And.intro ho hb)
      clear ho hb hji
      go_wp2
      go_loopw [6, 8, 27] (fun nw _ i w2 => ∃ (q s : Nat) (A' : Option Addr) (c' : Nat), q ≤ j ∧ i = .int .i64 (q : Int) ∧ nw = .slice A' s c' ∧ s ≤ z ∧ Hid (s = tot (R.take q) ∧ w2.ownsRow w.heap.size 5 1 (.slice A' s c') s (bvs (R.take q).flatten) ∧ Below w.heap.size w w2)) (fun _ _ i _ => j - (intOf i).toNat)
      case atStart => exact ⟨0, 0, _, c1, by omega, rfl, rfl, by omega, Lib.hid ⟨rfl, HO.out.1, HO.out.2⟩⟩
      case round =>
        obtain ⟨q, s, A', c', hq, rfl, rfl, hs, HW⟩ := hrel
        by_cases hqk : q < j
        · obtain ⟨ad, B, m, d, b, rfl, hb, hcell0, hcame0, hm⟩ := HX.out.at_ hqk
          have hcell := (HW.out.2.2.cell (World.block_lt_of_cell? w _ hcell0)).trans hcell0
          have hqi : (q : Int) < (j : Int) := by omega
          have hz2 : s + m = tot (R.take (q + 1)) := by rw [rows_snoc hb, tot_snoc, ← HW.out.1, hcame0.in_.len]
          have hz3 : s + m ≤ z := by rw [hz2, ← HT.out]; exact HTT.out _
          have HF := Lib.hid (And.intro (flat_snoc hb) (And.intro hz2 (hcame0.below HW.out.2.2)))
          clear hb hcell0 hcame0 hz2
          go_wp2_with (refine wpList_step fun K hK => ?_; refine step_app_at (K := K) (by rfl) _ _ (by rfl) w.heap.size A' s c' (R.take q).flatten (by rfl) HW.out.2.1 B m d b (by rfl) HF.out.2.2.in_ HF.out.2.2.nil (by omega) HW.out.2.2.size ?_; intro A3 c3 w3 ow3 nx3; have HN := Lib.hid (And.intro ow3 nx3); clear ow3 nx3; refine hK _ _ ?_; clear hK K)
          have ow3 := HN.out.1
          rw [← HF.out.1] at ow3
          have H3 := Lib.hid (And.intro HF.out.2.1 (And.intro ow3 (HN.out.2.below HW.out.2.1 HW.out.2.2 (Nat.le_refl _) HW.out.2.2.size)))
          clear ow3
          go_wp2
          go_roundw
          case rel => exact ⟨q + 1, s + m, A3, c3, by omega, by go_num, rfl, hz3, H3⟩
          case measure => simp [intOf]; omega
        · obtain rfl : q = j := by omega
          have hqi : ¬ ((q : Int) < (q : Int)) := by omega
          have ho := HW.out.2.1
          have he := HW.out.1
          rw [List.take_of_length_le (by rw [hlen.out]; exact Nat.le_refl _)] at ho he
          rw [HT.out] at he
          subst he
          have HO2 := Lib.hid ho
          clear ho
          go_wp2
          go_ret
          exact ⟨A', c', rfl, HO2.out, HW.out.2.2⟩

end Go.Proofs.YtcekfnngnjpeeaaDoor

/-
  clashes.leaf, clashes.node.
-/
namespace Go.Proofs.YtcekfnngnjpeeaaDoor
open Go.RowKit

theorem lit_cell (W : World) (z : Int) : (W.alloc (.cells #[.int .u8 z] 5)).cell? ⟨W.heap.size, 0, none⟩ = some (.int .u8 z) := by
  rw [cell_of_row _ _ 0 _ _ (0, 0) (World.alloc_heap_new W _)]; rfl
theorem lit_came (x : Nat) (hx : x < 256) (W : World) : Came (W.alloc (.cells #[.int .u8 (x : Int)] 5)) (some ⟨W.heap.size, 0, none⟩) 1 1 [x] :=
  ⟨⟨rfl, fun j y hy => ⟨_, rfl, by
    have hj := (List.getElem?_eq_some_iff.1 hy).1
    obtain rfl : j = 0 := by simp at hj; omega
    cases hy
    exact lit_cell W _⟩⟩, (by intro y hy; simp at hy; omega), (fun h => by cases h), Nat.le_refl _⟩
/-- Two lists of bytes in a row of slices that was laid last. -/
theorem ent_two {W : World} {A B : Option Addr} {n c m d : Nat} {xs ys : List Nat} (h1 : Came W A n c xs) (h2 : Came W B m d ys) (hn : n ≤ 20000) (hm : m ≤ 20000) :
    Ent (W.alloc (.cells #[.slice A n c, .slice B m d] 22)) (some ⟨W.heap.size, 0, none⟩) 2 2 [xs, ys] :=
  ⟨⟨rfl, fun r zs hz => by
    match r with
    | 0 => cases hz; exact ⟨_, A, n, c, rfl, by rw [add_zero', cell_of_row _ _ 0 _ _ (0, 0) (World.alloc_heap_new W _)]; rfl, h1.below (below_alloc W _), by omega⟩
    | 1 => cases hz; exact ⟨_, B, m, d, rfl, by
        rw [show (⟨W.heap.size, 0, none⟩ : Addr).add 1 = ⟨W.heap.size, 1, none⟩ from rfl, cell_of_row _ _ 1 _ _ (0, 0) (World.alloc_heap_new W _)]; rfl, h2.below (below_alloc W _), by omega⟩⟩,
    Nat.le_refl _, (fun e => by cases e), fun b hb => by
      simp at hb
      rcases hb with rfl | rfl
      · rw [h1.in_.len]; exact hn
      · rw [h2.in_.len]; exact hm⟩

section
variable {w : World} {A B : Option Addr} {n c m d : Nat} {xs ys : List Nat}

set_option maxRecDepth 100000 in
set_option maxHeartbeats 2000000 in
theorem cleaf_any (h1 : Came w A n c xs) (h2 : Came w B m d ys) (hn : n ≤ 20000) (hm : m ≤ 20000) (hk : Knows w) (hks : Starts w) :
    Calls Tryd.prog 56 #[.slice A n c, .slice B m d] w fun e w' => Told w.heap.size (sv (leafL xs ++ leafL ys)) (leafL xs = leafL ys → xs = ys) e w' ∧ Below w.heap.size w w' := by
  have b1 := below_alloc w (.cells (bvs zero64).toArray 58)
  have f1 := BArr.new w 58 zero64
  have e0 : (bvs zero64).toArray = #[.int .u8 0, .int .u8 0, .int .u8 0, .int .u8 0, .int .u8 0, .int .u8 0, .int .u8 0, .int .u8 0, .int .u8 0, .int .u8 0, .int .u8 0, .int .u8 0, .int .u8 0, .int .u8 0, .int .u8 0, .int .u8 0, .int .u8 0, .int .u8 0, .int .u8 0, .int .u8 0, .int .u8 0, .int .u8 0, .int .u8 0, .int .u8 0, .int .u8 0, .int .u8 0, .int .u8 0, .int .u8 0, .int .u8 0, .int .u8 0, .int .u8 0, .int .u8 0, .int .u8 0, .int .u8 0, .int .u8 0, .int .u8 0, .int .u8 0, .int .u8 0, .int .u8 0, .int .u8 0, .int .u8 0, .int .u8 0, .int .u8 0, .int .u8 0, .int .u8 0, .int .u8 0, .int .u8 0, .int .u8 0, .int .u8 0, .int .u8 0, .int .u8 0, .int .u8 0, .int .u8 0, .int .u8 0, .int .u8 0, .int .u8 0, .int .u8 0, .int .u8 0, .int .u8 0, .int .u8 0, .int .u8 0, .int .u8 0, .int .u8 0, .int .u8 0] := rfl
  rw [e0] at b1 f1
  obtain ⟨w1, hw1⟩ : ∃ w1, w1 = w.alloc (.cells #[.int .u8 0, .int .u8 0, .int .u8 0, .int .u8 0, .int .u8 0, .int .u8 0, .int .u8 0, .int .u8 0, .int .u8 0, .int .u8 0, .int .u8 0, .int .u8 0, .int .u8 0, .int .u8 0, .int .u8 0, .int .u8 0, .int .u8 0, .int .u8 0, .int .u8 0, .int .u8 0, .int .u8 0, .int .u8 0, .int .u8 0, .int .u8 0, .int .u8 0, .int .u8 0, .int .u8 0, .int .u8 0, .int .u8 0, .int .u8 0, .int .u8 0, .int .u8 0, .int .u8 0, .int .u8 0, .int .u8 0, .int .u8 0, .int .u8 0, .int .u8 0, .int .u8 0, .int .u8 0, .int .u8 0, .int .u8 0, .int .u8 0, .int .u8 0, .int .u8 0, .int .u8 0, .int .u8 0, .int .u8 0, .int .u8 0, .int .u8 0, .int .u8 0, .int .u8 0, .int .u8 0, .int .u8 0, .int .u8 0, .int .u8 0, .int .u8 0, .int .u8 0, .int .u8 0, .int .u8 0, .int .u8 0, .int .u8 0, .int .u8 0, .int .u8 0] 58) := ⟨_, rfl⟩
  rw [← hw1] at b1 f1
  have HW := Lib.hid hw1
  have b2 := below_alloc w1 (.cells #[.int .u8 0] 5)
  have l2 : Came (w1.alloc (.cells #[.int .u8 0] 5)) (some ⟨w1.heap.size, 0, none⟩) 1 1 [0] := lit_came 0 (by omega) w1
  obtain ⟨w2, hw2⟩ : ∃ w2, w2 = w1.alloc (.cells #[.int .u8 0] 5) := ⟨_, rfl⟩
  rw [← hw2] at b2 l2
  have HW2 := Lib.hid hw2
  have b02 := below_on b1 (Nat.le_refl _) b2
  have H2 := Lib.hid (And.intro b02 (And.intro (f1.below b2) l2))
  have HK := Lib.hid (And.intro h1 (And.intro h2 (And.intro hk hks)))
  obtain ⟨g2, hg2⟩ : ∃ g, w1.heap.size = g := ⟨_, rfl⟩
  rw [hg2] at H2
  have HG2 := Lib.hid hg2
  clear hw1 hw2 b1 f1 e0 b2 l2 h1 h2 hk hks b02 hg2
  obtain ⟨P, hP⟩ : ∃ P, leafL xs ++ leafL ys = P := ⟨_, rfl⟩
  have Pl : P.length = 64 := by rw [← hP, List.length_append, leafL_length, leafL_length]
  rw [hP]
  have HP := Lib.hid hP
  clear hP
  go_enter Tryd.func56, Tryd.ntmps56
  go_upto_region 1 with fail
  rw [← HW.out]
  go_upto_region 2 with fail
  rw [HG2.out, ← HW2.out]
  have E3 := ent_two H2.out.2.2 (HK.out.1.below H2.out.1) (by omega) hn
  have b3 := below_alloc w2 (.cells #[.slice (some ⟨g2, 0, none⟩) 1 1, .slice A n c] 22)
  obtain ⟨w3, hw3⟩ : ∃ w3, w3 = w2.alloc (.cells #[.slice (some ⟨g2, 0, none⟩) 1 1, .slice A n c] 22) := ⟨_, rfl⟩
  rw [← hw3] at E3 b3
  have hlx : xs.length = n := HK.out.1.in_.len
  have hly : ys.length = m := HK.out.2.1.in_.len
  have t3 : tot [[0], xs] = n + 1 := by simp [tot, hlx]; omega
  have C3 := concat_any E3 (by omega) (by rw [t3]; omega) (by rw [t3]; omega)
  rw [t3, show [[0], xs].flatten = 0 :: xs by simp] at C3
  have CC := Lib.hid C3
  have HW3 := Lib.hid hw3
  have H3 := Lib.hid (below_on H2.out.1 (Nat.le_refl _) b3)
  have H3b := Lib.hid b3
  clear E3 b3 hw3 t3 C3 hlx hly
  go_wp2_with fail
  rw [← HW3.out]
  refine CC.out.mono ?_
  rintro e w4 ⟨A4, c4, rfl, ho4, hb4⟩
  have b34 := below_on H3.out (Nat.le_refl _) hb4
  have HF4 := Lib.hid ((H2.out.2.1.below H3b.out).below hb4)
  have H4 := Lib.hid (And.intro b34 (And.intro ho4 (And.intro H3.out.size ((H2.out.2.2.below H3b.out).below hb4))))
  have E5 := ent_two H4.out.2.2.2 (HK.out.2.1.below b34) (by omega) hm
  have b5 := below_alloc w4 (.cells #[.slice (some ⟨g2, 0, none⟩) 1 1, .slice B m d] 22)
  obtain ⟨w5, hw5⟩ : ∃ w5, w5 = w4.alloc (.cells #[.slice (some ⟨g2, 0, none⟩) 1 1, .slice B m d] 22) := ⟨_, rfl⟩
  rw [← hw5] at E5 b5
  have hly : ys.length = m := HK.out.2.1.in_.len
  have t5 : tot [[0], ys] = m + 1 := by simp [tot, hly]; omega
  have C5 := concat_any E5 (by omega) (by rw [t5]; omega) (by rw [t5]; omega)
  rw [t5, show [[0], ys].flatten = 0 :: ys by simp] at C5
  have CC5 := Lib.hid C5
  have HW5 := Lib.hid hw5
  have HF5 := Lib.hid (HF4.out.below b5)
  have H5 := Lib.hid (And.intro (below_on H4.out.1 (Nat.le_refl _) b5) (own_on H4.out.2.1 b5))
  clear E5 b5 hw5 t5 C5 hly b34 ho4 hb4 CC
  go_wp2_with fail
  rw [← HW5.out]
  refine CC5.out.mono ?_
  rintro e w6 ⟨A6, c6, rfl, ho6, hb6⟩
  have hx0 : ∀ x ∈ 0 :: xs, x < 256 := fun x hx => by rcases List.mem_cons.1 hx with rfl | hx; omega; exact HK.out.1.lt x hx
  have hy0 : ∀ x ∈ 0 :: ys, x < 256 := fun x hx => by rcases List.mem_cons.1 hx with rfl | hx; omega; exact HK.out.2.1.lt x hx
  have T6 : Two w.heap.size w6 A4 (n + 1) c4 (0 :: xs) A6 (m + 1) c6 (0 :: ys) :=
    ⟨own_low2 (own_on H5.out.2 hb6) H4.out.2.2.1, own_low2 ho6 H5.out.1.size, fun x e1 e2 => by have a1 := (H5.out.2.lt x e1).2; have a2 := (ho6.lt x e2).1; omega, hx0, hy0, by omega, by omega⟩
  have b06 := below_on H5.out.1 (Nat.le_refl _) hb6
  have C6 := held_any T6 b06.size (HK.out.2.2.1.below b06) (HK.out.2.2.2.below b06)
  rw [show sha (0 :: xs) = leafL xs from rfl, show sha (0 :: ys) = leafL ys from rfl, HP.out] at C6
  have CH := Lib.hid C6
  have H6 := Lib.hid b06
  have HF6 := Lib.hid (HF5.out.below hb6)
  clear T6 C6 b06 ho6 hb6 hx0 hy0 CC5 H5 H4 H3
  go_wp2_with fail
  refine CH.out.mono ?_
  rintro e w7 ⟨hT, hb7⟩
  have H7 := Lib.hid (below_on H6.out (Nat.le_refl _) hb7)
  rcases hT with ⟨rfl, hsame⟩ | ⟨u, rfl, hu⟩
  · have f7 := HF6.out.below hb7
    have HS := Lib.hid hsame
    have HZ64 : zero64.length = 64 := rfl
    clear hsame hb7
    go_wp2_with (with_reducible refine wpList_store_pairC rfl (.tmp 4) (.tmp 15) rfl w.heap.size rfl zero64 P HZ64 Pl f7 rfl ?_)
    refine bodyPost_ret_by (results_cell_row (p := 4) (ty := 58) (by kernel_rfl) _ _ w.heap.size 58 (bvs P).toArray (0, 0) _ rfl (f7.setRow _) Tryd.underlying58 rfl (by rw [List.size_toArray, bvs_length, Pl]; exact sizePairC)) rfl ?_
    exact ⟨.inl ⟨rfl, same_leaf HS.out⟩, below_setRow H7.out (Nat.le_refl _) _⟩
  · have HU := Lib.hid hu
    clear hu hb7
    go_wp2_with fail
    exact ⟨rfl, .inr ⟨u, rfl, HU.out⟩, H7.out⟩
end

end Go.Proofs.YtcekfnngnjpeeaaDoor

/-
  clashes.node.
-/
namespace Go.Proofs.YtcekfnngnjpeeaaDoor
open Go.RowKit

/-- Three lists of bytes in a row of slices that was laid last. -/
theorem ent_three {W : World} {A B C : Option Addr} {n c m d k q : Nat} {xs ys zs : List Nat} (h1 : Came W A n c xs) (h2 : Came W B m d ys) (h3 : Came W C k q zs) (hn : n ≤ 20000) (hm : m ≤ 20000) (hk : k ≤ 20000) :
    Ent (W.alloc (.cells #[.slice A n c, .slice B m d, .slice C k q] 22)) (some ⟨W.heap.size, 0, none⟩) 3 3 [xs, ys, zs] :=
  ⟨⟨rfl, fun r us hz => by
    match r with
    | 0 => cases hz; exact ⟨_, A, n, c, rfl, by rw [add_zero', cell_of_row _ _ 0 _ _ (0, 0) (World.alloc_heap_new W _)]; rfl, h1.below (below_alloc W _), by omega⟩
    | 1 => cases hz; exact ⟨_, B, m, d, rfl, by
        rw [show (⟨W.heap.size, 0, none⟩ : Addr).add 1 = ⟨W.heap.size, 1, none⟩ from rfl, cell_of_row _ _ 1 _ _ (0, 0) (World.alloc_heap_new W _)]; rfl, h2.below (below_alloc W _), by omega⟩
    | 2 => cases hz; exact ⟨_, C, k, q, rfl, by
        rw [show (⟨W.heap.size, 0, none⟩ : Addr).add 2 = ⟨W.heap.size, 2, none⟩ from rfl, cell_of_row _ _ 2 _ _ (0, 0) (World.alloc_heap_new W _)]; rfl, h3.below (below_alloc W _), by omega⟩⟩,
    Nat.le_refl _, (fun e => by cases e), fun b hb => by
      simp at hb
      rcases hb with rfl | rfl | rfl
      · rw [h1.in_.len]; exact hn
      · rw [h2.in_.len]; exact hm
      · rw [h3.in_.len]; exact hk⟩

/-- Both sums of a pair, as bytes. -/
theorem came_half {W : World} {g : Nat} {T : TypeId} {x y : List Nat} (h : BArr W g T (x ++ y)) (hx : x.length = 32) (hy : y.length = 32) (lx : ∀ a ∈ x, a < 256) (ly : ∀ a ∈ y, a < 256) :
    Came W (some ⟨g, 0, none⟩) 32 32 x ∧ Came W (some ⟨g, 32, none⟩) 32 32 y := by
  have ha := h.at_
  refine ⟨⟨⟨hx, fun j v hj => ⟨_, rfl, ?_⟩⟩, lx, (fun e => by cases e), Nat.le_refl _⟩, ⟨⟨hy, fun j v hj => ⟨_, rfl, ?_⟩⟩, ly, (fun e => by cases e), Nat.le_refl _⟩⟩
  · exact ha j v (by rw [List.getElem?_append_left (List.getElem?_eq_some_iff.1 hj).1]; exact hj)
  · have := ha (32 + j) v (by rw [List.getElem?_append_right (by omega), hx, Nat.add_sub_cancel_left]; exact hj)
    rw [← add_add] at this
    exact this

/-- The world in which node begins. -/
structure NodeIn (w w1 : World) (g : Nat) (l r : List Nat) : Prop where
  l : BArr w1 g 58 l
  r : BArr w1 (g + 1) 58 r
  res : BArr w1 (g + 2) 58 zero64
  lit : Came w1 (some ⟨g + 3, 0, none⟩) 1 1 [1]
  below : Below g w w1
  size : w1.heap.size = g + 4
theorem NodeIn.mk_ (w : World) (g : Nat) (l r : List Nat) (hg : w.heap.size = g) : NodeIn w ((((w.alloc (.cells (bvs l).toArray 58)).alloc (.cells (bvs r).toArray 58)).alloc (.cells (bvs zero64).toArray 58)).alloc (.cells #[.int .u8 1] 5)) g l r := by
  have h0 := BArr.new w 58 l
  have b0 := below_alloc w (.cells (bvs l).toArray 58)
  obtain ⟨w0, e0⟩ : ∃ w0, w0 = w.alloc (.cells (bvs l).toArray 58) := ⟨_, rfl⟩
  have s0 : w0.heap.size = g + 1 := by rw [e0]; simp [hg]
  rw [← e0] at h0 b0 ⊢
  have h1 := BArr.new w0 58 r
  have b1 := below_alloc w0 (.cells (bvs r).toArray 58)
  obtain ⟨w1, e1⟩ : ∃ w1, w1 = w0.alloc (.cells (bvs r).toArray 58) := ⟨_, rfl⟩
  have s1 : w1.heap.size = g + 2 := by rw [e1]; simp [s0]
  rw [← e1] at h1 b1 ⊢
  have h2 := BArr.new w1 58 zero64
  have b2 := below_alloc w1 (.cells (bvs zero64).toArray 58)
  obtain ⟨w2, e2⟩ : ∃ w2, w2 = w1.alloc (.cells (bvs zero64).toArray 58) := ⟨_, rfl⟩
  have s2 : w2.heap.size = g + 3 := by rw [e2]; simp [s1]
  rw [← e2] at h2 b2 ⊢
  have h3 := lit_came 1 (by omega) w2
  have b3 := below_alloc w2 (.cells #[.int .u8 1] 5)
  rw [hg] at h0 b0
  rw [s0] at h1
  rw [s1] at h2
  rw [s2] at h3
  exact ⟨((h0.below b1).below b2).below b3, (h1.below b2).below b3, h2.below b3, h3, below_on (below_on (below_on b0 (by omega) b1) (by omega) b2) (by omega) b3, by simp [s2]⟩

theorem but_setRow {S : Nat → Prop} {a w : World} (h : But S a w) {b : Nat} (hb : S b) (cs : Array Value) : But S a (w.setRow b cs) :=
  ⟨h.os, h.tape, h.output, by rw [setRow_size]; exact h.size, fun k hk hn => (Go.setRow_other _ _ _ _ (fun e => hn (by first | rw [e]; exact hb | rw [← e]; exact hb))).trans (h.block k hk hn)⟩

section
variable {w : World} {l0 l1 r0 r1 : List Nat}

set_option maxRecDepth 100000 in
set_option maxHeartbeats 8000000 in
theorem cnode_any (a0 : l0.length = 32) (a1 : l1.length = 32) (a2 : r0.length = 32) (a3 : r1.length = 32) (t0 : ∀ x ∈ l0, x < 256) (t1 : ∀ x ∈ l1, x < 256) (t2 : ∀ x ∈ r0, x < 256) (t3 : ∀ x ∈ r1, x < 256) (hk : Knows w) (hks : Starts w) :
    Calls Tryd.prog 59 #[sv (l0 ++ l1), sv (r0 ++ r1)] w fun e w' => Told w.heap.size (sv (nodeL l0 r0 ++ nodeL l1 r1)) (nodeL l0 r0 = nodeL l1 r1 → l0 = l1 ∧ r0 = r1) e w' ∧ Below w.heap.size w w' := by
  obtain ⟨g, hg⟩ : ∃ g, w.heap.size = g := ⟨_, rfl⟩
  have h4 := NodeIn.mk_ w g (l0 ++ l1) (r0 ++ r1) hg
  have e0 : (bvs zero64).toArray = #[.int .u8 0, .int .u8 0, .int .u8 0, .int .u8 0, .int .u8 0, .int .u8 0, .int .u8 0, .int .u8 0, .int .u8 0, .int .u8 0, .int .u8 0, .int .u8 0, .int .u8 0, .int .u8 0, .int .u8 0, .int .u8 0, .int .u8 0, .int .u8 0, .int .u8 0, .int .u8 0, .int .u8 0, .int .u8 0, .int .u8 0, .int .u8 0, .int .u8 0, .int .u8 0, .int .u8 0, .int .u8 0, .int .u8 0, .int .u8 0, .int .u8 0, .int .u8 0, .int .u8 0, .int .u8 0, .int .u8 0, .int .u8 0, .int .u8 0, .int .u8 0, .int .u8 0, .int .u8 0, .int .u8 0, .int .u8 0, .int .u8 0, .int .u8 0, .int .u8 0, .int .u8 0, .int .u8 0, .int .u8 0, .int .u8 0, .int .u8 0, .int .u8 0, .int .u8 0, .int .u8 0, .int .u8 0, .int .u8 0, .int .u8 0, .int .u8 0, .int .u8 0, .int .u8 0, .int .u8 0, .int .u8 0, .int .u8 0, .int .u8 0, .int .u8 0] := rfl
  rw [e0] at h4
  obtain ⟨w4, hw4⟩ : ∃ w4, w4 = (((w.alloc (.cells (bvs (l0 ++ l1)).toArray 58)).alloc (.cells (bvs (r0 ++ r1)).toArray 58)).alloc (.cells #[.int .u8 0, .int .u8 0, .int .u8 0, .int .u8 0, .int .u8 0, .int .u8 0, .int .u8 0, .int .u8 0, .int .u8 0, .int .u8 0, .int .u8 0, .int .u8 0, .int .u8 0, .int .u8 0, .int .u8 0, .int .u8 0, .int .u8 0, .int .u8 0, .int .u8 0, .int .u8 0, .int .u8 0, .int .u8 0, .int .u8 0, .int .u8 0, .int .u8 0, .int .u8 0, .int .u8 0, .int .u8 0, .int .u8 0, .int .u8 0, .int .u8 0, .int .u8 0, .int .u8 0, .int .u8 0, .int .u8 0, .int .u8 0, .int .u8 0, .int .u8 0, .int .u8 0, .int .u8 0, .int .u8 0, .int .u8 0, .int .u8 0, .int .u8 0, .int .u8 0, .int .u8 0, .int .u8 0, .int .u8 0, .int .u8 0, .int .u8 0, .int .u8 0, .int .u8 0, .int .u8 0, .int .u8 0, .int .u8 0, .int .u8 0, .int .u8 0, .int .u8 0, .int .u8 0, .int .u8 0, .int .u8 0, .int .u8 0, .int .u8 0, .int .u8 0] 58)).alloc (.cells #[.int .u8 1] 5) := ⟨_, rfl⟩
  rw [← hw4] at h4
  have HW := Lib.hid hw4
  have HG := Lib.hid hg
  have H4 := Lib.hid h4
  obtain ⟨P, hP⟩ : ∃ P, nodeL l0 r0 ++ nodeL l1 r1 = P := ⟨_, rfl⟩
  have Pl : P.length = 64 := by rw [← hP, List.length_append, nodeL_length, nodeL_length]
  have C5 := Lib.hid (fun (W : World) (hW : Below w4.heap.size w4 W) => show Came W (some ⟨g + 3, 0, none⟩) 1 1 [1] ∧ Came W (some ⟨g, 0, none⟩) 32 32 l0 ∧ Came W (some ⟨g + 1, 0, none⟩) 32 32 r0 ∧ Came W (some ⟨g, 32, none⟩) 32 32 l1 ∧ Came W (some ⟨g + 1, 32, none⟩) 32 32 r1 from
    ⟨h4.lit.below hW, (came_half (h4.l.below hW) a0 a1 t0 t1).1, (came_half (h4.r.below hW) a2 a3 t2 t3).1, (came_half (h4.l.below hW) a0 a1 t0 t1).2, (came_half (h4.r.below hW) a2 a3 t2 t3).2⟩)
  have CC := Lib.hid (fun (W : World) (p : Nat) (x y : List Nat) (hx : x.length = 32) (hy : y.length = 32) (he : Ent W (some ⟨p, 0, none⟩) 3 3 [[1], x, y]) => show Calls Tryd.prog 76 #[.slice (some ⟨p, 0, none⟩) 3 3] W fun e w' => ∃ A' c', e = .returned (.slice A' 65 c') ∧ w'.ownsRow W.heap.size 5 1 (.slice A' 65 c') 65 (bvs (1 :: (x ++ y))) ∧ Below W.heap.size W w' from by
    have ht : tot [[1], x, y] = 65 := by simp [tot, hx, hy]
    have := concat_any he (by omega) (by rw [ht]; omega) (by rw [ht]; omega)
    rw [ht, show [[1], x, y].flatten = 1 :: (x ++ y) by simp] at this
    exact this)
  have CH := Lib.hid (fun (W : World) (A B : Option Addr) (c d : Nat) (hW : Below w4.heap.size w4 W) (hT : Two g W A 65 c (1 :: (l0 ++ r0)) B 65 d (1 :: (l1 ++ r1))) => show Calls Tryd.prog 75 #[.slice A 65 c, .slice B 65 d] W fun e w' => Told g (sv P) (nodeL l0 r0 = nodeL l1 r1 → l0 = l1 ∧ r0 = r1) e w' ∧ Below W.heap.size W w' from by
    have hb : Below w.heap.size w W := by have hx := h4.below; have hs := h4.size; rw [hg]; exact below_on hx (by omega) hW
    have := held_any hT (by have := hb.size; omega) (hk.below hb) (hks.below hb)
    refine this.mono fun e w' ⟨h, hb⟩ => ⟨?_, hb⟩
    rcases h with ⟨h1, h2⟩ | h
    · exact .inl ⟨by rw [h1, ← hP]; rfl, same_node (by rw [a0, a1]) h2⟩
    · exact .inr h)
  have HX := Lib.hid (show (∀ x ∈ 1 :: (l0 ++ r0), x < 256) ∧ ∀ x ∈ 1 :: (l1 ++ r1), x < 256 from
    ⟨fun x hx => by rcases List.mem_cons.1 hx with rfl | hx; omega; rcases List.mem_append.1 hx with hx | hx; exact t0 x hx; exact t2 x hx,
     fun x hx => by rcases List.mem_cons.1 hx with rfl | hx; omega; rcases List.mem_append.1 hx with hx | hx; exact t1 x hx; exact t3 x hx⟩)
  have HL := Lib.hid (And.intro a0 (And.intro a1 (And.intro a2 a3)))
  have hsa := run_arr_all Tryd.underlying29
  rw [hg, hP]
  clear h4 e0 hw4 hg hP hk hks t0 t1 t2 t3 a0 a1 a2 a3
  unfold sv
  go_enter Tryd.func59, Tryd.ntmps59
  go_upto_region 1 with fail
  go_upto_region 2 with fail
  rw [← HW.out]
  rw [HG.out]
  have hS0 : Below w4.heap.size w4 w4.drew := (Below.refl _ _).drew
  refine wp_region_held_drew (S := fun W => But (· = g + 2) w4 W) (by kernel_rfl) (But.of_below hS0) (fun _ => ?_)
  change wpAnyH _ _ _ _ _ _ _ _ w4.drew
  generalize w4.drew = W0 at hS0 ⊢
  refine' wpAnyH_take (i := 0) (oi := _) (v := _) ?hin0 (by kernel_rfl) ?hfn0 ?hrn0 ?hQn0 ?hyn0 (But.of_below hS0) ?restn0
  case hin0 => (simp only [List.getElem?_toArray, List.getElem?_cons_zero]; rfl)
  case hfn0 => kernel_rfl
  case hrn0 => kernel_rfl
  case hQn0 => exact fun _ _ _ h => h
  case hyn0 => refine Or.inl ⟨by rfl, ?_⟩; intro W hSw; go_simp; try with_reducible rfl
  try simp only [Act.put, List.setIfInBounds_toArray, List.set_cons_zero, List.set_cons_succ]
  refine' wpAnyH_take (i := 1) (oi := _) (v := _) ?hin1 (by kernel_rfl) ?hfn1 ?hrn1 ?hQn1 ?hyn1 (But.of_below hS0) ?restn1
  case hin1 => (simp only [List.getElem?_toArray, List.getElem?_cons_zero, List.getElem?_cons_succ]; rfl)
  case hfn1 => kernel_rfl
  case hrn1 => kernel_rfl
  case hQn1 => exact fun _ _ _ h => h
  case hyn1 => refine Or.inl ⟨by rfl, ?_⟩; intro W hSw; go_simp; try with_reducible rfl
  try simp only [Act.put, List.setIfInBounds_toArray, List.set_cons_zero, List.set_cons_succ]
  refine' wpAnyH_take (i := 2) (oi := _) (v := _) ?hin2 (by kernel_rfl) ?hfn2 ?hrn2 ?hQn2 ?hyn2 (But.of_below hS0) ?restn2
  case hin2 => (simp only [List.getElem?_toArray, List.getElem?_cons_zero, List.getElem?_cons_succ]; rfl)
  case hfn2 => kernel_rfl
  case hrn2 => kernel_rfl
  case hQn2 => exact fun _ _ _ h => h
  case hyn2 => refine Or.inl ⟨by rfl, ?_⟩; intro W hSw; go_simp; try with_reducible rfl
  try simp only [Act.put, List.setIfInBounds_toArray, List.set_cons_zero, List.set_cons_succ]
  refine' wpAnyH_take (i := 3) (oi := _) (v := _) ?hin3 (by kernel_rfl) ?hfn3 ?hrn3 ?hQn3 ?hyn3 (But.of_below hS0) ?restn3
  case hin3 => (simp only [List.getElem?_toArray, List.getElem?_cons_zero, List.getElem?_cons_succ]; rfl)
  case hfn3 => kernel_rfl
  case hrn3 => kernel_rfl
  case hQn3 => exact fun _ _ _ h => h
  case hyn3 => refine Or.inl ⟨by rfl, ?_⟩; intro W hSw; go_simp; try with_reducible rfl
  try simp only [Act.put, List.setIfInBounds_toArray, List.set_cons_zero, List.set_cons_succ]
  refine' wpAnyH_take (i := 4) (oi := _) (v := _) ?hin4 (by kernel_rfl) ?hfn4 ?hrn4 ?hQn4 ?hyn4 (But.of_below hS0) ?restn4
  case hin4 => (simp only [List.getElem?_toArray, List.getElem?_cons_zero, List.getElem?_cons_succ]; rfl)
  case hfn4 => kernel_rfl
  case hrn4 => kernel_rfl
  case hQn4 => exact fun _ _ _ h => h
  case hyn4 => refine Or.inl ⟨by rfl, ?_⟩; intro W hSw; go_simp; try with_reducible rfl
  try simp only [Act.put, List.setIfInBounds_toArray, List.set_cons_zero, List.set_cons_succ]
  refine' wpAnyH_take (i := 7) (oi := _) (v := _) ?hin7 (by kernel_rfl) ?hfn7 ?hrn7 ?hQn7 ?hyn7 (But.of_below hS0) ?restn7
  case hin7 => (simp only [List.getElem?_toArray, List.getElem?_cons_zero, List.getElem?_cons_succ]; rfl)
  case hfn7 => kernel_rfl
  case hrn7 => kernel_rfl
  case hQn7 => exact fun _ _ _ h => h
  case hyn7 => refine Or.inl ⟨by rfl, ?_⟩; intro W hSw; go_simp; try with_reducible rfl
  try simp only [Act.put, List.setIfInBounds_toArray, List.set_cons_zero, List.set_cons_succ]
  refine' wpAnyH_take (i := 8) (oi := _) (v := _) ?hin8 (by kernel_rfl) ?hfn8 ?hrn8 ?hQn8 ?hyn8 (But.of_below hS0) ?restn8
  case hin8 => (simp only [List.getElem?_toArray, List.getElem?_cons_zero, List.getElem?_cons_succ]; rfl)
  case hfn8 => kernel_rfl
  case hrn8 => kernel_rfl
  case hQn8 => exact fun _ _ _ h => h
  case hyn8 => refine Or.inl ⟨by rfl, ?_⟩; intro W hSw; go_simp; try with_reducible rfl
  try simp only [Act.put, List.setIfInBounds_toArray, List.set_cons_zero, List.set_cons_succ]
  refine' wpAnyH_take (i := 9) (oi := _) (v := _) ?hin9 (by kernel_rfl) ?hfn9 ?hrn9 ?hQn9 ?hyn9 (But.of_below hS0) ?restn9
  case hin9 => (simp only [List.getElem?_toArray, List.getElem?_cons_zero, List.getElem?_cons_succ]; rfl)
  case hfn9 => kernel_rfl
  case hrn9 => kernel_rfl
  case hQn9 => exact fun _ _ _ h => h
  case hyn9 => refine Or.inl ⟨by rfl, ?_⟩; intro W hSw; go_simp; try with_reducible rfl
  try simp only [Act.put, List.setIfInBounds_toArray, List.set_cons_zero, List.set_cons_succ]
  refine' wpAnyH_take (i := 10) (oi := _) (v := _) ?hin10 (by kernel_rfl) ?hfn10 ?hrn10 ?hQn10 ?hyn10 (But.of_below hS0) ?restn10
  case hin10 => (simp only [List.getElem?_toArray, List.getElem?_cons_zero, List.getElem?_cons_succ]; rfl)
  case hfn10 => kernel_rfl
  case hrn10 => kernel_rfl
  case hQn10 => exact fun _ _ _ h => h
  case hyn10 => refine Or.inl ⟨by rfl, ?_⟩; intro W hSw; go_simp; try with_reducible rfl
  try simp only [Act.put, List.setIfInBounds_toArray, List.set_cons_zero, List.set_cons_succ]
  refine' wpAnyH_take (i := 11) (oi := _) (v := _) ?hin11 (by kernel_rfl) ?hfn11 ?hrn11 ?hQn11 ?hyn11 (But.of_below hS0) ?restn11
  case hin11 => (simp only [List.getElem?_toArray, List.getElem?_cons_zero, List.getElem?_cons_succ]; rfl)
  case hfn11 => kernel_rfl
  case hrn11 => kernel_rfl
  case hQn11 => exact fun _ _ _ h => h
  case hyn11 => refine Or.inl ⟨by rfl, ?_⟩; intro W hSw; go_simp; try with_reducible rfl
  try simp only [Act.put, List.setIfInBounds_toArray, List.set_cons_zero, List.set_cons_succ]
  refine wpAnyH_ready (rs := [5, 12]) (by kernel_rfl) (by simp) ?_
  refine' (AllReadyH.cons (o := _) ?hi1 (fun K hK => ?_) (AllReadyH.cons (o := _) ?hi2 (fun K hK => ?_) AllReadyH.nil))
  case hi1 => (simp only [List.getElem?_toArray, List.getElem?_cons_zero, List.getElem?_cons_succ]; rfl)
  case hi2 => (simp only [List.getElem?_toArray, List.getElem?_cons_zero, List.getElem?_cons_succ]; rfl)
  · skip
    go_simp
    have hB3 := Below.alloc hS0 (Below.size hS0) (.cells #[.slice (some ⟨g + 3, 0, none⟩) 1 1, .slice (some ⟨g, 0, none⟩) 32 32, .slice (some ⟨g + 1, 0, none⟩) 32 32] 22)
    have hE4 := ent_three (C5.out W0 hS0).1 (C5.out W0 hS0).2.1 (C5.out W0 hS0).2.2.1 (by omega) (by omega) (by omega)
    refine hK.out _ _ (But.of_below hB3) (fun _ => ?_)
    clear hK K
    try simp only [Act.put, List.setIfInBounds_toArray, List.set_cons_zero, List.set_cons_succ]
    generalize (W0.alloc (.cells #[.slice (some ⟨g + 3, 0, none⟩) 1 1, .slice (some ⟨g, 0, none⟩) 32 32, .slice (some ⟨g + 1, 0, none⟩) 32 32] 22)) = W5 at hB3 hE4 ⊢
    refine wpAnyH_ready (rs := [6, 12]) (by kernel_rfl) (by simp) ?_
    refine' (AllReadyH.cons (o := _) ?hi6 (fun K hK => ?_) (AllReadyH.cons (o := _) ?hi7 (fun K hK => ?_) AllReadyH.nil))
    case hi6 => (simp only [List.getElem?_toArray, List.getElem?_cons_zero, List.getElem?_cons_succ]; rfl)
    case hi7 => (simp only [List.getElem?_toArray, List.getElem?_cons_zero, List.getElem?_cons_succ]; rfl)
    · skip
      go_simp
      go_at_call 76
      refine (CC.out W5 _ l0 r0 HL.out.1 HL.out.2.2.1 hE4).mono ?_
      rintro e W10 ⟨A11, c12, rfl, ho13, hb9⟩
      have hB8 := below_on hB3 (Nat.le_refl _) hb9
      have hqho13 := own_low2 (base' := g) ho13 (by have := Below.size hB3; have := H4.out.size; omega)
      refine hK.out _ _ (But.of_below hB8) (fun _ => ?_)
      clear hK K
      try simp only [Act.put, List.setIfInBounds_toArray, List.set_cons_zero, List.set_cons_succ]
      refine wpAnyH_ready (rs := [12]) (by kernel_rfl) (by simp) ?_
      refine' (AllReadyH.cons (o := _) ?hi14 (fun K hK => ?_) AllReadyH.nil)
      case hi14 => (simp only [List.getElem?_toArray, List.getElem?_cons_zero, List.getElem?_cons_succ]; rfl)
      go_simp
      have hB15 := Below.alloc hB8 (Below.size hB8) (.cells #[.slice (some ⟨g + 3, 0, none⟩) 1 1, .slice (some ⟨g, 32, none⟩) 32 32, .slice (some ⟨g + 1, 32, none⟩) 32 32] 22)
      have hE16 := ent_three (C5.out W10 hB8).1 (C5.out W10 hB8).2.2.2.1 (C5.out W10 hB8).2.2.2.2 (by omega) (by omega) (by omega)
      have hown18 := own_on hqho13 (below_alloc W10 (.cells #[.slice (some ⟨g + 3, 0, none⟩) 1 1, .slice (some ⟨g, 32, none⟩) 32 32, .slice (some ⟨g + 1, 32, none⟩) 32 32] 22))
      refine hK.out _ _ (But.of_below hB15) (fun _ => ?_)
      clear hK K
      try simp only [Act.put, List.setIfInBounds_toArray, List.set_cons_zero, List.set_cons_succ]
      generalize (W10.alloc (.cells #[.slice (some ⟨g + 3, 0, none⟩) 1 1, .slice (some ⟨g, 32, none⟩) 32 32, .slice (some ⟨g + 1, 32, none⟩) 32 32] 22)) = W17 at hB15 hE16 hown18 ⊢
      refine wpAnyH_ready (rs := [13]) (by kernel_rfl) (by simp) ?_
      refine' (AllReadyH.cons (o := _) ?hi19 (fun K hK => ?_) AllReadyH.nil)
      case hi19 => (simp only [List.getElem?_toArray, List.getElem?_cons_zero, List.getElem?_cons_succ]; rfl)
      go_simp
      go_at_call 76
      refine (CC.out W17 _ l1 r1 HL.out.2.1 HL.out.2.2.2 hE16).mono ?_
      rintro e W22 ⟨A23, c24, rfl, ho25, hb21⟩
      have hB20 := below_on hB15 (Nat.le_refl _) hb21
      have hap : ∀ x, (Value.slice A11 65 c12).ownBlock = some x → (Value.slice A23 65 c24).ownBlock = some x → False := fun x e1 e2 => by have a1 := (hown18.lt x e1).2; have a2 := (ho25.lt x e2).1; omega
      have hT : Two g W22 A11 65 c12 (1 :: (l0 ++ r0)) A23 65 c24 (1 :: (l1 ++ r1)) := ⟨own_on hown18 hb21, own_low2 (base' := g) ho25 (by have := Below.size hB15; have := H4.out.size; omega), hap, HX.out.1, HX.out.2, by omega, by omega⟩
      refine hK.out _ _ (But.of_below hB20) (fun _ => ?_)
      clear hK K
      try simp only [Act.put, List.setIfInBounds_toArray, List.set_cons_zero, List.set_cons_succ]
      refine wpAnyH_ready (rs := [14]) (by kernel_rfl) (by simp) ?_
      refine' (AllReadyH.cons (o := _) ?hi26 (fun K hK => ?_) AllReadyH.nil)
      case hi26 => (simp only [List.getElem?_toArray, List.getElem?_cons_zero, List.getElem?_cons_succ]; rfl)
      go_simp
      go_at_call 75
      refine (CH.out W22 _ _ _ _ hB20 hT).mono ?_
      rintro e W29 ⟨hT2, hb28⟩
      have hB27 := below_on hB20 (Nat.le_refl _) hb28
      rcases hT2 with ⟨rfl, hsame⟩ | ⟨u, rfl, hu⟩
      · refine hK.out _ _ (But.of_below hB27) (fun _ => ?_)
        clear hK K
        try simp only [Act.put, List.setIfInBounds_toArray, List.set_cons_zero, List.set_cons_succ]
        refine wpAnyH_ready (rs := [15]) (by kernel_rfl) (by simp) ?_
        refine' (AllReadyH.cons (o := _) ?hi30 (fun K hK => ?_) AllReadyH.nil)
        case hi30 => (simp only [List.getElem?_toArray, List.getElem?_cons_zero, List.getElem?_cons_succ]; rfl)
        rw [if_pos (by rfl)]
        have hf := H4.out.res.below hB27
        refine step_store_pairC (.tmp 4) (.tmp 21) rfl (g + 2) rfl zero64 P (by rfl) Pl hf rfl ?_
        have hB31 : Below g w (W29.setRow (g + 2) (bvs P).toArray) := below_setRow (below_on H4.out.below (Nat.le_of_eq HG.out.symm) hB27) (by omega) _
        refine hK.out _ _ (but_setRow (S := (· = g + 2)) (But.of_below hB27) rfl _) (fun _ => ?_)
        clear hK K
        try simp only [Act.put]
        have hf2 := hf.setRow P
        generalize (W29.setRow (g + 2) (bvs P).toArray) = Wz at hB31 hf2 ⊢
        refine wpAnyH_done (by kernel_rfl) ?_ _
        go_wp2_with fail
        refine bodyPost_ret_by (results_cell_row (p := 4) (ty := 58) (by kernel_rfl) _ _ (g + 2) 58 (bvs P).toArray (0, 0) _ rfl hf2 Tryd.underlying58 rfl (by rw [List.size_toArray, bvs_length, Pl]; exact sizePairC)) rfl ?_
        exact ⟨.inl ⟨rfl, hsame⟩, hB31⟩
      · go_wp2
        exact ⟨rfl, .inr ⟨u, rfl, hu⟩, below_on H4.out.below (Nat.le_of_eq HG.out.symm) hB27⟩
    · skip
      go_simp
      have hB32 := Below.alloc hB3 (Below.size hB3) (.cells #[.slice (some ⟨g + 3, 0, none⟩) 1 1, .slice (some ⟨g, 32, none⟩) 32 32, .slice (some ⟨g + 1, 32, none⟩) 32 32] 22)
      have hE33 := ent_three (C5.out W5 hB3).1 (C5.out W5 hB3).2.2.2.1 (C5.out W5 hB3).2.2.2.2 (by omega) (by omega) (by omega)
      have hE535 := hE4.below (below_alloc W5 (.cells #[.slice (some ⟨g + 3, 0, none⟩) 1 1, .slice (some ⟨g, 32, none⟩) 32 32, .slice (some ⟨g + 1, 32, none⟩) 32 32] 22))
      refine hK.out _ _ (But.of_below hB32) (fun _ => ?_)
      clear hK K
      try simp only [Act.put, List.setIfInBounds_toArray, List.set_cons_zero, List.set_cons_succ]
      generalize (W5.alloc (.cells #[.slice (some ⟨g + 3, 0, none⟩) 1 1, .slice (some ⟨g, 32, none⟩) 32 32, .slice (some ⟨g + 1, 32, none⟩) 32 32] 22)) = W34 at hB32 hE33 hE535 ⊢
      refine wpAnyH_ready (rs := [6]) (by kernel_rfl) (by simp) ?_
      refine' (AllReadyH.cons (o := _) ?hi36 (fun K hK => ?_) AllReadyH.nil)
      case hi36 => (simp only [List.getElem?_toArray, List.getElem?_cons_zero, List.getElem?_cons_succ]; rfl)
      go_simp
      go_at_call 76
      refine (CC.out W34 _ l0 r0 HL.out.1 HL.out.2.2.1 hE535).mono ?_
      rintro e W39 ⟨A40, c41, rfl, ho42, hb38⟩
      have hB37 := below_on hB32 (Nat.le_refl _) hb38
      have hqho42 := own_low2 (base' := g) ho42 (by have := Below.size hB32; have := H4.out.size; omega)
      have hE43 := hE33.below hb38
      refine hK.out _ _ (But.of_below hB37) (fun _ => ?_)
      clear hK K
      try simp only [Act.put, List.setIfInBounds_toArray, List.set_cons_zero, List.set_cons_succ]
      refine wpAnyH_ready (rs := [13]) (by kernel_rfl) (by simp) ?_
      refine' (AllReadyH.cons (o := _) ?hi44 (fun K hK => ?_) AllReadyH.nil)
      case hi44 => (simp only [List.getElem?_toArray, List.getElem?_cons_zero, List.getElem?_cons_succ]; rfl)
      go_simp
      go_at_call 76
      refine (CC.out W39 _ l1 r1 HL.out.2.1 HL.out.2.2.2 hE43).mono ?_
      rintro e W47 ⟨A48, c49, rfl, ho50, hb46⟩
      have hB45 := below_on hB37 (Nat.le_refl _) hb46
      have hap : ∀ x, (Value.slice A40 65 c41).ownBlock = some x → (Value.slice A48 65 c49).ownBlock = some x → False := fun x e1 e2 => by have a1 := (hqho42.lt x e1).2; have a2 := (ho50.lt x e2).1; omega
      have hT : Two g W47 A40 65 c41 (1 :: (l0 ++ r0)) A48 65 c49 (1 :: (l1 ++ r1)) := ⟨own_on hqho42 hb46, own_low2 (base' := g) ho50 (by have := Below.size hB37; have := H4.out.size; omega), hap, HX.out.1, HX.out.2, by omega, by omega⟩
      refine hK.out _ _ (But.of_below hB45) (fun _ => ?_)
      clear hK K
      try simp only [Act.put, List.setIfInBounds_toArray, List.set_cons_zero, List.set_cons_succ]
      refine wpAnyH_ready (rs := [14]) (by kernel_rfl) (by simp) ?_
      refine' (AllReadyH.cons (o := _) ?hi51 (fun K hK => ?_) AllReadyH.nil)
      case hi51 => (simp only [List.getElem?_toArray, List.getElem?_cons_zero, List.getElem?_cons_succ]; rfl)
      go_simp
      go_at_call 75
      refine (CH.out W47 _ _ _ _ hB45 hT).mono ?_
      rintro e W54 ⟨hT2, hb53⟩
      have hB52 := below_on hB45 (Nat.le_refl _) hb53
      rcases hT2 with ⟨rfl, hsame⟩ | ⟨u, rfl, hu⟩
      · refine hK.out _ _ (But.of_below hB52) (fun _ => ?_)
        clear hK K
        try simp only [Act.put, List.setIfInBounds_toArray, List.set_cons_zero, List.set_cons_succ]
        refine wpAnyH_ready (rs := [15]) (by kernel_rfl) (by simp) ?_
        refine' (AllReadyH.cons (o := _) ?hi55 (fun K hK => ?_) AllReadyH.nil)
        case hi55 => (simp only [List.getElem?_toArray, List.getElem?_cons_zero, List.getElem?_cons_succ]; rfl)
        rw [if_pos (by rfl)]
        have hf := H4.out.res.below hB52
        refine step_store_pairC (.tmp 4) (.tmp 21) rfl (g + 2) rfl zero64 P (by rfl) Pl hf rfl ?_
        have hB56 : Below g w (W54.setRow (g + 2) (bvs P).toArray) := below_setRow (below_on H4.out.below (Nat.le_of_eq HG.out.symm) hB52) (by omega) _
        refine hK.out _ _ (but_setRow (S := (· = g + 2)) (But.of_below hB52) rfl _) (fun _ => ?_)
        clear hK K
        try simp only [Act.put]
        have hf2 := hf.setRow P
        generalize (W54.setRow (g + 2) (bvs P).toArray) = Wz at hB56 hf2 ⊢
        refine wpAnyH_done (by kernel_rfl) ?_ _
        go_wp2_with fail
        refine bodyPost_ret_by (results_cell_row (p := 4) (ty := 58) (by kernel_rfl) _ _ (g + 2) 58 (bvs P).toArray (0, 0) _ rfl hf2 Tryd.underlying58 rfl (by rw [List.size_toArray, bvs_length, Pl]; exact sizePairC)) rfl ?_
        exact ⟨.inl ⟨rfl, hsame⟩, hB56⟩
      · go_wp2
        exact ⟨rfl, .inr ⟨u, rfl, hu⟩, below_on H4.out.below (Nat.le_of_eq HG.out.symm) hB52⟩
  · skip
    go_simp
    have hB57 := Below.alloc hS0 (Below.size hS0) (.cells #[.slice (some ⟨g + 3, 0, none⟩) 1 1, .slice (some ⟨g, 32, none⟩) 32 32, .slice (some ⟨g + 1, 32, none⟩) 32 32] 22)
    have hE58 := ent_three (C5.out W0 hS0).1 (C5.out W0 hS0).2.2.2.1 (C5.out W0 hS0).2.2.2.2 (by omega) (by omega) (by omega)
    refine hK.out _ _ (But.of_below hB57) (fun _ => ?_)
    clear hK K
    try simp only [Act.put, List.setIfInBounds_toArray, List.set_cons_zero, List.set_cons_succ]
    generalize (W0.alloc (.cells #[.slice (some ⟨g + 3, 0, none⟩) 1 1, .slice (some ⟨g, 32, none⟩) 32 32, .slice (some ⟨g + 1, 32, none⟩) 32 32] 22)) = W59 at hB57 hE58 ⊢
    refine wpAnyH_ready (rs := [5]) (by kernel_rfl) (by simp) ?_
    refine' (AllReadyH.cons (o := _) ?hi60 (fun K hK => ?_) AllReadyH.nil)
    case hi60 => (simp only [List.getElem?_toArray, List.getElem?_cons_zero, List.getElem?_cons_succ]; rfl)
    go_simp
    have hB61 := Below.alloc hB57 (Below.size hB57) (.cells #[.slice (some ⟨g + 3, 0, none⟩) 1 1, .slice (some ⟨g, 0, none⟩) 32 32, .slice (some ⟨g + 1, 0, none⟩) 32 32] 22)
    have hE62 := ent_three (C5.out W59 hB57).1 (C5.out W59 hB57).2.1 (C5.out W59 hB57).2.2.1 (by omega) (by omega) (by omega)
    have hE1264 := hE58.below (below_alloc W59 (.cells #[.slice (some ⟨g + 3, 0, none⟩) 1 1, .slice (some ⟨g, 0, none⟩) 32 32, .slice (some ⟨g + 1, 0, none⟩) 32 32] 22))
    refine hK.out _ _ (But.of_below hB61) (fun _ => ?_)
    clear hK K
    try simp only [Act.put, List.setIfInBounds_toArray, List.set_cons_zero, List.set_cons_succ]
    generalize (W59.alloc (.cells #[.slice (some ⟨g + 3, 0, none⟩) 1 1, .slice (some ⟨g, 0, none⟩) 32 32, .slice (some ⟨g + 1, 0, none⟩) 32 32] 22)) = W63 at hB61 hE62 hE1264 ⊢
    refine wpAnyH_ready (rs := [6]) (by kernel_rfl) (by simp) ?_
    refine' (AllReadyH.cons (o := _) ?hi65 (fun K hK => ?_) AllReadyH.nil)
    case hi65 => (simp only [List.getElem?_toArray, List.getElem?_cons_zero, List.getElem?_cons_succ]; rfl)
    go_simp
    go_at_call 76
    refine (CC.out W63 _ l0 r0 HL.out.1 HL.out.2.2.1 hE62).mono ?_
    rintro e W68 ⟨A69, c70, rfl, ho71, hb67⟩
    have hB66 := below_on hB61 (Nat.le_refl _) hb67
    have hqho71 := own_low2 (base' := g) ho71 (by have := Below.size hB61; have := H4.out.size; omega)
    have hE72 := hE1264.below hb67
    refine hK.out _ _ (But.of_below hB66) (fun _ => ?_)
    clear hK K
    try simp only [Act.put, List.setIfInBounds_toArray, List.set_cons_zero, List.set_cons_succ]
    refine wpAnyH_ready (rs := [13]) (by kernel_rfl) (by simp) ?_
    refine' (AllReadyH.cons (o := _) ?hi73 (fun K hK => ?_) AllReadyH.nil)
    case hi73 => (simp only [List.getElem?_toArray, List.getElem?_cons_zero, List.getElem?_cons_succ]; rfl)
    go_simp
    go_at_call 76
    refine (CC.out W68 _ l1 r1 HL.out.2.1 HL.out.2.2.2 hE72).mono ?_
    rintro e W76 ⟨A77, c78, rfl, ho79, hb75⟩
    have hB74 := below_on hB66 (Nat.le_refl _) hb75
    have hap : ∀ x, (Value.slice A69 65 c70).ownBlock = some x → (Value.slice A77 65 c78).ownBlock = some x → False := fun x e1 e2 => by have a1 := (hqho71.lt x e1).2; have a2 := (ho79.lt x e2).1; omega
    have hT : Two g W76 A69 65 c70 (1 :: (l0 ++ r0)) A77 65 c78 (1 :: (l1 ++ r1)) := ⟨own_on hqho71 hb75, own_low2 (base' := g) ho79 (by have := Below.size hB66; have := H4.out.size; omega), hap, HX.out.1, HX.out.2, by omega, by omega⟩
    refine hK.out _ _ (But.of_below hB74) (fun _ => ?_)
    clear hK K
    try simp only [Act.put, List.setIfInBounds_toArray, List.set_cons_zero, List.set_cons_succ]
    refine wpAnyH_ready (rs := [14]) (by kernel_rfl) (by simp) ?_
    refine' (AllReadyH.cons (o := _) ?hi80 (fun K hK => ?_) AllReadyH.nil)
    case hi80 => (simp only [List.getElem?_toArray, List.getElem?_cons_zero, List.getElem?_cons_succ]; rfl)
    go_simp
    go_at_call 75
    refine (CH.out W76 _ _ _ _ hB74 hT).mono ?_
    rintro e W83 ⟨hT2, hb82⟩
    have hB81 := below_on hB74 (Nat.le_refl _) hb82
    rcases hT2 with ⟨rfl, hsame⟩ | ⟨u, rfl, hu⟩
    · refine hK.out _ _ (But.of_below hB81) (fun _ => ?_)
      clear hK K
      try simp only [Act.put, List.setIfInBounds_toArray, List.set_cons_zero, List.set_cons_succ]
      refine wpAnyH_ready (rs := [15]) (by kernel_rfl) (by simp) ?_
      refine' (AllReadyH.cons (o := _) ?hi84 (fun K hK => ?_) AllReadyH.nil)
      case hi84 => (simp only [List.getElem?_toArray, List.getElem?_cons_zero, List.getElem?_cons_succ]; rfl)
      rw [if_pos (by rfl)]
      have hf := H4.out.res.below hB81
      refine step_store_pairC (.tmp 4) (.tmp 21) rfl (g + 2) rfl zero64 P (by rfl) Pl hf rfl ?_
      have hB85 : Below g w (W83.setRow (g + 2) (bvs P).toArray) := below_setRow (below_on H4.out.below (Nat.le_of_eq HG.out.symm) hB81) (by omega) _
      refine hK.out _ _ (but_setRow (S := (· = g + 2)) (But.of_below hB81) rfl _) (fun _ => ?_)
      clear hK K
      try simp only [Act.put]
      have hf2 := hf.setRow P
      generalize (W83.setRow (g + 2) (bvs P).toArray) = Wz at hB85 hf2 ⊢
      refine wpAnyH_done (by kernel_rfl) ?_ _
      go_wp2_with fail
      refine bodyPost_ret_by (results_cell_row (p := 4) (ty := 58) (by kernel_rfl) _ _ (g + 2) 58 (bvs P).toArray (0, 0) _ rfl hf2 Tryd.underlying58 rfl (by rw [List.size_toArray, bvs_length, Pl]; exact sizePairC)) rfl ?_
      exact ⟨.inl ⟨rfl, hsame⟩, hB85⟩
    · go_wp2
      exact ⟨rfl, .inr ⟨u, rfl, hu⟩, below_on H4.out.below (Nat.le_of_eq HG.out.symm) hB81⟩
end

end Go.Proofs.YtcekfnngnjpeeaaDoor

/-
  How many bits a number of 64 bits has; how many leaves a left side has.
-/
namespace Go.Proofs.YtcekfnngnjpeeaaDoor
open Go.RowKit

set_option maxRecDepth 100000 in
set_option maxHeartbeats 1000000 in
theorem len64_010 (x : Nat) (w : World) (hx : x < 18446744073709551616) (hA : x < 4294967296) (hB : 65536 ≤ x) (hC : x / 65536 < 256) :
    Calls Tryd.prog 78 #[.int .u64 (x : Int)] w fun e w' => e = .returned (.int .i64 (Lib.bitLen x)) ∧ w' = w := by
  have h1 : decide (4294967296 ≤ (x : Int)) = false := by simp; omega
  have h2 : decide (65536 ≤ (x : Int)) = true := by simp; omega
  have h3 : decide (256 ≤ (x : Int) / 65536) = false := by simp; omega
  have hq : x / 65536 < 256 := by omega
  have hv := tab_len ⟨x / 65536, hq⟩
  have hle := Lib.bitLen_le8 ⟨x / 65536, hq⟩
  have HS := Lib.hid (show Lib.bitLen x = 16 + Lib.bitLen (x / 65536) from by rw [Lib.bitLen_shift16 (x) hB (by omega)])
  dsimp only at hv hle
  have HV := Lib.hid (And.intro hv hle)
  clear hv hle
  go_enter Tryd.func78, Tryd.ntmps78
  go_wp2
  · go_ret
    refine ⟨congrArg Ending.returned (congrArg (Value.int IntKind.i64) ?_), rfl⟩
    have hv := HV.out.1
    have hle := HV.out.2
    rw [hv, HS.out]
    have _u := hC
    clear _u
    revert hle
    generalize Lib.bitLen (x / 65536) = q
    clear h1 h2 h3 hq hv HS HV hA hB hC hx
    intro hle
    simp only [wrap64]
    omega
  · exfalso
    rename_i hh
    have := Lib.len8tab_size
    omega

set_option maxRecDepth 100000 in
set_option maxHeartbeats 1000000 in
theorem len64_011 (x : Nat) (w : World) (hx : x < 18446744073709551616) (hA : x < 4294967296) (hB : 65536 ≤ x) (hC : 256 ≤ x / 65536) :
    Calls Tryd.prog 78 #[.int .u64 (x : Int)] w fun e w' => e = .returned (.int .i64 (Lib.bitLen x)) ∧ w' = w := by
  have h1 : decide (4294967296 ≤ (x : Int)) = false := by simp; omega
  have h2 : decide (65536 ≤ (x : Int)) = true := by simp; omega
  have h3 : decide (256 ≤ (x : Int) / 65536) = true := by simp; omega
  have hq : x / 65536 / 256 < 256 := by omega
  have hv := tab_len ⟨x / 65536 / 256, hq⟩
  have hle := Lib.bitLen_le8 ⟨x / 65536 / 256, hq⟩
  have HS := Lib.hid (show Lib.bitLen x = 24 + Lib.bitLen (x / 65536 / 256) from by rw [Lib.bitLen_shift16 (x) hB (by omega), Lib.bitLen_shift8 (x / 65536) hC (by omega)]; omega)
  dsimp only at hv hle
  have HV := Lib.hid (And.intro hv hle)
  clear hv hle
  go_enter Tryd.func78, Tryd.ntmps78
  go_wp2
  · go_ret
    refine ⟨congrArg Ending.returned (congrArg (Value.int IntKind.i64) ?_), rfl⟩
    have hv := HV.out.1
    have hle := HV.out.2
    rw [hv, HS.out]
    have _u := hC
    clear _u
    revert hle
    generalize Lib.bitLen (x / 65536 / 256) = q
    clear h1 h2 h3 hq hv HS HV hA hB hC hx
    intro hle
    simp only [wrap64]
    omega
  · exfalso
    rename_i hh
    have := Lib.len8tab_size
    omega

set_option maxRecDepth 100000 in
set_option maxHeartbeats 1000000 in
theorem len64_100 (x : Nat) (w : World) (hx : x < 18446744073709551616) (hA : 4294967296 ≤ x) (hB : x / 4294967296 < 65536) (hC : x / 4294967296 < 256) :
    Calls Tryd.prog 78 #[.int .u64 (x : Int)] w fun e w' => e = .returned (.int .i64 (Lib.bitLen x)) ∧ w' = w := by
  have h1 : decide (4294967296 ≤ (x : Int)) = true := by simp; omega
  have h2 : decide (65536 ≤ (x : Int) / 4294967296) = false := by simp; omega
  have h3 : decide (256 ≤ (x : Int) / 4294967296) = false := by simp; omega
  have hq : x / 4294967296 < 256 := by omega
  have hv := tab_len ⟨x / 4294967296, hq⟩
  have hle := Lib.bitLen_le8 ⟨x / 4294967296, hq⟩
  have HS := Lib.hid (show Lib.bitLen x = 32 + Lib.bitLen (x / 4294967296) from by rw [Lib.bitLen_shift32 x hA hx])
  dsimp only at hv hle
  have HV := Lib.hid (And.intro hv hle)
  clear hv hle
  go_enter Tryd.func78, Tryd.ntmps78
  go_wp2
  · go_ret
    refine ⟨congrArg Ending.returned (congrArg (Value.int IntKind.i64) ?_), rfl⟩
    have hv := HV.out.1
    have hle := HV.out.2
    rw [hv, HS.out]
    have _u := hB
    clear _u
    revert hle
    generalize Lib.bitLen (x / 4294967296) = q
    clear h1 h2 h3 hq hv HS HV hA hB hC hx
    intro hle
    simp only [wrap64]
    omega
  · exfalso
    rename_i hh
    have := Lib.len8tab_size
    omega

set_option maxRecDepth 100000 in
set_option maxHeartbeats 1000000 in
theorem len64_101 (x : Nat) (w : World) (hx : x < 18446744073709551616) (hA : 4294967296 ≤ x) (hB : x / 4294967296 < 65536) (hC : 256 ≤ x / 4294967296) :
    Calls Tryd.prog 78 #[.int .u64 (x : Int)] w fun e w' => e = .returned (.int .i64 (Lib.bitLen x)) ∧ w' = w := by
  have h1 : decide (4294967296 ≤ (x : Int)) = true := by simp; omega
  have h2 : decide (65536 ≤ (x : Int) / 4294967296) = false := by simp; omega
  have h3 : decide (256 ≤ (x : Int) / 4294967296) = true := by simp; omega
  have hq : x / 4294967296 / 256 < 256 := by omega
  have hv := tab_len ⟨x / 4294967296 / 256, hq⟩
  have hle := Lib.bitLen_le8 ⟨x / 4294967296 / 256, hq⟩
  have HS := Lib.hid (show Lib.bitLen x = 40 + Lib.bitLen (x / 4294967296 / 256) from by rw [Lib.bitLen_shift32 x hA hx, Lib.bitLen_shift8 (x / 4294967296) hC (by omega)]; omega)
  dsimp only at hv hle
  have HV := Lib.hid (And.intro hv hle)
  clear hv hle
  go_enter Tryd.func78, Tryd.ntmps78
  go_wp2
  · go_ret
    refine ⟨congrArg Ending.returned (congrArg (Value.int IntKind.i64) ?_), rfl⟩
    have hv := HV.out.1
    have hle := HV.out.2
    rw [hv, HS.out]
    have _u := hC
    clear _u
    revert hle
    generalize Lib.bitLen (x / 4294967296 / 256) = q
    clear h1 h2 h3 hq hv HS HV hA hB hC hx
    intro hle
    simp only [wrap64]
    omega
  · exfalso
    rename_i hh
    have := Lib.len8tab_size
    omega

set_option maxRecDepth 100000 in
set_option maxHeartbeats 1000000 in
theorem len64_110 (x : Nat) (w : World) (hx : x < 18446744073709551616) (hA : 4294967296 ≤ x) (hB : 65536 ≤ x / 4294967296) (hC : x / 4294967296 / 65536 < 256) :
    Calls Tryd.prog 78 #[.int .u64 (x : Int)] w fun e w' => e = .returned (.int .i64 (Lib.bitLen x)) ∧ w' = w := by
  have h1 : decide (4294967296 ≤ (x : Int)) = true := by simp; omega
  have h2 : decide (65536 ≤ (x : Int) / 4294967296) = true := by simp; omega
  have h3 : decide (256 ≤ (x : Int) / 4294967296 / 65536) = false := by simp; omega
  have hq : x / 4294967296 / 65536 < 256 := by omega
  have hv := tab_len ⟨x / 4294967296 / 65536, hq⟩
  have hle := Lib.bitLen_le8 ⟨x / 4294967296 / 65536, hq⟩
  have HS := Lib.hid (show Lib.bitLen x = 48 + Lib.bitLen (x / 4294967296 / 65536) from by rw [Lib.bitLen_shift32 x hA hx, Lib.bitLen_shift16 (x / 4294967296) hB (by omega)]; omega)
  dsimp only at hv hle
  have HV := Lib.hid (And.intro hv hle)
  clear hv hle
  go_enter Tryd.func78, Tryd.ntmps78
  go_wp2
  · go_ret
    refine ⟨congrArg Ending.returned (congrArg (Value.int IntKind.i64) ?_), rfl⟩
    have hv := HV.out.1
    have hle := HV.out.2
    rw [hv, HS.out]
    have _u := hC
    clear _u
    revert hle
    generalize Lib.bitLen (x / 4294967296 / 65536) = q
    clear h1 h2 h3 hq hv HS HV hA hB hC hx
    intro hle
    simp only [wrap64]
    omega
  · exfalso
    rename_i hh
    have := Lib.len8tab_size
    omega

set_option maxRecDepth 100000 in
set_option maxHeartbeats 1000000 in
theorem len64_111 (x : Nat) (w : World) (hx : x < 18446744073709551616) (hA : 4294967296 ≤ x) (hB : 65536 ≤ x / 4294967296) (hC : 256 ≤ x / 4294967296 / 65536) :
    Calls Tryd.prog 78 #[.int .u64 (x : Int)] w fun e w' => e = .returned (.int .i64 (Lib.bitLen x)) ∧ w' = w := by
  have h1 : decide (4294967296 ≤ (x : Int)) = true := by simp; omega
  have h2 : decide (65536 ≤ (x : Int) / 4294967296) = true := by simp; omega
  have h3 : decide (256 ≤ (x : Int) / 4294967296 / 65536) = true := by simp; omega
  have hq : x / 4294967296 / 65536 / 256 < 256 := by omega
  have hv := tab_len ⟨x / 4294967296 / 65536 / 256, hq⟩
  have hle := Lib.bitLen_le8 ⟨x / 4294967296 / 65536 / 256, hq⟩
  have HS := Lib.hid (show Lib.bitLen x = 56 + Lib.bitLen (x / 4294967296 / 65536 / 256) from by rw [Lib.bitLen_shift32 x hA hx, Lib.bitLen_shift16 (x / 4294967296) hB (by omega), Lib.bitLen_shift8 (x / 4294967296 / 65536) hC (by omega)]; omega)
  dsimp only at hv hle
  have HV := Lib.hid (And.intro hv hle)
  clear hv hle
  go_enter Tryd.func78, Tryd.ntmps78
  go_wp2
  · go_ret
    refine ⟨congrArg Ending.returned (congrArg (Value.int IntKind.i64) ?_), rfl⟩
    have hv := HV.out.1
    have hle := HV.out.2
    rw [hv, HS.out]
    have _u := hC
    clear _u
    revert hle
    generalize Lib.bitLen (x / 4294967296 / 65536 / 256) = q
    clear h1 h2 h3 hq hv HS HV hA hB hC hx
    intro hle
    simp only [wrap64]
    omega
  · exfalso
    rename_i hh
    have := Lib.len8tab_size
    omega

theorem len64_all (x : Nat) (w : World) (hx : x < 18446744073709551616) :
    Calls Tryd.prog 78 #[.int .u64 (x : Int)] w fun e w' => e = .returned (.int .i64 (Lib.bitLen x)) ∧ w' = w := by
  by_cases h0 : x < 65536
  · exact len64_any x w h0
  · by_cases hA : x < 4294967296
    · by_cases hC : x / 65536 < 256
      · exact len64_010 x w hx hA (by omega) hC
      · exact len64_011 x w hx hA (by omega) (by omega)
    · by_cases hB : x / 4294967296 < 65536
      · by_cases hC : x / 4294967296 < 256
        · exact len64_100 x w hx (by omega) hB hC
        · exact len64_101 x w hx (by omega) hB (by omega)
      · by_cases hC : x / 4294967296 / 65536 < 256
        · exact len64_110 x w hx (by omega) (by omega) hC
        · exact len64_111 x w hx (by omega) (by omega) (by omega)

theorem wrapU_pow {b : Nat} (h : 2 ^ b < 18446744073709551616) : IntKind.u64.wrap ((2 : Int) ^ b) = ((2 ^ b : Nat) : Int) := by
  have e : (2 : Int) ^ b = ((2 ^ b : Nat) : Int) := by simp
  rw [e]
  generalize 2 ^ b = q at h
  rw [IntKind.wrap_u64]
  omega

end Go.Proofs.YtcekfnngnjpeeaaDoor

/-
  clashes.left: how many leaves a left side has.
-/
namespace Go.Proofs.YtcekfnngnjpeeaaDoor
open Go.RowKit

theorem clen_any (x : Nat) (w : World) (hx : x < 18446744073709551616) :
    Calls Tryd.prog 60 #[.int .u64 (x : Int)] w fun e w' => e = .returned (.int .i64 (Lib.bitLen x)) ∧ w' = w := by
  have C := Lib.hid (len64_all x w hx)
  go_enter Tryd.func60, Tryd.ntmps60
  go_wp2_with fail
  refine C.out.mono ?_
  rintro e w1 ⟨rfl, e1⟩
  obtain rfl := e1.symm
  go_wp2_with fail
  go_ret
  exact ⟨rfl, rfl⟩

set_option maxRecDepth 100000 in
set_option maxHeartbeats 1000000 in
theorem cleft_any (m : Nat) (w : World) (h2 : 2 ≤ m) (hm : m < 1000000) :
    Calls Tryd.prog 58 #[.int .i64 (m : Int)] w fun e w' => e = .returned (.int .i64 (cutN m : Int)) ∧ w' = w := by
  have C := Lib.hid (clen_any (m - 1) w (by omega))
  obtain ⟨b, hb0⟩ : ∃ b, Nat.log2 (m - 1) = b := ⟨_, rfl⟩
  have hb : Lib.bitLen (m - 1) = b + 1 := by rw [bitLen_log (by omega) (by omega), hb0]
  have hb64 : b < 20 := by rw [← hb0]; exact (Nat.log2_lt (by omega)).2 (by omega)
  rw [hb] at C
  have hcut : cutN m = 2 ^ b := by rw [cutN, hb0]
  have hm1 : (m : Int) - 1 = ((m - 1 : Nat) : Int) := by omega
  have hlt : 2 ^ b < 1048576 := Nat.lt_of_lt_of_le (Nat.pow_lt_pow_right (by omega) hb64) (Nat.le_refl (2 ^ 20))
  have HC := Lib.hid (And.intro hcut hlt)
  have HL := Lib.hid hb64
  clear hcut hb hb0 hlt
  go_enter Tryd.func58, Tryd.ntmps58
  go_wp2_with fail
  refine C.out.mono ?_
  rintro e w1 ⟨rfl, e1⟩
  obtain rfl := e1.symm
  have hb64' : b < 20 := HL.out
  go_wp2_with fail
  go_ret
  have h1 := HC.out.2
  have h3 : (2 : Int) ^ b = ((2 ^ b : Nat) : Int) := by norm_cast
  refine ⟨?_, rfl⟩
  rw [HC.out.1]
  show Ending.returned (.int .i64 (wrap64 ((2 : Int) ^ b))) = _
  rw [h3]
  clear h3 HC
  generalize 2 ^ b = q at h1 ⊢
  congr 2
  unfold wrap64
  omega

end Go.Proofs.YtcekfnngnjpeeaaDoor
