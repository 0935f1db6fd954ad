/-
  Several texts in one: WPure, KPure, HPure, GRoot, GFrontC, DChunk, HRep, LStoreSum, VGives, HFirst, HBuild, HGrew, HConcat, HClone, VLeaf, DOne, HAdd, LFlat, HMade, HTell, WLen64, WLeft, WPath, WOf, KLeft, KLink, KOf, HPath.
-/
import Derived.Test.YtllohbgejjbagaaDoorVPure
import Derived.Test.YtllohbgejjbagaaDoorVList
import Derived.Test.YtllohbgejjbagaaDoorGAdd
import Derived.Test.YtllohbgejjbagaaDoorLBut
import Derived.Test.YtllohbgejjbagaaDoorLBArr
import Derived.Test.YtllohbgejjbagaaDoorLQuietTail
import Derived.Deep.MidRow
import Derived.StillTailTactics
import Derived.Deep.QuietTactic
import Derived.BigQuiet
import Derived.Test.YtllohbgejjbagaaDoorLRows
import Derived.Test.YtllohbgejjbagaaDoorLSum
import Derived.Test.YtllohbgejjbagaaDoorVSApp
import Derived.Laws.Tables
import Derived.Test.YtllohbgejjbagaaDoorLZeros
import Derived.Test.YtllohbgejjbagaaDoorLRowApp
import Derived.Test.YtllohbgejjbagaaDoorLApp2
import Derived.Laws.Pointers
import Derived.Deep.Cut
import Derived.Test.YtllohbgejjbagaaDoorLMem
import Derived.Lib.SmallJoins
import Derived.Test.YtllohbgejjbagaaDoorVMarked
import Derived.Deep.RegionLaw
import Derived.Great.BuildSlice
import Derived.Deep.RegionHeld
import Derived.Deep.CutRange
import Derived.Deep.AppendLies
import Derived.Test.YtllohbgejjbagaaDoorLTot
import Derived.Test.YtllohbgejjbagaaDoorVLen
/-
  The path of a leaf, as plain functions: how many sums it has, which they are, and what a path leads to.
-/
namespace Go.Proofs.YtllohbgejjbagaaDoor
open Go.RowKit

/-- How many trees stand beside a leaf. -/
def dep (at_ n : Nat) : Nat := if _ : n < 2 then 0 else if at_ < cutN n then dep at_ (cutN n) + 1 else dep (at_ - cutN n) (n - cutN n) + 1
termination_by n
decreasing_by
  · exact cutN_lt (by omega)
  · have := cutN_pos n; omega
theorem dep_one {n : Nat} (h : n < 2) (at_ : Nat) : dep at_ n = 0 := by rw [dep, dif_pos h]
theorem dep_low {n at_ : Nat} (h : 2 ≤ n) (ha : at_ < cutN n) : dep at_ n = dep at_ (cutN n) + 1 := by rw [dep, dif_neg (by omega), if_pos ha]
theorem dep_high {n at_ : Nat} (h : 2 ≤ n) (ha : ¬ at_ < cutN n) : dep at_ n = dep (at_ - cutN n) (n - cutN n) + 1 := by rw [dep, dif_neg (by omega), if_neg ha]

/-- What the sums from number j on lead to, the lower ones first. -/
def leadF (f : Nat → List Nat) (leaf : List Nat) (at_ n j : Nat) : List Nat :=
  if _ : n < 2 then leaf
  else if at_ < cutN n then nodeL (leadF f leaf at_ (cutN n) j) (f (j + dep at_ (cutN n)))
  else nodeL (f (j + dep (at_ - cutN n) (n - cutN n))) (leadF f leaf (at_ - cutN n) (n - cutN n) j)
termination_by n
decreasing_by
  · exact cutN_lt (by omega)
  · have := cutN_pos n; omega
theorem leadF_one (f : Nat → List Nat) (leaf : List Nat) {n : Nat} (h : n < 2) (at_ j : Nat) : leadF f leaf at_ n j = leaf := by rw [leadF, dif_pos h]
theorem leadF_low (f : Nat → List Nat) (leaf : List Nat) {n at_ : Nat} (h : 2 ≤ n) (ha : at_ < cutN n) (j : Nat) : leadF f leaf at_ n j = nodeL (leadF f leaf at_ (cutN n) j) (f (j + dep at_ (cutN n))) := by
  rw [leadF, dif_neg (by omega), if_pos ha]
theorem leadF_high (f : Nat → List Nat) (leaf : List Nat) {n at_ : Nat} (h : 2 ≤ n) (ha : ¬ at_ < cutN n) (j : Nat) : leadF f leaf at_ n j = nodeL (f (j + dep (at_ - cutN n) (n - cutN n))) (leadF f leaf (at_ - cutN n) (n - cutN n) j) := by
  rw [leadF, dif_neg (by omega), if_neg ha]
theorem leadF_of {P : List Nat → Prop} (hs : ∀ xs, P (sha xs)) (f : Nat → List Nat) (leaf : List Nat) (hl : P leaf) (at_ n j : Nat) : P (leadF f leaf at_ n j) := by
  by_cases h : n < 2
  · rw [leadF_one f leaf h]; exact hl
  · by_cases ha : at_ < cutN n
    · rw [leadF_low f leaf (by omega) ha]; exact hs _
    · rw [leadF_high f leaf (by omega) ha]; exact hs _
theorem leadF_length (f : Nat → List Nat) (leaf : List Nat) (hl : leaf.length = 32) (at_ n j : Nat) : (leadF f leaf at_ n j).length = 32 := leadF_of (P := fun l => l.length = 32) sha_length f leaf hl at_ n j
theorem leadF_lt (f : Nat → List Nat) (leaf : List Nat) (hl : ∀ x ∈ leaf, x < 256) (at_ n j : Nat) : ∀ x ∈ leadF f leaf at_ n j, x < 256 := leadF_of (P := fun l => ∀ x ∈ l, x < 256) sha_lt f leaf hl at_ n j
theorem leadF_congr (f g : Nat → List Nat) (leaf : List Nat) : ∀ (n at_ j : Nat), (∀ k, k < dep at_ n → f (j + k) = g (j + k)) → leadF f leaf at_ n j = leadF g leaf at_ n j := by
  intro n
  induction n using Nat.strongRecOn with
  | ind n ih =>
    intro at_ j h
    by_cases h2 : n < 2
    · rw [leadF_one f leaf h2, leadF_one g leaf h2]
    · have a := cutN_lt (m := n) (by omega)
      have b := cutN_pos n
      by_cases ha : at_ < cutN n
      · rw [dep_low (by omega) ha] at h
        rw [leadF_low f leaf (by omega) ha, leadF_low g leaf (by omega) ha, h _ (by omega), ih _ a _ _ (fun k hk => h k (by omega))]
      · rw [dep_high (by omega) ha] at h
        rw [leadF_high f leaf (by omega) ha, leadF_high g leaf (by omega) ha, h _ (by omega), ih _ (by omega) _ _ (fun k hk => h k (by omega))]

/-- The path of the leaf at a place, of the n sums from i on. -/
def pathL (f : Nat → List Nat) (i n at_ : Nat) : List (List Nat) :=
  if _ : n < 2 then []
  else if at_ < cutN n then pathL f i (cutN n) at_ ++ [rt f (i + cutN n) (n - cutN n)]
  else pathL f (i + cutN n) (n - cutN n) (at_ - cutN n) ++ [rt f i (cutN n)]
termination_by n
decreasing_by
  · exact cutN_lt (by omega)
  · have := cutN_pos n; omega
theorem pathL_one (f : Nat → List Nat) {n : Nat} (h : n < 2) (i at_ : Nat) : pathL f i n at_ = [] := by rw [pathL, dif_pos h]
theorem pathL_low (f : Nat → List Nat) {n at_ : Nat} (h : 2 ≤ n) (ha : at_ < cutN n) (i : Nat) : pathL f i n at_ = pathL f i (cutN n) at_ ++ [rt f (i + cutN n) (n - cutN n)] := by
  rw [pathL, dif_neg (by omega), if_pos ha]
theorem pathL_high (f : Nat → List Nat) {n at_ : Nat} (h : 2 ≤ n) (ha : ¬ at_ < cutN n) (i : Nat) : pathL f i n at_ = pathL f (i + cutN n) (n - cutN n) (at_ - cutN n) ++ [rt f i (cutN n)] := by
  rw [pathL, dif_neg (by omega), if_neg ha]
theorem pathL_length (f : Nat → List Nat) : ∀ (n i at_ : Nat), (pathL f i n at_).length = dep at_ n := by
  intro n
  induction n using Nat.strongRecOn with
  | ind n ih =>
    intro i at_
    by_cases h2 : n < 2
    · rw [pathL_one f h2, dep_one h2]; rfl
    · have a := cutN_lt (m := n) (by omega)
      have b := cutN_pos n
      by_cases ha : at_ < cutN n
      · rw [pathL_low f (by omega) ha, dep_low (by omega) ha, List.length_append, ih _ a]; rfl
      · rw [pathL_high f (by omega) ha, dep_high (by omega) ha, List.length_append, ih _ (by omega)]; rfl
theorem pathL_of {P : List Nat → Prop} (f : Nat → List Nat) : ∀ (n i at_ : Nat), (∀ i m, P (rt f i m)) → ∀ s ∈ pathL f i n at_, P s := by
  intro n
  induction n using Nat.strongRecOn with
  | ind n ih =>
    intro i at_ h s hs
    by_cases h2 : n < 2
    · rw [pathL_one f h2] at hs; cases hs
    · have a := cutN_lt (m := n) (by omega)
      have b := cutN_pos n
      by_cases ha : at_ < cutN n
      · rw [pathL_low f (by omega) ha] at hs
        rcases List.mem_append.1 hs with hs | hs
        · exact ih _ a _ _ h s hs
        · rw [List.mem_singleton.1 hs]; exact h _ _
      · rw [pathL_high f (by omega) ha] at hs
        rcases List.mem_append.1 hs with hs | hs
        · exact ih _ (by omega) _ _ h s hs
        · rw [List.mem_singleton.1 hs]; exact h _ _
theorem pathL_len32 (f : Nat → List Nat) : ∀ (n i at_ : Nat), (∀ j, j < n → (f (i + j)).length = 32) → ∀ s ∈ pathL f i n at_, s.length = 32 := by
  intro n
  induction n using Nat.strongRecOn with
  | ind n ih =>
    intro i at_ h s hs
    by_cases h2 : n < 2
    · rw [pathL_one f h2] at hs; cases hs
    · have a := cutN_lt (m := n) (by omega)
      have b := cutN_pos n
      by_cases ha : at_ < cutN n
      · rw [pathL_low f (by omega) ha] at hs
        rcases List.mem_append.1 hs with hs | hs
        · exact ih _ a _ _ (fun j hj => h j (by omega)) s hs
        · rw [List.mem_singleton.1 hs]; exact rt_length f _ _ fun j hj => by rw [Nat.add_assoc]; exact h _ (by omega)
      · rw [pathL_high f (by omega) ha] at hs
        rcases List.mem_append.1 hs with hs | hs
        · exact ih _ (by omega) _ _ (fun j hj => by rw [Nat.add_assoc]; exact h _ (by omega)) s hs
        · rw [List.mem_singleton.1 hs]; exact rt_length f _ _ fun j hj => h j (by omega)
theorem pathL_congr (f g : Nat → List Nat) : ∀ (n i i' at_ : Nat), (∀ j, j < n → f (i + j) = g (i' + j)) → pathL f i n at_ = pathL g i' n at_ := by
  intro n
  induction n using Nat.strongRecOn with
  | ind n ih =>
    intro i i' at_ h
    by_cases h2 : n < 2
    · rw [pathL_one f h2, pathL_one g h2]
    · have a := cutN_lt (m := n) (by omega)
      have b := cutN_pos n
      by_cases ha : at_ < cutN n
      · rw [pathL_low f (by omega) ha, pathL_low g (by omega) ha, ih _ a i i' at_ (fun j hj => h j (by omega)), rt_congr f g _ (i + cutN n) (i' + cutN n) (fun j hj => by rw [Nat.add_assoc, Nat.add_assoc]; exact h _ (by omega))]
      · rw [pathL_high f (by omega) ha, pathL_high g (by omega) ha, ih _ (by omega) (i + cutN n) (i' + cutN n) _ (fun j hj => by rw [Nat.add_assoc, Nat.add_assoc]; exact h _ (by omega)), rt_congr f g _ i i' (fun j hj => h j (by omega))]

/-- The path of a leaf leads to the root. -/
theorem lead_path (f g : Nat → List Nat) : ∀ (n i at_ j : Nat), 1 ≤ n → at_ < n → (∀ k s, (pathL f i n at_)[k]? = some s → g (j + k) = s) → leadF g (f (i + at_)) at_ n j = rt f i n := by
  intro n
  induction n using Nat.strongRecOn with
  | ind n ih =>
    intro i at_ j h1 hat h
    by_cases h2 : n < 2
    · obtain rfl : n = 1 := by omega
      obtain rfl : at_ = 0 := by omega
      rw [leadF_one g _ h2, rt_one]; rfl
    · have a := cutN_lt (m := n) (by omega)
      have b := cutN_pos n
      by_cases ha : at_ < cutN n
      · rw [pathL_low f (by omega) ha] at h
        rw [leadF_low g _ (by omega) ha, rt_cut f i (by omega), ih _ a i at_ j b ha (fun k s hk => h k s (by rw [List.getElem?_append_left (List.getElem?_eq_some_iff.1 hk).1]; exact hk)),
          h (dep at_ (cutN n)) _ (by rw [List.getElem?_append_right (by rw [pathL_length]; exact Nat.le_refl _), pathL_length, Nat.sub_self]; rfl)]
      · rw [pathL_high f (by omega) ha] at h
        rw [leadF_high g _ (by omega) ha, rt_cut f i (by omega), show i + at_ = i + cutN n + (at_ - cutN n) by omega,
          ih _ (by omega) (i + cutN n) (at_ - cutN n) j (by omega) (by omega) (fun k s hk => h k s (by rw [List.getElem?_append_left (List.getElem?_eq_some_iff.1 hk).1]; exact hk)),
          h (dep (at_ - cutN n) (n - cutN n)) _ (by rw [List.getElem?_append_right (by rw [pathL_length]; exact Nat.le_refl _), pathL_length, Nat.sub_self]; rfl)]

/-- How many bits a number has. -/
def bl (x : Nat) : Nat := if x = 0 then 0 else Nat.log2 x + 1
theorem bl_le {x e : Nat} (h : x < 2 ^ e) : bl x ≤ e := by
  unfold bl
  split
  · omega
  · have := (Nat.log2_lt (by omega)).2 h; omega
theorem bl_half {x : Nat} (h : 0 < x) : bl x = bl (x / 2) + 1 := by
  unfold bl
  rw [if_neg (by omega)]
  by_cases h1 : x = 1
  · subst h1; decide
  · rw [if_neg (by omega)]
    have a : Nat.log2 x = Nat.log2 (x / 2) + 1 := by
      rw [Nat.log2_def, if_pos (by omega)]
    rw [a]
theorem bl_zero : bl 0 = 0 := rfl
theorem dep_le : ∀ (n at_ : Nat), at_ < n → dep at_ n ≤ bl (n - 1) := by
  intro n
  induction n using Nat.strongRecOn with
  | ind n ih =>
    intro at_ hat
    by_cases h2 : n < 2
    · rw [dep_one h2]; omega
    · have a := cutN_lt (m := n) (by omega)
      have b := cutN_pos n
      have c := cutN_two (m := n) (by omega)
      have hb : bl (n - 1) = Nat.log2 (n - 1) + 1 := by unfold bl; rw [if_neg (by omega)]
      have hc : cutN n = 2 ^ Nat.log2 (n - 1) := rfl
      rw [hb]
      by_cases ha : at_ < cutN n
      · rw [dep_low (by omega) ha]
        have := ih _ a at_ ha
        have := bl_le (x := cutN n - 1) (e := Nat.log2 (n - 1)) (by omega)
        omega
      · rw [dep_high (by omega) ha]
        have := ih _ (by omega) (at_ - cutN n) (show at_ - cutN n < n - cutN n by omega)
        have := bl_le (x := n - cutN n - 1) (e := Nat.log2 (n - 1)) (by omega)
        omega
theorem dep_64 {n at_ : Nat} (h : at_ < n) (hn : n ≤ 18446744073709551616) : dep at_ n ≤ 64 := Nat.le_trans (dep_le n at_ h) (bl_le (by omega))

end Go.Proofs.YtllohbgejjbagaaDoor

/-
  The link of a beginning, as plain functions: how many sums it has, which they are, and what a link leads to.
-/
namespace Go.Proofs.YtllohbgejjbagaaDoor
open Go.RowKit

theorem cutN_mid {n m : Nat} (h : cutN n < m) (hm : m ≤ n) : cutN m = cutN n := by
  have h2 : 2 ≤ n := by have := cutN_pos n; omega
  have := cutN_two h2
  exact cutN_of (e := Nat.log2 (n - 1)) h (by show m ≤ 2 * cutN n; omega)

/-- How many sums a link has. -/
def ldep (m n : Nat) (edge : Bool) : Nat := if _ : n < 2 ∨ m = n then (if edge then 0 else 1) else if m ≤ cutN n then ldep m (cutN n) edge + 1 else ldep (m - cutN n) (n - cutN n) false + 1
termination_by n
decreasing_by
  · exact cutN_lt (by omega)
  · have := cutN_pos n; omega
theorem ldep_all {n m : Nat} (h : n < 2 ∨ m = n) (edge : Bool) : ldep m n edge = if edge then 0 else 1 := by rw [ldep, dif_pos h]
theorem ldep_low {n m : Nat} (h : ¬(n < 2 ∨ m = n)) (ha : m ≤ cutN n) (edge : Bool) : ldep m n edge = ldep m (cutN n) edge + 1 := by rw [ldep, dif_neg h, if_pos ha]
theorem ldep_high {n m : Nat} (h : ¬(n < 2 ∨ m = n)) (ha : ¬ m ≤ cutN n) (edge : Bool) : ldep m n edge = ldep (m - cutN n) (n - cutN n) false + 1 := by rw [ldep, dif_neg h, if_neg ha]

/-- What the sums from number j on lead to: an old one and a new one. -/
def linkF (f : Nat → List Nat) (a : List Nat) (m n : Nat) (edge : Bool) (j : Nat) : List Nat × List Nat :=
  if _ : n < 2 ∨ m = n then (if edge then (a, a) else (f j, f j))
  else if m ≤ cutN n then ((linkF f a m (cutN n) edge j).1, nodeL (linkF f a m (cutN n) edge j).2 (f (j + ldep m (cutN n) edge)))
  else (nodeL (f (j + ldep (m - cutN n) (n - cutN n) false)) (linkF f a (m - cutN n) (n - cutN n) false j).1, nodeL (f (j + ldep (m - cutN n) (n - cutN n) false)) (linkF f a (m - cutN n) (n - cutN n) false j).2)
termination_by n
decreasing_by
  all_goals first | exact cutN_lt (by omega) | (have := cutN_pos n; omega)
theorem linkF_all (f : Nat → List Nat) (a : List Nat) {n m : Nat} (h : n < 2 ∨ m = n) (edge : Bool) (j : Nat) : linkF f a m n edge j = if edge then (a, a) else (f j, f j) := by rw [linkF, dif_pos h]
theorem linkF_low (f : Nat → List Nat) (a : List Nat) {n m : Nat} (h : ¬(n < 2 ∨ m = n)) (ha : m ≤ cutN n) (edge : Bool) (j : Nat) : linkF f a m n edge j = ((linkF f a m (cutN n) edge j).1, nodeL (linkF f a m (cutN n) edge j).2 (f (j + ldep m (cutN n) edge))) := by
  rw [linkF, dif_neg h, if_pos ha]
theorem linkF_high (f : Nat → List Nat) (a : List Nat) {n m : Nat} (h : ¬(n < 2 ∨ m = n)) (ha : ¬ m ≤ cutN n) (edge : Bool) (j : Nat) : linkF f a m n edge j = (nodeL (f (j + ldep (m - cutN n) (n - cutN n) false)) (linkF f a (m - cutN n) (n - cutN n) false j).1, nodeL (f (j + ldep (m - cutN n) (n - cutN n) false)) (linkF f a (m - cutN n) (n - cutN n) false j).2) := by
  rw [linkF, dif_neg h, if_neg ha]
/-- A law of sums that each of them keeps; of those that are taken it is asked alone. -/
theorem linkF_of {P : List Nat → Prop} (hs : ∀ xs, P (sha xs)) (f : Nat → List Nat) (a : List Nat) (hl : P a) : ∀ (n m : Nat) (edge : Bool) (j : Nat), (∀ k, k < ldep m n edge → P (f (j + k))) → P (linkF f a m n edge j).1 ∧ P (linkF f a m n edge j).2 := by
  intro n
  induction n using Nat.strongRecOn with
  | ind n ih =>
    intro m edge j h
    by_cases h2 : n < 2 ∨ m = n
    · rw [linkF_all f a h2]
      rw [ldep_all h2] at h
      cases edge with
      | true => exact ⟨hl, hl⟩
      | false => exact ⟨h 0 (by decide), h 0 (by decide)⟩
    · have hc := cutN_lt (m := n) (by omega)
      have hp := cutN_pos n
      by_cases ha : m ≤ cutN n
      · rw [ldep_low h2 ha] at h
        rw [linkF_low f a h2 ha]
        exact ⟨(ih _ hc m edge j (fun k hk => h k (by omega))).1, hs _⟩
      · rw [linkF_high f a h2 ha]
        exact ⟨hs _, hs _⟩
theorem linkF_congr (f g : Nat → List Nat) (a : List Nat) : ∀ (n m : Nat) (edge : Bool) (j : Nat), (∀ k, k < ldep m n edge → f (j + k) = g (j + k)) → linkF f a m n edge j = linkF g a m n edge j := by
  intro n
  induction n using Nat.strongRecOn with
  | ind n ih =>
    intro m edge j h
    by_cases h2 : n < 2 ∨ m = n
    · rw [linkF_all f a h2, linkF_all g a h2]
      rw [ldep_all h2] at h
      cases edge with
      | true => rfl
      | false => rw [show f j = g j from h 0 (by decide)]
    · have hc := cutN_lt (m := n) (by omega)
      have hp := cutN_pos n
      by_cases ha : m ≤ cutN n
      · rw [ldep_low h2 ha] at h
        rw [linkF_low f a h2 ha, linkF_low g a h2 ha, h _ (Nat.lt_succ_self _), ih _ hc m edge j (fun k hk => h k (by omega))]
      · rw [ldep_high h2 ha] at h
        rw [linkF_high f a h2 ha, linkF_high g a h2 ha, h _ (Nat.lt_succ_self _), ih _ (by omega) _ false j (fun k hk => h k (by omega))]

/-- The link of the first m of the n sums from i on. -/
def linkL (f : Nat → List Nat) (i n m : Nat) (edge : Bool) : List (List Nat) :=
  if _ : n < 2 ∨ m = n then (if edge then [] else [rt f i n])
  else if m ≤ cutN n then linkL f i (cutN n) m edge ++ [rt f (i + cutN n) (n - cutN n)]
  else linkL f (i + cutN n) (n - cutN n) (m - cutN n) false ++ [rt f i (cutN n)]
termination_by n
decreasing_by
  · exact cutN_lt (by omega)
  · have := cutN_pos n; omega
theorem linkL_all (f : Nat → List Nat) {n m : Nat} (h : n < 2 ∨ m = n) (i : Nat) (edge : Bool) : linkL f i n m edge = if edge then [] else [rt f i n] := by rw [linkL, dif_pos h]
theorem linkL_low (f : Nat → List Nat) {n m : Nat} (h : ¬(n < 2 ∨ m = n)) (ha : m ≤ cutN n) (i : Nat) (edge : Bool) : linkL f i n m edge = linkL f i (cutN n) m edge ++ [rt f (i + cutN n) (n - cutN n)] := by
  rw [linkL, dif_neg h, if_pos ha]
theorem linkL_high (f : Nat → List Nat) {n m : Nat} (h : ¬(n < 2 ∨ m = n)) (ha : ¬ m ≤ cutN n) (i : Nat) (edge : Bool) : linkL f i n m edge = linkL f (i + cutN n) (n - cutN n) (m - cutN n) false ++ [rt f i (cutN n)] := by
  rw [linkL, dif_neg h, if_neg ha]
theorem linkL_length (f : Nat → List Nat) : ∀ (n i m : Nat) (edge : Bool), (linkL f i n m edge).length = ldep m n edge := by
  intro n
  induction n using Nat.strongRecOn with
  | ind n ih =>
    intro i m edge
    by_cases h2 : n < 2 ∨ m = n
    · rw [linkL_all f h2, ldep_all h2]; cases edge <;> rfl
    · have hc := cutN_lt (m := n) (by omega)
      have hp := cutN_pos n
      by_cases ha : m ≤ cutN n
      · rw [linkL_low f h2 ha, ldep_low h2 ha, List.length_append, ih _ hc]; rfl
      · rw [linkL_high f h2 ha, ldep_high h2 ha, List.length_append, ih _ (by omega)]; rfl
theorem linkL_of {P : List Nat → Prop} (f : Nat → List Nat) : ∀ (n i m : Nat) (edge : Bool), (∀ i m, P (rt f i m)) → ∀ s ∈ linkL f i n m edge, P s := by
  intro n
  induction n using Nat.strongRecOn with
  | ind n ih =>
    intro i m edge h s hs
    by_cases h2 : n < 2 ∨ m = n
    · rw [linkL_all f h2] at hs
      cases edge with
      | true => cases hs
      | false => rw [List.mem_singleton.1 hs]; exact h _ _
    · have hc := cutN_lt (m := n) (by omega)
      have hp := cutN_pos n
      by_cases ha : m ≤ cutN n
      · rw [linkL_low f h2 ha] at hs
        rcases List.mem_append.1 hs with hs | hs
        · exact ih _ hc _ _ _ h s hs
        · rw [List.mem_singleton.1 hs]; exact h _ _
      · rw [linkL_high f h2 ha] at hs
        rcases List.mem_append.1 hs with hs | hs
        · exact ih _ (by omega) _ _ _ h s hs
        · rw [List.mem_singleton.1 hs]; exact h _ _
theorem linkL_len32 (f : Nat → List Nat) : ∀ (n i m : Nat) (edge : Bool), (∀ j, j < n → (f (i + j)).length = 32) → ∀ s ∈ linkL f i n m edge, s.length = 32 := by
  intro n
  induction n using Nat.strongRecOn with
  | ind n ih =>
    intro i m edge h s hs
    by_cases h2 : n < 2 ∨ m = n
    · rw [linkL_all f h2] at hs
      cases edge with
      | true => cases hs
      | false => rw [List.mem_singleton.1 hs]; exact rt_length f _ _ h
    · have hc := cutN_lt (m := n) (by omega)
      have hp := cutN_pos n
      by_cases ha : m ≤ cutN n
      · rw [linkL_low f h2 ha] at hs
        rcases List.mem_append.1 hs with hs | hs
        · exact ih _ hc _ _ _ (fun j hj => h j (by omega)) s hs
        · rw [List.mem_singleton.1 hs]; exact rt_length f _ _ fun j hj => by rw [Nat.add_assoc]; exact h _ (by omega)
      · rw [linkL_high f h2 ha] at hs
        rcases List.mem_append.1 hs with hs | hs
        · exact ih _ (by omega) _ _ _ (fun j hj => by rw [Nat.add_assoc]; exact h _ (by omega)) s hs
        · rw [List.mem_singleton.1 hs]; exact rt_length f _ _ fun j hj => h j (by omega)
theorem linkL_congr (f g : Nat → List Nat) : ∀ (n i i' m : Nat) (edge : Bool), (∀ j, j < n → f (i + j) = g (i' + j)) → linkL f i n m edge = linkL g i' n m edge := by
  intro n
  induction n using Nat.strongRecOn with
  | ind n ih =>
    intro i i' m edge h
    by_cases h2 : n < 2 ∨ m = n
    · rw [linkL_all f h2, linkL_all g h2, rt_congr f g _ i i' h]
    · have hc := cutN_lt (m := n) (by omega)
      have hp := cutN_pos n
      by_cases ha : m ≤ cutN n
      · rw [linkL_low f h2 ha, linkL_low g h2 ha, ih _ hc i i' m edge (fun j hj => h j (by omega)), rt_congr f g _ (i + cutN n) (i' + cutN n) (fun j hj => by rw [Nat.add_assoc, Nat.add_assoc]; exact h _ (by omega))]
      · rw [linkL_high f h2 ha, linkL_high g h2 ha, ih _ (by omega) (i + cutN n) (i' + cutN n) _ false (fun j hj => by rw [Nat.add_assoc, Nat.add_assoc]; exact h _ (by omega)), rt_congr f g _ i i' (fun j hj => h j (by omega))]

/-- The link of a beginning leads to both roots. -/
theorem link_back (f g : Nat → List Nat) (a : List Nat) : ∀ (n i m j : Nat) (edge : Bool), 1 ≤ m → m ≤ n → (edge = true → a = rt f i m) → (∀ k s, (linkL f i n m edge)[k]? = some s → g (j + k) = s) →
    linkF g a m n edge j = (rt f i m, rt f i n) := by
  intro n
  induction n using Nat.strongRecOn with
  | ind n ih =>
    intro i m j edge h1 hm ha h
    by_cases h2 : n < 2 ∨ m = n
    · obtain rfl : m = n := by omega
      rw [linkL_all f h2] at h
      rw [linkF_all g a h2]
      cases edge with
      | true => rw [ha rfl]; rfl
      | false =>
        have := h 0 _ rfl
        rw [Nat.add_zero] at this
        rw [this]; rfl
    · have hc := cutN_lt (m := n) (by omega)
      have hp := cutN_pos n
      by_cases hl : m ≤ cutN n
      · rw [linkL_low f h2 hl] at h
        rw [linkF_low g a h2 hl, ih _ hc i m j edge h1 hl ha (fun k s hk => h k s (by rw [List.getElem?_append_left (List.getElem?_eq_some_iff.1 hk).1]; exact hk)), rt_cut f i (m := n) (by omega),
          h (ldep m (cutN n) edge) _ (by rw [List.getElem?_append_right (by rw [linkL_length]; exact Nat.le_refl _), linkL_length, Nat.sub_self]; rfl)]
      · rw [linkL_high f h2 hl] at h
        rw [linkF_high g a h2 hl, ih _ (by omega) (i + cutN n) (m - cutN n) j false (by omega) (by omega) (fun e => by cases e) (fun k s hk => h k s (by rw [List.getElem?_append_left (List.getElem?_eq_some_iff.1 hk).1]; exact hk)),
          h (ldep (m - cutN n) (n - cutN n) false) _ (by rw [List.getElem?_append_right (by rw [linkL_length]; exact Nat.le_refl _), linkL_length, Nat.sub_self]; rfl),
          rt_cut f i (m := n) (by omega), rt_cut f i (m := m) (by omega), cutN_mid (by omega) hm]

/-- How many sums a link has at most. -/
theorem ldep_le : ∀ (n m e : Nat) (edge : Bool), n ≤ 2 ^ e → ldep m n edge ≤ e + 1 := by
  intro n
  induction n using Nat.strongRecOn with
  | ind n ih =>
    intro m e edge hn
    by_cases h2 : n < 2 ∨ m = n
    · rw [ldep_all h2]; split <;> omega
    · have hc := cutN_lt (m := n) (by omega)
      have hp := cutN_pos n
      have ht := cutN_two (m := n) (by omega)
      have he : ∃ d, e = d + 1 := by
        cases e with
        | zero => rw [Nat.pow_zero] at hn; omega
        | succ d => exact ⟨d, rfl⟩
      obtain ⟨d, rfl⟩ := he
      rw [Nat.pow_succ] at hn
      have hcd : cutN n ≤ 2 ^ d := by
        have hlt : cutN n < 2 ^ (d + 1) := by rw [Nat.pow_succ]; omega
        have : Nat.log2 (n - 1) < d + 1 := (Nat.pow_lt_pow_iff_right (by decide)).1 hlt
        exact Nat.pow_le_pow_right (by decide) (by omega)
      by_cases ha : m ≤ cutN n
      · rw [ldep_low h2 ha]
        have := ih _ hc m d edge hcd
        omega
      · rw [ldep_high h2 ha]
        have := ih _ (by omega) (m - cutN n) d false (show n - cutN n ≤ 2 ^ d by omega)
        omega
theorem ldep_64 {n : Nat} (hn : n ≤ 18446744073709551616) (m : Nat) (edge : Bool) : ldep m n edge ≤ 65 := ldep_le n m 64 edge (by omega)

/-- Of a power of two: what stands to its right, from the nearest one on. -/
theorem link_power (f : Nat → List Nat) (e : Nat) : ∀ (n i : Nat), 2 ^ e ≤ n → (linkL f i n (2 ^ e) true).foldl nodeL (rt f i (2 ^ e)) = rt f i n := by
  intro n
  induction n using Nat.strongRecOn with
  | ind n ih =>
    intro i hn
    by_cases h2 : n < 2 ∨ 2 ^ e = n
    · have h0 : 0 < 2 ^ e := Nat.two_pow_pos e
      obtain rfl : 2 ^ e = n := by omega
      rw [linkL_all f h2]; rfl
    · have hc := cutN_lt (m := n) (by omega)
      have hl : 2 ^ e ≤ cutN n := by
        have h1 : 2 ^ e ≤ n - 1 := by omega
        have : e ≤ Nat.log2 (n - 1) := (Nat.le_log2 (by omega)).2 h1
        exact Nat.pow_le_pow_right (by decide) this
      rw [linkL_low f h2 hl, List.foldl_append, ih _ hc i hl, rt_cut f i (m := n) (by omega)]; rfl

end Go.Proofs.YtllohbgejjbagaaDoor

/-
  A chain: its entries' leaves' sums, and their marks, as plain functions.
-/
namespace Go.Proofs.YtllohbgejjbagaaDoor
open Go.RowKit

/-- The leaf's sum of the j-th entry. -/
def lf (l : List (List Nat)) (j : Nat) : List Nat := leafL (l.getD j [])
/-- All of them, one behind the other. -/
def leavesL (l : List (List Nat)) : List Nat := (l.map leafL).flatten
/-- What all entries come to. -/
def markL (l : List (List Nat)) : List Nat := l.foldl (fun m b => sha (m ++ leafL b)) zero32

theorem markL_nil : markL [] = zero32 := rfl
theorem markL_snoc (l : List (List Nat)) (b : List Nat) : markL (l ++ [b]) = sha (markL l ++ leafL b) := by simp [markL, List.foldl_append]
theorem markL_length (l : List (List Nat)) : (markL l).length = 32 := by
  rcases List.eq_nil_or_concat l with rfl | ⟨l', b, rfl⟩
  · rfl
  · rw [List.concat_eq_append, markL_snoc]; exact sha_length _
theorem zero32_lt : ∀ x ∈ zero32, x < 256 := by
  intro x hx
  rw [List.eq_of_mem_replicate hx]
  omega
theorem markL_lt (l : List (List Nat)) : ∀ x ∈ markL l, x < 256 := by
  rcases List.eq_nil_or_concat l with rfl | ⟨l', b, rfl⟩
  · exact zero32_lt
  · rw [List.concat_eq_append, markL_snoc]; exact sha_lt _

theorem lf_length (l : List (List Nat)) (j : Nat) : (lf l j).length = 32 := leafL_length _
theorem lf_lt (l : List (List Nat)) (j : Nat) : ∀ x ∈ lf l j, x < 256 := leafL_lt _
theorem lf_of {l : List (List Nat)} {j : Nat} {b : List Nat} (h : l[j]? = some b) : lf l j = leafL b := by rw [lf, List.getD_eq_getElem?_getD, h]; rfl
theorem lf_append (l r : List (List Nat)) {j : Nat} (h : j < l.length) : lf (l ++ r) j = lf l j := by
  rw [lf, lf, List.getD_eq_getElem?_getD, List.getD_eq_getElem?_getD, List.getElem?_append_left h]
theorem lf_take (l : List (List Nat)) {j n : Nat} (h : j < n) : lf (l.take n) j = lf l j := by
  rw [lf, lf, List.getD_eq_getElem?_getD, List.getD_eq_getElem?_getD, List.getElem?_take, if_pos h]
theorem lf_snoc (l : List (List Nat)) (b : List Nat) : lf (l ++ [b]) l.length = leafL b := lf_of (by simp)

theorem leavesL_length (l : List (List Nat)) : (leavesL l).length = 32 * l.length := by
  induction l with
  | nil => rfl
  | cons b l ih => rw [leavesL, List.map_cons, List.flatten_cons, List.length_append, leafL_length, List.length_cons]; unfold leavesL at ih; rw [ih]; omega
theorem leavesL_lt (l : List (List Nat)) : ∀ x ∈ leavesL l, x < 256 := by
  intro x hx
  obtain ⟨s, hs, hxs⟩ := List.mem_flatten.1 hx
  obtain ⟨b, _, rfl⟩ := List.mem_map.1 hs
  exact leafL_lt _ x hxs
theorem leavesL_snoc (l : List (List Nat)) (b : List Nat) : leavesL (l ++ [b]) = leavesL l ++ leafL b := by simp [leavesL]
theorem nth_leaves {l : List (List Nat)} {j : Nat} (h : j < l.length) : nth (leavesL l) j = lf l j := by
  refine nth_flatten _ (fun s hs => ?_) j _ ?_
  · obtain ⟨b, _, rfl⟩ := List.mem_map.1 hs
    exact leafL_length _
  · rw [List.getElem?_map, List.getElem?_eq_getElem h, lf, List.getD_eq_getElem?_getD, List.getElem?_eq_getElem h]
    rfl

/-- What is told of the first n of a list hangs on these alone. -/
theorem root_first (l : List (List Nat)) {n : Nat} (h : n ≤ l.length) : rt (nth (leavesL (l.take n))) 0 n = rt (lf l) 0 n := rt_congr _ _ n 0 0 fun j hj => by
  rw [Nat.zero_add, nth_leaves (by rw [List.length_take]; omega), lf_take l hj]
theorem path_first (l : List (List Nat)) {n : Nat} (h : n ≤ l.length) (a : Nat) : pathL (nth (leavesL (l.take n))) 0 n a = pathL (lf l) 0 n a := pathL_congr _ _ n 0 0 a fun j hj => by
  rw [Nat.zero_add, nth_leaves (by rw [List.length_take]; omega), lf_take l hj]
theorem link_first (l : List (List Nat)) {n : Nat} (h : n ≤ l.length) (m : Nat) : linkL (nth (leavesL (l.take n))) 0 n m true = linkL (lf l) 0 n m true := linkL_congr _ _ n 0 0 m true fun j hj => by
  rw [Nat.zero_add, nth_leaves (by rw [List.length_take]; omega), lf_take l hj]
theorem root_begin (l r : List (List Nat)) {n : Nat} (h : n ≤ l.length) : rt (lf (l ++ r)) 0 n = rt (lf l) 0 n := rt_congr _ _ n 0 0 fun j hj => by rw [Nat.zero_add]; exact lf_append l r (by omega)
theorem path_begin (l r : List (List Nat)) {n : Nat} (h : n ≤ l.length) (a : Nat) : pathL (lf (l ++ r)) 0 n a = pathL (lf l) 0 n a := pathL_congr _ _ n 0 0 a fun j hj => by rw [Nat.zero_add]; exact lf_append l r (by omega)
theorem link_begin (l r : List (List Nat)) {n : Nat} (h : n ≤ l.length) (m : Nat) : linkL (lf (l ++ r)) 0 n m true = linkL (lf l) 0 n m true := linkL_congr _ _ n 0 0 m true fun j hj => by rw [Nat.zero_add]; exact lf_append l r (by omega)

end Go.Proofs.YtllohbgejjbagaaDoor

/-
  fronts.Root: the whole trees put together.
-/
namespace Go.Proofs.YtllohbgejjbagaaDoor
open Go.RowKit

set_option maxRecDepth 100000 in
set_option maxHeartbeats 4000000 in
theorem root_none_front {w : World} {g : Nat} {f : Nat → List Nat} (h : Front w g f 0) (hk : Knows w) (hs : Starts w) :
    Calls Tryd.prog 27 #[.pointer (some ⟨g, 0, none⟩)] w fun e w' => e = .returned (sv (rt f 0 0)) ∧ Below w.heap.size w w' := by
  obtain ⟨A, c, h⟩ := h
  have e0 : (bvs zero32).toArray = #[.int .u8 0, .int .u8 0, .int .u8 0, .int .u8 0, .int .u8 0, .int .u8 0, .int .u8 0, .int .u8 0, .int .u8 0, .int .u8 0, .int .u8 0, .int .u8 0, .int .u8 0, .int .u8 0, .int .u8 0, .int .u8 0, .int .u8 0, .int .u8 0, .int .u8 0, .int .u8 0, .int .u8 0, .int .u8 0, .int .u8 0, .int .u8 0, .int .u8 0, .int .u8 0, .int .u8 0, .int .u8 0, .int .u8 0, .int .u8 0, .int .u8 0, .int .u8 0] := rfl
  obtain ⟨w1, hw1⟩ : ∃ w1, w1 = w.alloc (.cells #[.int .u8 0, .int .u8 0, .int .u8 0, .int .u8 0, .int .u8 0, .int .u8 0, .int .u8 0, .int .u8 0, .int .u8 0, .int .u8 0, .int .u8 0, .int .u8 0, .int .u8 0, .int .u8 0, .int .u8 0, .int .u8 0, .int .u8 0, .int .u8 0, .int .u8 0, .int .u8 0, .int .u8 0, .int .u8 0, .int .u8 0, .int .u8 0, .int .u8 0, .int .u8 0, .int .u8 0, .int .u8 0, .int .u8 0, .int .u8 0, .int .u8 0, .int .u8 0] 34) := ⟨_, rfl⟩
  have b1 : Below w.heap.size w w1 := by rw [hw1]; exact below_alloc _ _
  have r1 : BArr w1 w.heap.size 34 zero32 := by rw [hw1, ← e0]; exact BArr.new _ _ _
  have HW := Lib.hid hw1
  have H1 := Lib.hid (And.intro b1 r1)
  clear hw1 b1 r1 e0
  have h1 := h.below H1.out.1
  have CT := Lib.hid (there_yes h1.made)
  have c1 := h1.size
  have C := Lib.hid (root_any none 0 0 [] w1 (InS.none_ _ _) (by intro x hx; cases hx) (Nat.le_refl _) (by omega) (hk.below H1.out.1) (hs.below H1.out.1))
  have hRl := sha_length []
  rw [rt_nil] at C ⊢
  obtain ⟨R, hR⟩ : ∃ R, sha [] = R := ⟨_, rfl⟩
  rw [hR] at C hRl ⊢
  have HZ32 := Lib.hid (show zero32.length = 32 from rfl)
  clear h h1 hR
  go_enter Tryd.func27, Tryd.ntmps27
  go_upto_region 1 with fail
  rw [← HW.out]
  go_wp2_with fail
  refine CT.out.mono ?_
  rintro e w' ⟨rfl, e1⟩
  obtain rfl := e1.symm
  clear e1
  go_wp2_with fail
  refine C.out.mono ?_
  rintro e w2 ⟨rfl, hb2⟩
  have hf7 := H1.out.2.below hb2
  go_wp2_with (with_reducible refine wpList_store_sum rfl (.tmp 2) (.tmp 15) rfl w.heap.size rfl zero32 R HZ32 hRl hf7 rfl ?_)
  refine bodyPost_ret_by (results_cell_row (p := 2) (ty := 34) (by kernel_rfl) _ _ w.heap.size 34 (bvs R).toArray (0, 0) _ rfl (hf7.setRow _) Tryd.underlying34 rfl (by rw [List.size_toArray, bvs_length, hRl]; exact sizeSum)) rfl ?_
  exact ⟨rfl, below_setRow (below_on H1.out.1 (Nat.le_refl _) hb2) (Nat.le_refl _) _⟩

set_option maxRecDepth 100000 in
set_option maxHeartbeats 4000000 in
theorem root_some_front {w : World} {g : Nat} {f : Nat → List Nat} {n : Nat} (h : Front w g f n) (hf : Sums32 f n) (h0 : 0 < n) (hn : n < 1000000) (hk : Knows w) (hs : Starts w) :
    Calls Tryd.prog 27 #[.pointer (some ⟨g, 0, none⟩)] w fun e w' => e = .returned (sv (rt f 0 n)) ∧ Below w.heap.size w w' := by
  obtain ⟨A, c, h⟩ := h
  have h32 := hf.fr32
  have hlt := hf.frlt
  have hm := fr_length f n 0
  have hmn := pop_le n
  obtain ⟨pre, x, hpx⟩ : ∃ pre x, fr f 0 n = pre ++ [x] := by
    rcases List.eq_nil_or_concat (fr f 0 n) with e | ⟨L, b, e⟩
    · have := fr_none.1 e; omega
    · exact ⟨L, b, by rw [e, List.concat_eq_append]⟩
  have htog := tog_fr f n 0 pre x hpx
  obtain ⟨q, hq⟩ : ∃ q, pre.length = q := ⟨_, rfl⟩
  obtain ⟨m, hmp⟩ : ∃ m, pop n = m := ⟨_, rfl⟩
  have e0 : (bvs zero32).toArray = #[.int .u8 0, .int .u8 0, .int .u8 0, .int .u8 0, .int .u8 0, .int .u8 0, .int .u8 0, .int .u8 0, .int .u8 0, .int .u8 0, .int .u8 0, .int .u8 0, .int .u8 0, .int .u8 0, .int .u8 0, .int .u8 0, .int .u8 0, .int .u8 0, .int .u8 0, .int .u8 0, .int .u8 0, .int .u8 0, .int .u8 0, .int .u8 0, .int .u8 0, .int .u8 0, .int .u8 0, .int .u8 0, .int .u8 0, .int .u8 0, .int .u8 0, .int .u8 0] := rfl
  obtain ⟨w1, hw1⟩ : ∃ w1, w1 = w.alloc (.cells #[.int .u8 0, .int .u8 0, .int .u8 0, .int .u8 0, .int .u8 0, .int .u8 0, .int .u8 0, .int .u8 0, .int .u8 0, .int .u8 0, .int .u8 0, .int .u8 0, .int .u8 0, .int .u8 0, .int .u8 0, .int .u8 0, .int .u8 0, .int .u8 0, .int .u8 0, .int .u8 0, .int .u8 0, .int .u8 0, .int .u8 0, .int .u8 0, .int .u8 0, .int .u8 0, .int .u8 0, .int .u8 0, .int .u8 0, .int .u8 0, .int .u8 0, .int .u8 0] 34) := ⟨_, rfl⟩
  have b1 : Below w.heap.size w w1 := by rw [hw1]; exact below_alloc _ _
  have r1 : BArr w1 w.heap.size 34 zero32 := by rw [hw1, ← e0]; exact BArr.new _ _ _
  have HW := Lib.hid hw1
  have H1 := Lib.hid (And.intro b1 r1)
  clear hw1 b1 r1 e0
  have h1 := h.below H1.out.1
  have CT := Lib.hid (there_yes h1.made)
  have c1 := h1.size
  have c2 := h1.list
  have htr := h.trees
  have c20 := h.list
  have hcap := h1.cap
  have hnil := h1.nil
  rw [hmp] at c2 c20 htr hcap hm hmn
  rw [hpx] at h32 hlt hm htr
  have hmq : m = q + 1 := by rw [← hm, List.length_append, hq]; rfl
  subst hmq
  have htake : (pre ++ [x]).flatten.take (32 * q) = pre.flatten := by rw [flat_take h32, ← hq, List.take_left]
  have hnth : nth (pre ++ [x]).flatten q = x := nth_flatten _ h32 q x (by rw [← hq]; simp)
  have i1 : InS w A q pre.flatten := by rw [← htake]; exact htr.take (by omega)
  obtain ⟨ad, rfl, hxl, hat⟩ := htr.at_ (show q < q + 1 by omega)
  rw [hnth] at hxl hat
  have hTk := fun W => run_take_sums (ad := ad) (n := q + 1) (c := c) (k := q) (by omega) hcap W
  have CG := Lib.hid (fun (W : World) (hW : Below w.heap.size w1 W) => together_any (some ad) q c pre x W (i1.below (H1.out.1.trans hW)) hq (fun y hy => h32 y (List.mem_append_left _ hy)) (fun y hy => hlt y (List.mem_append_left _ hy)) hxl (hlt x (by simp)) (by omega) (hk.below (H1.out.1.trans hW)) (hs.below (H1.out.1.trans hW)))
  have hRl : (rt f 0 n).length = 32 := rt_length f 0 n fun j hj => by rw [Nat.zero_add]; exact hf.len j hj
  obtain ⟨R, hR⟩ : ∃ R, rt f 0 n = R := ⟨_, rfl⟩
  rw [hR] at htog hRl ⊢
  rw [htog] at CG
  have HAt := Lib.hid hat
  have HC2 := Lib.hid (fun (W : World) (hW : Below w.heap.size w1 W) => ((H1.out.1.trans hW).cell (World.block_lt_of_cell? w _ c20)).trans c20)
  have HTk := Lib.hid hTk
  have hnz : ((n : Int) == 0) = false := by simp; omega
  have hwq : IntKind.i64.wrap (q : Int) = (q : Int) := by rw [IntKind.wrap_i64]; omega
  have hsub : ((q + 1 : Nat) : Int) - 1 = (q : Int) := by omega
  have hsub2 : (q : Int) + 1 - 1 = (q : Int) := by omega
  have hst : ∀ W : World, BArr W w.heap.size 34 zero32 → (storeCells ⟨w.heap.size, 0, none⟩ (bvs R)).run Tryd.prog W = .ok () (W.setRow w.heap.size (bvs R).toArray) := fun W hW => by
    have := run_storeCells_from (P := Tryd.prog) w.heap.size 34 (bvs R) 0 _ W hW (by rw [bvs_length, hRl]; rfl) (bvs_oneCell R)
    simpa using this
  have hbR : (bvs R).length = 32 := by rw [bvs_length, hRl]
  have hsz1 := H1.out.2.lt
  have hnq : ¬ ((q : Int) + 1 ≤ (q : Int)) := by omega
  clear c20 h h1 hf h32 hlt hm hmn hpx htog hq hmp htr hcap hnil htake hnth i1 hat hTk hR
  unfold sv at CG
  go_enter Tryd.func27, Tryd.ntmps27
  go_upto_region 1 with fail
  rw [← HW.out]
  go_wp2_with fail
  refine CT.out.mono ?_
  rintro e w' ⟨rfl, e1⟩
  obtain rfl := e1.symm
  clear e1
  go_upto_region 6 with fail
  refine wp_region_held_drew (S := fun W => Below w.heap.size w1 W) (by kernel_rfl) ((Below.refl _ _).drew) (fun hS0 => ?_)
  change wpAnyH _ _ _ _ _ _ _ _ w1.drew
  refine' wpAnyH_take (i := 0) (oi := _) (v := _) ?hir0 (by kernel_rfl) ?hfr0 ?hrr0 ?hQr0 ?hyr0 hS0 ?restr0
  case hir0 => (simp only [List.getElem?_toArray, List.getElem?_cons_zero]; rfl)
  case hfr0 => kernel_rfl
  case hrr0 => kernel_rfl
  case hQr0 => exact fun _ _ _ h => h
  case hyr0 => refine Or.inl ⟨by rfl, ?_⟩; intro W hSw; go_simp; try with_reducible rfl
  try simp only [Act.put, List.setIfInBounds_toArray, List.set_cons_zero, List.set_cons_succ]
  refine' wpAnyH_take (i := 1) (oi := _) (v := _) ?hir1 (by kernel_rfl) ?hfr1 ?hrr1 ?hQr1 ?hyr1 hS0 ?restr1
  case hir1 => (simp only [List.getElem?_toArray, List.getElem?_cons_zero, List.getElem?_cons_succ]; rfl)
  case hfr1 => kernel_rfl
  case hrr1 => kernel_rfl
  case hQr1 => exact fun _ _ _ h => h
  case hyr1 => refine Or.inl ⟨by rfl, ?_⟩; intro W hSw; go_simp; try with_reducible rfl
  try simp only [Act.put, List.setIfInBounds_toArray, List.set_cons_zero, List.set_cons_succ]
  refine' wpAnyH_take (i := 2) (oi := _) (v := _) ?hir2 (by kernel_rfl) ?hfr2 ?hrr2 ?hQr2 ?hyr2 hS0 ?restr2
  case hir2 => (simp only [List.getElem?_toArray, List.getElem?_cons_zero, List.getElem?_cons_succ]; rfl)
  case hfr2 => kernel_rfl
  case hrr2 => kernel_rfl
  case hQr2 => exact fun _ _ _ h => h
  case hyr2 => refine Or.inl ⟨by rfl, ?_⟩; intro W hSw; go_simp; try with_reducible rfl
  try simp only [Act.put, List.setIfInBounds_toArray, List.set_cons_zero, List.set_cons_succ]
  refine' wpAnyH_take (i := 3) (oi := _) (v := .slice (some ad) (q + 1) c) ?hir3 (by kernel_rfl) ?hfr3 ?hrr3 ?hQr3 ?hyr3 hS0 ?restr3
  case hir3 => (simp only [List.getElem?_toArray, List.getElem?_cons_zero, List.getElem?_cons_succ]; rfl)
  case hfr3 => kernel_rfl
  case hrr3 => kernel_rfl
  case hQr3 => exact fun _ _ _ h => h
  case hyr3 => refine Or.inl ⟨by rfl, ?_⟩; intro W hSw; have hcc := HC2.out W hSw; go_simp; try with_reducible rfl
  try simp only [Act.put, List.setIfInBounds_toArray, List.set_cons_zero, List.set_cons_succ]
  refine' wpAnyH_take (i := 4) (oi := _) (v := _) ?hir4 (by kernel_rfl) ?hfr4 ?hrr4 ?hQr4 ?hyr4 hS0 ?restr4
  case hir4 => (simp only [List.getElem?_toArray, List.getElem?_cons_zero, List.getElem?_cons_succ]; rfl)
  case hfr4 => kernel_rfl
  case hrr4 => kernel_rfl
  case hQr4 => exact fun _ _ _ h => h
  case hyr4 => refine Or.inl ⟨by rfl, ?_⟩; intro W hSw; go_simp; try with_reducible rfl
  try simp only [Act.put, List.setIfInBounds_toArray, List.set_cons_zero, List.set_cons_succ]
  refine' wpAnyH_take (i := 5) (oi := _) (v := .slice (some ad) q c) ?hir5 (by kernel_rfl) ?hfr5 ?hrr5 ?hQr5 ?hyr5 hS0 ?restr5
  case hir5 => (simp only [List.getElem?_toArray, List.getElem?_cons_zero, List.getElem?_cons_succ]; rfl)
  case hfr5 => kernel_rfl
  case hrr5 => kernel_rfl
  case hQr5 => exact fun _ _ _ h => h
  case hyr5 => refine yields_high (by rfl) _ _ rfl rfl rfl ?_; exact HTk.out
  try simp only [Act.put, List.setIfInBounds_toArray, List.set_cons_zero, List.set_cons_succ]
  refine' wpAnyH_take (i := 6) (oi := _) (v := _) ?hir6 (by kernel_rfl) ?hfr6 ?hrr6 ?hQr6 ?hyr6 hS0 ?restr6
  case hir6 => (simp only [List.getElem?_toArray, List.getElem?_cons_zero, List.getElem?_cons_succ]; rfl)
  case hfr6 => kernel_rfl
  case hrr6 => kernel_rfl
  case hQr6 => exact fun _ _ _ h => h
  case hyr6 => refine Or.inl ⟨by rfl, ?_⟩; intro W hSw; go_simp; try with_reducible rfl
  try simp only [Act.put, List.setIfInBounds_toArray, List.set_cons_zero, List.set_cons_succ]
  refine' wpAnyH_take (i := 7) (oi := _) (v := _) ?hir7 (by kernel_rfl) ?hfr7 ?hrr7 ?hQr7 ?hyr7 hS0 ?restr7
  case hir7 => (simp only [List.getElem?_toArray, List.getElem?_cons_zero, List.getElem?_cons_succ]; rfl)
  case hfr7 => kernel_rfl
  case hrr7 => kernel_rfl
  case hQr7 => exact fun _ _ _ h => h
  case hyr7 => refine Or.inl ⟨by rfl, ?_⟩; intro W hSw; go_simp; try with_reducible rfl
  try simp only [Act.put, List.setIfInBounds_toArray, List.set_cons_zero, List.set_cons_succ]
  refine' wpAnyH_take (i := 8) (oi := _) (v := _) ?hir8 (by kernel_rfl) ?hfr8 ?hrr8 ?hQr8 ?hyr8 hS0 ?restr8
  case hir8 => (simp only [List.getElem?_toArray, List.getElem?_cons_zero, List.getElem?_cons_succ]; rfl)
  case hfr8 => kernel_rfl
  case hrr8 => kernel_rfl
  case hQr8 => exact fun _ _ _ h => h
  case hyr8 => refine Or.inl ⟨by rfl, ?_⟩; intro W hSw; go_simp; try with_reducible rfl
  try simp only [Act.put, List.setIfInBounds_toArray, List.set_cons_zero, List.set_cons_succ]
  refine' wpAnyH_take (i := 9) (oi := _) (v := .slice (some ad) (q + 1) c) ?hir9 (by kernel_rfl) ?hfr9 ?hrr9 ?hQr9 ?hyr9 hS0 ?restr9
  case hir9 => (simp only [List.getElem?_toArray, List.getElem?_cons_zero, List.getElem?_cons_succ]; rfl)
  case hfr9 => kernel_rfl
  case hrr9 => kernel_rfl
  case hQr9 => exact fun _ _ _ h => h
  case hyr9 => refine Or.inl ⟨by rfl, ?_⟩; intro W hSw; have hcc := HC2.out W hSw; go_simp; try with_reducible rfl
  try simp only [Act.put, List.setIfInBounds_toArray, List.set_cons_zero, List.set_cons_succ]
  refine' wpAnyH_take (i := 10) (oi := _) (v := _) ?hir10 (by kernel_rfl) ?hfr10 ?hrr10 ?hQr10 ?hyr10 hS0 ?restr10
  case hir10 => (simp only [List.getElem?_toArray, List.getElem?_cons_zero, List.getElem?_cons_succ]; rfl)
  case hfr10 => kernel_rfl
  case hrr10 => kernel_rfl
  case hQr10 => exact fun _ _ _ h => h
  case hyr10 => refine Or.inl ⟨by rfl, ?_⟩; intro W hSw; go_simp; try with_reducible rfl
  try simp only [Act.put, List.setIfInBounds_toArray, List.set_cons_zero, List.set_cons_succ]
  refine' wpAnyH_take (i := 11) (oi := _) (v := .pointer (some (ad.add (q * 32)))) ?hir11 (by kernel_rfl) ?hfr11 ?hrr11 ?hQr11 ?hyr11 hS0 ?restr11
  case hir11 => (simp only [List.getElem?_toArray, List.getElem?_cons_zero, List.getElem?_cons_succ]; rfl)
  case hfr11 => kernel_rfl
  case hrr11 => kernel_rfl
  case hQr11 => exact fun _ _ _ h => h
  case hyr11 => refine Or.inl ⟨by rfl, ?_⟩; intro W hSw; go_simp; try with_reducible rfl
  try simp only [Act.put, List.setIfInBounds_toArray, List.set_cons_zero, List.set_cons_succ]
  refine' wpAnyH_take (i := 12) (oi := _) (v := sv x) ?hir12 (by kernel_rfl) ?hfr12 ?hrr12 ?hQr12 ?hyr12 hS0 ?restr12
  case hir12 => (simp only [List.getElem?_toArray, List.getElem?_cons_zero, List.getElem?_cons_succ]; rfl)
  case hfr12 => kernel_rfl
  case hrr12 => kernel_rfl
  case hQr12 => exact fun _ _ _ h => h
  case hyr12 => refine yields_sum ?_ (.tmp 33) rfl (ad.add (q * 32)) rfl x hxl (fun W hSw => HAt.out.below (H1.out.1.trans hSw)); rfl
  try simp only [Act.put, List.setIfInBounds_toArray, List.set_cons_zero, List.set_cons_succ]
  refine wpAnyH_ready (rs := [13]) (by kernel_rfl) (by simp) ?_
  refine' AllReadyH.cons (o := _) ?hir13 (fun K hK => ?_) AllReadyH.nil
  case hir13 => (simp only [List.getElem?_toArray, List.getElem?_cons_zero, List.getElem?_cons_succ]; rfl)
  go_simp
  go_at_call 47
  refine (CG.out _ hS0).mono ?_
  rintro e W4 ⟨rfl, hb4⟩
  have hB4 : Below w.heap.size w1 W4 := hS0.trans (hb4.mono (Nat.le_trans (Nat.le_of_lt hsz1) hS0.size))
  have hf7 : BArr W4 w.heap.size 34 zero32 := H1.out.2.below (below_on (Below.refl _ _).drew (Nat.le_refl _) hb4)
  refine hK.out _ _ hB4 (fun _ => ?_)
  clear hK K
  try simp only [Act.put, List.setIfInBounds_toArray, List.set_cons_zero, List.set_cons_succ]
  refine wpAnyH_ready (rs := [14]) (by kernel_rfl) (by simp) ?_
  refine' AllReadyH.cons (o := _) ?hir14 (fun K hK => ?_) AllReadyH.nil
  case hir14 => (simp only [List.getElem?_toArray, List.getElem?_cons_zero, List.getElem?_cons_succ]; rfl)
  go_simp
  refine hK.out _ _ (below_setRow hB4 (Nat.le_refl _) _) (fun _ => ?_)
  clear hK K
  refine wpAnyH_done (by kernel_rfl) ?_ _
  go_wp2
  refine bodyPost_ret_by (results_cell_row (p := 2) (ty := 34) (by kernel_rfl) _ _ w.heap.size 34 (bvs R).toArray (0, 0) _ rfl (hf7.setRow _) Tryd.underlying34 rfl (by rw [List.size_toArray, bvs_length, hRl]; exact sizeSum)) rfl ?_
  exact ⟨rfl, below_setRow (H1.out.1.trans hB4) (Nat.le_refl _) _⟩

theorem root_front {w : World} {g : Nat} {f : Nat → List Nat} {n : Nat} (h : Front w g f n) (hf : Sums32 f n) (hn : n < 1000000) (hk : Knows w) (hs : Starts w) :
    Calls Tryd.prog 27 #[.pointer (some ⟨g, 0, none⟩)] w fun e w' => e = .returned (sv (rt f 0 n)) ∧ Below w.heap.size w w' := by
  by_cases h0 : n = 0
  · subst h0; exact root_none_front h hk hs
  · exact root_some_front h hf (by omega) hn hk hs

end Go.Proofs.YtllohbgejjbagaaDoor

/-
  A front, and blocks in which none of its trees lie.
-/
namespace Go.Proofs.YtllohbgejjbagaaDoor
open Go.RowKit

theorem sums_of {w : World} {A : Option Addr} {n : Nat} {ys : List Nat} (h : InS w A n ys) (hx : ∀ x ∈ ys, x < 256) : Sums32 (nth ys) n := ⟨fun _ hj => nth_length h.len hj, fun j _ => nth_lt hx j⟩

/-- A front none of whose trees lie in these blocks. -/
def FrontC (W : World) (g : Nat) (f : Nat → List Nat) (n : Nat) (S : Nat → Prop) : Prop := ∃ A c, FrontAt W g f n A c ∧ ∀ ad, A = some ad → ad.block < W.heap.size ∧ ¬ S ad.block
theorem FrontC.front {W : World} {g : Nat} {f : Nat → List Nat} {n : Nat} {S : Nat → Prop} (h : FrontC W g f n S) : Front W g f n := by
  obtain ⟨A, c, h, _⟩ := h
  exact ⟨A, c, h⟩
theorem FrontC.lt {W : World} {g : Nat} {f : Nat → List Nat} {n : Nat} {S : Nat → Prop} (h : FrontC W g f n S) : g < W.heap.size := h.front.lt
theorem FrontC.row {W : World} {g : Nat} {f : Nat → List Nat} {n : Nat} {S : Nat → Prop} (h : FrontC W g f n S) : ∃ cs, W.heap[g]? = some (.cells cs 85 (0, 0)) := by
  obtain ⟨A, c, h, _⟩ := h
  exact ⟨_, h.row⟩
theorem FrontC.keep {W W' : World} {g : Nat} {f : Nat → List Nat} {n : Nat} {S S' : Nat → Prop} (h : FrontC W g f n S) (hg : W'.heap[g]? = W.heap[g]?) (hsz : W.heap.size ≤ W'.heap.size)
    (hb : ∀ b, b < W.heap.size → ¬ S b → W'.heap[b]? = W.heap[b]?) (hS : ∀ b, b < W.heap.size → ¬ S b → ¬ S' b) : FrontC W' g f n S' := by
  obtain ⟨A, c, h, hc⟩ := h
  exact ⟨A, c, h.keep hg (fun ad e => hb _ (hc ad e).1 (hc ad e).2), fun ad e => ⟨Nat.lt_of_lt_of_le (hc ad e).1 hsz, hS _ (hc ad e).1 (hc ad e).2⟩⟩
theorem FrontC.congr {W : World} {g : Nat} {f f' : Nat → List Nat} {n : Nat} {S : Nat → Prop} (h : FrontC W g f n S) (hf : ∀ j, j < n → f j = f' j) : FrontC W g f' n S := by
  obtain ⟨A, c, h, hc⟩ := h
  refine ⟨A, c, ⟨h.row, ?_, h.cap, h.nil, h.off⟩, hc⟩
  have e := fr_congr f f' n 0 0 fun j hj => by rw [Nat.zero_add]; exact hf j hj
  rw [← e]
  exact h.trees

set_option maxRecDepth 100000 in
set_option maxHeartbeats 1000000 in
theorem new_front_at (f : Nat → List Nat) (w : World) : Calls Tryd.prog 55 #[] w fun e w' => e = .returned (.pointer (some ⟨w.heap.size, 0, none⟩)) ∧ FrontAt w' w.heap.size f 0 none 0 ∧ Below w.heap.size w w' := by
  go_enter Tryd.func55, Tryd.ntmps55
  go_wp2
  go_ret
  refine ⟨rfl, ⟨by rw [pop_zero]; exact World.alloc_heap_new w _, ?_, by rw [pop_zero]; exact Nat.le_refl _, fun _ => rfl, fun ad e => by cases e⟩, below_alloc w _⟩
  rw [fr_nil, pop_zero]
  exact InS.none_ _ _

theorem own_ne {W : World} {base g n : Nat} {v : Value} {xs : List Value} {cs : Array Value} (h : W.ownsRow base 34 32 v n xs) (hg : W.heap[g]? = some (.cells cs 85 (0, 0))) : v.ownBlock ≠ some g := by
  intro e
  rcases h.2 with ⟨e1, _⟩ | ⟨g', cap, cur, e1, _, hg', _⟩
  · rw [e1] at e; cases e
  · rw [e1] at e
    cases e
    rw [hg'] at hg
    cases hg
theorem own_blocks {w w' : World} {base : Nat} {e : TypeId} {size : Nat} {v : Value} {n : Nat} {xs : List Value} (h : w.ownsRow base e size v n xs) (hb : ∀ k, v.ownBlock = some k → w'.heap[k]? = w.heap[k]?) : w'.ownsRow base e size v n xs := by
  refine ⟨h.1, ?_⟩
  rcases h.2 with ⟨e1, h0⟩ | ⟨g, cap, cur, e1, h1, hg, h2⟩
  · exact .inl ⟨e1, h0⟩
  · exact .inr ⟨g, cap, cur, e1, h1, (hb g (by rw [e1]; rfl)).trans hg, h2⟩

end Go.Proofs.YtllohbgejjbagaaDoor

/-
  Lists of lists of one length, one behind the other; rows of such elements in memory. No function of the program is named here.
-/
namespace Go.Proofs.YtllohbgejjbagaaDoor
open Go.RowKit

section
variable {α : Type} {m : Nat} {L : List (List α)}
theorem chunk_len (h : ∀ s ∈ L, s.length = m) : L.flatten.length = L.length * m := by
  induction L with
  | nil => simp
  | cons s L ih =>
    rw [List.flatten_cons, List.length_append, ih (fun x hx => h x (by simp [hx])), h s (by simp), List.length_cons, Nat.add_mul]
    omega
theorem chunk_get (h : ∀ s ∈ L, s.length = m) {k j : Nat} {s : List α} (hk : L[k]? = some s) (hj : j < m) : L.flatten[k * m + j]? = s[j]? := by
  induction L generalizing k with
  | nil => simp at hk
  | cons t L ih =>
    have ht : t.length = m := h t (by simp)
    rw [List.flatten_cons]
    cases k with
    | zero =>
      simp at hk
      subst hk
      rw [Nat.zero_mul, Nat.zero_add, List.getElem?_append_left (by omega)]
    | succ k =>
      have e : (k + 1) * m = m + k * m := by rw [Nat.add_mul]; omega
      rw [e, List.getElem?_append_right (by omega), ht, show m + k * m + j - m = k * m + j by omega]
      exact ih (fun x hx => h x (by simp [hx])) (by simpa using hk)
theorem chunk_set (h : ∀ s ∈ L, s.length = m) {k : Nat} {z : List α} (hk : k < L.length) (hz : z.length = m) : splice L.flatten (k * m) z = (L.set k z).flatten := by
  induction L generalizing k with
  | nil => simp at hk
  | cons t L ih =>
    have ht : t.length = m := h t (by simp)
    cases k with
    | zero =>
      rw [List.set_cons_zero, List.flatten_cons, List.flatten_cons, splice, Nat.zero_mul, List.take_zero, List.nil_append, Nat.zero_add, hz, List.drop_left' ht]
    | succ k =>
      have e : (k + 1) * m = m + k * m := by rw [Nat.add_mul]; omega
      rw [List.set_cons_succ, List.flatten_cons, List.flatten_cons, ← ih (fun x hx => h x (by simp [hx])) (by simpa using hk)]
      simp only [splice]
      rw [e, List.take_append, ht, show m + k * m - m = k * m by omega, List.take_of_length_le (by omega), List.drop_append, ht, List.drop_of_length_le (by omega), show m + k * m + z.length - m = k * m + z.length by omega]
      simp
theorem take_spliceC {xs : List α} {o n : Nat} {z : List α} (h : o + z.length ≤ n) (hn : n ≤ xs.length) : (splice xs o z).take n = splice (xs.take n) o z := by
  apply List.ext_getElem?
  intro i
  rw [List.getElem?_take]
  simp only [splice]
  have hl : (xs.take o).length = o := by rw [List.length_take]; omega
  have hl2 : ((xs.take n).take o).length = o := by rw [List.length_take, List.length_take]; omega
  split
  · rename_i hi
    by_cases h1 : i < o
    · rw [List.getElem?_append_left (by omega), List.getElem?_append_left (by omega), List.getElem?_take, List.getElem?_take, List.getElem?_take, if_pos h1, if_pos h1, if_pos hi]
    · rw [List.getElem?_append_right (l₁ := xs.take o) (by omega), List.getElem?_append_right (l₁ := (xs.take n).take o) (by omega), hl, hl2]
      by_cases h2 : i - o < z.length
      · rw [List.getElem?_append_left h2, List.getElem?_append_left h2]
      · rw [List.getElem?_append_right (by omega), List.getElem?_append_right (by omega), List.getElem?_drop, List.getElem?_drop, List.getElem?_take, if_pos (by omega)]
  · rename_i hi
    symm
    rw [List.getElem?_eq_none]
    simp only [List.length_append, List.length_take, List.length_drop]
    omega
end

theorem setCells_heap (g : Nat) (T : TypeId) (vs : List Value) : ∀ (w : World) (cur : List Value) (o : Nat), w.heap[g]? = some (.cells cur.toArray T (0, 0)) → o + vs.length ≤ cur.length →
    (w.setCells g o vs).heap[g]? = some (.cells (splice cur o vs).toArray T (0, 0)) := by
  induction vs with
  | nil => intro w cur o h _; simp [World.setCells, splice, h]
  | cons v vs ih =>
    intro w cur o h hl
    rw [List.length_cons] at hl
    have e := heap_setCell_same w g o _ T v h
    rw [List.setIfInBounds_toArray] at e
    rw [World.setCells, ih _ _ _ e (by rw [List.length_set]; omega)]
    have hlt : (cur.take o).length = o := by rw [List.length_take]; omega
    have e1 : cur.set o v = cur.take o ++ v :: cur.drop (o + 1) := by rw [List.set_eq_take_append_cons_drop, if_pos (by omega)]
    have e2 : (cur.take o ++ v :: cur.drop (o + 1)).take (o + 1) = cur.take o ++ [v] := by
      rw [List.take_append, hlt, List.take_of_length_le (by omega), show o + 1 - o = 1 by omega]
      rfl
    have e3 : (cur.take o ++ v :: cur.drop (o + 1)).drop (o + 1 + vs.length) = cur.drop (o + (vs.length + 1)) := by
      rw [List.drop_append, hlt, List.drop_of_length_le (by omega), List.nil_append, show o + 1 + vs.length - o = vs.length + 1 by omega, List.drop_succ_cons, List.drop_drop, show o + 1 + vs.length = o + (vs.length + 1) by omega]
    rw [splice, splice, e1, e2, e3, List.length_cons, List.append_assoc]
    rfl
theorem setCells_grown (g : Nat) (vs : List Value) : ∀ (w : World) (o : Nat), w.grownBy (w.setCells g o vs) (some g) := by
  induction vs with
  | nil => intro w o; exact ⟨rfl, rfl, rfl, Nat.le_refl _, fun _ _ _ => rfl⟩
  | cons v vs ih =>
    intro w o
    rw [World.setCells]
    have h := ih (w.setCell ⟨g, o, none⟩ v) (o + 1)
    have hs : (w.setCell ⟨g, o, none⟩ v).heap.size = w.heap.size := by simp [World.setCell]
    exact ⟨h.os, h.tape, h.output, by have := h.size; omega, fun k hk hne => (h.block k (by omega) hne).trans (heap_setCell_other w ⟨g, o, none⟩ k v (fun e => hne (by rw [e])))⟩
theorem setCells_size (g : Nat) (vs : List Value) : ∀ (w : World) (o : Nat), (w.setCells g o vs).heap.size = w.heap.size := by
  induction vs with
  | nil => intro w o; rfl
  | cons v vs ih => intro w o; rw [World.setCells, ih]; simp [World.setCell]
theorem setCell_grown (w : World) (b i : Nat) (v : Value) : w.grownBy (w.setCell ⟨b, i, none⟩ v) (some b) :=
  ⟨rfl, rfl, rfl, by simp [World.setCell], fun k _ hk => heap_setCell_other w ⟨b, i, none⟩ k v (fun e => hk (by rw [e]))⟩

/-! ### Rows of elements of m cells each -/
section
variable {w w' : World} {base : Nat} {e : TypeId} {m n c g : Nat} {L : List (List Value)}
theorem own_block {v : Value} {xs : List Value} (h : w.ownsRow base e m v n xs) (hb : ∀ b, v.ownBlock = some b → w'.heap[b]? = w.heap[b]?) : w'.ownsRow base e m v n xs := by
  refine ⟨h.1, ?_⟩
  rcases h.2 with h0 | ⟨g, cap, cur, e1, r0, r1, r2⟩
  · exact .inl h0
  · exact .inr ⟨g, cap, cur, e1, r0, (hb g (by rw [e1]; rfl)).trans r1, r2⟩
theorem own_base {v : Value} {xs : List Value} (h : w.ownsRow base e m v n xs) : w.ownsRow 0 e m v n xs := by
  refine ⟨h.1, ?_⟩
  rcases h.2 with h0 | ⟨g, cap, cur, e1, r0, r1, r2⟩
  · exact .inl h0
  · exact .inr ⟨g, cap, cur, e1, Nat.zero_le _, r1, r2⟩
theorem own_rebase {v : Value} {xs : List Value} (h : w.ownsRow base e m v n xs) {base' : Nat} (hb : ∀ b, v.ownBlock = some b → base' ≤ b) : w.ownsRow base' e m v n xs := by
  refine ⟨h.1, ?_⟩
  rcases h.2 with h0 | ⟨g, cap, cur, e1, r0, r1, r2⟩
  · exact .inl h0
  · exact .inr ⟨g, cap, cur, e1, hb g (by rw [e1]; rfl), r1, r2⟩
theorem own_lt {v : Value} {xs : List Value} (h : w.ownsRow base e m v n xs) {b : Nat} (hb : v.ownBlock = some b) : b < w.heap.size := by
  rcases h.2 with ⟨rfl, _⟩ | ⟨g, cap, cur, rfl, r0, r1, r2⟩
  · cases hb
  · cases hb; exact (Array.getElem?_eq_some_iff.1 r1).1
theorem own_type {v : Value} {xs : List Value} (h : w.ownsRow base e m v n xs) {b : Nat} (hb : v.ownBlock = some b) : ∃ cur, w.heap[b]? = some (.cells cur e (0, 0)) := by
  rcases h.2 with ⟨rfl, _⟩ | ⟨g, cap, cur, rfl, r0, r1, r2⟩
  · cases hb
  · cases hb; exact ⟨cur, r1⟩
theorem own_range (h : w.ownsRow base e m (.slice (some ⟨g, 0, none⟩) n c) n L.flatten) (hm : ∀ s ∈ L, s.length = m) (hn : L.length = n) {k : Nat} {s : List Value} (hk : L[k]? = some s) : w.rangeAt g (k * m) s := by
  rcases h.2 with ⟨e1, _⟩ | ⟨g, cap, cur, e1, _, hg, _, _, hs, ht⟩
  · cases e1
  · cases e1
    intro j v hv
    have hj : j < m := by have := (List.getElem?_eq_some_iff.1 hv).1; rwa [hm s (List.mem_of_getElem? hk)] at this
    have hk' := (List.getElem?_eq_some_iff.1 hk).1
    have hlt : k * m + j < n * m := by
      have : (k + 1) * m ≤ n * m := Nat.mul_le_mul_right m (by omega)
      rw [Nat.add_mul] at this
      omega
    have h1 := chunk_get hm hk hj
    rw [← ht, List.getElem?_take, if_pos hlt, hv] at h1
    rw [cell_of_row _ g _ _ e (0, 0) hg, ← Array.getElem?_toList]
    exact h1
theorem own_there (h : w.ownsRow base e m (.slice (some ⟨g, 0, none⟩) n c) n L.flatten) {k : Nat} (hk : k < n) : w.there g (k * m) m := by
  rcases h.2 with ⟨e1, _⟩ | ⟨g, cap, cur, e1, _, hg, hc, _, hs, ht⟩
  · cases e1
  · cases e1
    intro j hj
    have hlt : k * m + j < c * m := by
      have : (k + 1) * m ≤ c * m := Nat.mul_le_mul_right m (by omega)
      rw [Nat.add_mul] at this
      omega
    refine ⟨?_, frozen_of_row w g _ _ e hg⟩
    rw [cell_of_row _ g _ _ e (0, 0) hg, Array.getElem?_eq_getElem (by omega)]
    rfl
theorem own_setC (h : w.ownsRow base e m (.slice (some ⟨g, 0, none⟩) n c) n L.flatten) (hm : ∀ s ∈ L, s.length = m) (hn : L.length = n) {k : Nat} (hk : k < n) {z : List Value} (hz : z.length = m) :
    (w.setCells g (k * m) z).ownsRow base e m (.slice (some ⟨g, 0, none⟩) n c) n (L.set k z).flatten := by
  have h0 := h.1
  rcases h.2 with ⟨e1, _⟩ | ⟨g, cap, cur, e1, hb, hg, hc, hx, hs, ht⟩
  · cases e1
  · cases e1
    have hfit : k * m + m ≤ n * m := by
      have : (k + 1) * m ≤ n * m := Nat.mul_le_mul_right m (by omega)
      rwa [Nat.add_mul, Nat.one_mul] at this
    have hnc : n * m ≤ c * m := Nat.mul_le_mul_right m hc
    have hlen : cur.toList.length = c * m := by rw [Array.length_toList, hs]
    have hg' : w.heap[g]? = some (.cells cur.toList.toArray e (0, 0)) := by simpa using hg
    have hH := setCells_heap g e z w cur.toList (k * m) hg' (by omega)
    have hset := chunk_set hm (k := k) (by omega) hz
    refine ⟨?_, .inr ⟨g, c, _, rfl, hb, hH, hc, hx, ?_, ?_⟩⟩
    · rw [← hset, length_splice _ _ _ (by rw [h0]; omega), h0]
    · rw [List.size_toArray, length_splice _ _ _ (by omega), hlen]
    · rw [← hset, ← ht]
      exact take_spliceC (by omega) (by omega)
end

/-! ### Loads of whole elements in a region that draws -/
theorem still_load_mid {ops : Array Oper} {o : Oper} {a : Act} {w : World} {K : Act → Prop} {E : Prop} (hgd : o.guard = none) (ty : TypeId) (x : Operand) (ho : o.op = .load ty x)
    (b off : Nat) (hx : a.eval x = .pointer (some ⟨b, off, none⟩)) (cs : List Value) (d : TypeDesc) (hc : w.rangeAt b off cs)
    (hu : Tryd.prog.underlying ty = some d) (hd : d.isRow = true) (hi : (Tryd.prog.info? ty).map (·.size) = some cs.length) (h : K (a.put o.dst (.agg cs.toArray))) :
    if Region.wanted o (yielded ops a.tmps) = true then o.still Tryd.prog a w K else E := by
  have hw : Region.wanted o (yielded ops a.tmps) = true := by simp [Region.wanted, hgd]
  rw [if_pos hw]
  have hr : (execOp a.eval o).run Tryd.prog w = .ok (.value (.agg cs.toArray)) w := by
    unfold execOp
    simp only [ho, hx, Instr.loadAt, Instr.sureAddr, Sem.run_bind, Sem.run_pure, Result.andThen_ok, run_loadVar_mid w b off ty cs d hc hu hd hi]
  unfold Oper.still
  rw [hr, Oper.stillUpon_value]
  exact h

end Go.Proofs.YtllohbgejjbagaaDoor

/-
  A chain: what it is, and where it lies; what asks whether it is there, how many entries it has.
-/
namespace Go.Proofs.YtllohbgejjbagaaDoor
open Go.RowKit

/-- An entry as cells: its leaf's sum, the mark of all up to it, its content. -/
def ecell (s m : List Nat) (u : Value) : List Value := bvs s ++ bvs m ++ [u]
theorem ecell_length {s m : List Nat} (hs : s.length = 32) (hm : m.length = 32) (u : Value) : (ecell s m u).length = 65 := by
  rw [ecell, List.length_append, List.length_append, bvs_length, bvs_length, hs, hm]; rfl

/-- Block g is a chain of the entries l; its front is block gf, whose trees lie at fA; its entries are v. -/
structure ChainAt (w : World) (g gf : Nat) (fA : Option Addr) (fc : Nat) (v : Value) (E : List (List Value)) (G : Nat → Prop) (l : List (List Nat)) : Prop where
  head : w.heap[g]? = some (.cells #[.pointer (some ⟨gf, 0, none⟩), v] 28 (0, 0))
  front : FrontAt w gf (lf l) l.length fA fc
  row : w.ownsRow 0 60 65 v l.length E.flatten
  len : E.length = l.length
  ent : ∀ (k : Nat) (b : List Nat), l[k]? = some b → ∃ u, E[k]? = some (ecell (leafL b) (markL (l.take (k + 1))) u) ∧ w.ownsRow 0 5 1 u b.length (bvs b) ∧ ∀ x, u.ownBlock = some x → G x
  gg : G g
  gfr : G gf
  ga : ∀ ad, fA = some ad → G ad.block
  gv : ∀ x, v.ownBlock = some x → G x
  ok : ∀ b ∈ l, b.length ≤ 16384 ∧ ∀ x ∈ b, x < 256
  gt_ : ∀ ad, fA = some ad → ad.block ≠ g ∧ v.ownBlock ≠ some ad.block
/-- Block g is a chain of the entries l, that lies in blocks of G. -/
def Chain (w : World) (g : Nat) (G : Nat → Prop) (l : List (List Nat)) : Prop := (∃ gf fA fc v E, ChainAt w g gf fA fc v E G l) ∧ ∀ x, G x → x < w.heap.size

theorem hblock_ne {w : World} {a b : Nat} {x y : Array Value} {t u : TypeId} {f f' : Nat × Nat} (ha : w.heap[a]? = some (.cells x t f)) (hb : w.heap[b]? = some (.cells y u f')) (h : t ≠ u) : a ≠ b := by
  rintro rfl
  rw [ha] at hb
  cases hb
  exact h rfl
theorem tne_ce : 28 ≠ 60 := by decide
theorem tne_cb : 28 ≠ 5 := by decide
theorem tne_cf : 28 ≠ 85 := by decide
theorem tne_fe : 85 ≠ 60 := by decide
theorem tne_fb : 85 ≠ 5 := by decide
theorem tne_eb : 60 ≠ 5 := by decide

section
variable {w w' : World} {g gf fc : Nat} {fA : Option Addr} {v : Value} {E : List (List Value)} {G : Nat → Prop} {l : List (List Nat)}
theorem ChainAt.c0 (h : ChainAt w g gf fA fc v E G l) : w.cell? ⟨g, 0, none⟩ = some (.pointer (some ⟨gf, 0, none⟩)) := by rw [cell_of_row _ g 0 _ _ (0, 0) h.head]; rfl
theorem ChainAt.c1 (h : ChainAt w g gf fA fc v E G l) : w.cell? ⟨g, 1, none⟩ = some v := by rw [cell_of_row _ g 1 _ _ (0, 0) h.head]; rfl
theorem ChainAt.fz (h : ChainAt w g gf fA fc v E G l) (i : Nat) : w.frozen? ⟨g, i, none⟩ = false := frozen_of_row _ g i _ _ h.head
theorem ChainAt.lt (h : ChainAt w g gf fA fc v E G l) : g < w.heap.size := (Array.getElem?_eq_some_iff.1 h.head).1
theorem ChainAt.e65 (h : ChainAt w g gf fA fc v E G l) : ∀ s ∈ E, s.length = 65 := by
  intro s hs
  obtain ⟨k, hk, rfl⟩ := List.mem_iff_getElem.1 hs
  have hkl : k < l.length := by rw [← h.len]; exact hk
  obtain ⟨u, hu, _⟩ := h.ent k _ (List.getElem?_eq_getElem hkl)
  rw [List.getElem?_eq_getElem hk] at hu
  rw [Option.some.inj hu]
  exact ecell_length (leafL_length _) (markL_length _) _
theorem ChainAt.blocks (h : ChainAt w g gf fA fc v E G l) (hb : ∀ x, G x → w'.heap[x]? = w.heap[x]?) : ChainAt w' g gf fA fc v E G l :=
  ⟨(hb g h.gg).trans h.head, h.front.keep (hb gf h.gfr) (fun ad e => hb _ (h.ga ad e)), own_block h.row (fun x hx => hb x (h.gv x hx)), h.len,
    fun k b hk => by
      obtain ⟨u, hu, ho, hG⟩ := h.ent k b hk
      exact ⟨u, hu, own_block ho (fun x hx => hb x (hG x hx)), hG⟩, h.gg, h.gfr, h.ga, h.gv, h.ok, h.gt_⟩
theorem Chain.lt (h : Chain w g G l) : g < w.heap.size := by obtain ⟨⟨gf, fA, fc, v, E, h⟩, _⟩ := h; exact h.lt
theorem Chain.mem (h : Chain w g G l) : G g := by obtain ⟨⟨gf, fA, fc, v, E, h⟩, _⟩ := h; exact h.gg
theorem Chain.ok (h : Chain w g G l) : ∀ b ∈ l, b.length ≤ 16384 ∧ ∀ x ∈ b, x < 256 := by obtain ⟨⟨gf, fA, fc, v, E, h⟩, _⟩ := h; exact h.ok
/-- What leaves the blocks of a chain alone leaves the chain. -/
theorem Chain.but {S : Nat → Prop} (h : Chain w g G l) (hb : But S w w') (hd : ∀ x, G x → ¬ S x) : Chain w' g G l := by
  obtain ⟨⟨gf, fA, fc, v, E, h⟩, hl⟩ := h
  exact ⟨⟨gf, fA, fc, v, E, h.blocks (fun x hx => hb.block x (hl x hx) (hd x hx))⟩, fun x hx => Nat.lt_of_lt_of_le (hl x hx) hb.size⟩
theorem Chain.below (h : Chain w g G l) (hb : Below w.heap.size w w') : Chain w' g G l := h.but (S := fun _ => False) (But.of_below hb) (fun _ _ hf => hf)
theorem ChainAt.mono {G' : Nat → Prop} (h : ChainAt w g gf fA fc v E G l) (hG : ∀ x, G x → G' x) : ChainAt w g gf fA fc v E G' l :=
  ⟨h.head, h.front, h.row, h.len, fun k b hk => by
    obtain ⟨u, hu, ho, hx⟩ := h.ent k b hk
    exact ⟨u, hu, ho, fun x e => hG x (hx x e)⟩, hG _ h.gg, hG _ h.gfr, fun ad e => hG _ (h.ga ad e), fun x e => hG _ (h.gv x e), h.ok, h.gt_⟩
theorem ChainAt.below (h : ChainAt w g gf fA fc v E G l) (hG : ∀ x, G x → x < w.heap.size) (hb : Below w.heap.size w w') : ChainAt w' g gf fA fc v E G l := h.blocks fun x hx => hb.block x (hG x hx)
theorem ChainAt.frontF (h : ChainAt w g gf fA fc v E G l) : Front w gf (lf l) l.length := ⟨_, _, h.front⟩
theorem lf32 (l : List (List Nat)) (n : Nat) : Sums32 (lf l) n := ⟨fun j _ => lf_length l j, fun j _ => lf_lt l j⟩
/-- An entry's cells. -/
theorem ChainAt.range (h : ChainAt w g gf fA fc v E G l) {k : Nat} {b : List Nat} (hk : l[k]? = some b) :
    ∃ ge c u, v = .slice (some ⟨ge, 0, none⟩) l.length c ∧ l.length ≤ c ∧ w.rangeAt ge (k * 65) (ecell (leafL b) (markL (l.take (k + 1))) u) ∧ w.ownsRow 0 5 1 u b.length (bvs b) := by
  obtain ⟨u, hu, ho, _⟩ := h.ent k b hk
  have hr := h.row
  have hkl := (List.getElem?_eq_some_iff.1 hk).1
  rcases hr.2 with ⟨e1, h0⟩ | ⟨ge, cap, cur, e1, h1, hg, h2, h3⟩
  · omega
  · rw [e1] at hr
    exact ⟨ge, cap, u, e1, h2, own_range hr h.e65 h.len hu, ho⟩
theorem ecell_at {w : World} {ge o : Nat} {s m : List Nat} {u : Value} (h : w.rangeAt ge o (ecell s m u)) (hs : s.length = 32) (hm : m.length = 32) :
    At w ⟨ge, o, none⟩ s ∧ At w ⟨ge, o + 32, none⟩ m ∧ w.cell? ⟨ge, o + 64, none⟩ = some u := by
  have l1 : (bvs s).length = 32 := by rw [bvs_length, hs]
  have l2 : (bvs s ++ bvs m).length = 64 := by rw [List.length_append, bvs_length, bvs_length, hs, hm]
  have ad : ∀ o j, (⟨ge, o, none⟩ : Addr).add j = ⟨ge, o + j, none⟩ := fun o j => by unfold Addr.add; split <;> simp_all
  refine ⟨fun j x hj => ?_, fun j x hj => ?_, ?_⟩
  · rw [ad]
    have hlt := (List.getElem?_eq_some_iff.1 hj).1
    refine h j _ ?_
    rw [ecell, List.getElem?_append_left (by rw [l2]; omega), List.getElem?_append_left (by rw [l1]; omega), bvs_get, hj]
    rfl
  · rw [ad]
    have hlt := (List.getElem?_eq_some_iff.1 hj).1
    rw [show o + 32 + j = o + (32 + j) by omega]
    refine h (32 + j) _ ?_
    rw [ecell, List.getElem?_append_left (by rw [l2]; omega), List.getElem?_append_right (by rw [l1]; omega), l1, show 32 + j - 32 = j by omega, bvs_get, hj]
    rfl
  · refine h 64 _ ?_
    rw [ecell, List.getElem?_append_right (by rw [l2]; omega), l2]
    rfl

set_option maxRecDepth 100000 in
theorem hthere_at (h : ChainAt w g gf fA fc v E G l) : Calls Tryd.prog 23 #[.pointer (some ⟨g, 0, none⟩)] w fun e w' => e = .returned (.bool true) ∧ w' = w := by
  have c0 := h.c0
  clear h
  go_enter Tryd.func23, Tryd.ntmps23
  go_wp2
  go_ret
  exact ⟨rfl, rfl⟩

set_option maxRecDepth 100000 in
theorem hsize_at (h : ChainAt w g gf fA fc v E G l) : Calls Tryd.prog 14 #[.pointer (some ⟨g, 0, none⟩)] w fun e w' => e = .returned (.int .u64 (l.length : Int)) ∧ w' = w := by
  have C := Lib.hid (hthere_at h)
  have D := Lib.hid (size_front h.frontF)
  have c0 := h.c0
  clear h
  go_enter Tryd.func14, Tryd.ntmps14
  go_wp2_with fail
  refine C.out.mono ?_
  rintro e w' ⟨rfl, rfl⟩
  go_wp2_with fail
  refine D.out.mono ?_
  rintro e w' ⟨rfl, rfl⟩
  go_wp2_with fail
  go_ret
  exact ⟨rfl, rfl⟩

/-- The error of what is asked of the first n. -/
def hasE (l : List (List Nat)) (n : Nat) : Int := if n ≤ l.length then 0 else 1

set_option maxRecDepth 100000 in
theorem hhas_at (h : ChainAt w g gf fA fc v E G l) (n : Nat) : Calls Tryd.prog 25 #[.pointer (some ⟨g, 0, none⟩), .int .u64 (n : Int)] w fun e w' => e = .returned (.int .i64 (hasE l n)) ∧ w' = w := by
  have C := Lib.hid (hthere_at h)
  have D := Lib.hid (hsize_at h)
  clear h
  unfold hasE
  by_cases hn : n ≤ l.length
  · have hi : ¬ ((l.length : Int) < (n : Int)) := by omega
    rw [if_pos hn]
    go_enter Tryd.func25, Tryd.ntmps25
    go_wp2_with fail
    refine C.out.mono ?_
    rintro e w' ⟨rfl, rfl⟩
    go_wp2_with fail
    refine D.out.mono ?_
    rintro e w' ⟨rfl, rfl⟩
    go_wp2_with fail
    go_ret
    exact ⟨rfl, rfl⟩
  · have hi : (l.length : Int) < (n : Int) := by omega
    rw [if_neg hn]
    go_enter Tryd.func25, Tryd.ntmps25
    go_wp2_with fail
    refine C.out.mono ?_
    rintro e w' ⟨rfl, rfl⟩
    go_wp2_with fail
    refine D.out.mono ?_
    rintro e w' ⟨rfl, rfl⟩
    go_wp2_with fail
    go_ret
    exact ⟨rfl, rfl⟩
end

set_option maxRecDepth 100000 in
set_option maxHeartbeats 1000000 in
theorem new_chain (w : World) : Calls Tryd.prog 37 #[] w fun e w' => ∃ g, e = .returned (.pointer (some ⟨g, 0, none⟩)) ∧ Below w.heap.size w w' ∧ Chain w' g (fun x => w.heap.size ≤ x ∧ x < w'.heap.size) [] := by
  go_enter Tryd.func37, Tryd.ntmps37
  go_wp2_with fail
  refine (new_front_at (lf []) w).mono ?_
  rintro e w1 ⟨rfl, hf, hb⟩
  have HF := Lib.hid (And.intro hf hb)
  clear hf hb
  go_wp2_with fail
  go_ret
  have hb2 := below_on HF.out.2 (Nat.le_refl _) (below_alloc w1 (.cells #[.pointer (some ⟨w.heap.size, 0, none⟩), .slice none 0 0] 28))
  have sz : w.heap.size ≤ w1.heap.size := HF.out.2.size
  have sz2 : (w1.alloc (.cells #[.pointer (some ⟨w.heap.size, 0, none⟩), .slice none 0 0] 28)).heap.size = w1.heap.size + 1 := World.size_alloc _ _
  refine ⟨w1.heap.size, rfl, hb2, ⟨w.heap.size, none, 0, .slice none 0 0, [], World.alloc_heap_new w1 _, HF.out.1.below (below_alloc w1 _), ⟨rfl, .inl ⟨rfl, rfl⟩⟩, rfl, fun k b hk => by simp at hk, ⟨sz, by rw [sz2]; omega⟩, ⟨Nat.le_refl _, by rw [sz2]; have := HF.out.1.lt; omega⟩, fun ad e => (by cases e), fun x e => (by cases e), fun b hb => (by simp at hb), fun ad e => (by cases e)⟩, fun x hx => hx.2⟩

end Go.Proofs.YtllohbgejjbagaaDoor

/-
  A sum stored in a variable, loaded, in a region that draws its order.
-/
namespace Go.Proofs.YtllohbgejjbagaaDoor
open Go.RowKit

theorem step_store_sum {o : Oper} {a : Act} {w : World} {K : Act → World → Prop} {Q : Exit → Act → World → Prop} (x y : Operand) (ho : o.op = .store 34 x y)
    (g : Nat) (hx : a.eval x = .pointer (some ⟨g, 0, none⟩)) {T : TypeId} (xs ys : List Nat) (hl : xs.length = 32) (hl' : ys.length = 32) (hc : BArr w g T xs) (hy : a.eval y = sv ys)
    (h : K (a.put o.dst undef) (w.setRow g (bvs ys).toArray)) : Oper.wp Tryd.prog o a w K Q := by
  have hr := run_storeVar_row (P := Tryd.prog) w g T 34 (bvs xs).toArray (bvs ys).toArray hc (by rw [List.size_toArray, bvs_length, hl']; exact sizeSum) (by rw [List.size_toArray, bvs_length, hl, List.size_toArray, bvs_length, hl']) (all_oneCell_toArray (bvs_oneCell ys))
  unfold Oper.wp execOp
  simp only [ho, hx, hy, sv, Instr.storeAt, Instr.sureAddr, Sem.run_bind, Sem.run_pure, Result.andThen_ok, hr]
  exact h

theorem run_at_sum {o : Oper} {a : Act} {w : World} (x : Operand) (ho : o.op = .load 34 x) (ad : Addr) (hx : a.eval x = .pointer (some ad)) (s : List Nat) (hl : s.length = 32) (hc : At w ad s) :
    (execOp a.eval o).run Tryd.prog w = .ok (.value (sv s)) w := by
  unfold execOp
  simp only [ho, hx, Instr.loadAt, Instr.sureAddr, Sem.run_bind, Sem.run_pure, Result.andThen_ok, run_load_sum w ad s hl hc]

end Go.Proofs.YtllohbgejjbagaaDoor

/-
  A list of sums that a call answers, of its own; a list of one sum.
-/
namespace Go.Proofs.YtllohbgejjbagaaDoor
open Go.RowKit

/-- '[]api.Sum{s}' in a plain region. -/
theorem wpList_one_sum {ops : Array Oper} {rest : List Oper} {o : Oper} {a : Act} {w : World} {Q : Exit → Act → World → Prop} (hgd : o.guard = none) (parts : Array (Nat × Operand)) (s : List Nat) (ho : o.op = .buildSlice 37 1 parts)
    (hx : (parts.map fun (i, x) => (i, a.eval x)).toList = [(0, sv s)]) (hl : s.length = 32)
    (h : wpList Tryd.prog ops Q rest (a.put o.dst (.slice (some ⟨w.heap.size, 0, none⟩) 1 1)) (w.alloc (.cells (bvs s).toArray 34))) : wpList Tryd.prog ops Q (o :: rest) a w := by
  refine wpList_plain hgd fun K hK => ?_
  refine wp_sums parts [s] 1 ho rfl hx (by intro x hx'; rw [List.mem_singleton.1 hx']; exact hl) (by omega) (by omega) ?_
  rw [show [s].flatten = s by simp]
  exact hK _ _ h

/-- A call has answered a list of d sums of its own, whose bytes are xs. -/
def GivesS (base : Nat) (w : World) (d : Nat) (xs : List Nat) (e : Ending) (w' : World) : Prop :=
  ∃ A' c', e = .returned (.slice A' d c') ∧ w'.ownsRow base 34 32 (.slice A' d c') d (bvs xs) ∧ Below base w w'

end Go.Proofs.YtllohbgejjbagaaDoor

/-
  chains: mark, first.
-/
namespace Go.Proofs.YtllohbgejjbagaaDoor
open Go.RowKit

/-- A whole value into the block that was made last. -/
theorem wpList_store_freshE {ops : Array Oper} {rest : List Oper} {o : Oper} {a : Act} {Q : Exit → Act → World → Prop} (hgd : o.guard = none) (w : World) (t : TypeId) (c c' : Array Value) (x y : Operand) (ho : o.op = .store t x y)
    (hx : a.eval x = .pointer (some ⟨w.heap.size, 0, none⟩)) (hy : a.eval y = .agg c') (hi : (Tryd.prog.info? t).map (·.size) = some c'.size) (hs : c.size = c'.size) (h1 : c'.all (·.oneCell') = true)
    (h : wpList Tryd.prog ops Q rest (a.put o.dst undef) (w.alloc (.cells c' t))) : wpList Tryd.prog ops Q (o :: rest) a (w.alloc (.cells c t)) := by
  refine wpList_plain hgd fun K hK => ?_
  unfold Oper.wp execOp
  simp only [ho, hx, hy, run_storeAt_new w t c c' hi hs h1, Sem.run_bind, Sem.run_pure, Result.andThen_ok]
  exact hK _ _ h

/-- 'firsts{s}'. -/
theorem wpList_one_first {ops : Array Oper} {rest : List Oper} {o : Oper} {a : Act} {w : World} {Q : Exit → Act → World → Prop} (hgd : o.guard = none) (parts : Array (Nat × Operand)) (s : List Nat) (ho : o.op = .buildSlice 64 1 parts)
    (hx : (parts.map fun (i, x) => (i, a.eval x)).toList = [(0, sv s)]) (hl : s.length = 32)
    (h : wpList Tryd.prog ops Q rest (a.put o.dst (.slice (some ⟨w.heap.size, 0, none⟩) 1 1)) (w.alloc (.cells (bvs s).toArray 34))) : wpList Tryd.prog ops Q (o :: rest) a w := by
  refine wpList_plain hgd fun K hK => ?_
  obtain ⟨i0, hi, hz0, hz1, hz2⟩ := info_parts infoSum
  refine wp_buildSlice 64 34 1 parts ho (bvs s).toArray i0 _ Tryd.underlying64 hi hz0 (by rw [hz1]; omega) (by rw [hz1]; omega) ?_ (hK _ _ h)
  rw [hx, hz1]
  have := fill_all [s] [] ((Array.range (1 * 32)).map ((Value.agg (Array.replicate 32 (.int .u8 0))).cells[· % (Value.agg (Array.replicate 32 (.int .u8 0))).cells.size]!)).toList 0 (by intro x hx'; rw [List.mem_singleton.1 hx']; exact hl) (by simp) rfl
  rw [List.nil_append, Array.toArray_toList, List.nil_append] at this
  rw [show [s].flatten = s by simp] at this
  exact this

/-- append to a list of firsts of the call's own. -/
theorem run_fapp (w : World) (ty : TypeId) (base : Nat) (A : Option Addr) (n c : Nat) (xs : List Nat) (hown : w.ownsRow base 34 32 (.slice A n c) n (bvs xs))
    (ad : Addr) (m c2 : Nat) (ys : List Nat) (hin : InS w (some ad) m ys) (hle : n + m ≤ 1000000000) (hbase : base ≤ w.heap.size) :
    ∃ A' c' w', (Builtin.append_ #[64, 64] ty #[.slice A n c, .slice (some ad) m c2]).run Tryd.prog w = .ok (.slice A' (n + m) c') w' ∧
      w'.ownsRow base 34 32 (.slice A' (n + m) c') (n + m) (bvs (xs ++ ys)) ∧ Next w w' (.slice A n c) (.slice A' (n + m) c') := by
  obtain ⟨i0, hi, hz0, hz1, hz2⟩ := info_parts infoSum
  obtain ⟨v', w', hr, h2, h3, _, h5⟩ := run_append_own_at (P := Tryd.prog) (w := w) base 64 ty 34 i0 _ 32 32 Tryd.underlying64 hi hz0 hz1 hz2 rfl (by decide) _ n (bvs xs) hown ad m c2 (bvs ys) (by rw [bvs_length, hin.len]; omega)
    (fun j u hu => by
      rw [bvs_get] at hu
      obtain ⟨y, hy, rfl⟩ := Option.map_eq_some_iff.1 hu
      obtain ⟨ad', e, hc⟩ := hin.rd j y hy
      cases e
      exact hc) (bvs_oneCell ys) (by unfold maxLen; omega) (by omega) hbase
  rw [← bvs_append] at h2
  obtain ⟨A', c', rfl⟩ := own_formS h2
  exact ⟨A', c', w', hr, h2, h3, h5⟩
theorem wpList_fapp {ops : Array Oper} {rest : List Oper} {o : Oper} {a : Act} {Q : Exit → Act → World → Prop} (w : World) (hgd : o.guard = none) (s x : Operand)
    (ho : o.op = .call { callee := .builtin .append, args := #[s, x], argTypes := #[64, 64] })
    (base : Nat) (A : Option Addr) (n c : Nat) (xs : List Nat) (hs : a.eval s = .slice A n c) (hown : w.ownsRow base 34 32 (.slice A n c) n (bvs xs))
    (ad : Addr) (m c2 : Nat) (ys : List Nat) (hx : a.eval x = .slice (some ad) m c2) (hin : InS w (some ad) m ys) (hle : n + m ≤ 1000000000) (hbase : base ≤ w.heap.size)
    (h : ∀ A' c' w', w'.ownsRow base 34 32 (.slice A' (n + m) c') (n + m) (bvs (xs ++ ys)) → Next w w' (.slice A n c) (.slice A' (n + m) c') → wpList Tryd.prog ops Q rest (a.put o.dst (.slice A' (n + m) c')) w') :
    wpList Tryd.prog ops Q (o :: rest) a w := by
  refine wpList_plain hgd fun K hK => ?_
  obtain ⟨A', c', w', hr, h2, h3⟩ := run_fapp w o.type base A n c xs hown ad m c2 ys hin hle hbase
  unfold Oper.wp execOp
  simp only [ho, resolve, invoke, builtin, Sem.run_bind, Sem.run_pure, Result.andThen_ok, List.map_toArray, List.map_cons, List.map_nil, hs, hx, hr]
  exact hK _ _ (h A' c' w' h2 h3)

theorem take_snoc_of' {α : Type} {xs : List α} {j : Nat} {x : α} (h : xs[j]? = some x) : xs.take (j + 1) = xs.take j ++ [x] := by rw [List.take_add_one, h]; rfl
theorem infoEnt : (Tryd.prog.info? 60).map (fun i => (i.zero, i.size, i.bytes)) = some (some (Value.agg ((bvs (List.replicate 64 0)) ++ [Value.slice none 0 0]).toArray), 65, 88) := by kernel_rfl
theorem sizeEnt : (Tryd.prog.info? 60).map (·.size) = some 65 := by kernel_rfl
theorem ecell_one {s m : List Nat} {u : Value} (hu : u.oneCell' = true) : ∀ x ∈ ecell s m u, x.oneCell' = true := by
  intro x hx
  rcases List.mem_append.1 hx with hx | hx
  · rcases List.mem_append.1 hx with hx | hx
    · exact bvs_oneCell _ x hx
    · exact bvs_oneCell _ x hx
  · rw [List.mem_singleton.1 hx]; exact hu
theorem own_oneCell {w : World} {base : Nat} {e : TypeId} {size : Nat} {v : Value} {n : Nat} {xs : List Value} (h : w.ownsRow base e size v n xs) : v.oneCell' = true := by
  rcases h.2 with ⟨rfl, _⟩ | ⟨g, cap, cur, rfl, _⟩ <;> rfl

section
variable {w w' : World} {g gf fc : Nat} {fA : Option Addr} {v : Value} {E : List (List Value)} {G : Nat → Prop} {l : List (List Nat)}

set_option maxRecDepth 100000 in
set_option maxHeartbeats 1000000 in
theorem hmark_in (h : ChainAt w g gf fA fc v E G l) {n : Nat} (hn : n ≤ l.length) (hl : l.length ≤ 65536) :
    Calls Tryd.prog 26 #[.pointer (some ⟨g, 0, none⟩), .int .u64 (n : Int)] w fun e w' => e = .returned (sv (markL (l.take n))) ∧ Below w.heap.size w w' := by
  have r0 : BArr (w.alloc (.cells #[.int .u8 0, .int .u8 0, .int .u8 0, .int .u8 0, .int .u8 0, .int .u8 0, .int .u8 0, .int .u8 0, .int .u8 0, .int .u8 0, .int .u8 0, .int .u8 0, .int .u8 0, .int .u8 0, .int .u8 0, .int .u8 0, .int .u8 0, .int .u8 0, .int .u8 0, .int .u8 0, .int .u8 0, .int .u8 0, .int .u8 0, .int .u8 0, .int .u8 0, .int .u8 0, .int .u8 0, .int .u8 0, .int .u8 0, .int .u8 0, .int .u8 0, .int .u8 0] 34)) w.heap.size 34 zero32 := BArr.new w _ zero32
  by_cases h0 : n = 0
  · subst h0
    have hg1 : (w.alloc (.cells #[.int .u8 0, .int .u8 0, .int .u8 0, .int .u8 0, .int .u8 0, .int .u8 0, .int .u8 0, .int .u8 0, .int .u8 0, .int .u8 0, .int .u8 0, .int .u8 0, .int .u8 0, .int .u8 0, .int .u8 0, .int .u8 0, .int .u8 0, .int .u8 0, .int .u8 0, .int .u8 0, .int .u8 0, .int .u8 0, .int .u8 0, .int .u8 0, .int .u8 0, .int .u8 0, .int .u8 0, .int .u8 0, .int .u8 0, .int .u8 0, .int .u8 0, .int .u8 0] 34)).heap[w.heap.size]? = some (.cells #[.int .u8 0, .int .u8 0, .int .u8 0, .int .u8 0, .int .u8 0, .int .u8 0, .int .u8 0, .int .u8 0, .int .u8 0, .int .u8 0, .int .u8 0, .int .u8 0, .int .u8 0, .int .u8 0, .int .u8 0, .int .u8 0, .int .u8 0, .int .u8 0, .int .u8 0, .int .u8 0, .int .u8 0, .int .u8 0, .int .u8 0, .int .u8 0, .int .u8 0, .int .u8 0, .int .u8 0, .int .u8 0, .int .u8 0, .int .u8 0, .int .u8 0, .int .u8 0] 34 (0, 0)) := World.alloc_heap_new w _
    obtain ⟨w1, hw1⟩ : ∃ w1, w1 = w.alloc (.cells #[.int .u8 0, .int .u8 0, .int .u8 0, .int .u8 0, .int .u8 0, .int .u8 0, .int .u8 0, .int .u8 0, .int .u8 0, .int .u8 0, .int .u8 0, .int .u8 0, .int .u8 0, .int .u8 0, .int .u8 0, .int .u8 0, .int .u8 0, .int .u8 0, .int .u8 0, .int .u8 0, .int .u8 0, .int .u8 0, .int .u8 0, .int .u8 0, .int .u8 0, .int .u8 0, .int .u8 0, .int .u8 0, .int .u8 0, .int .u8 0, .int .u8 0, .int .u8 0] 34) := ⟨_, rfl⟩
    have b1 : Below w.heap.size w w1 := by rw [hw1]; exact below_alloc _ _
    rw [← hw1] at hg1
    have H1 := Lib.hid (And.intro b1 hg1)
    have HW := Lib.hid hw1
    clear h r0 hw1 b1 hg1
    go_enter Tryd.func26, Tryd.ntmps26
    go_upto_region 1 with fail
    rw [← HW.out]
    have HZ32 := Lib.hid (show zero32.length = 32 from rfl)
    go_wp2_with (with_reducible refine wpList_store_nought rfl (.tmp 4) (.tmp 7) rfl w.heap.size rfl H1.out.2 rfl ?_; intro w4 r4 o4)
    refine bodyPost_ret_by (results_cell_row (p := 4) (ty := 34) (by kernel_rfl) _ _ w.heap.size 34 (bvs zero32).toArray (0, 0) _ rfl r4 Tryd.underlying34 rfl sizeSum) rfl ?_
    exact ⟨rfl, Only.below H1.out.1 (Nat.le_refl _) (Nat.le_refl _) o4⟩
  · obtain ⟨k, rfl⟩ : ∃ k, n = k + 1 := ⟨n - 1, by omega⟩
    obtain ⟨b, hb⟩ : ∃ b, l[k]? = some b := ⟨_, List.getElem?_eq_getElem (by omega)⟩
    obtain ⟨ge, c, u, hv, hc, hr, _⟩ := h.range hb
    obtain ⟨_, hm, _⟩ := ecell_at hr (leafL_length _) (markL_length _)
    have hml := markL_length (l.take (k + 1))
    obtain ⟨m, hme⟩ : ∃ m, markL (l.take (k + 1)) = m := ⟨_, rfl⟩
    rw [hme] at hm hml ⊢
    obtain ⟨L, hL⟩ : ∃ L, l.length = L := ⟨_, rfl⟩
    rw [hL] at hn hc hv hl
    have c1 := h.c1
    rw [hv] at c1
    have hgl := h.lt
    obtain ⟨w1, hw1⟩ : ∃ w1, w1 = w.alloc (.cells #[.int .u8 0, .int .u8 0, .int .u8 0, .int .u8 0, .int .u8 0, .int .u8 0, .int .u8 0, .int .u8 0, .int .u8 0, .int .u8 0, .int .u8 0, .int .u8 0, .int .u8 0, .int .u8 0, .int .u8 0, .int .u8 0, .int .u8 0, .int .u8 0, .int .u8 0, .int .u8 0, .int .u8 0, .int .u8 0, .int .u8 0, .int .u8 0, .int .u8 0, .int .u8 0, .int .u8 0, .int .u8 0, .int .u8 0, .int .u8 0, .int .u8 0, .int .u8 0] 34) := ⟨_, rfl⟩
    have b1 : Below w.heap.size w w1 := by rw [hw1]; exact below_alloc _ _
    rw [← hw1] at r0
    have HM := Lib.hid (And.intro (hm.below b1) (And.intro r0 b1))
    have d1 : w1.cell? ⟨g, 1, none⟩ = some (.slice (some ⟨ge, 0, none⟩) L c) := (b1.cell hgl).trans c1
    have HW := Lib.hid hw1
    clear h hb hv hr hm c1 r0 hw1 b1 hme hL
    go_enter Tryd.func26, Tryd.ntmps26
    go_upto_region 1 with fail
    rw [← HW.out]
    have HZ32 := Lib.hid (show zero32.length = 32 from rfl)
    have f1 := HM.out.2.1
    have hA := Lib.hid HM.out.1
    go_wp2_with (first
      | (with_reducible refine wpList_load_sum rfl (.tmp 16) rfl ⟨ge, k * 65 + 32, none⟩ rfl m hml hA.out ?_)
      | (with_reducible refine wpList_store_sum rfl (.tmp 4) (.tmp 17) rfl w.heap.size rfl zero32 m HZ32 hml f1 rfl ?_))
    refine bodyPost_ret_by (results_cell_row (p := 4) (ty := 34) (by kernel_rfl) _ _ w.heap.size 34 (bvs m).toArray (0, 0) _ rfl (f1.setRow _) Tryd.underlying34 rfl (by rw [List.size_toArray, bvs_length, hml]; exact sizeSum)) rfl ?_
    exact ⟨rfl, below_setRow HM.out.2.2 (Nat.le_refl _) _⟩

/-- The first n of the entries. -/
theorem hcut_at (h : ChainAt w g gf fA fc v E G l) {n : Nat} (hn : n ≤ l.length) :
    ∃ B c, (∀ W : World, (Instr.slice 26 v none (some (.int .u64 (n : Int))) none).run Tryd.prog W = .ok (.slice B n c) W) ∧ n ≤ c ∧
      ∀ k b, k < n → l[k]? = some b → ∃ ge u, B = some ⟨ge, 0, none⟩ ∧ w.rangeAt ge (k * 65) (ecell (leafL b) (markL (l.take (k + 1))) u) ∧ u.oneCell' = true := by
  have he : Tryd.prog.elem 26 = 60 := by kernel_rfl
  obtain ⟨i0, hi, hz0, hz1, hz2⟩ := info_parts infoEnt
  rcases h.row.2 with ⟨e1, e2⟩ | ⟨ge, cap, cur, e1, h1, hg, h2, h3⟩
  · subst e1
    obtain rfl : n = 0 := by omega
    refine ⟨none, 0, fun W => ?_, Nat.le_refl _, fun k b hk _ => by omega⟩
    rw [run_slice_h W 26 none 0 0 (by rw [he]; exact Tryd.underlying26) .u64 ((0 : Nat) : Int) (by omega) (by omega), he]
    simp [sizeOf, typeInfo, hi, hz1, sliced]
  · subst e1
    refine ⟨some ⟨ge, 0, none⟩, cap, fun W => ?_, by omega, fun k b hk hb => ?_⟩
    · rw [run_slice_h W 26 (some ⟨ge, 0, none⟩) l.length cap (by rw [he]; exact Tryd.underlying26) .u64 (n : Int) (by omega) (by omega), he]
      simp [sizeOf, typeInfo, hi, hz1, sliced, add_zero']
    · obtain ⟨ge', c', u, hv, _, hr, ho⟩ := h.range hb
      cases hv
      exact ⟨ge, u, rfl, hr, own_oneCell ho⟩

set_option maxRecDepth 100000 in
set_option maxHeartbeats 2000000 in
theorem hfirst_at (h : ChainAt w g gf fA fc v E G l) {n : Nat} (hn : n ≤ l.length) (hl : l.length ≤ 65536) :
    Calls Tryd.prog 28 #[.pointer (some ⟨g, 0, none⟩), .int .u64 (n : Int)] w fun e w' => ∃ A c, e = .returned (.slice A n c) ∧ w'.ownsRow w.heap.size 34 32 (.slice A n c) n (bvs (leavesL (l.take n))) ∧ Below w.heap.size w w' := by
  obtain ⟨i0, hi, hz0, hz1, hz2⟩ := info_parts infoSum
  obtain ⟨w1, hmk, hmo, hgr⟩ := run_make_own (P := Tryd.prog) w w.heap.size 64 34 i0 _ 32 Tryd.underlying64 hi hz0 hz1 .i64 .u64 n (by rw [hz2]; omega) (by unfold maxLen; omega) (Nat.le_refl _)
  have b1 : Below w.heap.size w w1 := (Below.refl _ w).grown hgr (Nat.le_refl _) (fun k e => by cases e)
  obtain ⟨B, cB, hcut, hnc, hent⟩ := hcut_at h hn
  have c1 : w1.cell? ⟨g, 1, none⟩ = some v := (b1.cell h.lt).trans h.c1
  have hlen : ∀ k, k < n → ∃ b, l[k]? = some b := fun k hk => ⟨_, List.getElem?_eq_getElem (by omega)⟩
  have HE := Lib.hid (And.intro hent hlen)
  have HM := Lib.hid (And.intro hmo b1)
  have n6 : n ≤ 65536 := by omega
  clear h hent hlen hmo b1 hgr hn hl hi hz0 hz1 hz2
  go_enter Tryd.func28, Tryd.ntmps28
  go_wp2_with fail
  go_loopw [5, 17] (fun f i wr => ∃ (j : Nat) (A : Option Addr) (c : Nat), j ≤ n ∧ i = .int .i64 (j : Int) ∧ f = .slice A j c ∧ wr.ownsRow w.heap.size 34 32 (.slice A j c) j (bvs (leavesL (l.take j))) ∧ Below w.heap.size w wr) (fun _ i _ => n - (intOf i).toNat)
  case atStart => exact ⟨0, _, n, Nat.zero_le _, rfl, rfl, by rw [List.take_zero]; exact HM.out.1, HM.out.2⟩
  case round =>
    obtain ⟨j, A, c, hj, rfl, rfl, ho, hb⟩ := hrel
    have HR := Lib.hid (And.intro ho hb)
    clear ho hb
    by_cases hjn : j < n
    · obtain ⟨b, hbl⟩ := HE.out.2 j hjn
      obtain ⟨ge, u, rfl, hr, hu⟩ := HE.out.1 j b hjn hbl
      have hji : (j : Int) < (n : Int) := by omega
      obtain ⟨s, hs⟩ : ∃ s, leafL b = s := ⟨_, rfl⟩
      have hsl : s.length = 32 := by rw [← hs]; exact leafL_length b
      have htk : leavesL (l.take (j + 1)) = leavesL (l.take j) ++ s := by rw [take_snoc_of' hbl, leavesL_snoc, hs]
      rw [hs] at hr
      obtain ⟨m, hm⟩ : ∃ m, markL (l.take (j + 1)) = m := ⟨_, rfl⟩
      have hml : m.length = 32 := by rw [← hm]; exact markL_length _
      rw [hm] at hr
      obtain ⟨X, hX⟩ : ∃ X, ecell s m u = X := ⟨_, rfl⟩
      have hXl : X.length = 65 := by rw [← hX]; exact ecell_length hsl hml u
      have hX1 : X.toArray.all (·.oneCell') = true := all_oneCell_toArray (by rw [← hX]; exact ecell_one hu)
      rw [hX] at hr
      have hr2 : wr.rangeAt ge (j * 65) X := fun q x hq => (HR.out.2.cell (World.block_lt_of_cell? w _ (hr q x hq))).trans (hr q x hq)
      have hat : At (wr.alloc (.cells X.toArray 60)) ⟨wr.heap.size, 0, none⟩ s := by
        have h0 : (wr.alloc (.cells X.toArray 60)).rangeAt wr.heap.size 0 (ecell s m u) := fun q x hq => by
          rw [Nat.zero_add, cell_of_row _ _ q _ _ (0, 0) (World.alloc_heap_new wr _), List.getElem?_toArray, ← hX]
          exact hq
        exact (ecell_at h0 hsl hml).1
      have hin1 : InS ((wr.alloc (.cells X.toArray 60)).alloc (.cells (bvs s).toArray 34)) (some ⟨wr.heap.size + 1, 0, none⟩) 1 s := by
        have h0 := In.new' (wr.alloc (.cells X.toArray 60)) s 34
        rw [World.size_alloc] at h0
        exact ⟨by rw [hsl], h0.rd⟩
      have ho2 := own_on HR.out.1 ((below_alloc wr (.cells X.toArray 60)).alloc (by rw [World.size_alloc]; omega) (.cells (bvs s).toArray 34))
      have hb2 := below_on HR.out.2 (Nat.le_refl _) ((below_alloc wr (.cells X.toArray 60)).alloc (by rw [World.size_alloc]; omega) (.cells (bvs s).toArray 34))
      have HX := Lib.hid (And.intro hr2 (And.intro (show (Tryd.prog.info? 60).map (·.size) = some X.length by rw [hXl]; exact sizeEnt) (And.intro (show (Tryd.prog.info? 60).map (·.size) = some X.toArray.size by rw [List.size_toArray, hXl]; exact sizeEnt) (And.intro (show Tryd.zeroCells60.size = X.toArray.size by rw [show Tryd.zeroCells60.size = 65 by kernel_rfl, List.size_toArray, hXl]) hX1))))
      have HA := Lib.hid (And.intro hat (And.intro hin1 (And.intro ho2 (And.intro hb2 htk))))
      clear hr hr2 hu hs hm hX hXl hX1 hat hin1 ho2 hb2 htk hml
      have hsz : wr.heap.size + 1 = (wr.alloc (.cells X.toArray 60)).heap.size := (World.size_alloc _ _).symm
      have HS := Lib.hid hsz
      clear hsz
      go_wp2_with (first
        | (with_reducible refine wpList_load_mid rfl 60 (.tmp 19) rfl ge (j * 65) rfl X _ HX.out.1 Tryd.underlying60 rfl HX.out.2.1 ?_)
        | (with_reducible refine wpList_store_freshE rfl wr 60 _ X.toArray (.tmp 7) (.tmp 20) rfl rfl rfl HX.out.2.2.1 HX.out.2.2.2.1 HX.out.2.2.2.2 ?_)
        | (with_reducible refine wpList_load_sum rfl (.tmp 23) rfl ⟨wr.heap.size, 0, none⟩ rfl s hsl HA.out.1 ?_)
        | (refine wpList_one_first rfl _ s rfl (by simp <;> rfl) hsl ?_; rw [← HS.out])
        | (at_builtin; refine wpList_fapp _ rfl (.tmp 21) (.tmp 25) rfl w.heap.size A j c (leavesL (l.take j)) rfl HA.out.2.2.1 ⟨wr.heap.size + 1, 0, none⟩ 1 1 s rfl HA.out.2.1 (by omega) HA.out.2.2.2.1.size ?_; intro A2 c2 w2 ho2 hn2; have HN := Lib.hid (And.intro ho2 hn2); clear ho2 hn2))
      go_roundw
      case rel =>
        have ho2 := HN.out.1
        rw [← HA.out.2.2.2.2] at ho2
        exact ⟨j + 1, A2, c2, by omega, by go_num, rfl, ho2, HN.out.2.below HA.out.2.2.1 HA.out.2.2.2.1 (Nat.le_refl _) HA.out.2.2.2.1.size⟩
      case measure => simp [intOf]; omega
    · obtain rfl : j = n := by omega
      go_wp2_with fail
      go_ret
      exact ⟨A, c, rfl, HR.out.1, HR.out.2⟩
end

end Go.Proofs.YtllohbgejjbagaaDoor

/-
  'sums{leaf, mark}', 'entry{sums, content}' as values.
-/
namespace Go.Proofs.YtllohbgejjbagaaDoor
open Go.RowKit

/-- Two parts, one behind the other, that are all of a value. -/
theorem fill_two (pl : Nat → Option (Nat × Nat)) {m k : Nat} {a b : Value} {l1 l2 : List Value} {cells : Array Value} (h0 : pl 0 = some (0, m)) (h1 : pl 1 = some (m, k)) (ha : a.cells = l1.toArray) (hb : b.cells = l2.toArray)
    (hm : l1.length = m) (hk : l2.length = k) (hc : cells.size = m + k) : Instr.fill pl cells [(0, a), (1, b)] = some (l1 ++ l2).toArray := by
  obtain ⟨cs, hcs⟩ : ∃ cs, cells = List.toArray cs := ⟨cells.toList, by simp⟩
  subst hcs
  rw [List.size_toArray] at hc
  have e1 := vfold l1 [] (cs.take m) (cs.drop m) 0 0 (by rw [List.length_take, hm]; omega) rfl
  rw [List.nil_append, List.nil_append, List.take_append_drop] at e1
  have e2 := vfold l2 l1 (cs.drop m) [] m 0 (by rw [List.length_drop, hk]; omega) (by rw [hm]; rfl)
  rw [List.append_nil, List.append_nil] at e2
  have f1 : (l1.toArray.zipIdx.foldl (fun (c : Array Value) (x : Value × Nat) => c.setIfInBounds (0 + x.2) x.1) cs.toArray) = (l1 ++ cs.drop m).toArray := by
    rw [← Array.foldl_toList]
    have : l1.toArray.zipIdx.toList = l1.zipIdx 0 := by simp
    rw [this]
    exact e1
  have f2 : (l2.toArray.zipIdx.foldl (fun (c : Array Value) (x : Value × Nat) => c.setIfInBounds (m + x.2) x.1) (l1 ++ cs.drop m).toArray) = (l1 ++ l2).toArray := by
    rw [← Array.foldl_toList]
    have : l2.toArray.zipIdx.toList = l2.zipIdx 0 := by simp
    rw [this]
    exact e2
  have c1 : ¬ ((l1.toArray.size ≠ m || decide (0 + l1.toArray.size > cs.toArray.size)) = true) := by
    simp only [List.size_toArray, hm, hc]
    simp
  have c2 : ¬ ((l2.toArray.size ≠ k || decide (m + l2.toArray.size > (l1 ++ cs.drop m).toArray.size)) = true) := by
    simp only [List.size_toArray, List.length_append, List.length_drop, hm, hk, hc]
    simp
  rw [Instr.fill]
  simp only [h0, ha]
  rw [if_neg c1]
  have g1 : Instr.fill pl (l1.toArray.zipIdx.foldl (fun (c : Array Value) (x : Value × Nat) => c.setIfInBounds (0 + x.2) x.1) cs.toArray) [(1, b)] = some (l1 ++ l2).toArray := by
    rw [f1, Instr.fill]
    simp only [h1, hb]
    rw [if_neg c2]
    exact congrArg some f2
  exact g1

theorem infoSums : (Tryd.prog.info? 58).map (fun i => (i.zero, i.size, i.bytes)) = some (some (Value.agg (Array.replicate 64 (.int .u8 0))), 64, 64) := by kernel_rfl
theorem placesSums : (match Tryd.prog.underlying 58 with | some (.struct fs) => fs.toList.mapM (fun f => (Tryd.prog.info? f.type).map fun i => (f.offset, i.size)) | _ => none) = some [(0, 32), (32, 32)] := by kernel_rfl
theorem placesEnt : (match Tryd.prog.underlying 60 with | some (.struct fs) => fs.toList.mapM (fun f => (Tryd.prog.info? f.type).map fun i => (f.offset, i.size)) | _ => none) = some [(0, 64), (64, 1)] := by kernel_rfl

theorem built_struct {t : TypeId} {it : TypeInfo} {z a b : Value} {m k : Nat} {l1 l2 : List Value} (hit : Tryd.prog.info? t = some it) (hz : it.zero = some z) (hzs : z.cells.size = m + k)
    (hp : (match Tryd.prog.underlying t with | some (.struct fs) => fs.toList.mapM (fun f => (Tryd.prog.info? f.type).map fun i => (f.offset, i.size)) | _ => none) = some [(0, m), (m, k)])
    (ha : a.cells = l1.toArray) (hb : b.cells = l2.toArray) (hm : l1.length = m) (hk : l2.length = k) (w : World) :
    (Instr.build t #[(0, a), (1, b)]).run Tryd.prog w = .ok (.agg (l1 ++ l2).toArray) w := by
  refine run_build w t _ _ ?_
  unfold Program.built
  simp only [hit]
  cases hu : Tryd.prog.underlying t with
  | none => rw [hu] at hp; cases hp
  | some d =>
    cases d <;> try (rw [hu] at hp; cases hp; done)
    case struct fs =>
      rw [hu] at hp
      simp only at hp
      simp only [hz, hp]
      exact fill_two _ rfl rfl ha hb hm hk hzs

/-- Both sums of an entry as cells. -/
theorem run_build_sums (x y : List Nat) (hx : x.length = 32) (hy : y.length = 32) (w : World) : (Instr.build 58 #[(0, sv x), (1, sv y)]).run Tryd.prog w = .ok (.agg (bvs x ++ bvs y).toArray) w := by
  obtain ⟨i0, hi, hz0, hz1, _⟩ := info_parts infoSums
  exact built_struct (m := 32) (k := 32) (l1 := bvs x) (l2 := bvs y) hi hz0 (by simp [Value.cells]) placesSums rfl rfl (by rw [bvs_length, hx]) (by rw [bvs_length, hy]) w
theorem run_build_ent (x y : List Nat) (A : Option Addr) (n c : Nat) (hx : x.length = 32) (hy : y.length = 32) (w : World) : (Instr.build 60 #[(0, .agg (bvs x ++ bvs y).toArray), (1, .slice A n c)]).run Tryd.prog w = .ok (.agg (ecell x y (.slice A n c)).toArray) w := by
  obtain ⟨i0, hi, hz0, hz1, _⟩ := info_parts infoEnt
  exact built_struct (m := 64) (k := 1) (l1 := bvs x ++ bvs y) (l2 := [.slice A n c]) hi hz0 (by simp [Value.cells, bvs_length]) placesEnt rfl rfl (by rw [List.length_append, bvs_length, bvs_length, hx, hy]) rfl w

theorem yields_build_sums {ops : Array Oper} {S : World → Prop} {o : Oper} {a : Act} (hw : Region.wanted o (yielded ops a.tmps) = true) (u v : Operand) (ho : o.op = .build 58 #[(0, u), (1, v)])
    (x y : List Nat) (hu : a.eval u = sv x) (hv : a.eval v = sv y) (hx : x.length = 32) (hy : y.length = 32) : YieldsIf Tryd.prog ops S o (.agg (bvs x ++ bvs y).toArray) a := by
  refine Or.inl ⟨hw, fun w _ => ?_⟩
  have hp : (#[((0 : Nat), u), (1, v)].map fun ((i, x) : Nat × Operand) => (i, a.eval x)) = #[(0, sv x), (1, sv y)] := by simp [hu, hv]
  unfold execOp
  simp only [ho, hp, Sem.run_bind, Sem.run_pure, Result.andThen_ok, run_build_sums x y hx hy w]
theorem yields_build_ent {ops : Array Oper} {S : World → Prop} {o : Oper} {a : Act} (hw : Region.wanted o (yielded ops a.tmps) = true) (u v : Operand) (ho : o.op = .build 60 #[(0, u), (1, v)])
    (x y : List Nat) (A : Option Addr) (n c : Nat) (hu : a.eval u = .agg (bvs x ++ bvs y).toArray) (hv : a.eval v = .slice A n c) (hx : x.length = 32) (hy : y.length = 32) : YieldsIf Tryd.prog ops S o (.agg (ecell x y (.slice A n c)).toArray) a := by
  refine Or.inl ⟨hw, fun w _ => ?_⟩
  have hp : (#[((0 : Nat), u), (1, v)].map fun ((i, x) : Nat × Operand) => (i, a.eval x)) = #[(0, .agg (bvs x ++ bvs y).toArray), (1, .slice A n c)] := by simp [hu, hv]
  unfold execOp
  simp only [ho, hp, Sem.run_bind, Sem.run_pure, Result.andThen_ok, run_build_ent x y A n c hx hy w]

end Go.Proofs.YtllohbgejjbagaaDoor

/-
  What an entry more leaves.
-/
namespace Go.Proofs.YtllohbgejjbagaaDoor
open Go.RowKit

/-- What a call leaves of the chain g in G: it lies in G and in new blocks; nothing else has turned. -/
def Grew (w : World) (g : Nat) (G : Nat → Prop) (l' : List (List Nat)) (w' : World) : Prop := ∃ G', Chain w' g G' l' ∧ But G w w' ∧ ∀ x, G' x → G x ∨ w.heap.size ≤ x

/-- The blocks are none of the tables of package shas. -/
def Away (G : Nat → Prop) : Prop := ∀ x, G x → x ≠ 2 ∧ x ≠ 1
theorem away_of {w0 : World} {G : Nat → Prop} (hk : Knows w0) (hs : Starts w0) (hG : ∀ x, G x → w0.heap.size ≤ x) : Away G := fun x hx => by
  have h1 := hk.lt
  have h2 := hs.lt
  have h3 := hG x hx
  exact ⟨by omega, by omega⟩
theorem Knows.but {S : Nat → Prop} {w w' : World} (h : Knows w) (hb : But S w w') (hS : ¬ S 2) : Knows w' := fun i hi => (World.cell?_of_block (hb.block 2 h.lt hS)).trans (h i hi)
theorem Starts.but {S : Nat → Prop} {w w' : World} (h : Starts w) (hb : But S w w') (hS : ¬ S 1) : Starts w' := fun j v hv => (World.cell?_of_block (hb.block 1 h.lt hS)).trans (h j v hv)

/-- The entry stands behind all others; the front has not grown yet. -/
structure HStep (w wx : World) (g gf g5 : Nat) (v v' u : Value) (E : List (List Value)) (l : List (List Nat)) (b : List Nat) : Prop where
  head : wx.heap[g]? = some (.cells #[.pointer (some ⟨gf, 0, none⟩), v'] 28 (0, 0))
  row : wx.ownsRow 0 60 65 v' (l.length + 1) (E.flatten ++ ecell (leafL b) (markL (l ++ [b])) u)
  own : wx.ownsRow 0 5 1 u b.length (bvs b)
  but : But (fun x => x = g ∨ v.ownBlock = some x) w wx
  vnew : ∀ x, v'.ownBlock = some x → v.ownBlock = some x ∨ w.heap.size ≤ x
  unew : ∀ x, u.ownBlock = some x → w.heap.size ≤ x
  leaf : BArr wx g5 34 (leafL b)

section
variable {w : World} {g gf fc : Nat} {fA : Option Addr} {v : Value} {E : List (List Value)} {G : Nat → Prop} {l : List (List Nat)}

theorem hstep_of {W9 w12 : World} {g5 gg cap : Nat} {u : Value} {b : List Nat} (h : ChainAt w g gf fA fc v E G l) (b9 : Below w.heap.size w W9) (hu : W9.ownsRow 0 5 1 u b.length (bvs b)) (hun : ∀ x, u.ownBlock = some x → w.heap.size ≤ x)
    (hA : BArr W9 g5 34 (leafL b)) (hg5 : w.heap.size ≤ g5) {cs : Array Value}
    (hown : w12.ownsRow 0 60 65 (.slice (some ⟨gg, 0, none⟩) (l.length + 1) cap) (l.length + 1) (E.flatten ++ ecell (leafL b) (markL (l ++ [b])) u))
    (hgrow : (W9.alloc (.cells cs 60)).grownBy w12 v.ownBlock) (hat : v.ownBlock = some gg ∨ gg = (W9.alloc (.cells cs 60)).heap.size) :
    HStep w (w12.setCell ⟨g, 1, none⟩ (.slice (some ⟨gg, 0, none⟩) (l.length + 1) cap)) g gf g5 v (.slice (some ⟨gg, 0, none⟩) (l.length + 1) cap) u E l b := by
  have sz : (W9.alloc (.cells cs 60)).heap.size = W9.heap.size + 1 := World.size_alloc _ _
  have s9 := b9.size
  have hgl := h.lt
  obtain ⟨V, hV⟩ : ∃ V, V = Value.slice (some ⟨gg, 0, none⟩) (l.length + 1) cap := ⟨_, rfl⟩
  have hVb : V.ownBlock = some gg := by rw [hV]; rfl
  rw [← hV] at hown ⊢
  have hvl : ∀ x, v.ownBlock = some x → x < w.heap.size := fun x hx => own_lt h.row hx
  have hvg : v.ownBlock ≠ some g := fun e => by
    obtain ⟨cur, hc⟩ := own_type h.row e
    exact hblock_ne h.head hc tne_ce rfl
  -- what stands in a block of w or W9 that is not the entries'
  have k12 : ∀ x, x < W9.heap.size → v.ownBlock ≠ some x → w12.heap[x]? = W9.heap[x]? := fun x hx hne =>
    (hgrow.block x (by rw [sz]; omega) (fun e => hne e.symm)).trans (heap_alloc_old W9 _ hx)
  have kset : ∀ x, x ≠ g → (w12.setCell ⟨g, 1, none⟩ V).heap[x]? = w12.heap[x]? := fun x hx => heap_setCell_other w12 ⟨g, 1, none⟩ x V hx
  have hg12 : w12.heap[g]? = w.heap[g]? := (k12 g (by omega) hvg).trans (b9.block g hgl)
  have hggg : gg ≠ g := by
    rintro rfl
    rcases hat with e | e
    · exact hvg e
    · rw [sz] at e; omega
  refine ⟨heap_setCell_same w12 g 1 _ _ V (hg12.trans h.head), own_block hown (fun x hx => kset x (by rw [hVb] at hx; cases hx; exact hggg)), own_block hu (fun x hx => ?_), ?_, fun x hx => ?_, hun, ?_⟩
  · have hx9 := own_lt hu hx
    have h1 := hun x hx
    have hxg : x ≠ g := by omega
    rw [kset x hxg, k12 x hx9 (fun e => by have := hvl x e; omega)]
  · have e1 : But (fun x => x = g ∨ v.ownBlock = some x) w W9 := But.of_below b9
    have e2 := e1.alloc (.cells cs 60)
    exact (e2.grown hgrow (fun k e _ => .inr e)).set 1 V (fun _ => .inl rfl)
  · rw [hVb] at hx
    cases hx
    rcases hat with e | e
    · exact .inl e
    · right; rw [e, sz]; omega
  · have h5l := hA.lt
    unfold BArr
    rw [kset g5 (by omega), k12 g5 h5l (fun e => by have := hvl g5 e; omega)]
    exact hA

theorem HStep.below {wx wy : World} {g5 : Nat} {v' u : Value} {b : List Nat} (hs : HStep w wx g gf g5 v v' u E l b) (hb : Below wx.heap.size wx wy) : HStep w wy g gf g5 v v' u E l b :=
  ⟨(hb.block g (Array.getElem?_eq_some_iff.1 hs.head).1).trans hs.head, own_block hs.row (fun x hx => hb.block x (own_lt hs.row hx)), own_block hs.own (fun x hx => hb.block x (own_lt hs.own hx)), ⟨hb.os.trans hs.but.os, hb.tape.trans hs.but.tape, hb.output.trans hs.but.output, Nat.le_trans hs.but.size hb.size, fun x hx hn => (hb.block x (Nat.lt_of_lt_of_le hx hs.but.size)).trans (hs.but.block x hx hn)⟩, hs.vnew, hs.unew, hs.leaf.below hb⟩
theorem HStep.front {wx : World} {g5 : Nat} {v' u : Value} {b : List Nat} (hs : HStep w wx g gf g5 v v' u E l b) (h : ChainAt w g gf fA fc v E G l) (hG : ∀ x, G x → x < w.heap.size) : FrontAt wx gf (lf l) l.length fA fc := by
  have hfl := h.front.lt
  refine h.front.keep (hs.but.block gf hfl ?_) (fun ad e => hs.but.block _ (hG _ (h.ga ad e)) ?_)
  · rintro (e | e)
    · exact hblock_ne h.head h.front.row tne_cf e.symm
    · obtain ⟨cur, hc⟩ := own_type h.row e
      exact hblock_ne h.front.row hc tne_fe rfl
  · rintro (e1 | e1)
    · exact (h.gt_ ad e).1 e1
    · exact (h.gt_ ad e).2 e1
theorem HStep.front2 {wx : World} {g5 : Nat} {v' u : Value} {b : List Nat} (hs : HStep w wx g gf g5 v v' u E l b) (h : ChainAt w g gf fA fc v E G l) (hG : ∀ x, G x → x < w.heap.size) : Front wx gf (lf (l ++ [b])) l.length :=
  Front.congr ⟨_, _, hs.front h hG⟩ (fun _ hj => (lf_append l [b] hj).symm)

theorem hstep_done {wx w' : World} {g5 fc' : Nat} {v' u : Value} {b : List Nat} {fA' : Option Addr} (hs : HStep w wx g gf g5 v v' u E l b) (h : ChainAt w g gf fA fc v E G l) (hG : ∀ x, G x → x < w.heap.size) (hb : b.length ≤ 16384 ∧ ∀ x ∈ b, x < 256)
    (hf : FrontAt w' gf (lf (l ++ [b])) (l.length + 1) fA' fc') (hnew : ∀ ad, fA' = some ad → wx.heap.size ≤ ad.block ∧ ad.block < w'.heap.size) (hbut : But (fun x => x = gf) wx w') : Grew w g G (l ++ [b]) w' := by
  have hfl := h.front.lt
  have hgl := h.lt
  have hvl : ∀ x, v.ownBlock = some x → x < w.heap.size := fun x hx => own_lt h.row hx
  have s1 := hs.but.size
  have s2 := hbut.size
  have gne : g ≠ gf := hblock_ne h.head h.front.row tne_cf
  have rowf : wx.heap[gf]? = some (.cells #[.bool true, .int .u64 (l.length : Int), .slice fA (pop l.length) fc] 85 (0, 0)) := (hs.front h hG).row
  have vl' : ∀ x, v'.ownBlock = some x → x < wx.heap.size := fun x hx => own_lt hs.row hx
  have vg' : ∀ x, v'.ownBlock = some x → x ≠ gf := fun x hx e => by
    obtain ⟨cur, hc⟩ := own_type hs.row hx
    exact hblock_ne rowf hc tne_fe e.symm
  have ug' : ∀ x, u.ownBlock = some x → x ≠ gf := fun x hx e => by
    obtain ⟨cur, hc⟩ := own_type hs.own hx
    exact hblock_ne rowf hc tne_fb e.symm
  have E1 : (E ++ [ecell (leafL b) (markL (l ++ [b])) u]).flatten = E.flatten ++ ecell (leafL b) (markL (l ++ [b])) u := by simp
  refine ⟨fun x => G x ∨ (w.heap.size ≤ x ∧ x < w'.heap.size), ⟨⟨gf, fA', fc', v', E ++ [ecell (leafL b) (markL (l ++ [b])) u], ?_, ?_, ?_, ?_, fun k c hk => ?_, .inl h.gg, .inl h.gfr, fun ad e => ?_, fun x hx => ?_, ?_, fun ad e => ?_⟩, fun x hx => ?_⟩, ?_, fun x hx => ?_⟩
  · exact (hbut.block g (Nat.lt_of_lt_of_le hgl s1) gne).trans hs.head
  · rw [List.length_append]; exact hf
  · rw [E1, List.length_append]
    exact own_block hs.row (fun x hx => hbut.block x (vl' x hx) (vg' x hx))
  · rw [List.length_append, List.length_append, h.len]; rfl
  · by_cases hkl : k < l.length
    · rw [List.getElem?_append_left hkl] at hk
      obtain ⟨u1, hu1, ho1, hG1⟩ := h.ent k c hk
      refine ⟨u1, ?_, own_block ho1 (fun x hx => ?_), fun x hx => .inl (hG1 x hx)⟩
      · rw [List.getElem?_append_left (by rw [h.len]; exact hkl), hu1, List.take_append_of_le_length (by omega)]
      · obtain ⟨cur, hc⟩ := own_type ho1 hx
        have xl := own_lt ho1 hx
        have n1 : x ≠ g := fun e => hblock_ne h.head hc tne_cb e.symm
        have n2 : v.ownBlock ≠ some x := fun e => by
          obtain ⟨cur2, hc2⟩ := own_type h.row e
          exact hblock_ne hc2 hc tne_eb rfl
        have e1 := hs.but.block x xl (fun e => e.elim n1 n2)
        exact (hbut.block x (Nat.lt_of_lt_of_le xl s1) (fun e => hblock_ne h.front.row hc tne_fb e.symm)).trans e1
    · have hk0 : k = l.length := by
        have := (List.getElem?_eq_some_iff.1 hk).1
        rw [List.length_append] at this
        simp at this
        omega
      subst hk0
      rw [List.getElem?_append_right (Nat.le_refl _), Nat.sub_self] at hk
      cases hk
      refine ⟨u, ?_, own_block hs.own (fun x hx => hbut.block x (own_lt hs.own hx) (ug' x hx)), fun x hx => .inr ⟨hs.unew x hx, ?_⟩⟩
      · rw [List.getElem?_append_right (by rw [h.len]; exact Nat.le_refl _), h.len, Nat.sub_self, List.take_of_length_le (by rw [List.length_append]; exact Nat.le_refl _)]
        rfl
      · have := own_lt hs.own hx; omega
  · have := hnew ad e; exact .inr ⟨by omega, this.2⟩
  · rcases hs.vnew x hx with e | e
    · exact .inl (h.gv x e)
    · exact .inr ⟨e, by have := vl' x hx; omega⟩
  · intro c hc
    rcases List.mem_append.1 hc with hc | hc
    · exact h.ok c hc
    · rw [List.mem_singleton.1 hc]; exact hb
  · have h1 := (hnew ad e).1
    exact ⟨by omega, fun e2 => by have := vl' _ e2; omega⟩
  · rcases hx with hx | hx
    · have := hG x hx; omega
    · exact hx.2
  · have e1 : But G w wx := hs.but.mono fun x _ hx => hx.elim (fun e => by rw [e]; exact h.gg) (fun e => h.gv x e)
    refine ⟨hbut.os.trans e1.os, hbut.tape.trans e1.tape, hbut.output.trans e1.output, Nat.le_trans s1 s2, fun x hx hn => ?_⟩
    exact (hbut.block x (Nat.lt_of_lt_of_le hx s1) (fun e => hn (by rw [e]; exact h.gfr))).trans (e1.block x hx hn)
  · rcases hx with hx | hx
    · exact .inl hx
    · exact .inr hx.1
end

end Go.Proofs.YtllohbgejjbagaaDoor

/-
  slices.Grow of no bytes, slices.Concat of two lists of bytes.
-/
namespace Go.Proofs.YtllohbgejjbagaaDoor
open Go.RowKit

/-- 'append([]byte(nil), make([]byte, m)...)'. -/
theorem run_grow_bytes (w : World) (ty : TypeId) (m : Nat) (hm : 0 < m) (hle : m ≤ 1000000) :
    ∃ c' w', (Builtin.append_ #[22, 3] ty #[.slice none 0 0, .int .i64 (m : Int)]).run Tryd.prog w = .ok (.slice (some ⟨w.heap.size, 0, none⟩) m c') w' ∧ m ≤ c' ∧
      w'.ownsRow w.heap.size 5 1 (.slice (some ⟨w.heap.size, 0, none⟩) 0 c') 0 (bvs []) ∧ Below w.heap.size w w' := by
  obtain ⟨i0, hi, hz0, hz1, hz2⟩ := info_parts infoByte
  have hf := growslice_fits (need := m) (old := 0) (bytes := 1) (by omega) (by omega)
  have h48' : ¬ (281474976710656 < Builtin.nextslicecap m 0) := by omega
  have hw : IntKind.i64.wrap (m : Int) = (m : Int) := by rw [IntKind.wrap_i64]; omega
  have hn0 : ¬ ((m : Int) < 0) := by omega
  have hnb : ¬ (281474976710656 < (m : Int)) := by omega
  have hnc : ¬ (9223372036854775807 < (m : Int)) := by omega
  have hm0 : ¬ m = 0 := by omega
  have hge := grownCap_ge w m 0 5
  have hgl := grownCap_le_maxLen w m 0 5 (by unfold maxLen; omega)
  have hfo := run_firstCells_none (P := Tryd.prog) (w := w.drew) 1 0 0 0
  have hrun : (Builtin.append_ #[22, 3] ty #[.slice none 0 0, .int .i64 (m : Int)]).run Tryd.prog w =
      .ok (.slice (some ⟨w.heap.size, 0, none⟩) m (grownCap w m 0 5)) (w.drew.alloc (.cells (#[] ++ Builtin.zeroCells (#[.int .u8 0]) m ++ Builtin.zeroCells (#[.int .u8 0]) (grownCap w m 0 5 - m)) 5)) := by
    simp [Builtin.append_, run_underlying Tryd.underlying22, run_underlying Tryd.underlying3, sizeOf, typeInfo, zeroValue, hi, hz0, hz1, hz2, asInt, asIntOf, hw, hn0, hnb, hnc, hm0, h48', Question.forced, hfo, newRow, grownCap, Value.cells]

  refine ⟨_, _, hrun, hge, ⟨rfl, .inr ⟨w.heap.size, _, _, rfl, Nat.le_refl _, World.alloc_heap_new w.drew _, Nat.zero_le _, hgl, ?_, rfl⟩⟩, ((Below.refl _ w).drew).alloc (Nat.le_refl _) _⟩
  rw [Array.size_append, Array.size_append, size_zeroCells, size_zeroCells]
  simp
  omega

theorem wpList_grow_bytes {ops : Array Oper} {rest : List Oper} {o : Oper} {a : Act} {Q : Exit → Act → World → Prop} (w : World) (hgd : o.guard = none) (s x : Operand)
    (ho : o.op = .call { callee := .builtin .append, args := #[s, x], argTypes := #[22, 3] }) (m : Nat) (hs : a.eval s = .slice none 0 0) (hx : a.eval x = .int .i64 (m : Int)) (hm : 0 < m) (hle : m ≤ 1000000)
    (h : ∀ c' w', m ≤ c' → w'.ownsRow w.heap.size 5 1 (.slice (some ⟨w.heap.size, 0, none⟩) 0 c') 0 (bvs []) → Below w.heap.size w w' → wpList Tryd.prog ops Q rest (a.put o.dst (.slice (some ⟨w.heap.size, 0, none⟩) m c')) w') :
    wpList Tryd.prog ops Q (o :: rest) a w := by
  refine wpList_plain hgd fun K hK => ?_
  obtain ⟨c', w', hr, h2, h3, h4⟩ := run_grow_bytes w o.type m hm hle
  unfold Oper.wp execOp
  simp only [ho, resolve, invoke, builtin, Sem.run_bind, Sem.run_pure, Result.andThen_ok, List.map_toArray, List.map_cons, List.map_nil, hs, hx, hr]
  exact hK _ _ (h c' w' h2 h3 h4)

set_option maxRecDepth 100000 in
set_option maxHeartbeats 1000000 in
theorem growB_any (m : Nat) (w : World) (hm : 0 < m) (hle : m ≤ 1000000) :
    Calls Tryd.prog 51 #[.slice none 0 0, .int .i64 (m : Int)] w fun e w' =>
      ∃ c', e = .returned (.slice (some ⟨w.heap.size, 0, none⟩) 0 c') ∧ w'.ownsRow w.heap.size 5 1 (.slice (some ⟨w.heap.size, 0, none⟩) 0 c') 0 (bvs []) ∧ Below w.heap.size w w' := by
  have h0 : ¬ ((m : Int) < 0) := by omega
  have h1 : (0 : Int) < (m : Int) := by omega
  go_enter Tryd.func51, Tryd.ntmps51
  go_wp2_with (refine wpList_grow_bytes w rfl _ _ rfl m rfl rfl hm hle ?_; intro c' w1 hc ho hb; have HR := Lib.hid (And.intro ho hb); clear ho hb)
  go_ret
  exact ⟨c', rfl, HR.out.1, HR.out.2⟩

/-- How many, and what, the first j of two lists have. -/
def first2N (n m : Nat) : Nat → Nat
  | 0 => 0
  | 1 => n
  | _ => n + m
def first2L (xs ys : List Nat) : Nat → List Nat
  | 0 => []
  | 1 => xs
  | _ => xs ++ ys

set_option maxRecDepth 100000 in
set_option maxHeartbeats 2000000 in
theorem concatB_any (b : Nat) (A A2 : Option Addr) (n c m c2 : Nat) (xs ys : List Nat) (w : World) (h1 : w.cell? ⟨b, 0, none⟩ = some (.slice A n c)) (h2 : w.cell? ⟨b, 1, none⟩ = some (.slice A2 m c2))
    (hx : In w A n xs) (hy : In w A2 m ys) (nx : A = none → c = 0) (ny : A2 = none → c2 = 0) (h0 : 0 < n + m) (hle : n + m ≤ 1000000) :
    Calls Tryd.prog 33 #[.slice (some ⟨b, 0, none⟩) 2 2] w fun e w' =>
      ∃ A' c', e = .returned (.slice A' (n + m) c') ∧ w'.ownsRow w.heap.size 5 1 (.slice A' (n + m) c') (n + m) (bvs (xs ++ ys)) ∧ Below w.heap.size w w' := by
  have HX := Lib.hid (And.intro hx (And.intro hy (And.intro nx ny)))
  have G := Lib.hid (growB_any (n + m) w h0 hle)
  have hbl : b < w.heap.size := World.block_lt_of_cell? w _ h1
  clear hx hy nx ny
  go_enter Tryd.func33, Tryd.ntmps33
  go_wp2
  go_loopw [3, 5, 11] (fun sz _ i wr => ∃ j : Nat, j ≤ 2 ∧ i = .int .i64 (j : Int) ∧ sz = .int .i64 (first2N n m j : Int) ∧ wr = w) (fun _ _ i _ => 2 - (intOf i).toNat)
  case atStart => exact ⟨0, by omega, rfl, rfl, rfl⟩
  case round =>
    obtain ⟨j, hj, rfl, rfl, e⟩ := hrel
    have e' := e.symm
    clear e
    subst e'
    obtain rfl | rfl | rfl : j = 0 ∨ j = 1 ∨ j = 2 := by omega
    · have hn : ¬ ((n : Int) < 0) := by omega
      simp only [first2N]
      go_wp2
      go_roundw
      case rel => exact ⟨1, by omega, by go_num, rfl, trivial⟩
      case measure => simp [intOf]
    · have hn : ¬ ((n : Int) + (m : Int) < 0) := by omega
      simp only [first2N]
      go_wp2
      go_roundw
      case rel => exact ⟨2, by omega, by go_num, by simp, trivial⟩
      case measure => simp [intOf]
    · simp only [first2N]
      go_wp2_with fail
      refine G.out.mono ?_
      rintro e w1 ⟨c1, rfl, ho, hb⟩
      have HO := Lib.hid (And.intro ho hb)
      clear ho hb
      have hw1 := HO.out.2
      have d1 : w1.cell? ⟨b, 0, none⟩ = some (.slice A n c) := (hw1.cell (World.block_lt_of_cell? w _ h1)).trans h1
      have d2 : w1.cell? ⟨b, 1, none⟩ = some (.slice A2 m c2) := (hw1.cell (World.block_lt_of_cell? w _ h2)).trans h2
      have HD := Lib.hid (And.intro d1 d2)
      clear h1 h2 hw1 d1 d2
      go_wp2
      go_loopw [6, 8, 27] (fun nw _ i w2 => ∃ (j : Nat) (A' : Option Addr) (c' : Nat), j ≤ 2 ∧ i = .int .i64 (j : Int) ∧ nw = .slice A' (first2N n m j) c' ∧ w2.ownsRow w.heap.size 5 1 (.slice A' (first2N n m j) c') (first2N n m j) (bvs (first2L xs ys j)) ∧ Below w.heap.size w w2 ∧
        w2.cell? ⟨b, 0, none⟩ = some (.slice A n c) ∧ w2.cell? ⟨b, 1, none⟩ = some (.slice A2 m c2)) (fun _ _ i _ => 2 - (intOf i).toNat)
      case atStart => exact ⟨0, _, c1, by omega, rfl, rfl, HO.out.1, HO.out.2, HD.out.1, HD.out.2⟩
      case round =>
        obtain ⟨j, A', c', hj, rfl, rfl, how, hbw, e1, e2⟩ := hrel
        have HW := Lib.hid (And.intro how hbw)
        clear how hbw
        obtain rfl | rfl | rfl : j = 0 ∨ j = 1 ∨ j = 2 := by omega
        · simp only [first2N, first2L] at HW ⊢
          go_wp2_with (refine wpList_step fun K hK => ?_; refine step_app_at (K := K) (by rfl) _ _ (by rfl) w.heap.size A' 0 c' [] (by rfl) HW.out.1 A n c xs (by rfl) (HX.out.1.below HW.out.2) HX.out.2.2.1 (by omega) HW.out.2.size ?_; intro A3 c3 w3 ow3 nx3; have HN := Lib.hid (And.intro ow3 nx3); clear ow3 nx3; refine hK _ _ ?_; clear hK K)
          have hb3 := HN.out.2.below HW.out.1 HW.out.2 (Nat.le_refl _) HW.out.2.size
          have ow3 := HN.out.1
          rw [Nat.zero_add, List.nil_append] at ow3
          have H3 := Lib.hid (And.intro ow3 hb3)
          have k1 := HN.out.2.cell e1 (fun e => by have := (HW.out.1.lt b e.symm).1; omega)
          have k2 := HN.out.2.cell e2 (fun e => by have := (HW.out.1.lt b e.symm).1; omega)
          clear ow3 hb3
          go_wp2
          go_roundw
          case rel => exact ⟨1, A3, c3, by omega, by go_num, by simp, H3.out.1, H3.out.2, k1, k2⟩
          case measure => simp [intOf]
        · simp only [first2N, first2L] at HW ⊢
          go_wp2_with (refine wpList_step fun K hK => ?_; refine step_app_at (K := K) (by rfl) _ _ (by rfl) w.heap.size A' n c' xs (by rfl) HW.out.1 A2 m c2 ys (by rfl) (HX.out.2.1.below HW.out.2) HX.out.2.2.2 (by omega) HW.out.2.size ?_; intro A3 c3 w3 ow3 nx3; have HN := Lib.hid (And.intro ow3 nx3); clear ow3 nx3; refine hK _ _ ?_; clear hK K)
          have hb3 := HN.out.2.below HW.out.1 HW.out.2 (Nat.le_refl _) HW.out.2.size
          have H3 := Lib.hid (And.intro HN.out.1 hb3)
          have k1 := HN.out.2.cell e1 (fun e => by have := (HW.out.1.lt b e.symm).1; omega)
          have k2 := HN.out.2.cell e2 (fun e => by have := (HW.out.1.lt b e.symm).1; omega)
          clear hb3
          go_wp2
          go_roundw
          case rel => exact ⟨2, A3, c3, by omega, by go_num, rfl, H3.out.1, H3.out.2, k1, k2⟩
          case measure => simp [intOf]
        · simp only [first2N, first2L] at HW ⊢
          go_wp2
          go_ret
          exact ⟨A', c', rfl, HW.out.1, HW.out.2⟩

end Go.Proofs.YtllohbgejjbagaaDoor

/-
  slices.Clone of bytes.
-/
namespace Go.Proofs.YtllohbgejjbagaaDoor
open Go.RowKit

set_option maxRecDepth 100000 in
set_option maxHeartbeats 1000000 in
theorem clone_b (A : Option Addr) (n c : Nat) (xs : List Nat) (w : World) (hin : In w A n xs) (hA : A = none → c = 0) (hnc : n ≤ c) (hn : n ≤ 1000000000) :
    Calls Tryd.prog 24 #[.slice A n c] w fun e w' => ∃ v, e = .returned v ∧ w'.ownsRow w.heap.size 5 1 v n (bvs xs) ∧ Below w.heap.size w w' := by
  have qT : ∀ (w : World) (a : Option Addr) (n c n' c' : Nat), (binOp .eql 22 (.slice a n c) (.slice none n' c')).run Tryd.prog w = .ok (.bool a.isNone) w := fun w a n c n' c' => Lib.run_eql_slice_nil w _ _ a n c n' c' Tryd.underlying22
  cases A with
  | none =>
    obtain rfl := hA rfl
    obtain rfl : n = 0 := by omega
    have : xs = [] := List.length_eq_zero_iff.1 hin.len
    subst this
    clear hA hin hnc hn
    go_enter Tryd.func24, Tryd.ntmps24
    go_wp2
    go_ret
    exact ⟨_, rfl, ⟨rfl, .inl ⟨rfl, rfl⟩⟩, Below.refl _ _⟩
  | some a =>
    have H := Lib.hid hin
    clear hin
    go_enter Tryd.func24, Tryd.ntmps24
    have h0 : (w.alloc (.cells #[] 5)).ownsRow w.heap.size 5 1 (.slice (some ⟨w.heap.size, 0, none⟩) 0 0) 0 (bvs []) :=
      ⟨rfl, .inr ⟨w.heap.size, 0, #[], rfl, Nat.le_refl _, World.alloc_heap_new w _, Nat.le_refl _, (by unfold maxLen; omega), rfl, rfl⟩⟩
    go_wp2_with (
      at_builtin
      refine wpList_app (w.alloc (.cells #[] 5)) rfl _ _ rfl w.heap.size (some ⟨w.heap.size, 0, none⟩) 0 0 [] rfl h0 (some a) n c xs rfl (H.out.below (below_alloc w _)) (fun h => by cases h) (by omega) (by simp) ?_
      intro A' c' w' ho hb)
    go_ret
    rw [Nat.zero_add, List.nil_append] at ho
    exact ⟨_, rfl, ho, (below_alloc w _).trans hb⟩

end Go.Proofs.YtllohbgejjbagaaDoor

/-
  leaves.Leaf, leaves.Node.
-/
namespace Go.Proofs.YtllohbgejjbagaaDoor
open Go.RowKit

set_option maxRecDepth 100000 in
set_option maxHeartbeats 2000000 in
theorem leaf_any (A : Option Addr) (n c : Nat) (xs : List Nat) (w : World) (hx : Came w A n c xs) (hk : Knows w) (hs : Starts w) (hn : n ≤ 800000000) :
    Calls Tryd.prog 20 #[.slice A n c] w fun e w' => e = .returned (sv (leafL xs)) ∧ Below w.heap.size w w' := by
  have e0 : (bvs zero32).toArray = #[.int .u8 0, .int .u8 0, .int .u8 0, .int .u8 0, .int .u8 0, .int .u8 0, .int .u8 0, .int .u8 0, .int .u8 0, .int .u8 0, .int .u8 0, .int .u8 0, .int .u8 0, .int .u8 0, .int .u8 0, .int .u8 0, .int .u8 0, .int .u8 0, .int .u8 0, .int .u8 0, .int .u8 0, .int .u8 0, .int .u8 0, .int .u8 0, .int .u8 0, .int .u8 0, .int .u8 0, .int .u8 0, .int .u8 0, .int .u8 0, .int .u8 0, .int .u8 0] := rfl
  have f1 := BArr.new w 34 zero32
  have b1 := below_alloc w (.cells (bvs zero32).toArray 34)
  have s1 : (w.alloc (.cells (bvs zero32).toArray 34)).heap.size = w.heap.size + 1 := World.size_alloc _ _
  rw [e0] at f1 b1 s1
  clear e0
  have HF := Lib.hid (And.intro f1 (And.intro b1 s1))
  have HX := Lib.hid hx
  clear f1 b1 s1 hx
  go_enter Tryd.func20, Tryd.ntmps20
  go_upto_region 1 with fail
  obtain ⟨w1, hw1⟩ : ∃ w1, w1 = w.alloc (.cells #[.int .u8 0, .int .u8 0, .int .u8 0, .int .u8 0, .int .u8 0, .int .u8 0, .int .u8 0, .int .u8 0, .int .u8 0, .int .u8 0, .int .u8 0, .int .u8 0, .int .u8 0, .int .u8 0, .int .u8 0, .int .u8 0, .int .u8 0, .int .u8 0, .int .u8 0, .int .u8 0, .int .u8 0, .int .u8 0, .int .u8 0, .int .u8 0, .int .u8 0, .int .u8 0, .int .u8 0, .int .u8 0, .int .u8 0, .int .u8 0, .int .u8 0, .int .u8 0] 34) := ⟨_, rfl⟩
  rw [← hw1] at HF ⊢
  clear hw1
  obtain ⟨W, hW⟩ : ∃ W, W = w1.alloc (.cells #[.slice A n c] 22) := ⟨_, rfl⟩
  have hb : Below w1.heap.size w1 W := by rw [hW]; exact below_alloc _ _
  have hcell : W.cell? ⟨w1.heap.size, 0, none⟩ = some (.slice A n c) := by rw [hW]; exact cell_new1 _ _ _
  have bel := below_on HF.out.2.1 (Nat.le_refl _) hb
  have C := Lib.hid (marked_any 0 (some ⟨w1.heap.size, 0, none⟩) 1 1 [xs] W (by omega) ⟨rfl, fun r ys hr => by
    have hr' := (List.getElem?_eq_some_iff.1 hr).1
    obtain rfl : r = 0 := by simp at hr'; omega
    cases hr
    exact ⟨_, A, n, c, rfl, hcell, HX.out.below bel, by omega⟩⟩ (hk.below bel) (hs.below bel) (by have := HX.out.in_.len; simp [tot]; omega) (by omega))
  have hl32 := sha_length (0 :: [xs].flatten)
  have HS : leafL xs = sha (0 :: [xs].flatten) := by rw [leafL]; simp
  obtain ⟨s, hs0⟩ : ∃ s, sha (0 :: [xs].flatten) = s := ⟨_, rfl⟩
  rw [hs0] at C hl32 HS
  have HS' := Lib.hid HS
  clear hs0 HS
  have H1 := Lib.hid (And.intro (HF.out.1.below hb) bel)
  clear hb hcell bel
  go_wp2_with fail
  rw [← hW]
  clear hW
  refine C.out.mono ?_
  rintro e w4 ⟨rfl, hb4⟩
  have f4 := H1.out.1.below hb4
  have HZ32 := Lib.hid (show zero32.length = 32 from rfl)
  go_wp2_with (with_reducible refine wpList_store_sum rfl (.tmp 2) (.tmp 5) rfl w.heap.size rfl zero32 s HZ32 hl32 f4 rfl ?_)
  refine bodyPost_ret_by (results_cell_row (p := 2) (ty := 34) (by kernel_rfl) _ _ w.heap.size 34 (bvs s).toArray (0, 0) _ rfl (f4.setRow _) Tryd.underlying34 rfl (by rw [List.size_toArray, bvs_length, hl32]; exact sizeSum)) rfl ?_
  exact ⟨by rw [HS'.out]; rfl, below_setRow (below_on H1.out.2 (Nat.le_refl _) hb4) (by omega) _⟩

end Go.Proofs.YtllohbgejjbagaaDoor

/-
  '[]E{x}', x a whole value of many cells: the row of one. No function of the program is named here.
-/
namespace Go.Proofs.YtllohbgejjbagaaDoor
open Go.RowKit

theorem fold_fill (l : List Value) : ∀ (pre suf : List Value) (off : Nat), suf.length = l.length → pre.length = off →
    ((l.zipIdx off).foldl (fun (cs : Array Value) (x : Value × Nat) => cs.setIfInBounds (0 + x.2) x.1) (pre ++ suf).toArray) = (pre ++ l).toArray := by
  induction l with
  | nil =>
    intro pre suf off h _
    obtain rfl : suf = [] := List.eq_nil_of_length_eq_zero h
    rfl
  | cons x l ih =>
    intro pre suf off h hp
    cases suf with
    | nil => simp at h
    | cons y suf =>
      rw [List.zipIdx_cons, List.foldl_cons]
      have e : (pre ++ y :: suf).toArray.setIfInBounds (0 + off) x = ((pre ++ [x]) ++ suf).toArray := by
        rw [List.setIfInBounds_toArray, Nat.zero_add, List.set_append_right _ _ (by omega), hp, Nat.sub_self, List.set_cons_zero, List.append_assoc]
        rfl
      rw [e, ih (pre ++ [x]) suf (off + 1) (by simpa using h) (by rw [List.length_append, hp]; rfl), List.append_assoc]
      rfl

theorem fill_whole (cs : List Value) (cells : Array Value) (m : Nat) (h1 : cs.length = m) (h2 : cells.size = m) :
    Instr.fill (fun i => some (i * m, m)) cells [(0, .agg cs.toArray)] = some cs.toArray := by
  have e := fold_fill cs [] cells.toList 0 (by rw [Array.length_toList, h1, h2]) rfl
  simp only [List.nil_append] at e
  have e2 : (cs.toArray.zipIdx.foldl (fun (cs : Array Value) (x : Value × Nat) => cs.setIfInBounds (0 + x.2) x.1) cells) = cs.toArray := by
    rw [← Array.foldl_toList]
    have : cs.toArray.zipIdx.toList = cs.zipIdx 0 := by simp
    rw [this]
    simpa using e
  have hv : (Value.agg cs.toArray).cells = cs.toArray := rfl
  unfold Instr.fill
  simp only [hv, Nat.zero_mul, List.size_toArray, h1, h2, Nat.zero_add]
  rw [if_neg (by simp)]
  unfold Instr.fill
  simp only [Nat.zero_add] at e2
  exact congrArg some e2

/-- The operation, as a region that draws asks it. -/
theorem wp_one {o : Oper} {a : Act} {w : World} {K : Act → World → Prop} {Q : Exit → Act → World → Prop} (t e : TypeId) (x : Operand) (ho : o.op = .buildSlice t 1 #[(0, x)])
    (ie : TypeInfo) (z : Value) (m : Nat) (cs : List Value) (hx : a.eval x = .agg cs.toArray)
    (hu : Tryd.prog.underlying t = some (.slice e)) (hie : Tryd.prog.info? e = some ie) (hz : ie.zero = some z) (hsz : ie.size = m) (hm0 : 0 < m) (hm : m ≤ 1000000) (hl : cs.length = m)
    (h : K (a.put o.dst (.slice (some ⟨w.heap.size, 0, none⟩) 1 1)) (w.alloc (.cells cs.toArray e))) : o.wp Tryd.prog a w K Q := by
  subst hsz
  refine wp_buildSlice t e 1 _ ho cs.toArray ie z hu hie hz (by omega) (by omega) ?_ h
  have : ((#[(0, x)] : Array (Nat × Operand)).map fun (p : Nat × Operand) => (p.1, a.eval p.2)).toList = [(0, .agg cs.toArray)] := by simp [hx]
  rw [show ((#[(0, x)] : Array (Nat × Operand)).map fun (i, x) => (i, a.eval x)).toList = [(0, .agg cs.toArray)] from this]
  exact fill_whole cs _ ie.size hl (by simp)

end Go.Proofs.YtllohbgejjbagaaDoor

/-
  chains.Add.
-/
namespace Go.Proofs.YtllohbgejjbagaaDoor
open Go.RowKit

section
variable {w : World} {g : Nat} {G : Nat → Prop} {l : List (List Nat)}

set_option maxRecDepth 100000 in
theorem hadd_long (h : Chain w g G l) {A : Option Addr} {n c : Nat} (hn : 16384 < n) :
    Calls Tryd.prog 13 #[.pointer (some ⟨g, 0, none⟩), .slice A n c] w fun e w' => e = .returned (.int .i64 3) ∧ w' = w := by
  obtain ⟨⟨gf, fA, fc, v, E, h⟩, hG⟩ := h
  have C := Lib.hid (hthere_at h)
  have hi : (16384 : Int) < (n : Int) := by omega
  clear h hG
  go_enter Tryd.func13, Tryd.ntmps13
  go_wp2_with fail
  refine C.out.mono ?_
  rintro e w' ⟨rfl, rfl⟩
  go_wp2_with fail
  go_ret
  exact ⟨rfl, rfl⟩

/-- Two slices in a row of two. -/
theorem hpair_cells (W : World) (u v : Value) (t : TypeId) : (W.alloc (.cells #[u, v] t)).cell? ⟨W.heap.size, 0, none⟩ = some u ∧ (W.alloc (.cells #[u, v] t)).cell? ⟨W.heap.size, 1, none⟩ = some v :=
  ⟨(cell_of_row _ _ 0 _ _ (0, 0) (World.alloc_heap_new W _)).trans rfl, (cell_of_row _ _ 1 _ _ (0, 0) (World.alloc_heap_new W _)).trans rfl⟩

set_option maxRecDepth 100000 in
set_option maxHeartbeats 4000000 in
theorem hadd_yes (h : Chain w g G l) (hl : l.length ≤ 60000) {A : Option Addr} {n c : Nat} {b : List Nat} (hx : Came w A n c b) (hn : n ≤ 16384) (ha : Away G) (hk : Knows w) (hs : Starts w) :
    Calls Tryd.prog 13 #[.pointer (some ⟨g, 0, none⟩), .slice A n c] w fun e w' => e = .returned (.int .i64 0) ∧ Grew w g G (l ++ [b]) w' := by
  obtain ⟨⟨gf, fA, fc, v, E, h⟩, hG⟩ := h
  have C := Lib.hid (hthere_at h)
  have D := Lib.hid (leaf_any A n c b w hx hk hs (by omega))
  have HH := Lib.hid (And.intro h (And.intro hG (And.intro hx (And.intro hk hs))))
  obtain ⟨s, hs0⟩ : ∃ s, leafL b = s := ⟨_, rfl⟩
  have hsl : s.length = 32 := by rw [← hs0]; exact leafL_length b
  have hsb : ∀ x ∈ s, x < 256 := by rw [← hs0]; exact leafL_lt b
  obtain ⟨m, hm0⟩ : ∃ m, markL l = m := ⟨_, rfl⟩
  have hml : m.length = 32 := by rw [← hm0]; exact markL_length l
  have hmb : ∀ x ∈ m, x < 256 := by rw [← hm0]; exact markL_lt l
  obtain ⟨mk, hk0⟩ : ∃ mk, markL (l ++ [b]) = mk := ⟨_, rfl⟩
  have hkl : mk.length = 32 := by rw [← hk0]; exact markL_length _
  have hke : sha (m ++ s) = mk := by rw [← hk0, markL_snoc, hm0, hs0]
  rw [hs0] at D
  obtain ⟨L, hL⟩ : ∃ L, l.length = L := ⟨_, rfl⟩
  have HL := Lib.hid (And.intro hs0 (And.intro hm0 (And.intro hk0 (And.intro hL hke))))
  have HS := Lib.hid (And.intro hsb hmb)
  have hni : ¬ ((16384 : Int) < (n : Int)) := by omega
  have HZ32 := Lib.hid (show zero32.length = 32 from rfl)
  have L6 : L ≤ 60000 := by omega
  have hglt := h.lt
  clear h hG hx hk hs hs0 hm0 hk0 hke hL hsb hmb hl
  go_enter Tryd.func13, Tryd.ntmps13
  go_wp2_with fail
  refine C.out.mono ?_
  rintro e w' ⟨rfl, e1⟩
  obtain rfl := e1.symm
  clear e1
  go_wp2_with fail
  refine D.out.mono ?_
  rintro e w1 ⟨rfl, b1⟩
  have h1 := HH.out.1.below HH.out.2.1 b1
  have Z := Lib.hid (hsize_at h1)
  have M := Lib.hid (hmark_in h1 (n := l.length) (Nat.le_refl _) (by have := HL.out.2.2.2.1; omega))
  rw [List.take_of_length_le (Nat.le_refl _), HL.out.2.1, HL.out.2.2.2.1] at M
  rw [HL.out.2.2.2.1] at Z
  have HB1 := Lib.hid b1
  clear h1 b1 C D
  go_wp2_with fail
  refine Z.out.mono ?_
  rintro e w' ⟨rfl, e1⟩
  obtain rfl := e1.symm
  clear e1
  go_wp2_with fail
  refine M.out.mono ?_
  rintro e w2 ⟨rfl, b2⟩
  have HB2 := Lib.hid (below_on HB1.out (Nat.le_refl _) b2)
  clear b2 Z M HB1
  have f5 : BArr ((w2.alloc (.cells #[.int .u8 0, .int .u8 0, .int .u8 0, .int .u8 0, .int .u8 0, .int .u8 0, .int .u8 0, .int .u8 0, .int .u8 0, .int .u8 0, .int .u8 0, .int .u8 0, .int .u8 0, .int .u8 0, .int .u8 0, .int .u8 0, .int .u8 0, .int .u8 0, .int .u8 0, .int .u8 0, .int .u8 0, .int .u8 0, .int .u8 0, .int .u8 0, .int .u8 0, .int .u8 0, .int .u8 0, .int .u8 0, .int .u8 0, .int .u8 0, .int .u8 0, .int .u8 0] 34)).alloc (.cells #[.int .u8 0, .int .u8 0, .int .u8 0, .int .u8 0, .int .u8 0, .int .u8 0, .int .u8 0, .int .u8 0, .int .u8 0, .int .u8 0, .int .u8 0, .int .u8 0, .int .u8 0, .int .u8 0, .int .u8 0, .int .u8 0, .int .u8 0, .int .u8 0, .int .u8 0, .int .u8 0, .int .u8 0, .int .u8 0, .int .u8 0, .int .u8 0, .int .u8 0, .int .u8 0, .int .u8 0, .int .u8 0, .int .u8 0, .int .u8 0, .int .u8 0, .int .u8 0] 34)) w2.heap.size 34 zero32 := (BArr.new w2 34 zero32).alloc (.cells (bvs zero32).toArray 34)
  have z6 : BArr ((w2.alloc (.cells #[.int .u8 0, .int .u8 0, .int .u8 0, .int .u8 0, .int .u8 0, .int .u8 0, .int .u8 0, .int .u8 0, .int .u8 0, .int .u8 0, .int .u8 0, .int .u8 0, .int .u8 0, .int .u8 0, .int .u8 0, .int .u8 0, .int .u8 0, .int .u8 0, .int .u8 0, .int .u8 0, .int .u8 0, .int .u8 0, .int .u8 0, .int .u8 0, .int .u8 0, .int .u8 0, .int .u8 0, .int .u8 0, .int .u8 0, .int .u8 0, .int .u8 0, .int .u8 0] 34)).alloc (.cells #[.int .u8 0, .int .u8 0, .int .u8 0, .int .u8 0, .int .u8 0, .int .u8 0, .int .u8 0, .int .u8 0, .int .u8 0, .int .u8 0, .int .u8 0, .int .u8 0, .int .u8 0, .int .u8 0, .int .u8 0, .int .u8 0, .int .u8 0, .int .u8 0, .int .u8 0, .int .u8 0, .int .u8 0, .int .u8 0, .int .u8 0, .int .u8 0, .int .u8 0, .int .u8 0, .int .u8 0, .int .u8 0, .int .u8 0, .int .u8 0, .int .u8 0, .int .u8 0] 34)) (w2.heap.size + 1) 34 zero32 := by
    have h0 := BArr.new (w2.alloc (.cells #[.int .u8 0, .int .u8 0, .int .u8 0, .int .u8 0, .int .u8 0, .int .u8 0, .int .u8 0, .int .u8 0, .int .u8 0, .int .u8 0, .int .u8 0, .int .u8 0, .int .u8 0, .int .u8 0, .int .u8 0, .int .u8 0, .int .u8 0, .int .u8 0, .int .u8 0, .int .u8 0, .int .u8 0, .int .u8 0, .int .u8 0, .int .u8 0, .int .u8 0, .int .u8 0, .int .u8 0, .int .u8 0, .int .u8 0, .int .u8 0, .int .u8 0, .int .u8 0] 34)) 34 zero32
    rw [World.size_alloc] at h0
    exact h0
  have sz5 : ((w2.alloc (.cells #[.int .u8 0, .int .u8 0, .int .u8 0, .int .u8 0, .int .u8 0, .int .u8 0, .int .u8 0, .int .u8 0, .int .u8 0, .int .u8 0, .int .u8 0, .int .u8 0, .int .u8 0, .int .u8 0, .int .u8 0, .int .u8 0, .int .u8 0, .int .u8 0, .int .u8 0, .int .u8 0, .int .u8 0, .int .u8 0, .int .u8 0, .int .u8 0, .int .u8 0, .int .u8 0, .int .u8 0, .int .u8 0, .int .u8 0, .int .u8 0, .int .u8 0, .int .u8 0] 34)).alloc (.cells #[.int .u8 0, .int .u8 0, .int .u8 0, .int .u8 0, .int .u8 0, .int .u8 0, .int .u8 0, .int .u8 0, .int .u8 0, .int .u8 0, .int .u8 0, .int .u8 0, .int .u8 0, .int .u8 0, .int .u8 0, .int .u8 0, .int .u8 0, .int .u8 0, .int .u8 0, .int .u8 0, .int .u8 0, .int .u8 0, .int .u8 0, .int .u8 0, .int .u8 0, .int .u8 0, .int .u8 0, .int .u8 0, .int .u8 0, .int .u8 0, .int .u8 0, .int .u8 0] 34)).heap.size = w2.heap.size + 2 := by rw [World.size_alloc, World.size_alloc]
  have b5 : Below w2.heap.size w2 ((w2.alloc (.cells #[.int .u8 0, .int .u8 0, .int .u8 0, .int .u8 0, .int .u8 0, .int .u8 0, .int .u8 0, .int .u8 0, .int .u8 0, .int .u8 0, .int .u8 0, .int .u8 0, .int .u8 0, .int .u8 0, .int .u8 0, .int .u8 0, .int .u8 0, .int .u8 0, .int .u8 0, .int .u8 0, .int .u8 0, .int .u8 0, .int .u8 0, .int .u8 0, .int .u8 0, .int .u8 0, .int .u8 0, .int .u8 0, .int .u8 0, .int .u8 0, .int .u8 0, .int .u8 0] 34)).alloc (.cells #[.int .u8 0, .int .u8 0, .int .u8 0, .int .u8 0, .int .u8 0, .int .u8 0, .int .u8 0, .int .u8 0, .int .u8 0, .int .u8 0, .int .u8 0, .int .u8 0, .int .u8 0, .int .u8 0, .int .u8 0, .int .u8 0, .int .u8 0, .int .u8 0, .int .u8 0, .int .u8 0, .int .u8 0, .int .u8 0, .int .u8 0, .int .u8 0, .int .u8 0, .int .u8 0, .int .u8 0, .int .u8 0, .int .u8 0, .int .u8 0, .int .u8 0, .int .u8 0] 34)) := (below_alloc w2 _).alloc (by rw [World.size_alloc]; omega) _
  have f6 := z6.setRow_other w2.heap.size (by omega) (bvs s).toArray
  have r5 : BArr ((((w2.alloc (.cells #[.int .u8 0, .int .u8 0, .int .u8 0, .int .u8 0, .int .u8 0, .int .u8 0, .int .u8 0, .int .u8 0, .int .u8 0, .int .u8 0, .int .u8 0, .int .u8 0, .int .u8 0, .int .u8 0, .int .u8 0, .int .u8 0, .int .u8 0, .int .u8 0, .int .u8 0, .int .u8 0, .int .u8 0, .int .u8 0, .int .u8 0, .int .u8 0, .int .u8 0, .int .u8 0, .int .u8 0, .int .u8 0, .int .u8 0, .int .u8 0, .int .u8 0, .int .u8 0] 34)).alloc (.cells #[.int .u8 0, .int .u8 0, .int .u8 0, .int .u8 0, .int .u8 0, .int .u8 0, .int .u8 0, .int .u8 0, .int .u8 0, .int .u8 0, .int .u8 0, .int .u8 0, .int .u8 0, .int .u8 0, .int .u8 0, .int .u8 0, .int .u8 0, .int .u8 0, .int .u8 0, .int .u8 0, .int .u8 0, .int .u8 0, .int .u8 0, .int .u8 0, .int .u8 0, .int .u8 0, .int .u8 0, .int .u8 0, .int .u8 0, .int .u8 0, .int .u8 0, .int .u8 0] 34)).setRow w2.heap.size (bvs s).toArray).setRow (w2.heap.size + 1) (bvs m).toArray) w2.heap.size 34 s := (f5.setRow s).setRow_other _ (by omega) _
  have r6 : BArr ((((w2.alloc (.cells #[.int .u8 0, .int .u8 0, .int .u8 0, .int .u8 0, .int .u8 0, .int .u8 0, .int .u8 0, .int .u8 0, .int .u8 0, .int .u8 0, .int .u8 0, .int .u8 0, .int .u8 0, .int .u8 0, .int .u8 0, .int .u8 0, .int .u8 0, .int .u8 0, .int .u8 0, .int .u8 0, .int .u8 0, .int .u8 0, .int .u8 0, .int .u8 0, .int .u8 0, .int .u8 0, .int .u8 0, .int .u8 0, .int .u8 0, .int .u8 0, .int .u8 0, .int .u8 0] 34)).alloc (.cells #[.int .u8 0, .int .u8 0, .int .u8 0, .int .u8 0, .int .u8 0, .int .u8 0, .int .u8 0, .int .u8 0, .int .u8 0, .int .u8 0, .int .u8 0, .int .u8 0, .int .u8 0, .int .u8 0, .int .u8 0, .int .u8 0, .int .u8 0, .int .u8 0, .int .u8 0, .int .u8 0, .int .u8 0, .int .u8 0, .int .u8 0, .int .u8 0, .int .u8 0, .int .u8 0, .int .u8 0, .int .u8 0, .int .u8 0, .int .u8 0, .int .u8 0, .int .u8 0] 34)).setRow w2.heap.size (bvs s).toArray).setRow (w2.heap.size + 1) (bvs m).toArray) (w2.heap.size + 1) 34 m := f6.setRow m
  have b6 : Below w2.heap.size w2 ((((w2.alloc (.cells #[.int .u8 0, .int .u8 0, .int .u8 0, .int .u8 0, .int .u8 0, .int .u8 0, .int .u8 0, .int .u8 0, .int .u8 0, .int .u8 0, .int .u8 0, .int .u8 0, .int .u8 0, .int .u8 0, .int .u8 0, .int .u8 0, .int .u8 0, .int .u8 0, .int .u8 0, .int .u8 0, .int .u8 0, .int .u8 0, .int .u8 0, .int .u8 0, .int .u8 0, .int .u8 0, .int .u8 0, .int .u8 0, .int .u8 0, .int .u8 0, .int .u8 0, .int .u8 0] 34)).alloc (.cells #[.int .u8 0, .int .u8 0, .int .u8 0, .int .u8 0, .int .u8 0, .int .u8 0, .int .u8 0, .int .u8 0, .int .u8 0, .int .u8 0, .int .u8 0, .int .u8 0, .int .u8 0, .int .u8 0, .int .u8 0, .int .u8 0, .int .u8 0, .int .u8 0, .int .u8 0, .int .u8 0, .int .u8 0, .int .u8 0, .int .u8 0, .int .u8 0, .int .u8 0, .int .u8 0, .int .u8 0, .int .u8 0, .int .u8 0, .int .u8 0, .int .u8 0, .int .u8 0] 34)).setRow w2.heap.size (bvs s).toArray).setRow (w2.heap.size + 1) (bvs m).toArray) := below_setRow (below_setRow b5 (Nat.le_refl _) _) (by omega) _
  have HF := Lib.hid (And.intro f5 (And.intro f6 (And.intro r5 (And.intro r6 b6))))
  clear f5 z6 sz5 b5 f6 r5 r6 b6
  go_upto_region 6 with (first
    | (with_reducible refine wpList_store_sum rfl (.tmp 5) (.tmp 17) rfl w2.heap.size rfl zero32 s HZ32 hsl HF.out.1 rfl ?_)
    | (with_reducible refine wpList_store_sum rfl (.tmp 6) (.tmp 21) rfl (w2.heap.size + 1) rfl zero32 m HZ32 hml HF.out.2.1 rfl ?_))
  obtain ⟨w5, hw5⟩ : ∃ w5, w5 = ((((w2.alloc (.cells #[.int .u8 0, .int .u8 0, .int .u8 0, .int .u8 0, .int .u8 0, .int .u8 0, .int .u8 0, .int .u8 0, .int .u8 0, .int .u8 0, .int .u8 0, .int .u8 0, .int .u8 0, .int .u8 0, .int .u8 0, .int .u8 0, .int .u8 0, .int .u8 0, .int .u8 0, .int .u8 0, .int .u8 0, .int .u8 0, .int .u8 0, .int .u8 0, .int .u8 0, .int .u8 0, .int .u8 0, .int .u8 0, .int .u8 0, .int .u8 0, .int .u8 0, .int .u8 0] 34)).alloc (.cells #[.int .u8 0, .int .u8 0, .int .u8 0, .int .u8 0, .int .u8 0, .int .u8 0, .int .u8 0, .int .u8 0, .int .u8 0, .int .u8 0, .int .u8 0, .int .u8 0, .int .u8 0, .int .u8 0, .int .u8 0, .int .u8 0, .int .u8 0, .int .u8 0, .int .u8 0, .int .u8 0, .int .u8 0, .int .u8 0, .int .u8 0, .int .u8 0, .int .u8 0, .int .u8 0, .int .u8 0, .int .u8 0, .int .u8 0, .int .u8 0, .int .u8 0, .int .u8 0] 34)).setRow w2.heap.size (bvs s).toArray).setRow (w2.heap.size + 1) (bvs m).toArray) := ⟨_, rfl⟩
  rw [← hw5]
  rw [← hw5] at HF
  have H5 := Lib.hid (And.intro HF.out.2.2.1 (And.intro HF.out.2.2.2.1 (below_on HB2.out (Nat.le_refl _) HF.out.2.2.2.2)))
  have g5w := Lib.hid HB2.out.size
  have w5w := Lib.hid H5.out.2.2.size
  clear hw5 HF
  obtain ⟨q, hq⟩ : ∃ q, w2.heap.size = q := ⟨_, rfl⟩
  rw [hq] at H5 g5w ⊢
  clear hq
  simp only [Act.put]
  go_cut [7] from 22 to 26 (fun s7 wx => ∃ p, s7 = .pointer (some ⟨p, 0, none⟩) ∧ w5.heap.size ≤ p ∧ BArr wx p 34 mk ∧ Below w5.heap.size w5 wx)
  case first =>
    have hsa := run_arr_all Tryd.underlying34
    have CC := Lib.hid (fun (W : World) (p : Nat) (hW : Below w5.heap.size w5 W) (c1 : W.cell? ⟨p, 0, none⟩ = some (.slice (some ⟨q + 1, 0, none⟩) 32 32)) (c2 : W.cell? ⟨p, 1, none⟩ = some (.slice (some ⟨q, 0, none⟩) 32 32)) =>
      (concatB_any p (some ⟨q + 1, 0, none⟩) (some ⟨q, 0, none⟩) 32 32 32 32 m s W c1 c2 ⟨hml, fun j x hj => ⟨_, rfl, (H5.out.2.1.below hW).at_ j x hj⟩⟩ ⟨hsl, fun j x hj => ⟨_, rfl, (H5.out.1.below hW).at_ j x hj⟩⟩ (fun e => by cases e) (fun e => by cases e) (by omega) (by omega)).mono (R' := fun e w' => ∃ A' c', e = .returned (.slice A' 64 c') ∧ In w' A' 64 (m ++ s) ∧ 64 ≤ c' ∧ Below w5.heap.size w5 w' ∧ Below W.heap.size W w') fun e w' ⟨A', c', he, ho, hb⟩ => ⟨A', c', he, In.of_own ho, own_cap ho, below_on hW (Nat.le_refl _) hb, hb⟩)
    have CO := Lib.hid (fun (W : World) (A' : Option Addr) (c' : Nat) (hW : Below w5.heap.size w5 W) (hin : In W A' 64 (m ++ s)) (hc : 64 ≤ c') =>
      (of_any A' 64 c' (m ++ s) W hin (bytes_append HS.out.2 HS.out.1) hc (HH.out.2.2.2.1.below (below_on H5.out.2.2 (Nat.le_refl _) hW)) (HH.out.2.2.2.2.below (below_on H5.out.2.2 (Nat.le_refl _) hW)) (by omega)).mono (R' := fun e w' => e = .returned (sv mk) ∧ Below w5.heap.size w5 w' ∧ Below W.heap.size W w') fun e w' ⟨he, hb⟩ => ⟨by rw [he, HL.out.2.2.2.2], below_on hW (Nat.le_refl _) hb, hb⟩)
    unfold sv at CO
    have hst : ∀ (W : World) (p : Nat), BArr W p 34 zero32 → (storeCells ⟨p, 0, none⟩ (bvs mk)).run Tryd.prog W = .ok () (W.setRow p (bvs mk).toArray) := fun W p hW => by
      have := run_storeCells_from (P := Tryd.prog) p 34 (bvs mk) 0 _ W hW (by rw [bvs_length, hkl]; rfl) (bvs_oneCell mk)
      simpa using this
    have hbR : (bvs mk).length = 32 := by rw [bvs_length, hkl]
    have HE0 := Lib.hid (show #[.int .u8 0, .int .u8 0, .int .u8 0, .int .u8 0, .int .u8 0, .int .u8 0, .int .u8 0, .int .u8 0, .int .u8 0, .int .u8 0, .int .u8 0, .int .u8 0, .int .u8 0, .int .u8 0, .int .u8 0, .int .u8 0, .int .u8 0, .int .u8 0, .int .u8 0, .int .u8 0, .int .u8 0, .int .u8 0, .int .u8 0, .int .u8 0, .int .u8 0, .int .u8 0, .int .u8 0, .int .u8 0, .int .u8 0, .int .u8 0, .int .u8 0, .int .u8 0] = (bvs zero32).toArray from rfl)
    refine wp_region_held_drew (S := fun W => Below w5.heap.size w5 W) (by kernel_rfl) ((Below.refl _ _).drew) (fun hS0 => ?_)
    change wpAnyH _ _ _ _ _ _ _ _ w5.drew
    generalize w5.drew = w6 at hS0 ⊢
    refine' wpAnyH_take (i := 0) (oi := _) (v := _) ?hia0 (by kernel_rfl) ?hfa0 ?hra0 ?hQa0 ?hya0 hS0 ?resta0
    case hia0 => (simp only [List.getElem?_toArray, List.getElem?_cons_zero]; rfl)
    case hfa0 => kernel_rfl
    case hra0 => kernel_rfl
    case hQa0 => exact fun _ _ _ h => h
    case hya0 => refine Or.inl ⟨by rfl, ?_⟩; intro W hSw; go_simp; try with_reducible rfl
    try simp only [Act.put, List.setIfInBounds_toArray, List.set_cons_zero, List.set_cons_succ]
    refine' wpAnyH_take (i := 1) (oi := _) (v := _) ?hia1 (by kernel_rfl) ?hfa1 ?hra1 ?hQa1 ?hya1 hS0 ?resta1
    case hia1 => (simp only [List.getElem?_toArray, List.getElem?_cons_zero, List.getElem?_cons_succ]; rfl)
    case hfa1 => kernel_rfl
    case hra1 => kernel_rfl
    case hQa1 => exact fun _ _ _ h => h
    case hya1 => refine Or.inl ⟨by rfl, ?_⟩; intro W hSw; go_simp; try with_reducible rfl
    try simp only [Act.put, List.setIfInBounds_toArray, List.set_cons_zero, List.set_cons_succ]
    refine wpAnyH_ready (rs := [2, 5]) (by kernel_rfl) (by simp) ?_
    refine' AllReadyH.cons (o := _) ?hib2 (fun K hK => ?_) (AllReadyH.cons (o := _) ?hib5 (fun K hK => ?_) AllReadyH.nil)
    case hib2 => (simp only [List.getElem?_toArray, List.getElem?_cons_zero, List.getElem?_cons_succ]; rfl)
    case hib5 => (simp only [List.getElem?_toArray, List.getElem?_cons_zero, List.getElem?_cons_succ]; rfl)
    · skip
      go_simp
      have hB1 := Below.alloc hS0 (Below.size hS0) (.cells #[.slice (some ⟨q + 1, 0, none⟩) 32 32, .slice (some ⟨q, 0, none⟩) 32 32] 22)
      have hPc := hpair_cells w6 (.slice (some ⟨q + 1, 0, none⟩) 32 32) (.slice (some ⟨q, 0, none⟩) 32 32) 22
      refine hK.out _ _ hB1 (fun _ => ?_)
      clear hK K
      try simp only [Act.put, List.setIfInBounds_toArray, List.set_cons_zero, List.set_cons_succ]
      generalize (w6.alloc (.cells #[.slice (some ⟨q + 1, 0, none⟩) 32 32, .slice (some ⟨q, 0, none⟩) 32 32] 22)) = W1 at hB1 hPc ⊢
      refine wpAnyH_ready (rs := [3, 5]) (by kernel_rfl) (by simp) ?_
      refine' AllReadyH.cons (o := _) ?hibx3 (fun K hK => ?_) (AllReadyH.cons (o := _) ?hibx5 (fun K hK => ?_) AllReadyH.nil)
      case hibx3 => (simp only [List.getElem?_toArray, List.getElem?_cons_zero, List.getElem?_cons_succ]; rfl)
      case hibx5 => (simp only [List.getElem?_toArray, List.getElem?_cons_zero, List.getElem?_cons_succ]; rfl)
      · skip
        go_simp
        go_at_call 33
        refine (CC.out _ _ hB1 hPc.1 hPc.2).mono ?_
        rintro e W2 ⟨A2, c2, rfl, hi2, hc2, hB2, hb2⟩
        refine hK.out _ _ hB2 (fun _ => ?_)
        clear hK K
        try simp only [Act.put, List.setIfInBounds_toArray, List.set_cons_zero, List.set_cons_succ]
        refine wpAnyH_ready (rs := [4, 5]) (by kernel_rfl) (by simp) ?_
        refine' AllReadyH.cons (o := _) ?hibxx4 (fun K hK => ?_) (AllReadyH.cons (o := _) ?hibxx5 (fun K hK => ?_) AllReadyH.nil)
        case hibxx4 => (simp only [List.getElem?_toArray, List.getElem?_cons_zero, List.getElem?_cons_succ]; rfl)
        case hibxx5 => (simp only [List.getElem?_toArray, List.getElem?_cons_zero, List.getElem?_cons_succ]; rfl)
        · skip
          go_simp
          go_at_call 22
          refine (CO.out _ _ _ hB2 hi2 hc2).mono ?_
          rintro e W3 ⟨rfl, hB3, hb3⟩
          refine hK.out _ _ hB3 (fun _ => ?_)
          clear hK K
          try simp only [Act.put, List.setIfInBounds_toArray, List.set_cons_zero, List.set_cons_succ]
          refine wpAnyH_ready (rs := [5]) (by kernel_rfl) (by simp) ?_
          refine' AllReadyH.cons (o := _) ?hibxxx5 (fun K hK => ?_) AllReadyH.nil
          case hibxxx5 => (simp only [List.getElem?_toArray, List.getElem?_cons_zero, List.getElem?_cons_succ]; rfl)
          go_simp
          have hB4 := Below.alloc hB3 (Below.size hB3) (.cells (bvs zero32).toArray 34)
          have hz4 := BArr.new W3 34 zero32
          rw [← HE0.out] at hB4 hz4
          refine hK.out _ _ hB4 (fun _ => ?_)
          clear hK K
          try simp only [Act.put, List.setIfInBounds_toArray, List.set_cons_zero, List.set_cons_succ]
          generalize (W3.alloc (.cells #[.int .u8 0, .int .u8 0, .int .u8 0, .int .u8 0, .int .u8 0, .int .u8 0, .int .u8 0, .int .u8 0, .int .u8 0, .int .u8 0, .int .u8 0, .int .u8 0, .int .u8 0, .int .u8 0, .int .u8 0, .int .u8 0, .int .u8 0, .int .u8 0, .int .u8 0, .int .u8 0, .int .u8 0, .int .u8 0, .int .u8 0, .int .u8 0, .int .u8 0, .int .u8 0, .int .u8 0, .int .u8 0, .int .u8 0, .int .u8 0, .int .u8 0, .int .u8 0] 34)) = W4 at hB4 hz4 ⊢
          have hZ3 : BArr _ _ 34 zero32 := hz4
          refine wpAnyH_ready (rs := [6]) (by kernel_rfl) (by simp) ?_
          refine' AllReadyH.cons (o := _) ?hibxxx6 (fun K hK => ?_) AllReadyH.nil
          case hibxxx6 => (simp only [List.getElem?_toArray, List.getElem?_cons_zero, List.getElem?_cons_succ]; rfl)
          go_simp
          refine hK.out _ _ (below_setRow hB4 (Below.size hB3) _) (fun _ => ?_)
          clear hK K
          refine wpAnyH_done (by kernel_rfl) ?_ _
          go_wp2_with fail
          go_meet
          case rel => exact ⟨_, rfl, Below.size hB3, hZ3.setRow mk, below_setRow hB4 (Below.size hB3) _⟩
        · skip
          go_simp
          have hB3 := Below.alloc hB2 (Below.size hB2) (.cells (bvs zero32).toArray 34)
          have hz3 := BArr.new W2 34 zero32
          rw [← HE0.out] at hB3 hz3
          have hin3 := In.below hi2 (below_alloc W2 (.cells #[.int .u8 0, .int .u8 0, .int .u8 0, .int .u8 0, .int .u8 0, .int .u8 0, .int .u8 0, .int .u8 0, .int .u8 0, .int .u8 0, .int .u8 0, .int .u8 0, .int .u8 0, .int .u8 0, .int .u8 0, .int .u8 0, .int .u8 0, .int .u8 0, .int .u8 0, .int .u8 0, .int .u8 0, .int .u8 0, .int .u8 0, .int .u8 0, .int .u8 0, .int .u8 0, .int .u8 0, .int .u8 0, .int .u8 0, .int .u8 0, .int .u8 0, .int .u8 0] 34))
          refine hK.out _ _ hB3 (fun _ => ?_)
          clear hK K
          try simp only [Act.put, List.setIfInBounds_toArray, List.set_cons_zero, List.set_cons_succ]
          generalize (W2.alloc (.cells #[.int .u8 0, .int .u8 0, .int .u8 0, .int .u8 0, .int .u8 0, .int .u8 0, .int .u8 0, .int .u8 0, .int .u8 0, .int .u8 0, .int .u8 0, .int .u8 0, .int .u8 0, .int .u8 0, .int .u8 0, .int .u8 0, .int .u8 0, .int .u8 0, .int .u8 0, .int .u8 0, .int .u8 0, .int .u8 0, .int .u8 0, .int .u8 0, .int .u8 0, .int .u8 0, .int .u8 0, .int .u8 0, .int .u8 0, .int .u8 0, .int .u8 0, .int .u8 0] 34)) = W3 at hB3 hz3 hin3 ⊢
          refine wpAnyH_ready (rs := [4]) (by kernel_rfl) (by simp) ?_
          refine' AllReadyH.cons (o := _) ?hibxxy4 (fun K hK => ?_) AllReadyH.nil
          case hibxxy4 => (simp only [List.getElem?_toArray, List.getElem?_cons_zero, List.getElem?_cons_succ]; rfl)
          go_simp
          go_at_call 22
          refine (CO.out _ _ _ hB3 hin3 hc2).mono ?_
          rintro e W4 ⟨rfl, hB4, hb4⟩
          have hz4 := hz3.below hb4
          refine hK.out _ _ hB4 (fun _ => ?_)
          clear hK K
          try simp only [Act.put, List.setIfInBounds_toArray, List.set_cons_zero, List.set_cons_succ]
          have hZ3 : BArr _ _ 34 zero32 := hz4
          refine wpAnyH_ready (rs := [6]) (by kernel_rfl) (by simp) ?_
          refine' AllReadyH.cons (o := _) ?hibxxy6 (fun K hK => ?_) AllReadyH.nil
          case hibxxy6 => (simp only [List.getElem?_toArray, List.getElem?_cons_zero, List.getElem?_cons_succ]; rfl)
          go_simp
          refine hK.out _ _ (below_setRow hB4 (Below.size hB2) _) (fun _ => ?_)
          clear hK K
          refine wpAnyH_done (by kernel_rfl) ?_ _
          go_wp2_with fail
          go_meet
          case rel => exact ⟨_, rfl, Below.size hB2, hZ3.setRow mk, below_setRow hB4 (Below.size hB2) _⟩
      · skip
        go_simp
        have hB2 := Below.alloc hB1 (Below.size hB1) (.cells (bvs zero32).toArray 34)
        have hz2 := BArr.new W1 34 zero32
        rw [← HE0.out] at hB2 hz2
        have hPa := (World.cell?_alloc_lt W1 (.cells #[.int .u8 0, .int .u8 0, .int .u8 0, .int .u8 0, .int .u8 0, .int .u8 0, .int .u8 0, .int .u8 0, .int .u8 0, .int .u8 0, .int .u8 0, .int .u8 0, .int .u8 0, .int .u8 0, .int .u8 0, .int .u8 0, .int .u8 0, .int .u8 0, .int .u8 0, .int .u8 0, .int .u8 0, .int .u8 0, .int .u8 0, .int .u8 0, .int .u8 0, .int .u8 0, .int .u8 0, .int .u8 0, .int .u8 0, .int .u8 0, .int .u8 0, .int .u8 0] 34) _ (World.block_lt_of_cell? _ _ hPc.1)).trans hPc.1
        have hPb := (World.cell?_alloc_lt W1 (.cells #[.int .u8 0, .int .u8 0, .int .u8 0, .int .u8 0, .int .u8 0, .int .u8 0, .int .u8 0, .int .u8 0, .int .u8 0, .int .u8 0, .int .u8 0, .int .u8 0, .int .u8 0, .int .u8 0, .int .u8 0, .int .u8 0, .int .u8 0, .int .u8 0, .int .u8 0, .int .u8 0, .int .u8 0, .int .u8 0, .int .u8 0, .int .u8 0, .int .u8 0, .int .u8 0, .int .u8 0, .int .u8 0, .int .u8 0, .int .u8 0, .int .u8 0, .int .u8 0] 34) _ (World.block_lt_of_cell? _ _ hPc.2)).trans hPc.2
        refine hK.out _ _ hB2 (fun _ => ?_)
        clear hK K
        try simp only [Act.put, List.setIfInBounds_toArray, List.set_cons_zero, List.set_cons_succ]
        generalize (W1.alloc (.cells #[.int .u8 0, .int .u8 0, .int .u8 0, .int .u8 0, .int .u8 0, .int .u8 0, .int .u8 0, .int .u8 0, .int .u8 0, .int .u8 0, .int .u8 0, .int .u8 0, .int .u8 0, .int .u8 0, .int .u8 0, .int .u8 0, .int .u8 0, .int .u8 0, .int .u8 0, .int .u8 0, .int .u8 0, .int .u8 0, .int .u8 0, .int .u8 0, .int .u8 0, .int .u8 0, .int .u8 0, .int .u8 0, .int .u8 0, .int .u8 0, .int .u8 0, .int .u8 0] 34)) = W2 at hB2 hz2 hPa hPb ⊢
        refine wpAnyH_ready (rs := [3]) (by kernel_rfl) (by simp) ?_
        refine' AllReadyH.cons (o := _) ?hibxy3 (fun K hK => ?_) AllReadyH.nil
        case hibxy3 => (simp only [List.getElem?_toArray, List.getElem?_cons_zero, List.getElem?_cons_succ]; rfl)
        go_simp
        go_at_call 33
        refine (CC.out _ _ hB2 hPa hPb).mono ?_
        rintro e W3 ⟨A3, c3, rfl, hi3, hc3, hB3, hb3⟩
        have hz3 := hz2.below hb3
        refine hK.out _ _ hB3 (fun _ => ?_)
        clear hK K
        try simp only [Act.put, List.setIfInBounds_toArray, List.set_cons_zero, List.set_cons_succ]
        refine wpAnyH_ready (rs := [4]) (by kernel_rfl) (by simp) ?_
        refine' AllReadyH.cons (o := _) ?hibxy4 (fun K hK => ?_) AllReadyH.nil
        case hibxy4 => (simp only [List.getElem?_toArray, List.getElem?_cons_zero, List.getElem?_cons_succ]; rfl)
        go_simp
        go_at_call 22
        refine (CO.out _ _ _ hB3 hi3 hc3).mono ?_
        rintro e W4 ⟨rfl, hB4, hb4⟩
        have hz4 := hz3.below hb4
        refine hK.out _ _ hB4 (fun _ => ?_)
        clear hK K
        try simp only [Act.put, List.setIfInBounds_toArray, List.set_cons_zero, List.set_cons_succ]
        have hZ3 : BArr _ _ 34 zero32 := hz4
        refine wpAnyH_ready (rs := [6]) (by kernel_rfl) (by simp) ?_
        refine' AllReadyH.cons (o := _) ?hibxy6 (fun K hK => ?_) AllReadyH.nil
        case hibxy6 => (simp only [List.getElem?_toArray, List.getElem?_cons_zero, List.getElem?_cons_succ]; rfl)
        go_simp
        refine hK.out _ _ (below_setRow hB4 (Below.size hB1) _) (fun _ => ?_)
        clear hK K
        refine wpAnyH_done (by kernel_rfl) ?_ _
        go_wp2_with fail
        go_meet
        case rel => exact ⟨_, rfl, Below.size hB1, hZ3.setRow mk, below_setRow hB4 (Below.size hB1) _⟩
    · skip
      go_simp
      have hB1 := Below.alloc hS0 (Below.size hS0) (.cells (bvs zero32).toArray 34)
      have hz1 := BArr.new w6 34 zero32
      rw [← HE0.out] at hB1 hz1
      refine hK.out _ _ hB1 (fun _ => ?_)
      clear hK K
      try simp only [Act.put, List.setIfInBounds_toArray, List.set_cons_zero, List.set_cons_succ]
      generalize (w6.alloc (.cells #[.int .u8 0, .int .u8 0, .int .u8 0, .int .u8 0, .int .u8 0, .int .u8 0, .int .u8 0, .int .u8 0, .int .u8 0, .int .u8 0, .int .u8 0, .int .u8 0, .int .u8 0, .int .u8 0, .int .u8 0, .int .u8 0, .int .u8 0, .int .u8 0, .int .u8 0, .int .u8 0, .int .u8 0, .int .u8 0, .int .u8 0, .int .u8 0, .int .u8 0, .int .u8 0, .int .u8 0, .int .u8 0, .int .u8 0, .int .u8 0, .int .u8 0, .int .u8 0] 34)) = W1 at hB1 hz1 ⊢
      refine wpAnyH_ready (rs := [2]) (by kernel_rfl) (by simp) ?_
      refine' AllReadyH.cons (o := _) ?hiby2 (fun K hK => ?_) AllReadyH.nil
      case hiby2 => (simp only [List.getElem?_toArray, List.getElem?_cons_zero, List.getElem?_cons_succ]; rfl)
      go_simp
      have hB2 := Below.alloc hB1 (Below.size hB1) (.cells #[.slice (some ⟨q + 1, 0, none⟩) 32 32, .slice (some ⟨q, 0, none⟩) 32 32] 22)
      have hPc := hpair_cells W1 (.slice (some ⟨q + 1, 0, none⟩) 32 32) (.slice (some ⟨q, 0, none⟩) 32 32) 22
      have hz2 := BArr.alloc hz1 (.cells #[.slice (some ⟨q + 1, 0, none⟩) 32 32, .slice (some ⟨q, 0, none⟩) 32 32] 22)
      refine hK.out _ _ hB2 (fun _ => ?_)
      clear hK K
      try simp only [Act.put, List.setIfInBounds_toArray, List.set_cons_zero, List.set_cons_succ]
      generalize (W1.alloc (.cells #[.slice (some ⟨q + 1, 0, none⟩) 32 32, .slice (some ⟨q, 0, none⟩) 32 32] 22)) = W2 at hB2 hPc hz2 ⊢
      refine wpAnyH_ready (rs := [3]) (by kernel_rfl) (by simp) ?_
      refine' AllReadyH.cons (o := _) ?hiby3 (fun K hK => ?_) AllReadyH.nil
      case hiby3 => (simp only [List.getElem?_toArray, List.getElem?_cons_zero, List.getElem?_cons_succ]; rfl)
      go_simp
      go_at_call 33
      refine (CC.out _ _ hB2 hPc.1 hPc.2).mono ?_
      rintro e W3 ⟨A3, c3, rfl, hi3, hc3, hB3, hb3⟩
      have hz3 := hz2.below hb3
      refine hK.out _ _ hB3 (fun _ => ?_)
      clear hK K
      try simp only [Act.put, List.setIfInBounds_toArray, List.set_cons_zero, List.set_cons_succ]
      refine wpAnyH_ready (rs := [4]) (by kernel_rfl) (by simp) ?_
      refine' AllReadyH.cons (o := _) ?hiby4 (fun K hK => ?_) AllReadyH.nil
      case hiby4 => (simp only [List.getElem?_toArray, List.getElem?_cons_zero, List.getElem?_cons_succ]; rfl)
      go_simp
      go_at_call 22
      refine (CO.out _ _ _ hB3 hi3 hc3).mono ?_
      rintro e W4 ⟨rfl, hB4, hb4⟩
      have hz4 := hz3.below hb4
      refine hK.out _ _ hB4 (fun _ => ?_)
      clear hK K
      try simp only [Act.put, List.setIfInBounds_toArray, List.set_cons_zero, List.set_cons_succ]
      have hZ3 : BArr _ _ 34 zero32 := hz4
      refine wpAnyH_ready (rs := [6]) (by kernel_rfl) (by simp) ?_
      refine' AllReadyH.cons (o := _) ?hiby6 (fun K hK => ?_) AllReadyH.nil
      case hiby6 => (simp only [List.getElem?_toArray, List.getElem?_cons_zero, List.getElem?_cons_succ]; rfl)
      go_simp
      refine hK.out _ _ (below_setRow hB4 (Below.size hS0) _) (fun _ => ?_)
      clear hK K
      refine wpAnyH_done (by kernel_rfl) ?_ _
      go_wp2_with fail
      go_meet
      case rel => exact ⟨_, rfl, Below.size hS0, hZ3.setRow mk, below_setRow hB4 (Below.size hS0) _⟩
  case rest =>
    obtain ⟨p, rfl, hpw, hp, hb7⟩ := hcut
    have H7 := Lib.hid (And.intro hp (And.intro (H5.out.1.below hb7) (below_on H5.out.2.2 (Nat.le_refl _) hb7)))
    clear hp hb7 H5
    have h7 := HH.out.1.below HH.out.2.1 H7.out.2.2
    have hgl := h7.lt
    have HC := Lib.hid h7
    clear h7
    go_upto_region 7 with fail
    go_cut [] from 27 to 41 (fun wx => ∃ v' u, Hid (HStep w wx g gf q v v' u E l b))
    case first =>
      have b8 : Below wc.heap.size wc wc.drew := (Below.refl _ _).drew
      refine wp_region_held_drew (S := fun W => BArr W q 34 s ∧ BArr W p 34 mk) (by kernel_rfl) ⟨H7.out.2.1.below b8, H7.out.1.below b8⟩ (fun hS0 => ?_)
      change wpAnyH _ _ _ _ _ _ _ _ wc.drew
      generalize wc.drew = w8 at hS0 b8 ⊢
      have bw8 := below_on H7.out.2.2 (Nat.le_refl _) b8
      have h8 := HH.out.1.below HH.out.2.1 bw8
      have c18 := h8.c1
      have hbl : b.length = n := HH.out.2.2.1.in_.len
      have CL := Lib.hid (clone_b A n c b w8 (HH.out.2.2.1.in_.below bw8) HH.out.2.2.1.nil HH.out.2.2.1.cap (by omega))
      have H8 := Lib.hid (And.intro h8 (And.intro bw8 hbl))
      have l6 : l.length ≤ 60000 := by rw [HL.out.2.2.2.1]; exact L6
      have hqw : w.heap.size ≤ q := Nat.le_trans g5w.out (Nat.le_refl _)
      have hpw2 : w.heap.size ≤ p := Nat.le_trans w5w.out hpw
      obtain ⟨i0, hi, hz0, hz1, hz2⟩ := info_parts infoEnt
      clear h8 hbl b8
      refine' wpAnyH_take (i := 0) (oi := _) (v := _) ?hie0 (by kernel_rfl) ?hfe0 ?hre0 ?hQe0 ?hye0 hS0 ?reste0
      case hie0 => (simp only [List.getElem?_toArray, List.getElem?_cons_zero]; rfl)
      case hfe0 => kernel_rfl
      case hre0 => kernel_rfl
      case hQe0 => exact fun _ _ _ h => h
      case hye0 => refine Or.inl ⟨by rfl, ?_⟩; intro W hSw; go_simp; try with_reducible rfl
      try simp only [Act.put, List.setIfInBounds_toArray, List.set_cons_zero, List.set_cons_succ]
      refine' wpAnyH_take (i := 1) (oi := _) (v := _) ?hie1 (by kernel_rfl) ?hfe1 ?hre1 ?hQe1 ?hye1 hS0 ?reste1
      case hie1 => (simp only [List.getElem?_toArray, List.getElem?_cons_zero, List.getElem?_cons_succ]; rfl)
      case hfe1 => kernel_rfl
      case hre1 => kernel_rfl
      case hQe1 => exact fun _ _ _ h => h
      case hye1 => refine Or.inl ⟨by rfl, ?_⟩; intro W hSw; go_simp; try with_reducible rfl
      try simp only [Act.put, List.setIfInBounds_toArray, List.set_cons_zero, List.set_cons_succ]
      refine' wpAnyH_take (i := 2) (oi := _) (v := _) ?hie2 (by kernel_rfl) ?hfe2 ?hre2 ?hQe2 ?hye2 hS0 ?reste2
      case hie2 => (simp only [List.getElem?_toArray, List.getElem?_cons_zero, List.getElem?_cons_succ]; rfl)
      case hfe2 => kernel_rfl
      case hre2 => kernel_rfl
      case hQe2 => exact fun _ _ _ h => h
      case hye2 => refine Or.inl ⟨by rfl, ?_⟩; intro W hSw; go_simp; try with_reducible rfl
      try simp only [Act.put, List.setIfInBounds_toArray, List.set_cons_zero, List.set_cons_succ]
      refine' wpAnyH_take (i := 3) (oi := _) (v := _) ?hie3 (by kernel_rfl) ?hfe3 ?hre3 ?hQe3 ?hye3 hS0 ?reste3
      case hie3 => (simp only [List.getElem?_toArray, List.getElem?_cons_zero, List.getElem?_cons_succ]; rfl)
      case hfe3 => kernel_rfl
      case hre3 => kernel_rfl
      case hQe3 => exact fun _ _ _ h => h
      case hye3 => refine Or.inl ⟨by rfl, ?_⟩; intro W hSw; go_simp; try with_reducible rfl
      try simp only [Act.put, List.setIfInBounds_toArray, List.set_cons_zero, List.set_cons_succ]
      refine' wpAnyH_take (i := 5) (oi := _) (v := sv s) ?hie5 (by kernel_rfl) ?hfe5 ?hre5 ?hQe5 ?hye5 hS0 ?reste5
      case hie5 => (simp only [List.getElem?_toArray, List.getElem?_cons_zero, List.getElem?_cons_succ]; rfl)
      case hfe5 => kernel_rfl
      case hre5 => kernel_rfl
      case hQe5 => exact fun _ _ _ h => h
      case hye5 => refine yields_sum ?_ (.tmp 5) rfl ⟨q, 0, none⟩ rfl s hsl (fun W hSw => hSw.1.at_); rfl
      try simp only [Act.put, List.setIfInBounds_toArray, List.set_cons_zero, List.set_cons_succ]
      refine' wpAnyH_take (i := 6) (oi := _) (v := sv mk) ?hie6 (by kernel_rfl) ?hfe6 ?hre6 ?hQe6 ?hye6 hS0 ?reste6
      case hie6 => (simp only [List.getElem?_toArray, List.getElem?_cons_zero, List.getElem?_cons_succ]; rfl)
      case hfe6 => kernel_rfl
      case hre6 => kernel_rfl
      case hQe6 => exact fun _ _ _ h => h
      case hye6 => refine yields_sum ?_ (.tmp 7) rfl ⟨p, 0, none⟩ rfl mk hkl (fun W hSw => hSw.2.at_); rfl
      try simp only [Act.put, List.setIfInBounds_toArray, List.set_cons_zero, List.set_cons_succ]
      refine' wpAnyH_take (i := 7) (oi := _) (v := .agg (bvs s ++ bvs mk).toArray) ?hie7 (by kernel_rfl) ?hfe7 ?hre7 ?hQe7 ?hye7 hS0 ?reste7
      case hie7 => (simp only [List.getElem?_toArray, List.getElem?_cons_zero, List.getElem?_cons_succ]; rfl)
      case hfe7 => kernel_rfl
      case hre7 => kernel_rfl
      case hQe7 => exact fun _ _ _ h => h
      case hye7 => refine yields_build_sums ?_ (.tmp 32) (.tmp 33) rfl s mk rfl rfl hsl hkl; rfl
      try simp only [Act.put, List.setIfInBounds_toArray, List.set_cons_zero, List.set_cons_succ]
      refine' wpAnyH_take (i := 8) (oi := _) (v := _) ?hie8 (by kernel_rfl) ?hfe8 ?hre8 ?hQe8 ?hye8 hS0 ?reste8
      case hie8 => (simp only [List.getElem?_toArray, List.getElem?_cons_zero, List.getElem?_cons_succ]; rfl)
      case hfe8 => kernel_rfl
      case hre8 => kernel_rfl
      case hQe8 => exact fun _ _ _ h => h
      case hye8 => refine Or.inl ⟨by rfl, ?_⟩; intro W hSw; go_simp; try with_reducible rfl
      try simp only [Act.put, List.setIfInBounds_toArray, List.set_cons_zero, List.set_cons_succ]
      refine wpAnyH_ready (rs := [4, 9]) (by kernel_rfl) (by simp) ?_
      refine' AllReadyH.cons (o := _) ?hie4 (fun K hK => ?_) (AllReadyH.cons (o := _) ?hie9 (fun K hK => ?_) AllReadyH.nil)
      case hie4 => (simp only [List.getElem?_toArray, List.getElem?_cons_zero, List.getElem?_cons_succ]; rfl)
      case hie9 => (simp only [List.getElem?_toArray, List.getElem?_cons_zero, List.getElem?_cons_succ]; rfl)
      · skip
        go_simp
        refine hK.out _ _ hS0 (fun _ => ?_)
        clear hK K
        try simp only [Act.put, List.setIfInBounds_toArray, List.set_cons_zero, List.set_cons_succ]
        refine wpAnyH_ready (rs := [9]) (by kernel_rfl) (by simp) ?_
        refine' AllReadyH.cons (o := _) ?hif9 (fun K hK => ?_) AllReadyH.nil
        case hif9 => (simp only [List.getElem?_toArray, List.getElem?_cons_zero, List.getElem?_cons_succ]; rfl)
        go_simp
        go_at_call 24
        refine CL.out.mono ?_
        rintro e W9 ⟨u, rfl, ho9, hb9⟩
        obtain ⟨B, d, rfl⟩ := own_form ho9
        have hS9 : BArr W9 q 34 s ∧ BArr W9 p 34 mk := ⟨hS0.1.below hb9, hS0.2.below hb9⟩
        have c19 : W9.cell? ⟨g, 1, none⟩ = some v := (hb9.cell (World.block_lt_of_cell? _ _ c18)).trans c18
        have h9 := H8.out.1.below (fun x hx => Nat.lt_of_lt_of_le (HH.out.2.1 x hx) H8.out.2.1.size) hb9
        have H9 := Lib.hid (And.intro ho9 (And.intro (below_on H8.out.2.1 (Nat.le_refl _) hb9) h9))
        clear ho9 hb9 h9
        refine hK.out _ _ hS9 (fun _ => ?_)
        clear hK K
        try simp only [Act.put, List.setIfInBounds_toArray, List.set_cons_zero, List.set_cons_succ]
        refine' wpAnyH_take (i := 10) (oi := _) (v := .agg (ecell s mk (.slice B n d)).toArray) ?hif10 (by kernel_rfl) ?hff10 ?hrf10 ?hQf10 ?hyf10 hS9 ?restf10
        case hif10 => (simp only [List.getElem?_toArray, List.getElem?_cons_zero, List.getElem?_cons_succ]; rfl)
        case hff10 => kernel_rfl
        case hrf10 => kernel_rfl
        case hQf10 => exact fun _ _ _ h => h
        case hyf10 => refine yields_build_ent ?_ (.tmp 34) (.tmp 36) rfl s mk B n d rfl rfl hsl hkl; rfl
        try simp only [Act.put, List.setIfInBounds_toArray, List.set_cons_zero, List.set_cons_succ]
        refine wpAnyH_ready (rs := [11]) (by kernel_rfl) (by simp) ?_
        refine' AllReadyH.cons (o := _) ?hif11 (fun K hK => ?_) AllReadyH.nil
        case hif11 => (simp only [List.getElem?_toArray, List.getElem?_cons_zero, List.getElem?_cons_succ]; rfl)
        rw [if_pos (by rfl)]
        have hel : (ecell s mk (.slice B n d)).length = 65 := ecell_length hsl hkl _
        have hSa : BArr (W9.alloc (Obj.cells (ecell s mk (.slice B n d)).toArray 60)) q 34 s ∧ BArr (W9.alloc (Obj.cells (ecell s mk (.slice B n d)).toArray 60)) p 34 mk := ⟨hS9.1.alloc _, hS9.2.alloc _⟩
        have hrow := own_block (w' := (W9.alloc (Obj.cells (ecell s mk (.slice B n d)).toArray 60))) H9.out.2.2.row (fun x hx => heap_alloc_old W9 _ (own_lt H9.out.2.2.row hx))
        have hnews := World.news_of_block (w := (W9.alloc (Obj.cells (ecell s mk (.slice B n d)).toArray 60))) (World.alloc_heap_new W9 _)
        have szA : (W9.alloc (Obj.cells (ecell s mk (.slice B n d)).toArray 60)).heap.size = W9.heap.size + 1 := World.size_alloc _ _
        have hg9 : g < W9.heap.size := World.block_lt_of_cell? _ _ c19
        have ca : (W9.alloc (Obj.cells (ecell s mk (.slice B n d)).toArray 60)).cell? ⟨g, 1, none⟩ = some v := (World.cell?_alloc_lt _ _ _ hg9).trans c19
        have fa : (W9.alloc (Obj.cells (ecell s mk (.slice B n d)).toArray 60)).frozen? ⟨g, 1, none⟩ = false := (World.frozen?_alloc_past _ _ _ hg9).trans (H9.out.2.2.fz 1)
        have hvq : v.ownBlock ≠ some q := fun e => by have := own_lt HH.out.1.row e; omega
        have hvp : v.ownBlock ≠ some p := fun e => by have := own_lt HH.out.1.row e; omega
        have hvg : v.ownBlock ≠ some g := fun e => by
          obtain ⟨cur, hc⟩ := own_type HH.out.1.row e
          exact hblock_ne HH.out.1.head hc tne_ce rfl
        have hgA : g < (W9.alloc (Obj.cells (ecell s mk (.slice B n d)).toArray 60)).heap.size := by omega
        refine wp_one 26 60 (.tmp 37) rfl i0 _ 65 (ecell s mk (.slice B n d)) rfl Tryd.underlying26 hi hz0 hz1 (by decide) (by decide) hel ?_
        refine hK.out _ _ hSa (fun _ => ?_)
        clear hK K
        try simp only [Act.put, List.setIfInBounds_toArray, List.set_cons_zero, List.set_cons_succ]
        refine wpAnyH_ready (rs := [12]) (by kernel_rfl) (by simp) ?_
        refine' AllReadyH.cons (o := _) ?hif12 (fun K hK => ?_) AllReadyH.nil
        case hif12 => (simp only [List.getElem?_toArray, List.getElem?_cons_zero, List.getElem?_cons_succ]; rfl)
        refine step_append_lies _ (by rfl) _ _ _ (by rfl) 0 60 i0 _ 65 88 Tryd.underlying26 hi hz0 hz1 hz2 (by rfl) (by decide) v l.length E.flatten (by rfl) hrow ⟨W9.heap.size, 0, none⟩ 1 1 (ecell s mk (.slice B n d)) (by rfl) (by rw [hel]) hnews (ecell_one rfl) (by decide) (by unfold maxLen; omega) (by omega) (Nat.zero_le _) _ rfl ?_
        intro gg cap w12 hown hgrow hat hlt
        have c12 : w12.cell? ⟨g, 1, none⟩ = some v := (hgrow.cell_far _ hgA (fun e => hvg e.symm)).trans ca
        have f12 : w12.frozen? ⟨g, 1, none⟩ = false := (hgrow.frozen_far _ hgA (fun e => hvg e.symm)).trans fa
        have hS12 : BArr w12 q 34 s ∧ BArr w12 p 34 mk := ⟨(hgrow.block q hSa.1.lt (fun e => hvq e.symm)).trans hSa.1, (hgrow.block p hSa.2.lt (fun e => hvp e.symm)).trans hSa.2⟩
        have hgq : g ≠ q := by omega
        have hgp : g ≠ p := by omega
        refine hK.out _ _ hS12 (fun _ => ?_)
        clear hK K
        try simp only [Act.put, List.setIfInBounds_toArray, List.set_cons_zero, List.set_cons_succ]
        refine' wpAnyH_take (i := 13) (oi := _) (v := _) ?hif13 (by kernel_rfl) ?hff13 ?hrf13 ?hQf13 ?hyf13 hS12 ?restf13
        case hif13 => (simp only [List.getElem?_toArray, List.getElem?_cons_zero, List.getElem?_cons_succ]; rfl)
        case hff13 => kernel_rfl
        case hrf13 => kernel_rfl
        case hQf13 => exact fun _ _ _ h => h
        case hyf13 => refine Or.inl ⟨by rfl, ?_⟩; intro W hSw; go_simp; try with_reducible rfl
        try simp only [Act.put, List.setIfInBounds_toArray, List.set_cons_zero, List.set_cons_succ]
        refine' wpAnyH_take (i := 14) (oi := _) (v := _) ?hif14 (by kernel_rfl) ?hff14 ?hrf14 ?hQf14 ?hyf14 hS12 ?restf14
        case hif14 => (simp only [List.getElem?_toArray, List.getElem?_cons_zero, List.getElem?_cons_succ]; rfl)
        case hff14 => kernel_rfl
        case hrf14 => kernel_rfl
        case hQf14 => exact fun _ _ _ h => h
        case hyf14 => refine Or.inl ⟨by rfl, ?_⟩; intro W hSw; go_simp; try with_reducible rfl
        try simp only [Act.put, List.setIfInBounds_toArray, List.set_cons_zero, List.set_cons_succ]
        refine wpAnyH_ready (rs := [15]) (by kernel_rfl) (by simp) ?_
        refine' AllReadyH.cons (o := _) ?hif15 (fun K hK => ?_) AllReadyH.nil
        case hif15 => (simp only [List.getElem?_toArray, List.getElem?_cons_zero, List.getElem?_cons_succ]; rfl)
        go_simp
        refine hK.out _ _ ⟨hS12.1.other _ _ (fun e => hgq e.symm), hS12.2.other _ _ (fun e => hgp e.symm)⟩ (fun _ => ?_)
        clear hK K
        refine wpAnyH_done (by kernel_rfl) ?_ _
        go_wp2_with fail
        go_meet
        case rel =>
          have ho9 := own_base H9.out.1
          rw [← H8.out.2.2] at ho9
          have e1 : leafL b = s := HL.out.1
          have e2 : markL (l ++ [b]) = mk := HL.out.2.2.1
          refine ⟨_, .slice B b.length d, Lib.hid (hstep_of (cs := (ecell s mk (.slice B n d)).toArray) HH.out.1 H9.out.2.1 ho9 (fun x hx => Nat.le_trans H8.out.2.1.size (H9.out.1.lt x (by rw [H8.out.2.2] at hx; exact hx)).1) (by rw [e1]; exact hS9.1) hqw ?_ hgrow hat)⟩
          rw [e1, e2, H8.out.2.2]
          exact hown
      · skip
        go_simp
        go_at_call 24
        refine CL.out.mono ?_
        rintro e W9 ⟨u, rfl, ho9, hb9⟩
        obtain ⟨B, d, rfl⟩ := own_form ho9
        have hS9 : BArr W9 q 34 s ∧ BArr W9 p 34 mk := ⟨hS0.1.below hb9, hS0.2.below hb9⟩
        have c19 : W9.cell? ⟨g, 1, none⟩ = some v := (hb9.cell (World.block_lt_of_cell? _ _ c18)).trans c18
        have h9 := H8.out.1.below (fun x hx => Nat.lt_of_lt_of_le (HH.out.2.1 x hx) H8.out.2.1.size) hb9
        have H9 := Lib.hid (And.intro ho9 (And.intro (below_on H8.out.2.1 (Nat.le_refl _) hb9) h9))
        clear ho9 hb9 h9
        refine hK.out _ _ hS9 (fun _ => ?_)
        clear hK K
        try simp only [Act.put, List.setIfInBounds_toArray, List.set_cons_zero, List.set_cons_succ]
        refine' wpAnyH_take (i := 10) (oi := _) (v := .agg (ecell s mk (.slice B n d)).toArray) ?hig10 (by kernel_rfl) ?hfg10 ?hrg10 ?hQg10 ?hyg10 hS9 ?restg10
        case hig10 => (simp only [List.getElem?_toArray, List.getElem?_cons_zero, List.getElem?_cons_succ]; rfl)
        case hfg10 => kernel_rfl
        case hrg10 => kernel_rfl
        case hQg10 => exact fun _ _ _ h => h
        case hyg10 => refine yields_build_ent ?_ (.tmp 34) (.tmp 36) rfl s mk B n d rfl rfl hsl hkl; rfl
        try simp only [Act.put, List.setIfInBounds_toArray, List.set_cons_zero, List.set_cons_succ]
        refine wpAnyH_ready (rs := [4, 11]) (by kernel_rfl) (by simp) ?_
        refine' AllReadyH.cons (o := _) ?hig4 (fun K hK => ?_) (AllReadyH.cons (o := _) ?hig11 (fun K hK => ?_) AllReadyH.nil)
        case hig4 => (simp only [List.getElem?_toArray, List.getElem?_cons_zero, List.getElem?_cons_succ]; rfl)
        case hig11 => (simp only [List.getElem?_toArray, List.getElem?_cons_zero, List.getElem?_cons_succ]; rfl)
        · skip
          go_simp
          refine hK.out _ _ hS9 (fun _ => ?_)
          clear hK K
          try simp only [Act.put, List.setIfInBounds_toArray, List.set_cons_zero, List.set_cons_succ]
          refine wpAnyH_ready (rs := [11]) (by kernel_rfl) (by simp) ?_
          refine' AllReadyH.cons (o := _) ?hih11 (fun K hK => ?_) AllReadyH.nil
          case hih11 => (simp only [List.getElem?_toArray, List.getElem?_cons_zero, List.getElem?_cons_succ]; rfl)
          rw [if_pos (by rfl)]
          have hel : (ecell s mk (.slice B n d)).length = 65 := ecell_length hsl hkl _
          have hSa : BArr (W9.alloc (Obj.cells (ecell s mk (.slice B n d)).toArray 60)) q 34 s ∧ BArr (W9.alloc (Obj.cells (ecell s mk (.slice B n d)).toArray 60)) p 34 mk := ⟨hS9.1.alloc _, hS9.2.alloc _⟩
          have hrow := own_block (w' := (W9.alloc (Obj.cells (ecell s mk (.slice B n d)).toArray 60))) H9.out.2.2.row (fun x hx => heap_alloc_old W9 _ (own_lt H9.out.2.2.row hx))
          have hnews := World.news_of_block (w := (W9.alloc (Obj.cells (ecell s mk (.slice B n d)).toArray 60))) (World.alloc_heap_new W9 _)
          have szA : (W9.alloc (Obj.cells (ecell s mk (.slice B n d)).toArray 60)).heap.size = W9.heap.size + 1 := World.size_alloc _ _
          have hg9 : g < W9.heap.size := World.block_lt_of_cell? _ _ c19
          have ca : (W9.alloc (Obj.cells (ecell s mk (.slice B n d)).toArray 60)).cell? ⟨g, 1, none⟩ = some v := (World.cell?_alloc_lt _ _ _ hg9).trans c19
          have fa : (W9.alloc (Obj.cells (ecell s mk (.slice B n d)).toArray 60)).frozen? ⟨g, 1, none⟩ = false := (World.frozen?_alloc_past _ _ _ hg9).trans (H9.out.2.2.fz 1)
          have hvq : v.ownBlock ≠ some q := fun e => by have := own_lt HH.out.1.row e; omega
          have hvp : v.ownBlock ≠ some p := fun e => by have := own_lt HH.out.1.row e; omega
          have hvg : v.ownBlock ≠ some g := fun e => by
            obtain ⟨cur, hc⟩ := own_type HH.out.1.row e
            exact hblock_ne HH.out.1.head hc tne_ce rfl
          have hgA : g < (W9.alloc (Obj.cells (ecell s mk (.slice B n d)).toArray 60)).heap.size := by omega
          refine wp_one 26 60 (.tmp 37) rfl i0 _ 65 (ecell s mk (.slice B n d)) rfl Tryd.underlying26 hi hz0 hz1 (by decide) (by decide) hel ?_
          refine hK.out _ _ hSa (fun _ => ?_)
          clear hK K
          try simp only [Act.put, List.setIfInBounds_toArray, List.set_cons_zero, List.set_cons_succ]
          refine wpAnyH_ready (rs := [12]) (by kernel_rfl) (by simp) ?_
          refine' AllReadyH.cons (o := _) ?hih12 (fun K hK => ?_) AllReadyH.nil
          case hih12 => (simp only [List.getElem?_toArray, List.getElem?_cons_zero, List.getElem?_cons_succ]; rfl)
          refine step_append_lies _ (by rfl) _ _ _ (by rfl) 0 60 i0 _ 65 88 Tryd.underlying26 hi hz0 hz1 hz2 (by rfl) (by decide) v l.length E.flatten (by rfl) hrow ⟨W9.heap.size, 0, none⟩ 1 1 (ecell s mk (.slice B n d)) (by rfl) (by rw [hel]) hnews (ecell_one rfl) (by decide) (by unfold maxLen; omega) (by omega) (Nat.zero_le _) _ rfl ?_
          intro gg cap w12 hown hgrow hat hlt
          have c12 : w12.cell? ⟨g, 1, none⟩ = some v := (hgrow.cell_far _ hgA (fun e => hvg e.symm)).trans ca
          have f12 : w12.frozen? ⟨g, 1, none⟩ = false := (hgrow.frozen_far _ hgA (fun e => hvg e.symm)).trans fa
          have hS12 : BArr w12 q 34 s ∧ BArr w12 p 34 mk := ⟨(hgrow.block q hSa.1.lt (fun e => hvq e.symm)).trans hSa.1, (hgrow.block p hSa.2.lt (fun e => hvp e.symm)).trans hSa.2⟩
          have hgq : g ≠ q := by omega
          have hgp : g ≠ p := by omega
          refine hK.out _ _ hS12 (fun _ => ?_)
          clear hK K
          try simp only [Act.put, List.setIfInBounds_toArray, List.set_cons_zero, List.set_cons_succ]
          refine' wpAnyH_take (i := 13) (oi := _) (v := _) ?hih13 (by kernel_rfl) ?hfh13 ?hrh13 ?hQh13 ?hyh13 hS12 ?resth13
          case hih13 => (simp only [List.getElem?_toArray, List.getElem?_cons_zero, List.getElem?_cons_succ]; rfl)
          case hfh13 => kernel_rfl
          case hrh13 => kernel_rfl
          case hQh13 => exact fun _ _ _ h => h
          case hyh13 => refine Or.inl ⟨by rfl, ?_⟩; intro W hSw; go_simp; try with_reducible rfl
          try simp only [Act.put, List.setIfInBounds_toArray, List.set_cons_zero, List.set_cons_succ]
          refine' wpAnyH_take (i := 14) (oi := _) (v := _) ?hih14 (by kernel_rfl) ?hfh14 ?hrh14 ?hQh14 ?hyh14 hS12 ?resth14
          case hih14 => (simp only [List.getElem?_toArray, List.getElem?_cons_zero, List.getElem?_cons_succ]; rfl)
          case hfh14 => kernel_rfl
          case hrh14 => kernel_rfl
          case hQh14 => exact fun _ _ _ h => h
          case hyh14 => refine Or.inl ⟨by rfl, ?_⟩; intro W hSw; go_simp; try with_reducible rfl
          try simp only [Act.put, List.setIfInBounds_toArray, List.set_cons_zero, List.set_cons_succ]
          refine wpAnyH_ready (rs := [15]) (by kernel_rfl) (by simp) ?_
          refine' AllReadyH.cons (o := _) ?hih15 (fun K hK => ?_) AllReadyH.nil
          case hih15 => (simp only [List.getElem?_toArray, List.getElem?_cons_zero, List.getElem?_cons_succ]; rfl)
          go_simp
          refine hK.out _ _ ⟨hS12.1.other _ _ (fun e => hgq e.symm), hS12.2.other _ _ (fun e => hgp e.symm)⟩ (fun _ => ?_)
          clear hK K
          refine wpAnyH_done (by kernel_rfl) ?_ _
          go_wp2_with fail
          go_meet
          case rel =>
            have ho9 := own_base H9.out.1
            rw [← H8.out.2.2] at ho9
            have e1 : leafL b = s := HL.out.1
            have e2 : markL (l ++ [b]) = mk := HL.out.2.2.1
            refine ⟨_, .slice B b.length d, Lib.hid (hstep_of (cs := (ecell s mk (.slice B n d)).toArray) HH.out.1 H9.out.2.1 ho9 (fun x hx => Nat.le_trans H8.out.2.1.size (H9.out.1.lt x (by rw [H8.out.2.2] at hx; exact hx)).1) (by rw [e1]; exact hS9.1) hqw ?_ hgrow hat)⟩
            rw [e1, e2, H8.out.2.2]
            exact hown
        · skip
          rw [if_pos (by rfl)]
          have hel : (ecell s mk (.slice B n d)).length = 65 := ecell_length hsl hkl _
          have hSa : BArr (W9.alloc (Obj.cells (ecell s mk (.slice B n d)).toArray 60)) q 34 s ∧ BArr (W9.alloc (Obj.cells (ecell s mk (.slice B n d)).toArray 60)) p 34 mk := ⟨hS9.1.alloc _, hS9.2.alloc _⟩
          have hrow := own_block (w' := (W9.alloc (Obj.cells (ecell s mk (.slice B n d)).toArray 60))) H9.out.2.2.row (fun x hx => heap_alloc_old W9 _ (own_lt H9.out.2.2.row hx))
          have hnews := World.news_of_block (w := (W9.alloc (Obj.cells (ecell s mk (.slice B n d)).toArray 60))) (World.alloc_heap_new W9 _)
          have szA : (W9.alloc (Obj.cells (ecell s mk (.slice B n d)).toArray 60)).heap.size = W9.heap.size + 1 := World.size_alloc _ _
          have hg9 : g < W9.heap.size := World.block_lt_of_cell? _ _ c19
          have ca : (W9.alloc (Obj.cells (ecell s mk (.slice B n d)).toArray 60)).cell? ⟨g, 1, none⟩ = some v := (World.cell?_alloc_lt _ _ _ hg9).trans c19
          have fa : (W9.alloc (Obj.cells (ecell s mk (.slice B n d)).toArray 60)).frozen? ⟨g, 1, none⟩ = false := (World.frozen?_alloc_past _ _ _ hg9).trans (H9.out.2.2.fz 1)
          have hvq : v.ownBlock ≠ some q := fun e => by have := own_lt HH.out.1.row e; omega
          have hvp : v.ownBlock ≠ some p := fun e => by have := own_lt HH.out.1.row e; omega
          have hvg : v.ownBlock ≠ some g := fun e => by
            obtain ⟨cur, hc⟩ := own_type HH.out.1.row e
            exact hblock_ne HH.out.1.head hc tne_ce rfl
          have hgA : g < (W9.alloc (Obj.cells (ecell s mk (.slice B n d)).toArray 60)).heap.size := by omega
          refine wp_one 26 60 (.tmp 37) rfl i0 _ 65 (ecell s mk (.slice B n d)) rfl Tryd.underlying26 hi hz0 hz1 (by decide) (by decide) hel ?_
          refine hK.out _ _ hSa (fun _ => ?_)
          clear hK K
          try simp only [Act.put, List.setIfInBounds_toArray, List.set_cons_zero, List.set_cons_succ]
          refine wpAnyH_ready (rs := [4]) (by kernel_rfl) (by simp) ?_
          refine' AllReadyH.cons (o := _) ?hii4 (fun K hK => ?_) AllReadyH.nil
          case hii4 => (simp only [List.getElem?_toArray, List.getElem?_cons_zero, List.getElem?_cons_succ]; rfl)
          go_simp
          refine hK.out _ _ hSa (fun _ => ?_)
          clear hK K
          try simp only [Act.put, List.setIfInBounds_toArray, List.set_cons_zero, List.set_cons_succ]
          refine wpAnyH_ready (rs := [12]) (by kernel_rfl) (by simp) ?_
          refine' AllReadyH.cons (o := _) ?hii12 (fun K hK => ?_) AllReadyH.nil
          case hii12 => (simp only [List.getElem?_toArray, List.getElem?_cons_zero, List.getElem?_cons_succ]; rfl)
          refine step_append_lies _ (by rfl) _ _ _ (by rfl) 0 60 i0 _ 65 88 Tryd.underlying26 hi hz0 hz1 hz2 (by rfl) (by decide) v l.length E.flatten (by rfl) hrow ⟨W9.heap.size, 0, none⟩ 1 1 (ecell s mk (.slice B n d)) (by rfl) (by rw [hel]) hnews (ecell_one rfl) (by decide) (by unfold maxLen; omega) (by omega) (Nat.zero_le _) _ rfl ?_
          intro gg cap w12 hown hgrow hat hlt
          have c12 : w12.cell? ⟨g, 1, none⟩ = some v := (hgrow.cell_far _ hgA (fun e => hvg e.symm)).trans ca
          have f12 : w12.frozen? ⟨g, 1, none⟩ = false := (hgrow.frozen_far _ hgA (fun e => hvg e.symm)).trans fa
          have hS12 : BArr w12 q 34 s ∧ BArr w12 p 34 mk := ⟨(hgrow.block q hSa.1.lt (fun e => hvq e.symm)).trans hSa.1, (hgrow.block p hSa.2.lt (fun e => hvp e.symm)).trans hSa.2⟩
          have hgq : g ≠ q := by omega
          have hgp : g ≠ p := by omega
          refine hK.out _ _ hS12 (fun _ => ?_)
          clear hK K
          try simp only [Act.put, List.setIfInBounds_toArray, List.set_cons_zero, List.set_cons_succ]
          refine' wpAnyH_take (i := 13) (oi := _) (v := _) ?hii13 (by kernel_rfl) ?hfi13 ?hri13 ?hQi13 ?hyi13 hS12 ?resti13
          case hii13 => (simp only [List.getElem?_toArray, List.getElem?_cons_zero, List.getElem?_cons_succ]; rfl)
          case hfi13 => kernel_rfl
          case hri13 => kernel_rfl
          case hQi13 => exact fun _ _ _ h => h
          case hyi13 => refine Or.inl ⟨by rfl, ?_⟩; intro W hSw; go_simp; try with_reducible rfl
          try simp only [Act.put, List.setIfInBounds_toArray, List.set_cons_zero, List.set_cons_succ]
          refine' wpAnyH_take (i := 14) (oi := _) (v := _) ?hii14 (by kernel_rfl) ?hfi14 ?hri14 ?hQi14 ?hyi14 hS12 ?resti14
          case hii14 => (simp only [List.getElem?_toArray, List.getElem?_cons_zero, List.getElem?_cons_succ]; rfl)
          case hfi14 => kernel_rfl
          case hri14 => kernel_rfl
          case hQi14 => exact fun _ _ _ h => h
          case hyi14 => refine Or.inl ⟨by rfl, ?_⟩; intro W hSw; go_simp; try with_reducible rfl
          try simp only [Act.put, List.setIfInBounds_toArray, List.set_cons_zero, List.set_cons_succ]
          refine wpAnyH_ready (rs := [15]) (by kernel_rfl) (by simp) ?_
          refine' AllReadyH.cons (o := _) ?hii15 (fun K hK => ?_) AllReadyH.nil
          case hii15 => (simp only [List.getElem?_toArray, List.getElem?_cons_zero, List.getElem?_cons_succ]; rfl)
          go_simp
          refine hK.out _ _ ⟨hS12.1.other _ _ (fun e => hgq e.symm), hS12.2.other _ _ (fun e => hgp e.symm)⟩ (fun _ => ?_)
          clear hK K
          refine wpAnyH_done (by kernel_rfl) ?_ _
          go_wp2_with fail
          go_meet
          case rel =>
            have ho9 := own_base H9.out.1
            rw [← H8.out.2.2] at ho9
            have e1 : leafL b = s := HL.out.1
            have e2 : markL (l ++ [b]) = mk := HL.out.2.2.1
            refine ⟨_, .slice B b.length d, Lib.hid (hstep_of (cs := (ecell s mk (.slice B n d)).toArray) HH.out.1 H9.out.2.1 ho9 (fun x hx => Nat.le_trans H8.out.2.1.size (H9.out.1.lt x (by rw [H8.out.2.2] at hx; exact hx)).1) (by rw [e1]; exact hS9.1) hqw ?_ hgrow hat)⟩
            rw [e1, e2, H8.out.2.2]
            exact hown
    case rest =>
      obtain ⟨v', u, HT⟩ := hcut
      have c0 : wc.cell? ⟨g, 0, none⟩ = some (.pointer (some ⟨gf, 0, none⟩)) := by rw [cell_of_row _ g 0 _ _ (0, 0) HT.out.head]; rfl
      go_upto_region 8 with fail
      have b8 : Below wc.heap.size wc wc.drew := (Below.refl _ _).drew
      have HT8 := Lib.hid (HT.out.below b8)
      refine wp_region_held_drew (S := fun W => BArr W q 34 s ∧ W.cell? ⟨g, 0, none⟩ = some (.pointer (some ⟨gf, 0, none⟩))) (by kernel_rfl) ⟨HL.out.1 ▸ HT8.out.leaf, c0⟩ (fun hS0 => ?_)
      change wpAnyH _ _ _ _ _ _ _ _ wc.drew
      generalize wc.drew = w8 at hS0 b8 HT8 ⊢
      have l6 : l.length ≤ 60000 := by rw [HL.out.2.2.2.1]; exact L6
      have hk8 : Knows w8 := HH.out.2.2.2.1.but HT8.out.but (fun e => e.elim (fun e => (ha _ HH.out.1.gg).1 e.symm) (fun e => (ha _ (HH.out.1.gv _ e)).1 rfl))
      have hs8 : Starts w8 := HH.out.2.2.2.2.but HT8.out.but (fun e => e.elim (fun e => (ha _ HH.out.1.gg).2 e.symm) (fun e => (ha _ (HH.out.1.gv _ e)).2 rfl))
      have CF0 := add_front_at (HT8.out.front2 HH.out.1 HH.out.2.1) (lf32 _ _) (by omega) hk8 hs8
      rw [lf_snoc, HL.out.1] at CF0
      have CF := Lib.hid CF0
      have hggf : g ≠ gf := hblock_ne HH.out.1.head HH.out.1.front.row tne_cf
      have hqgf : q ≠ gf := fun e => by have := HH.out.1.front.lt; have := g5w.out; omega
      clear CF0 hk8 hs8
      refine' wpAnyH_take (i := 0) (oi := _) (v := _) ?hik0 (by kernel_rfl) ?hfk0 ?hrk0 ?hQk0 ?hyk0 hS0 ?restk0
      case hik0 => (simp only [List.getElem?_toArray, List.getElem?_cons_zero]; rfl)
      case hfk0 => kernel_rfl
      case hrk0 => kernel_rfl
      case hQk0 => exact fun _ _ _ h => h
      case hyk0 => refine Or.inl ⟨by rfl, ?_⟩; intro W hSw; go_simp; try with_reducible rfl
      try simp only [Act.put, List.setIfInBounds_toArray, List.set_cons_zero, List.set_cons_succ]
      refine' wpAnyH_take (i := 1) (oi := _) (v := _) ?hik1 (by kernel_rfl) ?hfk1 ?hrk1 ?hQk1 ?hyk1 hS0 ?restk1
      case hik1 => (simp only [List.getElem?_toArray, List.getElem?_cons_zero, List.getElem?_cons_succ]; rfl)
      case hfk1 => kernel_rfl
      case hrk1 => kernel_rfl
      case hQk1 => exact fun _ _ _ h => h
      case hyk1 => refine Or.inl ⟨by rfl, ?_⟩; intro W hSw; go_simp; try with_reducible rfl
      try simp only [Act.put, List.setIfInBounds_toArray, List.set_cons_zero, List.set_cons_succ]
      refine' wpAnyH_take (i := 2) (oi := _) (v := _) ?hik2 (by kernel_rfl) ?hfk2 ?hrk2 ?hQk2 ?hyk2 hS0 ?restk2
      case hik2 => (simp only [List.getElem?_toArray, List.getElem?_cons_zero, List.getElem?_cons_succ]; rfl)
      case hfk2 => kernel_rfl
      case hrk2 => kernel_rfl
      case hQk2 => exact fun _ _ _ h => h
      case hyk2 => refine Or.inl ⟨by rfl, ?_⟩; intro W hSw; go_simp; try with_reducible rfl
      try simp only [Act.put, List.setIfInBounds_toArray, List.set_cons_zero, List.set_cons_succ]
      refine' wpAnyH_take (i := 3) (oi := _) (v := .pointer (some ⟨gf, 0, none⟩)) ?hik3 (by kernel_rfl) ?hfk3 ?hrk3 ?hQk3 ?hyk3 hS0 ?restk3
      case hik3 => (simp only [List.getElem?_toArray, List.getElem?_cons_zero, List.getElem?_cons_succ]; rfl)
      case hfk3 => kernel_rfl
      case hrk3 => kernel_rfl
      case hQk3 => exact fun _ _ _ h => h
      case hyk3 => refine Or.inl ⟨by rfl, ?_⟩; intro W hSw; have hcc := hSw.2; go_simp; try with_reducible rfl
      try simp only [Act.put, List.setIfInBounds_toArray, List.set_cons_zero, List.set_cons_succ]
      refine' wpAnyH_take (i := 4) (oi := _) (v := sv s) ?hik4 (by kernel_rfl) ?hfk4 ?hrk4 ?hQk4 ?hyk4 hS0 ?restk4
      case hik4 => (simp only [List.getElem?_toArray, List.getElem?_cons_zero, List.getElem?_cons_succ]; rfl)
      case hfk4 => kernel_rfl
      case hrk4 => kernel_rfl
      case hQk4 => exact fun _ _ _ h => h
      case hyk4 => refine yields_sum ?_ (.tmp 5) rfl ⟨q, 0, none⟩ rfl s hsl (fun W hSw => hSw.1.at_); rfl
      try simp only [Act.put, List.setIfInBounds_toArray, List.set_cons_zero, List.set_cons_succ]
      refine wpAnyH_ready (rs := [5]) (by kernel_rfl) (by simp) ?_
      refine' AllReadyH.cons (o := _) ?hik5 (fun K hK => ?_) AllReadyH.nil
      case hik5 => (simp only [List.getElem?_toArray, List.getElem?_cons_zero, List.getElem?_cons_succ]; rfl)
      go_simp
      go_at_call 34
      refine CF.out.mono ?_
      rintro e W9 ⟨rfl, ⟨fA', fc', hf9, hnew⟩, hb9⟩
      have hS9 : BArr W9 q 34 s ∧ W9.cell? ⟨g, 0, none⟩ = some (.pointer (some ⟨gf, 0, none⟩)) := ⟨(hb9.block q hS0.1.lt hqgf).trans hS0.1, (World.cell?_of_block (hb9.block g (World.block_lt_of_cell? _ _ hS0.2) hggf)).trans hS0.2⟩
      have H9 := Lib.hid (And.intro hf9 (And.intro hnew hb9))
      clear hf9 hnew hb9
      refine hK.out _ _ hS9 (fun _ => ?_)
      clear hK K
      try simp only [Act.put, List.setIfInBounds_toArray, List.set_cons_zero, List.set_cons_succ]
      refine' wpAnyH_take (i := 6) (oi := _) (v := _) ?hik6 (by kernel_rfl) ?hfk6 ?hrk6 ?hQk6 ?hyk6 hS9 ?restk6
      case hik6 => (simp only [List.getElem?_toArray, List.getElem?_cons_zero, List.getElem?_cons_succ]; rfl)
      case hfk6 => kernel_rfl
      case hrk6 => kernel_rfl
      case hQk6 => exact fun _ _ _ h => h
      case hyk6 => refine Or.inl ⟨by rfl, ?_⟩; intro W hSw; go_simp; try with_reducible rfl
      try simp only [Act.put, List.setIfInBounds_toArray, List.set_cons_zero, List.set_cons_succ]
      refine wpAnyH_done (by kernel_rfl) ?_ _
      go_wp2_with fail
      go_ret
      have hbl : b.length ≤ 16384 ∧ ∀ x ∈ b, x < 256 := ⟨by rw [HH.out.2.2.1.in_.len]; exact hn, HH.out.2.2.1.lt⟩
      exact ⟨rfl, hstep_done HT8.out HH.out.1 HH.out.2.1 hbl H9.out.1 H9.out.2.1 H9.out.2.2⟩
end

end Go.Proofs.YtllohbgejjbagaaDoor

/-
  A slice of slices of bytes, one behind the other; how much it holds (almonerlaw01.ByteListsSize).
-/
namespace Go.Proofs.YtllohbgejjbagaaDoor
open Go.RowKit

/-- How much lists hold, told if it is not more than 15000. -/
def Holds (n : Nat) (w : World) (e : Ending) (w' : World) : Prop := ∃ R : Nat, e = .returned (.int .i64 (R : Int)) ∧ (R ≤ 15000 → R = n) ∧ w = w'

set_option maxRecDepth 100000 in
set_option maxHeartbeats 1000000 in
theorem bytesSize_any (A : Option Addr) (n c : Nat) (w : World) :
    Calls Tryd.prog 54 #[.slice A n c] w fun e w' => e = .returned (.int .i64 (n : Int)) ∧ w = w' := by
  go_enter Tryd.func54, Tryd.ntmps54
  go_wp2
  go_ret
  exact ⟨rfl, rfl⟩

set_option maxRecDepth 100000 in
set_option maxHeartbeats 1000000 in
theorem listsSize_any (Ao : Option Addr) (no co : Nat) (rows : List (List Nat)) (w : World) (h : CameRows w Ao no rows) (hno : no ≤ 50) :
    Calls Tryd.prog 36 #[.slice Ao no co] w (Holds (no + tot rows) w) := by
  go_enter Tryd.func36, Tryd.ntmps36
  go_wp2
  go_loop [3, 4] (fun s i => ∃ j z : Nat, j ≤ no ∧ i = .int .i64 (j : Int) ∧ s = .int .i64 (z : Int) ∧ z = no + tot (rows.take j) ∧ z ≤ 140737489403904) (fun _ i => no - (intOf i).toNat)
  case atStart => exact ⟨0, no, by omega, rfl, rfl, rfl, by omega⟩
  case round =>
    obtain ⟨j, z, hj, rfl, rfl, hz, hzb⟩ := hrel
    have HZ := Lib.hid hz
    clear hz
    by_cases hlt : j < no
    · by_cases hs : z ≤ 1048576
      · obtain ⟨xs, hxs⟩ : ∃ xs, rows[j]? = some xs := ⟨_, List.getElem?_eq_getElem (by rw [h.len]; exact hlt)⟩
        obtain ⟨ad, A, n, c, rfl, hcell, hcame, hn⟩ := h.row j xs hxs
        have HX := Lib.hid (And.intro hxs hcame)
        have hji : (j : Int) < (no : Int) := by omega
        have hzi : (z : Int) ≤ 1048576 := by omega
        clear hxs hcame
        go_wp2_with (go_at_call 54; refine (bytesSize_any A n c _).mono ?_; rintro e w' ⟨rfl, rfl⟩)
        go_round
        case rel =>
          refine ⟨j + 1, z + n, by omega, by go_num, by go_num, ?_, by omega⟩
          rw [rows_snoc HX.out.1, tot_snoc, HX.out.2.in_.len, HZ.out]
          omega
        case measure => simp [intOf]; omega
      · have hji : (j : Int) < (no : Int) := by omega
        have hzi : decide ((z : Int) ≤ 1048576) = false := by simp; omega
        go_wp2
        go_ret
        exact ⟨z, rfl, fun hh => absurd hh (by omega), rfl⟩
    · have hji : decide ((j : Int) < (no : Int)) = false := by simp; omega
      obtain rfl : j = no := by omega
      rw [List.take_of_length_le (by rw [h.len]; omega)] at HZ
      go_wp2
      go_ret
      exact ⟨z, rfl, fun _ => HZ.out, rfl⟩

theorem rows_lt {w : World} {Ao : Option Addr} {no : Nat} {rows : List (List Nat)} (h : CameRows w Ao no rows) (j : Nat) : ∀ x ∈ (rows.take j).flatten, x < 256 := by
  intro x hx
  obtain ⟨l, hl, hxl⟩ := List.mem_flatten.1 hx
  obtain ⟨i, hi⟩ := List.mem_iff_getElem?.1 (List.mem_of_mem_take hl)
  obtain ⟨_, _, _, _, _, _, hc, _⟩ := h.row i l hi
  exact hc.lt x hxl

end Go.Proofs.YtllohbgejjbagaaDoor

/-
  almonerlaw12's great and made.
-/
namespace Go.Proofs.YtllohbgejjbagaaDoor
open Go.RowKit

set_option maxRecDepth 100000 in
set_option maxHeartbeats 1000000 in
theorem hlists_any (Ao : Option Addr) (no co : Nat) (rows : List (List Nat)) (w : World) (h : CameRows w Ao no rows) (hno : no ≤ 60) :
    Calls Tryd.prog 36 #[.slice Ao no co] w fun e w' => (∃ R : Nat, e = .returned (.int .i64 (R : Int))) ∧ w' = w := by
  go_enter Tryd.func36, Tryd.ntmps36
  go_wp2
  go_loop [3, 4] (fun s i => ∃ j z : Nat, j ≤ no ∧ i = .int .i64 (j : Int) ∧ s = .int .i64 (z : Int) ∧ z ≤ 140737489403904) (fun _ i => no - (intOf i).toNat)
  case atStart => exact ⟨0, no, by omega, rfl, rfl, by omega⟩
  case round =>
    obtain ⟨j, z, hj, rfl, rfl, hzb⟩ := hrel
    by_cases hlt : j < no
    · by_cases hs : z ≤ 1048576
      · obtain ⟨xs, hxs⟩ : ∃ xs, rows[j]? = some xs := ⟨_, List.getElem?_eq_getElem (by rw [h.len]; exact hlt)⟩
        obtain ⟨ad, A, n, c, rfl, hcell, hcame, hn⟩ := h.row j xs hxs
        have HX := Lib.hid (And.intro hxs hcame)
        have hji : (j : Int) < (no : Int) := by omega
        have hzi : (z : Int) ≤ 1048576 := by omega
        clear hxs hcame
        go_wp2_with (go_at_call 54; refine (bytesSize_any A n c _).mono ?_; rintro e w' ⟨rfl, rfl⟩)
        go_round
        case rel => exact ⟨j + 1, z + n, by omega, by go_num, by go_num, by omega⟩
        case measure => simp [intOf]; omega
      · have hji : (j : Int) < (no : Int) := by omega
        have hzi : decide ((z : Int) ≤ 1048576) = false := by simp; omega
        go_wp2
        go_ret
        exact ⟨⟨z, rfl⟩, rfl⟩
    · have hji : decide ((j : Int) < (no : Int)) = false := by simp; omega
      obtain rfl : j = no := by omega
      go_wp2
      go_ret
      exact ⟨⟨z, rfl⟩, rfl⟩

set_option maxRecDepth 100000 in
set_option maxHeartbeats 1000000 in
theorem hgreat_any (Ao : Option Addr) (no co : Nat) (rows : List (List Nat)) (w : World) (h : CameRows w Ao no rows) :
    Calls Tryd.prog 15 #[.slice Ao no co] w fun e w' => ∃ B : Bool, e = .returned (.bool B) ∧ (B = false → no ≤ 60) ∧ w' = w := by
  by_cases h60 : no ≤ 60
  · have C := Lib.hid (hlists_any Ao no co rows w h h60)
    have hi : ¬ ((60 : Int) < (no : Int)) := by omega
    clear h
    go_enter Tryd.func15, Tryd.ntmps15
    go_wp2_with fail
    refine C.out.mono ?_
    rintro e w' ⟨⟨R, rfl⟩, rfl⟩
    go_wp2_with fail
    go_ret
    exact ⟨_, rfl, fun _ => h60, rfl⟩
  · have hi : (60 : Int) < (no : Int) := by omega
    clear h
    go_enter Tryd.func15, Tryd.ntmps15
    go_wp2_with fail
    go_ret
    exact ⟨true, rfl, fun h => (by cases h), rfl⟩

/-- A chain that was made since w. -/
structure MadeAt (w W : World) (g : Nat) (G : Nat → Prop) (l : List (List Nat)) : Prop where
  chain : Chain W g G l
  new : ∀ x, G x → w.heap.size ≤ x
  bel : Below w.heap.size w W
theorem MadeAt.below {w W W' : World} {g : Nat} {G : Nat → Prop} {l : List (List Nat)} (h : MadeAt w W g G l) (hb : Below W.heap.size W W') : MadeAt w W' g G l :=
  ⟨h.chain.below hb, h.new, below_on h.bel (Nat.le_refl _) hb⟩
theorem MadeAt.grew {w W W' : World} {g : Nat} {G : Nat → Prop} {l l' : List (List Nat)} (h : MadeAt w W g G l) (hg : Grew W g G l' W') : ∃ G', MadeAt w W' g G' l' := by
  obtain ⟨G', hc, hb, hG⟩ := hg
  refine ⟨G', hc, fun x hx => ?_, h.bel.trans (hb.below h.bel.size fun b hb => h.new b hb)⟩
  rcases hG x hx with e | e
  · exact h.new x e
  · exact Nat.le_trans h.bel.size e

set_option maxRecDepth 100000 in
set_option maxHeartbeats 2000000 in
theorem hmade_any (Ao : Option Addr) (no co : Nat) (rows : List (List Nat)) (w : World) (h : CameRows w Ao no rows) (hno : no ≤ 60000) (hk : Knows w) (hs : Starts w) :
    Calls Tryd.prog 17 #[.slice Ao no co] w fun e w' => ∃ P, e = .returned (.pointer P) ∧ Below w.heap.size w w' ∧ (P = none ∨ ∃ g G, P = some ⟨g, 0, none⟩ ∧ MadeAt w w' g G rows) := by
  have HH := Lib.hid (And.intro h (And.intro hk hs))
  have hlen : rows.length = no := h.len
  have HN := Lib.hid (new_chain w)
  have HL := Lib.hid hlen
  clear h hk hs hlen
  go_enter Tryd.func17, Tryd.ntmps17
  go_wp2_with fail
  refine HN.out.mono ?_
  rintro e w1 ⟨g, rfl, hb1, hc1⟩
  have HM : Hid (∃ G, MadeAt w w1 g G (rows.take 0)) := Lib.hid ⟨_, by rw [List.take_zero]; exact ⟨hc1, fun x hx => hx.1, hb1⟩⟩
  clear hb1 hc1 HN
  go_wp2_with fail
  go_loopw [4] (fun i wr => ∃ j : Nat, j ≤ no ∧ i = .int .i64 (j : Int) ∧ Hid (∃ G, MadeAt w wr g G (rows.take j))) (fun i _ => no - (intOf i).toNat)
  case atStart => exact ⟨0, by omega, rfl, HM⟩
  case round =>
    obtain ⟨j, hj, rfl, HR⟩ := hrel
    obtain ⟨G, hm⟩ := HR.out
    by_cases hlt : j < no
    · have hji : (j : Int) < (no : Int) := by omega
      obtain ⟨b, hbj⟩ : ∃ b, rows[j]? = some b := ⟨_, List.getElem?_eq_getElem (by rw [HL.out]; exact hlt)⟩
      obtain ⟨ad, B, bl, d, rfl, hcell, hcame, hbl⟩ := HH.out.1.row j b hbj
      have hcell := (hm.bel.cell (World.block_lt_of_cell? w _ hcell)).trans hcell
      by_cases h16 : bl ≤ 16384
      · have CA := Lib.hid (hadd_yes hm.chain (by rw [List.length_take]; have := HL.out; omega) (hcame.below hm.bel) h16 (away_of HH.out.2.1 HH.out.2.2 hm.new) (HH.out.2.1.below hm.bel) (HH.out.2.2.below hm.bel))
        rw [← rows_snoc hbj] at CA
        have HMM := Lib.hid hm
        clear hm hcame hbj
        go_wp2_with fail
        refine CA.out.mono ?_
        rintro e w2 ⟨rfl, hg⟩
        have HG := Lib.hid (HMM.out.grew hg)
        clear hg CA hcell
        go_wp2_with fail
        go_roundw
        case rel => exact ⟨j + 1, by omega, by go_num, HG⟩
        case measure => simp [intOf]; omega
      · have CA := Lib.hid (hadd_long hm.chain (A := B) (c := d) (show 16384 < bl by omega))
        have HMM := Lib.hid hm
        clear hm hcame hbj
        go_wp2_with fail
        refine CA.out.mono ?_
        rintro e w2 ⟨rfl, rfl⟩
        go_wp2_with fail
        go_ret
        exact ⟨none, rfl, HMM.out.bel, .inl rfl⟩
    · obtain rfl : j = no := by omega
      rw [List.take_of_length_le (by rw [HL.out]; exact Nat.le_refl _)] at hm
      have HMM := Lib.hid hm
      clear hm
      go_wp2_with fail
      go_ret
      exact ⟨_, rfl, HMM.out.bel, .inr ⟨g, G, rfl, HMM.out⟩⟩

end Go.Proofs.YtllohbgejjbagaaDoor

/-
  chains: Entry, Mark, Root.
-/
namespace Go.Proofs.YtllohbgejjbagaaDoor
open Go.RowKit

section
variable {w w' : World} {g gf fc : Nat} {fA : Option Addr} {v : Value} {E : List (List Value)} {G : Nat → Prop} {l : List (List Nat)}

set_option maxRecDepth 100000 in
set_option maxHeartbeats 1000000 in
theorem hentry_yes (h : ChainAt w g gf fA fc v E G l) {n : Nat} {b : List Nat} (hb : l[n]? = some b) :
    Calls Tryd.prog 8 #[.pointer (some ⟨g, 0, none⟩), .int .u64 (n : Int)] w fun e w' => ∃ u, e = .returned (.tuple #[u, .int .i64 0]) ∧ w'.ownsRow w.heap.size 5 1 u b.length (bvs b) ∧ Below w.heap.size w w' := by
  have hn := (List.getElem?_eq_some_iff.1 hb).1
  have C := Lib.hid (hthere_at h)
  have D := Lib.hid (hsize_at h)
  have hbl := (h.ok b (List.mem_of_getElem? hb)).1
  obtain ⟨ge, c, u, rfl, hc, hr, ho⟩ := h.range hb
  have c1 := h.c1
  obtain ⟨_, _, hu⟩ := ecell_at hr (leafL_length _) (markL_length _)
  obtain ⟨B, d, rfl⟩ := own_form ho
  have CC := Lib.hid (clone_b B b.length d b w (In.of_own ho) (own_nil ho) (own_cap ho) (by omega))
  obtain ⟨L, hL⟩ : ∃ L, l.length = L := ⟨_, rfl⟩
  rw [hL] at hn hc c1 D
  have hi : ¬ ((L : Int) ≤ (n : Int)) := by omega
  clear h hb hr ho hL
  go_enter Tryd.func8, Tryd.ntmps8
  go_wp2_with fail
  refine C.out.mono ?_
  rintro e w' ⟨rfl, rfl⟩
  go_wp2_with fail
  refine D.out.mono ?_
  rintro e w' ⟨rfl, rfl⟩
  go_wp2_with fail
  refine CC.out.mono ?_
  rintro e w2 ⟨u2, rfl, ho2, hb2⟩
  go_wp2_with fail
  go_ret2
  exact ⟨u2, rfl, ho2, hb2⟩

set_option maxRecDepth 100000 in
theorem hentry_no (h : ChainAt w g gf fA fc v E G l) {n : Nat} (hn : l.length ≤ n) :
    Calls Tryd.prog 8 #[.pointer (some ⟨g, 0, none⟩), .int .u64 (n : Int)] w fun e w' => e = .returned (.tuple #[.slice none 0 0, .int .i64 1]) ∧ w' = w := by
  have C := Lib.hid (hthere_at h)
  have D := Lib.hid (hsize_at h)
  have hi : (l.length : Int) ≤ (n : Int) := by omega
  clear h
  go_enter Tryd.func8, Tryd.ntmps8
  go_wp2_with fail
  refine C.out.mono ?_
  rintro e w' ⟨rfl, rfl⟩
  go_wp2_with fail
  refine D.out.mono ?_
  rintro e w' ⟨rfl, rfl⟩
  go_wp2_with fail
  go_ret2
  exact ⟨rfl, rfl⟩

/-- Behind the result's variable. -/
theorem res_in (w : World) : ∃ w1, w1 = w.alloc (.cells #[.int .u8 0, .int .u8 0, .int .u8 0, .int .u8 0, .int .u8 0, .int .u8 0, .int .u8 0, .int .u8 0, .int .u8 0, .int .u8 0, .int .u8 0, .int .u8 0, .int .u8 0, .int .u8 0, .int .u8 0, .int .u8 0, .int .u8 0, .int .u8 0, .int .u8 0, .int .u8 0, .int .u8 0, .int .u8 0, .int .u8 0, .int .u8 0, .int .u8 0, .int .u8 0, .int .u8 0, .int .u8 0, .int .u8 0, .int .u8 0, .int .u8 0, .int .u8 0] 34) ∧ Below w.heap.size w w1 ∧ BArr w1 w.heap.size 34 zero32 ∧ w1.heap[w.heap.size]? = some (.cells #[.int .u8 0, .int .u8 0, .int .u8 0, .int .u8 0, .int .u8 0, .int .u8 0, .int .u8 0, .int .u8 0, .int .u8 0, .int .u8 0, .int .u8 0, .int .u8 0, .int .u8 0, .int .u8 0, .int .u8 0, .int .u8 0, .int .u8 0, .int .u8 0, .int .u8 0, .int .u8 0, .int .u8 0, .int .u8 0, .int .u8 0, .int .u8 0, .int .u8 0, .int .u8 0, .int .u8 0, .int .u8 0, .int .u8 0, .int .u8 0, .int .u8 0, .int .u8 0] 34 (0, 0)) :=
  ⟨_, rfl, below_alloc _ _, BArr.new w _ zero32, World.alloc_heap_new w _⟩

set_option maxRecDepth 100000 in
set_option maxHeartbeats 1000000 in
theorem hmark_yes (h : ChainAt w g gf fA fc v E G l) (hG : ∀ x, G x → x < w.heap.size) {n : Nat} (hn : n ≤ l.length) (hl : l.length ≤ 65536) :
    Calls Tryd.prog 9 #[.pointer (some ⟨g, 0, none⟩), .int .u64 (n : Int)] w fun e w' => e = .returned (.tuple #[sv (markL (l.take n)), .int .i64 0]) ∧ Below w.heap.size w w' := by
  obtain ⟨w1, hw1, b1, r1, g1⟩ := res_in w
  have h1 := h.below hG b1
  have C := Lib.hid (hhas_at h1 n)
  rw [hasE, if_pos hn] at C
  have D := Lib.hid (hmark_in h1 hn hl)
  have HW := Lib.hid hw1
  have H1 := Lib.hid (And.intro b1 r1)
  have hml := markL_length (l.take n)
  obtain ⟨m, hm⟩ : ∃ m, markL (l.take n) = m := ⟨_, rfl⟩
  rw [hm] at D hml ⊢
  clear h h1 hw1 b1 r1 g1 hm
  go_enter Tryd.func9, Tryd.ntmps9
  go_upto_region 1 with fail
  rw [← HW.out]
  go_wp2_with fail
  refine C.out.mono ?_
  rintro e w' ⟨rfl, e1⟩
  obtain rfl := e1.symm
  clear e1
  go_wp2_with fail
  refine D.out.mono ?_
  rintro e w2 ⟨rfl, hb2⟩
  have f2 := H1.out.2.below hb2
  have HB := Lib.hid hb2
  have HZ32 := Lib.hid (show zero32.length = 32 from rfl)
  clear hb2
  go_wp2_with (with_reducible refine wpList_store_sum rfl (.tmp 4) (.tmp 16) rfl w.heap.size rfl zero32 m HZ32 hml f2 rfl ?_)
  have r3 := f2.setRow m
  refine bodyPost_ret_by (results_cell_tmp (p := 4) (q := 5) (ty := 34) (by kernel_rfl) _ _ ⟨w.heap.size, 0, none⟩ (sv m) rfl (run_load_sum _ _ m hml r3.at_)) rfl ?_
  exact ⟨rfl, below_setRow (below_on H1.out.1 (Nat.le_refl _) HB.out) (Nat.le_refl _) _⟩

set_option maxRecDepth 100000 in
set_option maxHeartbeats 1000000 in
theorem hmark_no (h : ChainAt w g gf fA fc v E G l) (hG : ∀ x, G x → x < w.heap.size) {n : Nat} (hn : ¬ n ≤ l.length) :
    Calls Tryd.prog 9 #[.pointer (some ⟨g, 0, none⟩), .int .u64 (n : Int)] w fun e w' => e = .returned (.tuple #[sv zero32, .int .i64 1]) ∧ Below w.heap.size w w' := by
  obtain ⟨w1, hw1, b1, r1, g1⟩ := res_in w
  have h1 := h.below hG b1
  have C := Lib.hid (hhas_at h1 n)
  rw [hasE, if_neg hn] at C
  have HW := Lib.hid hw1
  have H1 := Lib.hid (And.intro b1 g1)
  clear h h1 hw1 b1 r1 g1
  go_enter Tryd.func9, Tryd.ntmps9
  go_upto_region 1 with fail
  rw [← HW.out]
  go_wp2_with fail
  refine C.out.mono ?_
  rintro e w' ⟨rfl, e1⟩
  obtain rfl := e1.symm
  clear e1
  have HZ32 := Lib.hid (show zero32.length = 32 from rfl)
  go_wp2_with (with_reducible refine wpList_store_nought rfl (.tmp 4) (.tmp 12) rfl w.heap.size rfl H1.out.2 rfl ?_; intro w4 r4 o4)
  refine bodyPost_ret_by (results_cell_tmp (p := 4) (q := 5) (ty := 34) (by kernel_rfl) _ _ ⟨w.heap.size, 0, none⟩ (sv zero32) rfl (run_load_sum _ _ zero32 rfl r4.at_)) rfl ?_
  exact ⟨rfl, Only.below H1.out.1 (Nat.le_refl _) (Nat.le_refl _) o4⟩

set_option maxRecDepth 100000 in
set_option maxHeartbeats 1000000 in
theorem hroot_no (h : ChainAt w g gf fA fc v E G l) (hG : ∀ x, G x → x < w.heap.size) {n : Nat} (hn : ¬ n ≤ l.length) :
    Calls Tryd.prog 10 #[.pointer (some ⟨g, 0, none⟩), .int .u64 (n : Int)] w fun e w' => e = .returned (.tuple #[sv zero32, .int .i64 1]) ∧ Below w.heap.size w w' := by
  obtain ⟨w1, hw1, b1, r1, g1⟩ := res_in w
  have h1 := h.below hG b1
  have C := Lib.hid (hhas_at h1 n)
  rw [hasE, if_neg hn] at C
  have HW := Lib.hid hw1
  have H1 := Lib.hid (And.intro b1 g1)
  clear h h1 hw1 b1 r1 g1
  go_enter Tryd.func10, Tryd.ntmps10
  go_upto_region 1 with fail
  rw [← HW.out]
  go_wp2_with fail
  refine C.out.mono ?_
  rintro e w' ⟨rfl, e1⟩
  obtain rfl := e1.symm
  clear e1
  have HZ32 := Lib.hid (show zero32.length = 32 from rfl)
  go_wp2_with (with_reducible refine wpList_store_nought rfl (.tmp 4) (.tmp 13) rfl w.heap.size rfl H1.out.2 rfl ?_; intro w4 r4 o4)
  refine bodyPost_ret_by (results_cell_tmp (p := 4) (q := 5) (ty := 34) (by kernel_rfl) _ _ ⟨w.heap.size, 0, none⟩ (sv zero32) rfl (run_load_sum _ _ zero32 rfl r4.at_)) rfl ?_
  exact ⟨rfl, Only.below H1.out.1 (Nat.le_refl _) (Nat.le_refl _) o4⟩

set_option maxRecDepth 100000 in
set_option maxHeartbeats 1000000 in
/-- firsts.root, as it is called by a method value. -/
theorem hfroot_any (A : Option Addr) (n c : Nat) (ys : List Nat) (w : World) (hin : InS w A n ys) (hx : ∀ x ∈ ys, x < 256) (hc : n ≤ c) (hn : n ≤ 65536) (hk : Knows w) (hs : Starts w) :
    Calls Tryd.prog 29 #[.slice A n c] w fun e w' => e = .returned (sv (rt (nth ys) 0 n)) ∧ Below w.heap.size w w' := by
  obtain ⟨w1, hw1, b1, r1, g1⟩ := res_in w
  have C := Lib.hid (root_any A n c ys w1 (hin.below b1) hx hc hn (hk.below b1) (hs.below b1))
  have hml := rt_length (nth ys) 0 n fun j hj => by rw [Nat.zero_add]; exact nth_length hin.len hj
  obtain ⟨m, hm⟩ : ∃ m, rt (nth ys) 0 n = m := ⟨_, rfl⟩
  rw [hm] at C hml ⊢
  have HW := Lib.hid hw1
  have H1 := Lib.hid (And.intro b1 r1)
  clear hin hx hc hn hk hs hw1 b1 r1 g1 hm
  go_enter Tryd.func29, Tryd.ntmps29
  go_upto_region 1 with fail
  rw [← HW.out]
  go_wp2_with fail
  refine C.out.mono ?_
  rintro e w2 ⟨rfl, hb2⟩
  have f2 := H1.out.2.below hb2
  have HB := Lib.hid hb2
  have HZ32 := Lib.hid (show zero32.length = 32 from rfl)
  clear hb2
  go_wp2_with (with_reducible refine wpList_store_sum rfl (.tmp 2) (.tmp 4) rfl w.heap.size rfl zero32 m HZ32 hml f2 rfl ?_)
  refine bodyPost_ret_by (results_cell_row (p := 2) (ty := 34) (by kernel_rfl) _ _ w.heap.size 34 (bvs m).toArray (0, 0) _ rfl (f2.setRow _) Tryd.underlying34 rfl (by rw [List.size_toArray, bvs_length, hml]; exact sizeSum)) rfl ?_
  exact ⟨rfl, below_setRow (below_on H1.out.1 (Nat.le_refl _) HB.out) (Nat.le_refl _) _⟩

set_option maxRecDepth 100000 in
set_option maxHeartbeats 2000000 in
theorem hroot_yes (h : ChainAt w g gf fA fc v E G l) (hG : ∀ x, G x → x < w.heap.size) {n : Nat} (hn : n ≤ l.length) (hl : l.length ≤ 65536) (hk : Knows w) (hs : Starts w) :
    Calls Tryd.prog 10 #[.pointer (some ⟨g, 0, none⟩), .int .u64 (n : Int)] w fun e w' => e = .returned (.tuple #[sv (rt (lf l) 0 n), .int .i64 0]) ∧ Below w.heap.size w w' := by
  obtain ⟨w1, hw1, b1, r1, g1⟩ := res_in w
  have h1 := h.below hG b1
  have hk1 := hk.below b1
  have hs1 := hs.below b1
  have C := Lib.hid (hhas_at h1 n)
  rw [hasE, if_pos hn] at C
  have Z := Lib.hid (hsize_at h1)
  have c0 := h1.c0
  have HW := Lib.hid hw1
  have H1 := Lib.hid (And.intro b1 r1)
  have hml := rt_length (lf l) 0 n fun j hj => lf_length l _
  have hmf : ∀ (fn : Fn) (first cap : Array Value) (w : World), (Instr.makeFunc fn first cap).run Tryd.prog w = .ok (.func fn first cap) w := fun _ _ _ _ => rfl
  have HZ32 := Lib.hid (show zero32.length = 32 from rfl)
  by_cases hlt : n < l.length
  · have hli : (n : Int) < (l.length : Int) := by omega
    have F := Lib.hid (hfirst_at h1 hn hl)
    have R := Lib.hid (fun (A : Option Addr) (c : Nat) (w2 : World) (ho : w2.ownsRow w1.heap.size 34 32 (.slice A n c) n (bvs (leavesL (l.take n)))) (hb : Below w1.heap.size w1 w2) =>
      (root_first l hn) ▸ hfroot_any A n c (leavesL (l.take n)) w2 (InS.of_own ho) (leavesL_lt _) (own_cap ho) (by omega) (hk1.below hb) (hs1.below hb))
    obtain ⟨m, hm⟩ : ∃ m, rt (lf l) 0 n = m := ⟨_, rfl⟩
    rw [hm] at R hml ⊢
    clear h h1 hw1 b1 r1 g1 hk hs hk1 hs1 hm
    go_enter Tryd.func10, Tryd.ntmps10
    go_upto_region 1 with fail
    rw [← HW.out]
    go_wp2_with fail
    refine C.out.mono ?_
    rintro e w' ⟨rfl, e1⟩
    obtain rfl := e1.symm
    clear e1
    go_wp2_with fail
    refine Z.out.mono ?_
    rintro e w' ⟨rfl, e1⟩
    obtain rfl := e1.symm
    clear e1
    go_wp2_with fail
    refine F.out.mono ?_
    rintro e w2 ⟨A, c, rfl, ho, hb⟩
    have R2 := Lib.hid (R.out A c w2 ho hb)
    have H2 := Lib.hid (below_on H1.out.1 (Nat.le_refl _) hb)
    have f2 := H1.out.2.below hb
    clear ho hb
    go_wp2_with fail
    refine R2.out.mono ?_
    rintro e w3 ⟨rfl, hb3⟩
    have f3 := f2.below hb3
    have HB := Lib.hid (below_on H2.out (Nat.le_refl _) hb3)
    clear hb3 f2
    go_wp2_with (with_reducible refine wpList_store_sum rfl (.tmp 4) (.tmp 29) rfl w.heap.size rfl zero32 m HZ32 hml f3 rfl ?_)
    have r3 := f3.setRow m
    refine bodyPost_ret_by (results_cell_tmp (p := 4) (q := 5) (ty := 34) (by kernel_rfl) _ _ ⟨w.heap.size, 0, none⟩ (sv m) rfl (run_load_sum _ _ m hml r3.at_)) rfl ?_
    exact ⟨rfl, below_setRow HB.out (Nat.le_refl _) _⟩
  · obtain rfl : n = l.length := by omega
    have R := Lib.hid (root_front h1.frontF (lf32 l _) (by omega) hk1 hs1)
    obtain ⟨m, hm⟩ : ∃ m, rt (lf l) 0 l.length = m := ⟨_, rfl⟩
    rw [hm] at R hml ⊢
    clear h h1 hw1 b1 r1 g1 hk hs hk1 hs1 hm
    go_enter Tryd.func10, Tryd.ntmps10
    go_upto_region 1 with fail
    rw [← HW.out]
    go_wp2_with fail
    refine C.out.mono ?_
    rintro e w' ⟨rfl, e1⟩
    obtain rfl := e1.symm
    clear e1
    go_wp2_with fail
    refine Z.out.mono ?_
    rintro e w' ⟨rfl, e1⟩
    obtain rfl := e1.symm
    clear e1
    go_wp2_with fail
    refine R.out.mono ?_
    rintro e w3 ⟨rfl, hb3⟩
    have f3 := H1.out.2.below hb3
    have HB := Lib.hid (below_on H1.out.1 (Nat.le_refl _) hb3)
    clear hb3
    go_wp2_with (with_reducible refine wpList_store_sum rfl (.tmp 4) (.tmp 29) rfl w.heap.size rfl zero32 m HZ32 hml f3 rfl ?_)
    have r3 := f3.setRow m
    refine bodyPost_ret_by (results_cell_tmp (p := 4) (q := 5) (ty := 34) (by kernel_rfl) _ _ ⟨w.heap.size, 0, none⟩ (sv m) rfl (run_load_sum _ _ m hml r3.at_)) rfl ?_
    exact ⟨rfl, below_setRow HB.out (Nat.le_refl _) _⟩
end

end Go.Proofs.YtllohbgejjbagaaDoor

/-
  How many bits a number of 64 bits has; how many leaves a left side has.
-/
namespace Go.Proofs.YtllohbgejjbagaaDoor
open Go.RowKit

set_option maxRecDepth 100000 in
set_option maxHeartbeats 1000000 in
theorem len64_010 (x : Nat) (w : World) (hx : x < 18446744073709551616) (hA : x < 4294967296) (hB : 65536 ≤ x) (hC : x / 65536 < 256) :
    Calls Tryd.prog 78 #[.int .u64 (x : Int)] w fun e w' => e = .returned (.int .i64 (Lib.bitLen x)) ∧ w' = w := by
  have h1 : decide (4294967296 ≤ (x : Int)) = false := by simp; omega
  have h2 : decide (65536 ≤ (x : Int)) = true := by simp; omega
  have h3 : decide (256 ≤ (x : Int) / 65536) = false := by simp; omega
  have hq : x / 65536 < 256 := by omega
  have hv := tab_len ⟨x / 65536, hq⟩
  have hle := Lib.bitLen_le8 ⟨x / 65536, hq⟩
  have HS := Lib.hid (show Lib.bitLen x = 16 + Lib.bitLen (x / 65536) from by rw [Lib.bitLen_shift16 (x) hB (by omega)])
  dsimp only at hv hle
  have HV := Lib.hid (And.intro hv hle)
  clear hv hle
  go_enter Tryd.func78, Tryd.ntmps78
  go_wp2
  · go_ret
    refine ⟨congrArg Ending.returned (congrArg (Value.int IntKind.i64) ?_), rfl⟩
    have hv := HV.out.1
    have hle := HV.out.2
    rw [hv, HS.out]
    have _u := hC
    clear _u
    revert hle
    generalize Lib.bitLen (x / 65536) = q
    clear h1 h2 h3 hq hv HS HV hA hB hC hx
    intro hle
    simp only [wrap64]
    omega
  · exfalso
    rename_i hh
    have := Lib.len8tab_size
    omega

set_option maxRecDepth 100000 in
set_option maxHeartbeats 1000000 in
theorem len64_011 (x : Nat) (w : World) (hx : x < 18446744073709551616) (hA : x < 4294967296) (hB : 65536 ≤ x) (hC : 256 ≤ x / 65536) :
    Calls Tryd.prog 78 #[.int .u64 (x : Int)] w fun e w' => e = .returned (.int .i64 (Lib.bitLen x)) ∧ w' = w := by
  have h1 : decide (4294967296 ≤ (x : Int)) = false := by simp; omega
  have h2 : decide (65536 ≤ (x : Int)) = true := by simp; omega
  have h3 : decide (256 ≤ (x : Int) / 65536) = true := by simp; omega
  have hq : x / 65536 / 256 < 256 := by omega
  have hv := tab_len ⟨x / 65536 / 256, hq⟩
  have hle := Lib.bitLen_le8 ⟨x / 65536 / 256, hq⟩
  have HS := Lib.hid (show Lib.bitLen x = 24 + Lib.bitLen (x / 65536 / 256) from by rw [Lib.bitLen_shift16 (x) hB (by omega), Lib.bitLen_shift8 (x / 65536) hC (by omega)]; omega)
  dsimp only at hv hle
  have HV := Lib.hid (And.intro hv hle)
  clear hv hle
  go_enter Tryd.func78, Tryd.ntmps78
  go_wp2
  · go_ret
    refine ⟨congrArg Ending.returned (congrArg (Value.int IntKind.i64) ?_), rfl⟩
    have hv := HV.out.1
    have hle := HV.out.2
    rw [hv, HS.out]
    have _u := hC
    clear _u
    revert hle
    generalize Lib.bitLen (x / 65536 / 256) = q
    clear h1 h2 h3 hq hv HS HV hA hB hC hx
    intro hle
    simp only [wrap64]
    omega
  · exfalso
    rename_i hh
    have := Lib.len8tab_size
    omega

set_option maxRecDepth 100000 in
set_option maxHeartbeats 1000000 in
theorem len64_100 (x : Nat) (w : World) (hx : x < 18446744073709551616) (hA : 4294967296 ≤ x) (hB : x / 4294967296 < 65536) (hC : x / 4294967296 < 256) :
    Calls Tryd.prog 78 #[.int .u64 (x : Int)] w fun e w' => e = .returned (.int .i64 (Lib.bitLen x)) ∧ w' = w := by
  have h1 : decide (4294967296 ≤ (x : Int)) = true := by simp; omega
  have h2 : decide (65536 ≤ (x : Int) / 4294967296) = false := by simp; omega
  have h3 : decide (256 ≤ (x : Int) / 4294967296) = false := by simp; omega
  have hq : x / 4294967296 < 256 := by omega
  have hv := tab_len ⟨x / 4294967296, hq⟩
  have hle := Lib.bitLen_le8 ⟨x / 4294967296, hq⟩
  have HS := Lib.hid (show Lib.bitLen x = 32 + Lib.bitLen (x / 4294967296) from by rw [Lib.bitLen_shift32 x hA hx])
  dsimp only at hv hle
  have HV := Lib.hid (And.intro hv hle)
  clear hv hle
  go_enter Tryd.func78, Tryd.ntmps78
  go_wp2
  · go_ret
    refine ⟨congrArg Ending.returned (congrArg (Value.int IntKind.i64) ?_), rfl⟩
    have hv := HV.out.1
    have hle := HV.out.2
    rw [hv, HS.out]
    have _u := hB
    clear _u
    revert hle
    generalize Lib.bitLen (x / 4294967296) = q
    clear h1 h2 h3 hq hv HS HV hA hB hC hx
    intro hle
    simp only [wrap64]
    omega
  · exfalso
    rename_i hh
    have := Lib.len8tab_size
    omega

set_option maxRecDepth 100000 in
set_option maxHeartbeats 1000000 in
theorem len64_101 (x : Nat) (w : World) (hx : x < 18446744073709551616) (hA : 4294967296 ≤ x) (hB : x / 4294967296 < 65536) (hC : 256 ≤ x / 4294967296) :
    Calls Tryd.prog 78 #[.int .u64 (x : Int)] w fun e w' => e = .returned (.int .i64 (Lib.bitLen x)) ∧ w' = w := by
  have h1 : decide (4294967296 ≤ (x : Int)) = true := by simp; omega
  have h2 : decide (65536 ≤ (x : Int) / 4294967296) = false := by simp; omega
  have h3 : decide (256 ≤ (x : Int) / 4294967296) = true := by simp; omega
  have hq : x / 4294967296 / 256 < 256 := by omega
  have hv := tab_len ⟨x / 4294967296 / 256, hq⟩
  have hle := Lib.bitLen_le8 ⟨x / 4294967296 / 256, hq⟩
  have HS := Lib.hid (show Lib.bitLen x = 40 + Lib.bitLen (x / 4294967296 / 256) from by rw [Lib.bitLen_shift32 x hA hx, Lib.bitLen_shift8 (x / 4294967296) hC (by omega)]; omega)
  dsimp only at hv hle
  have HV := Lib.hid (And.intro hv hle)
  clear hv hle
  go_enter Tryd.func78, Tryd.ntmps78
  go_wp2
  · go_ret
    refine ⟨congrArg Ending.returned (congrArg (Value.int IntKind.i64) ?_), rfl⟩
    have hv := HV.out.1
    have hle := HV.out.2
    rw [hv, HS.out]
    have _u := hC
    clear _u
    revert hle
    generalize Lib.bitLen (x / 4294967296 / 256) = q
    clear h1 h2 h3 hq hv HS HV hA hB hC hx
    intro hle
    simp only [wrap64]
    omega
  · exfalso
    rename_i hh
    have := Lib.len8tab_size
    omega

set_option maxRecDepth 100000 in
set_option maxHeartbeats 1000000 in
theorem len64_110 (x : Nat) (w : World) (hx : x < 18446744073709551616) (hA : 4294967296 ≤ x) (hB : 65536 ≤ x / 4294967296) (hC : x / 4294967296 / 65536 < 256) :
    Calls Tryd.prog 78 #[.int .u64 (x : Int)] w fun e w' => e = .returned (.int .i64 (Lib.bitLen x)) ∧ w' = w := by
  have h1 : decide (4294967296 ≤ (x : Int)) = true := by simp; omega
  have h2 : decide (65536 ≤ (x : Int) / 4294967296) = true := by simp; omega
  have h3 : decide (256 ≤ (x : Int) / 4294967296 / 65536) = false := by simp; omega
  have hq : x / 4294967296 / 65536 < 256 := by omega
  have hv := tab_len ⟨x / 4294967296 / 65536, hq⟩
  have hle := Lib.bitLen_le8 ⟨x / 4294967296 / 65536, hq⟩
  have HS := Lib.hid (show Lib.bitLen x = 48 + Lib.bitLen (x / 4294967296 / 65536) from by rw [Lib.bitLen_shift32 x hA hx, Lib.bitLen_shift16 (x / 4294967296) hB (by omega)]; omega)
  dsimp only at hv hle
  have HV := Lib.hid (And.intro hv hle)
  clear hv hle
  go_enter Tryd.func78, Tryd.ntmps78
  go_wp2
  · go_ret
    refine ⟨congrArg Ending.returned (congrArg (Value.int IntKind.i64) ?_), rfl⟩
    have hv := HV.out.1
    have hle := HV.out.2
    rw [hv, HS.out]
    have _u := hC
    clear _u
    revert hle
    generalize Lib.bitLen (x / 4294967296 / 65536) = q
    clear h1 h2 h3 hq hv HS HV hA hB hC hx
    intro hle
    simp only [wrap64]
    omega
  · exfalso
    rename_i hh
    have := Lib.len8tab_size
    omega

set_option maxRecDepth 100000 in
set_option maxHeartbeats 1000000 in
theorem len64_111 (x : Nat) (w : World) (hx : x < 18446744073709551616) (hA : 4294967296 ≤ x) (hB : 65536 ≤ x / 4294967296) (hC : 256 ≤ x / 4294967296 / 65536) :
    Calls Tryd.prog 78 #[.int .u64 (x : Int)] w fun e w' => e = .returned (.int .i64 (Lib.bitLen x)) ∧ w' = w := by
  have h1 : decide (4294967296 ≤ (x : Int)) = true := by simp; omega
  have h2 : decide (65536 ≤ (x : Int) / 4294967296) = true := by simp; omega
  have h3 : decide (256 ≤ (x : Int) / 4294967296 / 65536) = true := by simp; omega
  have hq : x / 4294967296 / 65536 / 256 < 256 := by omega
  have hv := tab_len ⟨x / 4294967296 / 65536 / 256, hq⟩
  have hle := Lib.bitLen_le8 ⟨x / 4294967296 / 65536 / 256, hq⟩
  have HS := Lib.hid (show Lib.bitLen x = 56 + Lib.bitLen (x / 4294967296 / 65536 / 256) from by rw [Lib.bitLen_shift32 x hA hx, Lib.bitLen_shift16 (x / 4294967296) hB (by omega), Lib.bitLen_shift8 (x / 4294967296 / 65536) hC (by omega)]; omega)
  dsimp only at hv hle
  have HV := Lib.hid (And.intro hv hle)
  clear hv hle
  go_enter Tryd.func78, Tryd.ntmps78
  go_wp2
  · go_ret
    refine ⟨congrArg Ending.returned (congrArg (Value.int IntKind.i64) ?_), rfl⟩
    have hv := HV.out.1
    have hle := HV.out.2
    rw [hv, HS.out]
    have _u := hC
    clear _u
    revert hle
    generalize Lib.bitLen (x / 4294967296 / 65536 / 256) = q
    clear h1 h2 h3 hq hv HS HV hA hB hC hx
    intro hle
    simp only [wrap64]
    omega
  · exfalso
    rename_i hh
    have := Lib.len8tab_size
    omega

theorem len64_all (x : Nat) (w : World) (hx : x < 18446744073709551616) :
    Calls Tryd.prog 78 #[.int .u64 (x : Int)] w fun e w' => e = .returned (.int .i64 (Lib.bitLen x)) ∧ w' = w := by
  by_cases h0 : x < 65536
  · exact len64_any x w h0
  · by_cases hA : x < 4294967296
    · by_cases hC : x / 65536 < 256
      · exact len64_010 x w hx hA (by omega) hC
      · exact len64_011 x w hx hA (by omega) (by omega)
    · by_cases hB : x / 4294967296 < 65536
      · by_cases hC : x / 4294967296 < 256
        · exact len64_100 x w hx (by omega) hB hC
        · exact len64_101 x w hx (by omega) hB (by omega)
      · by_cases hC : x / 4294967296 / 65536 < 256
        · exact len64_110 x w hx (by omega) (by omega) hC
        · exact len64_111 x w hx (by omega) (by omega) (by omega)

theorem wrapU_pow {b : Nat} (h : 2 ^ b < 18446744073709551616) : IntKind.u64.wrap ((2 : Int) ^ b) = ((2 ^ b : Nat) : Int) := by
  have e : (2 : Int) ^ b = ((2 ^ b : Nat) : Int) := by simp
  rw [e]
  generalize 2 ^ b = q at h
  rw [IntKind.wrap_u64]
  omega

end Go.Proofs.YtllohbgejjbagaaDoor

/-
  How many leaves a left side has.
-/
namespace Go.Proofs.YtllohbgejjbagaaDoor
open Go.RowKit

set_option maxRecDepth 100000 in
set_option maxHeartbeats 1000000 in
theorem pleft_any (m : Nat) (w : World) (h2 : 2 ≤ m) (hm : m < 18446744073709551616) :
    Calls Tryd.prog 77 #[.int .u64 (m : Int)] w fun e w' => e = .returned (.int .u64 (cutN m : Int)) ∧ w' = w := by
  have C := Lib.hid (len64_all (m - 1) w (by omega))
  obtain ⟨b, hb0⟩ : ∃ b, Nat.log2 (m - 1) = b := ⟨_, rfl⟩
  have hb : Lib.bitLen (m - 1) = b + 1 := by rw [bitLen_log (by omega) (by omega), hb0]
  have hb64 : b < 64 := by rw [← hb0]; exact (Nat.log2_lt (by omega)).2 (by omega)
  rw [hb] at C
  have hcut : cutN m = 2 ^ b := by rw [cutN, hb0]
  have hm1 : (m : Int) - 1 = ((m - 1 : Nat) : Int) := by omega
  have hlt : 2 ^ b < 18446744073709551616 := Nat.lt_of_lt_of_le (Nat.pow_lt_pow_right (by omega) hb64) (Nat.le_refl (2 ^ 64))
  have HC := Lib.hid (And.intro hcut hlt)
  have HL := Lib.hid hb64
  clear hcut hb hb0 hlt
  go_enter Tryd.func77, Tryd.ntmps77
  go_wp2_with fail
  refine C.out.mono ?_
  rintro e w1 ⟨rfl, rfl⟩
  have hb64' : b < 64 := HL.out
  go_wp2_with fail
  go_ret
  exact ⟨by rw [HC.out.1, wrapU_pow HC.out.2]; rfl, rfl⟩

end Go.Proofs.YtllohbgejjbagaaDoor

/-
  paths.pathTo, paths.Of.
-/
namespace Go.Proofs.YtllohbgejjbagaaDoor
open Go.RowKit

section
variable {w : World} {n c at_ : Nat} {A : Option Addr} {ys : List Nat}

set_option maxRecDepth 100000 in
set_option maxHeartbeats 1000000 in
theorem path_one : Calls Tryd.prog 74 #[.slice A 1 c, .int .i64 (at_ : Int)] w (GivesS w.heap.size w 0 []) := by
  go_enter Tryd.func74, Tryd.ntmps74
  go_wp2_with fail
  go_ret
  exact ⟨none, 0, rfl, own_none _ _ _ _, Below.refl _ _⟩

set_option maxRecDepth 100000 in
set_option maxHeartbeats 2000000 in
theorem path_low {ad : Addr} {k m d : Nat} {L R : List Nat} (hc : n ≤ c) (hn : n ≤ 65536) (h2 : 2 ≤ n) (hk0 : cutN n = k) (hm0 : n - k = m) (ha : at_ < k) (hd : d ≤ 64) (hRl : R.length = 32)
    (ci : Calls Tryd.prog 74 #[.slice (some ad) k c, .int .i64 (at_ : Int)] w.drew (GivesS w.heap.size w d L))
    (cr : ∀ W : World, Below w.heap.size w W → Calls Tryd.prog 46 #[.slice (some (ad.add (k * 32))) m (c - k)] W fun e w' => e = .returned (sv R) ∧ Below W.heap.size W w') :
    Calls Tryd.prog 74 #[.slice (some ad) n c, .int .i64 (at_ : Int)] w (GivesS w.heap.size w (d + 1) (L ++ R)) := by
  have hcl := cutN_lt h2
  have hcp := cutN_pos n
  rw [hk0] at hcl hcp
  have hai : ¬ (k : Int) ≤ (at_ : Int) := by omega
  have CM := Lib.hid (pleft_any n w h2 (by omega))
  rw [hk0] at CM
  have ht := run_take_sums (ad := ad) (n := n) (c := c) (k := k) (by omega) hc
  have hr := run_drop_sums (ad := ad) (n := n) (c := c) (k := k) hcl hc
  rw [hm0] at hr
  have CI := Lib.hid ci
  have CR := Lib.hid cr
  have HD := Lib.hid hd
  have HX := Lib.hid (And.intro hc (And.intro hn (And.intro h2 (And.intro hk0 hm0))))
  have hd9 : d + 1 ≤ 1000000000 := by omega
  have n1 : ((n : Int) == 1) = false := by simp; omega
  have wn : IntKind.u64.wrap (n : Int) = (n : Int) := by rw [IntKind.wrap_u64]; omega
  have wk : IntKind.i64.wrap (k : Int) = (k : Int) := by rw [IntKind.wrap_i64]; omega
  have wk2 : wrap64 (k : Int) = (k : Int) := by simp only [wrap64]; omega
  clear ci cr hcl hcp hc hn h2 hk0 hm0 hd ha
  go_enter Tryd.func74, Tryd.ntmps74
  go_wp2_with fail
  refine CM.out.mono ?_
  rintro e w1 ⟨rfl, rfl⟩
  go_upto_region 4 with fail
  refine wp_region_held (S := fun _ => True) (by kernel_rfl) ?_
  change wpAnyH _ _ _ _ _ _ _ _ w1.drew
  refine' wpAnyH_take (i := 0) (oi := _) (v := _) ?hi0 (by kernel_rfl) ?hf0 ?hr0 ?hQ0 ?hy0 trivial ?rest0
  case hi0 => (simp only [List.getElem?_toArray, List.getElem?_cons_zero]; rfl)
  case hf0 => kernel_rfl
  case hr0 => kernel_rfl
  case hQ0 => exact fun _ _ _ h => h
  case hy0 =>
    refine Or.inl ⟨by rfl, ?_⟩
    intro W _
    go_simp
    try with_reducible rfl
  simp only [Act.put, List.setIfInBounds_toArray, List.set_cons_zero, List.set_cons_succ]
  refine' wpAnyH_take (i := 1) (oi := _) (v := _) ?hi1 (by kernel_rfl) ?hf1 ?hr1 ?hQ1 ?hy1 trivial ?rest1
  case hi1 => (simp only [List.getElem?_toArray, List.getElem?_cons_zero, List.getElem?_cons_succ]; rfl)
  case hf1 => kernel_rfl
  case hr1 => kernel_rfl
  case hQ1 => exact fun _ _ _ h => h
  case hy1 =>
    refine Or.inl ⟨by rfl, ?_⟩
    intro W _
    go_simp
    try with_reducible rfl
  simp only [Act.put, List.setIfInBounds_toArray, List.set_cons_zero, List.set_cons_succ]
  refine' wpAnyH_take (i := 2) (oi := _) (v := _) ?hi2 (by kernel_rfl) ?hf2 ?hr2 ?hQ2 ?hy2 trivial ?rest2
  case hi2 => (simp only [List.getElem?_toArray, List.getElem?_cons_zero, List.getElem?_cons_succ]; rfl)
  case hf2 => kernel_rfl
  case hr2 => kernel_rfl
  case hQ2 => exact fun _ _ _ h => h
  case hy2 =>
    refine Or.inl ⟨by rfl, ?_⟩
    intro W _
    go_simp
    try with_reducible rfl
  simp only [Act.put, List.setIfInBounds_toArray, List.set_cons_zero, List.set_cons_succ]
  refine' wpAnyH_take (i := 3) (oi := _) (v := _) ?hi3 (by kernel_rfl) ?hf3 ?hr3 ?hQ3 ?hy3 trivial ?rest3
  case hi3 => (simp only [List.getElem?_toArray, List.getElem?_cons_zero, List.getElem?_cons_succ]; rfl)
  case hf3 => kernel_rfl
  case hr3 => kernel_rfl
  case hQ3 => exact fun _ _ _ h => h
  case hy3 =>
    refine Or.inl ⟨by rfl, ?_⟩
    intro W _
    go_simp
    try with_reducible rfl
  simp only [Act.put, List.setIfInBounds_toArray, List.set_cons_zero, List.set_cons_succ]
  refine' wpAnyH_take (i := 4) (oi := _) (v := _) ?hi4 (by kernel_rfl) ?hf4 ?hr4 ?hQ4 ?hy4 trivial ?rest4
  case hi4 => (simp only [List.getElem?_toArray, List.getElem?_cons_zero, List.getElem?_cons_succ]; rfl)
  case hf4 => kernel_rfl
  case hr4 => kernel_rfl
  case hQ4 => exact fun _ _ _ h => h
  case hy4 =>
    refine Or.inl ⟨by rfl, ?_⟩
    intro W _
    go_simp
    try with_reducible rfl
  simp only [Act.put, List.setIfInBounds_toArray, List.set_cons_zero, List.set_cons_succ]
  refine' wpAnyH_take (i := 5) (oi := _) (v := _) ?hi5 (by kernel_rfl) ?hf5 ?hr5 ?hQ5 ?hy5 trivial ?rest5
  case hi5 => (simp only [List.getElem?_toArray, List.getElem?_cons_zero, List.getElem?_cons_succ]; rfl)
  case hf5 => kernel_rfl
  case hr5 => kernel_rfl
  case hQ5 => exact fun _ _ _ h => h
  case hy5 =>
    refine Or.inl ⟨by rfl, ?_⟩
    intro W _
    go_simp
    try with_reducible rfl
  simp only [Act.put, List.setIfInBounds_toArray, List.set_cons_zero, List.set_cons_succ]
  refine' wpAnyH_take (i := 6) (oi := _) (v := _) ?hi6 (by kernel_rfl) ?hf6 ?hr6 ?hQ6 ?hy6 trivial ?rest6
  case hi6 => (simp only [List.getElem?_toArray, List.getElem?_cons_zero, List.getElem?_cons_succ]; rfl)
  case hf6 => kernel_rfl
  case hr6 => kernel_rfl
  case hQ6 => exact fun _ _ _ h => h
  case hy6 =>
    refine Or.inl ⟨by rfl, ?_⟩
    intro W _
    go_simp
    try with_reducible rfl
  simp only [Act.put, List.setIfInBounds_toArray, List.set_cons_zero, List.set_cons_succ]
  refine' wpAnyH_take (i := 7) (oi := _) (v := _) ?hi7 (by kernel_rfl) ?hf7 ?hr7 ?hQ7 ?hy7 trivial ?rest7
  case hi7 => (simp only [List.getElem?_toArray, List.getElem?_cons_zero, List.getElem?_cons_succ]; rfl)
  case hf7 => kernel_rfl
  case hr7 => kernel_rfl
  case hQ7 => exact fun _ _ _ h => h
  case hy7 =>
    refine Or.inl ⟨by rfl, ?_⟩
    intro W _
    go_simp
    try with_reducible rfl
  simp only [Act.put, List.setIfInBounds_toArray, List.set_cons_zero, List.set_cons_succ]
  refine wpAnyH_done (by kernel_rfl) ?_ _
  go_wp2_with fail
  refine CI.out.mono ?_
  rintro e w2 ⟨A2, c2, rfl, ho2, hb2⟩
  have HO2 := Lib.hid (And.intro ho2 hb2)
  clear ho2 hb2
  go_wp2_with fail
  refine (CR.out w2 HO2.out.2).mono ?_
  rintro e w3 ⟨rfl, hb3⟩
  have b3 := below_on HO2.out.2 (Nat.le_refl _) hb3
  have o3 := own_on HO2.out.1 hb3
  have o4 := own_on o3 (below_alloc w3 (.cells (bvs R).toArray 34))
  have b4 := b3.alloc b3.size (.cells (bvs R).toArray 34)
  have i4 : InS (w3.alloc (.cells (bvs R).toArray 34)) (some ⟨w3.heap.size, 0, none⟩) 1 R := InS.of_own (own_sum w3 R 0 hRl (Nat.zero_le _))
  have H4 := Lib.hid (And.intro o4 (And.intro b4 i4))
  clear b3 o3 o4 b4 i4 hb3
  go_wp2_with (first
    | (refine wpList_one_sum rfl _ R rfl (by simp <;> rfl) hRl ?_)
    | (refine wpList_step fun K hK => ?_; refine step_sapp (K := K) (by rfl) _ _ (by rfl) w1.heap.size A2 d c2 L (by rfl) H4.out.1 (some ⟨w3.heap.size, 0, none⟩) 1 1 R (by rfl) H4.out.2.2 (fun h => by cases h) hd9 H4.out.2.1.size ?_; intro A5 c5 w5 o5 nx5; refine hK _ _ ?_; clear hK K))
  go_ret
  exact ⟨A5, c5, rfl, o5, nx5.below H4.out.1 H4.out.2.1 (Nat.le_refl _) H4.out.2.1.size⟩

set_option maxRecDepth 100000 in
set_option maxHeartbeats 2000000 in
theorem path_high {ad : Addr} {k m a d : Nat} {L R : List Nat} (hc : n ≤ c) (hn : n ≤ 65536) (h2 : 2 ≤ n) (hk0 : cutN n = k) (hm0 : n - k = m) (ha : ¬ at_ < k) (ha0 : at_ - k = a) (hat : at_ < n) (hd : d ≤ 64) (hRl : R.length = 32)
    (ci : Calls Tryd.prog 74 #[.slice (some (ad.add (k * 32))) m (c - k), .int .i64 (a : Int)] w.drew (GivesS w.heap.size w d L))
    (cr : ∀ W : World, Below w.heap.size w W → Calls Tryd.prog 46 #[.slice (some ad) k c] W fun e w' => e = .returned (sv R) ∧ Below W.heap.size W w') :
    Calls Tryd.prog 74 #[.slice (some ad) n c, .int .i64 (at_ : Int)] w (GivesS w.heap.size w (d + 1) (L ++ R)) := by
  have hcl := cutN_lt h2
  have hcp := cutN_pos n
  rw [hk0] at hcl hcp
  have hai : (k : Int) ≤ (at_ : Int) := by omega
  have CM := Lib.hid (pleft_any n w h2 (by omega))
  rw [hk0] at CM
  have ht := run_take_sums (ad := ad) (n := n) (c := c) (k := k) (by omega) hc
  have hr := run_drop_sums (ad := ad) (n := n) (c := c) (k := k) hcl hc
  rw [hm0] at hr
  have CI := Lib.hid ci
  have CR := Lib.hid cr
  have HD := Lib.hid hd
  have HX := Lib.hid (And.intro hc (And.intro hn (And.intro h2 (And.intro hk0 hm0))))
  have hd9 : d + 1 ≤ 1000000000 := by omega
  have n1 : ((n : Int) == 1) = false := by simp; omega
  have wn : IntKind.u64.wrap (n : Int) = (n : Int) := by rw [IntKind.wrap_u64]; omega
  have wk : IntKind.i64.wrap (k : Int) = (k : Int) := by rw [IntKind.wrap_i64]; omega
  have ea : (at_ : Int) - (k : Int) = (a : Int) := by omega
  have wa : wrap64 (a : Int) = (a : Int) := by simp only [wrap64]; omega
  have wk2 : wrap64 (k : Int) = (k : Int) := by simp only [wrap64]; omega
  clear ci cr hcl hcp hc hn h2 hk0 hm0 hd ha ha0 hat
  go_enter Tryd.func74, Tryd.ntmps74
  go_wp2_with fail
  refine CM.out.mono ?_
  rintro e w1 ⟨rfl, rfl⟩
  go_upto_region 4 with fail
  refine wp_region_held (S := fun _ => True) (by kernel_rfl) ?_
  change wpAnyH _ _ _ _ _ _ _ _ w1.drew
  refine' wpAnyH_take (i := 0) (oi := _) (v := _) ?hi0 (by kernel_rfl) ?hf0 ?hr0 ?hQ0 ?hy0 trivial ?rest0
  case hi0 => (simp only [List.getElem?_toArray, List.getElem?_cons_zero]; rfl)
  case hf0 => kernel_rfl
  case hr0 => kernel_rfl
  case hQ0 => exact fun _ _ _ h => h
  case hy0 =>
    refine Or.inl ⟨by rfl, ?_⟩
    intro W _
    go_simp
    try with_reducible rfl
  simp only [Act.put, List.setIfInBounds_toArray, List.set_cons_zero, List.set_cons_succ]
  refine' wpAnyH_take (i := 1) (oi := _) (v := _) ?hi1 (by kernel_rfl) ?hf1 ?hr1 ?hQ1 ?hy1 trivial ?rest1
  case hi1 => (simp only [List.getElem?_toArray, List.getElem?_cons_zero, List.getElem?_cons_succ]; rfl)
  case hf1 => kernel_rfl
  case hr1 => kernel_rfl
  case hQ1 => exact fun _ _ _ h => h
  case hy1 =>
    refine Or.inl ⟨by rfl, ?_⟩
    intro W _
    go_simp
    try with_reducible rfl
  simp only [Act.put, List.setIfInBounds_toArray, List.set_cons_zero, List.set_cons_succ]
  refine' wpAnyH_take (i := 2) (oi := _) (v := _) ?hi2 (by kernel_rfl) ?hf2 ?hr2 ?hQ2 ?hy2 trivial ?rest2
  case hi2 => (simp only [List.getElem?_toArray, List.getElem?_cons_zero, List.getElem?_cons_succ]; rfl)
  case hf2 => kernel_rfl
  case hr2 => kernel_rfl
  case hQ2 => exact fun _ _ _ h => h
  case hy2 =>
    refine Or.inl ⟨by rfl, ?_⟩
    intro W _
    go_simp
    try with_reducible rfl
  simp only [Act.put, List.setIfInBounds_toArray, List.set_cons_zero, List.set_cons_succ]
  refine' wpAnyH_take (i := 3) (oi := _) (v := _) ?hi3 (by kernel_rfl) ?hf3 ?hr3 ?hQ3 ?hy3 trivial ?rest3
  case hi3 => (simp only [List.getElem?_toArray, List.getElem?_cons_zero, List.getElem?_cons_succ]; rfl)
  case hf3 => kernel_rfl
  case hr3 => kernel_rfl
  case hQ3 => exact fun _ _ _ h => h
  case hy3 =>
    refine Or.inl ⟨by rfl, ?_⟩
    intro W _
    go_simp
    try with_reducible rfl
  simp only [Act.put, List.setIfInBounds_toArray, List.set_cons_zero, List.set_cons_succ]
  refine' wpAnyH_take (i := 4) (oi := _) (v := _) ?hi4 (by kernel_rfl) ?hf4 ?hr4 ?hQ4 ?hy4 trivial ?rest4
  case hi4 => (simp only [List.getElem?_toArray, List.getElem?_cons_zero, List.getElem?_cons_succ]; rfl)
  case hf4 => kernel_rfl
  case hr4 => kernel_rfl
  case hQ4 => exact fun _ _ _ h => h
  case hy4 =>
    refine Or.inl ⟨by rfl, ?_⟩
    intro W _
    go_simp
    try with_reducible rfl
  simp only [Act.put, List.setIfInBounds_toArray, List.set_cons_zero, List.set_cons_succ]
  refine' wpAnyH_take (i := 5) (oi := _) (v := _) ?hi5 (by kernel_rfl) ?hf5 ?hr5 ?hQ5 ?hy5 trivial ?rest5
  case hi5 => (simp only [List.getElem?_toArray, List.getElem?_cons_zero, List.getElem?_cons_succ]; rfl)
  case hf5 => kernel_rfl
  case hr5 => kernel_rfl
  case hQ5 => exact fun _ _ _ h => h
  case hy5 =>
    refine Or.inl ⟨by rfl, ?_⟩
    intro W _
    go_simp
    try with_reducible rfl
  simp only [Act.put, List.setIfInBounds_toArray, List.set_cons_zero, List.set_cons_succ]
  refine' wpAnyH_take (i := 6) (oi := _) (v := _) ?hi6 (by kernel_rfl) ?hf6 ?hr6 ?hQ6 ?hy6 trivial ?rest6
  case hi6 => (simp only [List.getElem?_toArray, List.getElem?_cons_zero, List.getElem?_cons_succ]; rfl)
  case hf6 => kernel_rfl
  case hr6 => kernel_rfl
  case hQ6 => exact fun _ _ _ h => h
  case hy6 =>
    refine Or.inl ⟨by rfl, ?_⟩
    intro W _
    go_simp
    try with_reducible rfl
  simp only [Act.put, List.setIfInBounds_toArray, List.set_cons_zero, List.set_cons_succ]
  refine' wpAnyH_take (i := 7) (oi := _) (v := _) ?hi7 (by kernel_rfl) ?hf7 ?hr7 ?hQ7 ?hy7 trivial ?rest7
  case hi7 => (simp only [List.getElem?_toArray, List.getElem?_cons_zero, List.getElem?_cons_succ]; rfl)
  case hf7 => kernel_rfl
  case hr7 => kernel_rfl
  case hQ7 => exact fun _ _ _ h => h
  case hy7 =>
    refine Or.inl ⟨by rfl, ?_⟩
    intro W _
    go_simp
    try with_reducible rfl
  simp only [Act.put, List.setIfInBounds_toArray, List.set_cons_zero, List.set_cons_succ]
  refine wpAnyH_done (by kernel_rfl) ?_ _
  go_wp2_with fail
  refine CI.out.mono ?_
  rintro e w2 ⟨A2, c2, rfl, ho2, hb2⟩
  have HO2 := Lib.hid (And.intro ho2 hb2)
  clear ho2 hb2
  go_wp2_with fail
  refine (CR.out w2 HO2.out.2).mono ?_
  rintro e w3 ⟨rfl, hb3⟩
  have b3 := below_on HO2.out.2 (Nat.le_refl _) hb3
  have o3 := own_on HO2.out.1 hb3
  have o4 := own_on o3 (below_alloc w3 (.cells (bvs R).toArray 34))
  have b4 := b3.alloc b3.size (.cells (bvs R).toArray 34)
  have i4 : InS (w3.alloc (.cells (bvs R).toArray 34)) (some ⟨w3.heap.size, 0, none⟩) 1 R := InS.of_own (own_sum w3 R 0 hRl (Nat.zero_le _))
  have H4 := Lib.hid (And.intro o4 (And.intro b4 i4))
  clear b3 o3 o4 b4 i4 hb3
  go_wp2_with (first
    | (refine wpList_one_sum rfl _ R rfl (by simp <;> rfl) hRl ?_)
    | (refine wpList_step fun K hK => ?_; refine step_sapp (K := K) (by rfl) _ _ (by rfl) w1.heap.size A2 d c2 L (by rfl) H4.out.1 (some ⟨w3.heap.size, 0, none⟩) 1 1 R (by rfl) H4.out.2.2 (fun h => by cases h) hd9 H4.out.2.1.size ?_; intro A5 c5 w5 o5 nx5; refine hK _ _ ?_; clear hK K))
  go_ret
  exact ⟨A5, c5, rfl, o5, nx5.below H4.out.1 H4.out.2.1 (Nat.le_refl _) H4.out.2.1.size⟩

end

end Go.Proofs.YtllohbgejjbagaaDoor

/-
  paths.pathTo whole; paths.Of.
-/
namespace Go.Proofs.YtllohbgejjbagaaDoor
open Go.RowKit

theorem path_any : ∀ (n at_ : Nat) (A : Option Addr) (c : Nat) (ys : List Nat) (w : World), InS w A n ys → (∀ x ∈ ys, x < 256) → n ≤ c → n ≤ 65536 → at_ < n → Knows w → Starts w →
    Calls Tryd.prog 74 #[.slice A n c, .int .i64 (at_ : Int)] w (GivesS w.heap.size w (dep at_ n) (pathL (nth ys) 0 n at_).flatten) := by
  intro n
  induction n using Nat.strongRecOn with
  | ind n ih =>
    intro at_ A c ys w hin hy hc hn hat hk hs
    by_cases h1 : n < 2
    · obtain rfl : n = 1 := by omega
      rw [dep_one h1, pathL_one _ h1]
      exact path_one
    · have hcl := cutN_lt (m := n) (by omega)
      have hcp := cutN_pos n
      obtain ⟨ad, rfl⟩ := hin.some_ (by omega)
      have hd := dep_64 (n := n) (at_ := at_) hat (by omega)
      have lk : ∀ {i m : Nat}, i + m ≤ n → (rt (nth ys) i m).length = 32 := fun {i m} h => rt_length _ i m fun j hj => nth_length hin.len (by omega)
      have dr : Below w.heap.size w w.drew := (Below.refl _ w).drew
      have ytake : ∀ x ∈ ys.take (32 * cutN n), x < 256 := fun x hx => hy x (List.mem_of_mem_take hx)
      have ydrop : ∀ x ∈ ys.drop (32 * cutN n), x < 256 := fun x hx => hy x (List.mem_of_mem_drop hx)
      by_cases ha : at_ < cutN n
      · rw [dep_low (by omega) ha] at hd ⊢
        rw [pathL_low _ (by omega) ha, List.flatten_append, List.flatten_singleton, Nat.zero_add]
        refine path_low hc hn (by omega) rfl rfl ha (by omega) (lk (by omega)) ?_ ?_
        · have := ih (cutN n) hcl at_ (some ad) c (ys.take (32 * cutN n)) w.drew ((hin.take (k := cutN n) (by omega)).below dr) ytake (by omega) (by omega) ha (hk.below dr) (hs.below dr)
          rw [pathL_congr (nth (ys.take (32 * cutN n))) (nth ys) (cutN n) 0 0 at_ (fun j hj => by rw [Nat.zero_add]; exact nth_take hj)] at this
          exact this.mono fun e w' ⟨A', c', he, ho, hb⟩ => ⟨A', c', he, ho, dr.trans hb⟩
        · intro W hW
          have := root_any (some (ad.add (cutN n * 32))) (n - cutN n) (c - cutN n) (ys.drop (32 * cutN n)) W ((hin.drop_ _ (by omega)).below hW) ydrop (by omega) (by omega) (hk.below hW) (hs.below hW)
          rw [rt_drop] at this
          exact this
      · rw [dep_high (by omega) ha] at hd ⊢
        rw [pathL_high _ (by omega) ha, List.flatten_append, List.flatten_singleton, Nat.zero_add]
        refine path_high hc hn (by omega) rfl rfl ha rfl hat (by omega) (lk (by omega)) ?_ ?_
        · have := ih (n - cutN n) (by omega) (at_ - cutN n) (some (ad.add (cutN n * 32))) (c - cutN n) (ys.drop (32 * cutN n)) w.drew ((hin.drop_ (cutN n) (by omega)).below dr) ydrop (by omega) (by omega) (by omega) (hk.below dr) (hs.below dr)
          rw [pathL_congr (nth (ys.drop (32 * cutN n))) (nth ys) (n - cutN n) 0 (cutN n) (at_ - cutN n) (fun j hj => by rw [Nat.zero_add]; exact nth_drop _ _ _)] at this
          exact this.mono fun e w' ⟨A', c', he, ho, hb⟩ => ⟨A', c', he, ho, dr.trans hb⟩
        · intro W hW
          have := root_any (some ad) (cutN n) c (ys.take (32 * cutN n)) W ((hin.take (by omega)).below hW) ytake (by omega) (by omega) (hk.below hW) (hs.below hW)
          rw [rt_take] at this
          exact this

set_option maxRecDepth 100000 in
set_option maxHeartbeats 1000000 in
/-- paths.Of at a place that there is not. -/
theorem pof_no {w : World} {n c : Nat} {A : Option Addr} (z : Int) (h : z < 0 ∨ (n : Int) ≤ z) :
    Calls Tryd.prog 49 #[.slice A n c, .int .i64 z] w fun e w' => e = .returned (.tuple #[.slice none 0 0, .int .i64 1]) ∧ w' = w := by
  by_cases h0 : z < 0
  · go_enter Tryd.func49, Tryd.ntmps49
    go_wp2_with fail
    go_ret2
    exact ⟨rfl, rfl⟩
  · have h1 : (n : Int) ≤ z := by omega
    go_enter Tryd.func49, Tryd.ntmps49
    go_wp2_with fail
    go_ret2
    exact ⟨rfl, rfl⟩

set_option maxRecDepth 100000 in
set_option maxHeartbeats 1000000 in
/-- paths.Of. -/
theorem pof_yes {w : World} {n c at_ : Nat} {A : Option Addr} {ys : List Nat} (hin : InS w A n ys) (hy : ∀ x ∈ ys, x < 256) (hc : n ≤ c) (hn : n ≤ 65536) (hat : at_ < n) (hk : Knows w) (hs : Starts w) :
    Calls Tryd.prog 49 #[.slice A n c, .int .i64 (at_ : Int)] w fun e w' => ∃ A' c', e = .returned (.tuple #[.slice A' (dep at_ n) c', .int .i64 0]) ∧ w'.ownsRow w.heap.size 34 32 (.slice A' (dep at_ n) c') (dep at_ n) (bvs (pathL (nth ys) 0 n at_).flatten) ∧ Below w.heap.size w w' := by
  have C := Lib.hid (path_any n at_ A c ys w hin hy hc hn hat hk hs)
  have h0 : ¬ (at_ : Int) < 0 := by omega
  have h1 : ¬ (n : Int) ≤ (at_ : Int) := by omega
  clear hin hy hc hn hat hk hs
  go_enter Tryd.func49, Tryd.ntmps49
  go_wp2_with fail
  refine C.out.mono ?_
  rintro e w1 ⟨A', c', rfl, ho, hb⟩
  go_wp2_with fail
  go_ret2
  exact ⟨A', c', rfl, ho, hb⟩

end Go.Proofs.YtllohbgejjbagaaDoor

/-
  links.left: how many leaves a left side has.
-/
namespace Go.Proofs.YtllohbgejjbagaaDoor
open Go.RowKit

set_option maxRecDepth 100000 in
set_option maxHeartbeats 1000000 in
theorem kleft_any (m : Nat) (w : World) (h2 : 2 ≤ m) (hm : m < 18446744073709551616) :
    Calls Tryd.prog 62 #[.int .u64 (m : Int)] w fun e w' => e = .returned (.int .u64 (cutN m : Int)) ∧ w' = w := by
  have C := Lib.hid (len64_all (m - 1) w (by omega))
  obtain ⟨b, hb0⟩ : ∃ b, Nat.log2 (m - 1) = b := ⟨_, rfl⟩
  have hb : Lib.bitLen (m - 1) = b + 1 := by rw [bitLen_log (by omega) (by omega), hb0]
  have hb64 : b < 64 := by rw [← hb0]; exact (Nat.log2_lt (by omega)).2 (by omega)
  rw [hb] at C
  have hcut : cutN m = 2 ^ b := by rw [cutN, hb0]
  have hm1 : (m : Int) - 1 = ((m - 1 : Nat) : Int) := by omega
  have hlt : 2 ^ b < 18446744073709551616 := Nat.lt_of_lt_of_le (Nat.pow_lt_pow_right (by omega) hb64) (Nat.le_refl (2 ^ 64))
  have HC := Lib.hid (And.intro hcut hlt)
  have HL := Lib.hid hb64
  clear hcut hb hb0 hlt
  go_enter Tryd.func62, Tryd.ntmps62
  go_wp2_with fail
  refine C.out.mono ?_
  rintro e w1 ⟨rfl, rfl⟩
  have hb64' : b < 64 := HL.out
  go_wp2_with fail
  go_ret
  exact ⟨by rw [HC.out.1, wrapU_pow HC.out.2]; rfl, rfl⟩

end Go.Proofs.YtllohbgejjbagaaDoor

/-
  links.linkOf, one step.
-/
namespace Go.Proofs.YtllohbgejjbagaaDoor
open Go.RowKit

theorem kwrap64 {k : Nat} (h : k ≤ 65536) : wrap64 (k : Int) = (k : Int) := by simp only [wrap64]; omega
theorem kwrapI {k : Nat} (h : k ≤ 65536) : IntKind.i64.wrap (k : Int) = (k : Int) := by rw [IntKind.wrap_i64]; omega

section
variable {w : World} {n c from_ : Nat} {A : Option Addr} {ys : List Nat} {edge : Bool}

set_option maxRecDepth 100000 in
set_option maxHeartbeats 1000000 in
theorem klink_edge (hf : from_ = n) : Calls Tryd.prog 75 #[.slice A n c, .int .i64 (from_ : Int), .bool true] w (GivesS w.heap.size w 0 []) := by
  subst hf
  have hq : ((from_ : Int) == (from_ : Int)) = true := by simp
  go_enter Tryd.func75, Tryd.ntmps75
  go_wp2_with fail
  go_ret
  exact ⟨none, 0, rfl, own_none _ _ _ _, Below.refl _ _⟩

set_option maxRecDepth 100000 in
set_option maxHeartbeats 1000000 in
theorem klink_root {R : List Nat} (hf : from_ = n) (hRl : R.length = 32) (cr : Calls Tryd.prog 46 #[.slice A n c] w fun e w' => e = .returned (sv R) ∧ Below w.heap.size w w') :
    Calls Tryd.prog 75 #[.slice A n c, .int .i64 (from_ : Int), .bool false] w (GivesS w.heap.size w 1 R) := by
  subst hf
  have hq : ((from_ : Int) == (from_ : Int)) = true := by simp
  go_enter Tryd.func75, Tryd.ntmps75
  go_wp2_with fail
  refine cr.mono ?_
  rintro e w1 ⟨rfl, hb1⟩
  have HB := Lib.hid hb1
  clear hb1
  go_wp2_with (refine wpList_one_sum rfl _ R rfl (by simp <;> rfl) hRl ?_)
  go_ret
  exact ⟨some ⟨w1.heap.size, 0, none⟩, 1, rfl, own_sum w1 R w.heap.size hRl HB.out.size, below_on HB.out (Nat.le_refl _) (below_alloc w1 _)⟩

set_option maxRecDepth 100000 in
set_option maxHeartbeats 4000000 in
theorem klink_low {ad : Addr} {k m d : Nat} {L R : List Nat} (hc : n ≤ c) (hn : n ≤ 65536) (h2 : 2 ≤ n) (hfn : from_ < n) (hk0 : cutN n = k) (hm0 : n - k = m) (ha : from_ ≤ k) (hd : d ≤ 100) (hRl : R.length = 32)
    (ci : Calls Tryd.prog 75 #[.slice (some ad) k c, .int .i64 (from_ : Int), .bool edge] w.drew (GivesS w.heap.size w d L))
    (cr : ∀ W : World, Below w.heap.size w W → Calls Tryd.prog 46 #[.slice (some (ad.add (k * 32))) m (c - k)] W fun e w' => e = .returned (sv R) ∧ Below W.heap.size W w') :
    Calls Tryd.prog 75 #[.slice (some ad) n c, .int .i64 (from_ : Int), .bool edge] w (GivesS w.heap.size w (d + 1) (L ++ R)) := by
  have hcl := cutN_lt h2
  have hcp := cutN_pos n
  rw [hk0] at hcl hcp
  have hk65 : k ≤ 65536 := by omega
  have hne : ((from_ : Int) == (n : Int)) = false := by simp; omega
  have hai : (from_ : Int) ≤ (k : Int) := by omega
  have CM := Lib.hid (kleft_any n w h2 (by omega))
  rw [hk0] at CM
  have ht := run_take_sums (ad := ad) (n := n) (c := c) (k := k) (by omega) hc
  have hr := run_drop_sums (ad := ad) (n := n) (c := c) (k := k) hcl hc
  rw [hm0] at hr
  have CI := Lib.hid ci
  have CR := Lib.hid cr
  have HD := Lib.hid hd
  have hd9 : d + 1 ≤ 1000000000 := by omega
  have wn : IntKind.u64.wrap (n : Int) = (n : Int) := by rw [IntKind.wrap_u64]; omega
  have wk : IntKind.i64.wrap (k : Int) = (k : Int) := kwrapI hk65
  have wk2 : wrap64 (k : Int) = (k : Int) := kwrap64 hk65
  clear ci cr hcl hcp hc hn h2 hk0 hm0 hd ha hfn hk65
  go_enter Tryd.func75, Tryd.ntmps75
  go_wp2_with fail
  refine CM.out.mono ?_
  rintro e w1 ⟨rfl, rfl⟩
  go_upto_region 7 with fail
  refine wp_region_held (S := fun _ => True) (by kernel_rfl) ?_
  change wpAnyH _ _ _ _ _ _ _ _ w1.drew
  refine' wpAnyH_take (i := 0) (oi := _) (v := _) ?hi0 (by kernel_rfl) ?hf0 ?hr0 ?hQ0 ?hy0 trivial ?rest0
  case hi0 => (simp only [List.getElem?_toArray, List.getElem?_cons_zero]; rfl)
  case hf0 => kernel_rfl
  case hr0 => kernel_rfl
  case hQ0 => exact fun _ _ _ h => h
  case hy0 =>
    refine Or.inl ⟨by rfl, ?_⟩
    intro W _
    go_simp
    try with_reducible rfl
  try simp only [Act.put, List.setIfInBounds_toArray, List.set_cons_zero, List.set_cons_succ]
  refine' wpAnyH_take (i := 1) (oi := _) (v := _) ?hi1 (by kernel_rfl) ?hf1 ?hr1 ?hQ1 ?hy1 trivial ?rest1
  case hi1 => (simp only [List.getElem?_toArray, List.getElem?_cons_zero, List.getElem?_cons_succ]; rfl)
  case hf1 => kernel_rfl
  case hr1 => kernel_rfl
  case hQ1 => exact fun _ _ _ h => h
  case hy1 =>
    refine Or.inl ⟨by rfl, ?_⟩
    intro W _
    go_simp
    try with_reducible rfl
  try simp only [Act.put, List.setIfInBounds_toArray, List.set_cons_zero, List.set_cons_succ]
  refine' wpAnyH_take (i := 2) (oi := _) (v := _) ?hi2 (by kernel_rfl) ?hf2 ?hr2 ?hQ2 ?hy2 trivial ?rest2
  case hi2 => (simp only [List.getElem?_toArray, List.getElem?_cons_zero, List.getElem?_cons_succ]; rfl)
  case hf2 => kernel_rfl
  case hr2 => kernel_rfl
  case hQ2 => exact fun _ _ _ h => h
  case hy2 =>
    refine Or.inl ⟨by rfl, ?_⟩
    intro W _
    go_simp
    try with_reducible rfl
  try simp only [Act.put, List.setIfInBounds_toArray, List.set_cons_zero, List.set_cons_succ]
  refine' wpAnyH_take (i := 3) (oi := _) (v := _) ?hi3 (by kernel_rfl) ?hf3 ?hr3 ?hQ3 ?hy3 trivial ?rest3
  case hi3 => (simp only [List.getElem?_toArray, List.getElem?_cons_zero, List.getElem?_cons_succ]; rfl)
  case hf3 => kernel_rfl
  case hr3 => kernel_rfl
  case hQ3 => exact fun _ _ _ h => h
  case hy3 =>
    refine Or.inl ⟨by rfl, ?_⟩
    intro W _
    go_simp
    try with_reducible rfl
  try simp only [Act.put, List.setIfInBounds_toArray, List.set_cons_zero, List.set_cons_succ]
  refine' wpAnyH_take (i := 4) (oi := _) (v := _) ?hi4 (by kernel_rfl) ?hf4 ?hr4 ?hQ4 ?hy4 trivial ?rest4
  case hi4 => (simp only [List.getElem?_toArray, List.getElem?_cons_zero, List.getElem?_cons_succ]; rfl)
  case hf4 => kernel_rfl
  case hr4 => kernel_rfl
  case hQ4 => exact fun _ _ _ h => h
  case hy4 =>
    refine Or.inl ⟨by rfl, ?_⟩
    intro W _
    go_simp
    try with_reducible rfl
  try simp only [Act.put, List.setIfInBounds_toArray, List.set_cons_zero, List.set_cons_succ]
  refine' wpAnyH_take (i := 6) (oi := _) (v := _) ?hi6 (by kernel_rfl) ?hf6 ?hr6 ?hQ6 ?hy6 trivial ?rest6
  case hi6 => (simp only [List.getElem?_toArray, List.getElem?_cons_zero, List.getElem?_cons_succ]; rfl)
  case hf6 => kernel_rfl
  case hr6 => kernel_rfl
  case hQ6 => exact fun _ _ _ h => h
  case hy6 =>
    refine Or.inl ⟨by rfl, ?_⟩
    intro W _
    go_simp
    try with_reducible rfl
  try simp only [Act.put, List.setIfInBounds_toArray, List.set_cons_zero, List.set_cons_succ]
  refine' wpAnyH_take (i := 7) (oi := _) (v := _) ?hi7 (by kernel_rfl) ?hf7 ?hr7 ?hQ7 ?hy7 trivial ?rest7
  case hi7 => (simp only [List.getElem?_toArray, List.getElem?_cons_zero, List.getElem?_cons_succ]; rfl)
  case hf7 => kernel_rfl
  case hr7 => kernel_rfl
  case hQ7 => exact fun _ _ _ h => h
  case hy7 =>
    refine Or.inl ⟨by rfl, ?_⟩
    intro W _
    go_simp
    try with_reducible rfl
  try simp only [Act.put, List.setIfInBounds_toArray, List.set_cons_zero, List.set_cons_succ]
  refine' wpAnyH_take (i := 8) (oi := _) (v := _) ?hi8 (by kernel_rfl) ?hf8 ?hr8 ?hQ8 ?hy8 trivial ?rest8
  case hi8 => (simp only [List.getElem?_toArray, List.getElem?_cons_zero, List.getElem?_cons_succ]; rfl)
  case hf8 => kernel_rfl
  case hr8 => kernel_rfl
  case hQ8 => exact fun _ _ _ h => h
  case hy8 =>
    refine Or.inl ⟨by rfl, ?_⟩
    intro W _
    go_simp
    try with_reducible rfl
  try simp only [Act.put, List.setIfInBounds_toArray, List.set_cons_zero, List.set_cons_succ]
  refine wpAnyH_ready (rs := [5]) (by kernel_rfl) (by simp) ?_
  refine' AllReadyH.cons (o := _) ?hi5 (fun K hK => ?_) AllReadyH.nil
  case hi5 => (simp only [List.getElem?_toArray, List.getElem?_cons_zero, List.getElem?_cons_succ]; rfl)
  go_simp
  refine CI.out.mono ?_
  rintro e w2 ⟨A2, c2, rfl, ho2, hb2⟩
  have HO2 := Lib.hid (And.intro ho2 hb2)
  clear ho2 hb2
  refine hK.out _ _ trivial (fun _ => ?_)
  clear hK K
  try simp only [Act.put, List.setIfInBounds_toArray, List.set_cons_zero, List.set_cons_succ]
  refine wpAnyH_ready (rs := [9]) (by kernel_rfl) (by simp) ?_
  refine' AllReadyH.cons (o := _) ?hi9 (fun K hK => ?_) AllReadyH.nil
  case hi9 => (simp only [List.getElem?_toArray, List.getElem?_cons_zero, List.getElem?_cons_succ]; rfl)
  go_simp
  refine (CR.out w2 HO2.out.2).mono ?_
  rintro e w3 ⟨rfl, hb3⟩
  have b3 := below_on HO2.out.2 (Nat.le_refl _) hb3
  have o3 := own_on HO2.out.1 hb3
  have o4 := own_on o3 (below_alloc w3 (.cells (bvs R).toArray 34))
  have b4 := b3.alloc b3.size (.cells (bvs R).toArray 34)
  have i4 : InS (w3.alloc (.cells (bvs R).toArray 34)) (some ⟨w3.heap.size, 0, none⟩) 1 R := InS.of_own (own_sum w3 R 0 hRl (Nat.zero_le _))
  have H4 := Lib.hid (And.intro o4 (And.intro b4 i4))
  clear b3 o3 o4 b4 i4 hb3
  refine hK.out _ _ trivial (fun _ => ?_)
  clear hK K
  try simp only [Act.put, List.setIfInBounds_toArray, List.set_cons_zero, List.set_cons_succ]
  refine wpAnyH_ready (rs := [10]) (by kernel_rfl) (by simp) ?_
  refine' AllReadyH.cons (o := _) ?hi10 (fun K hK => ?_) AllReadyH.nil
  case hi10 => (simp only [List.getElem?_toArray, List.getElem?_cons_zero, List.getElem?_cons_succ]; rfl)
  rw [if_pos (by rfl)]
  refine wp_sums _ [R] 1 rfl rfl (by simp <;> rfl) (by intro q hq; simp at hq; rw [hq]; exact hRl) (by omega) (by omega) ?_
  rw [show [R].flatten = R by simp]
  refine hK.out _ _ trivial (fun _ => ?_)
  clear hK K
  try simp only [Act.put, List.setIfInBounds_toArray, List.set_cons_zero, List.set_cons_succ]
  refine wpAnyH_ready (rs := [11]) (by kernel_rfl) (by simp) ?_
  refine' AllReadyH.cons (o := _) ?hi11 (fun K hK => ?_) AllReadyH.nil
  case hi11 => (simp only [List.getElem?_toArray, List.getElem?_cons_zero, List.getElem?_cons_succ]; rfl)
  refine step_sapp (K := K) (by rfl) _ _ (by rfl) w1.heap.size A2 d c2 L (by rfl) H4.out.1 (some ⟨w3.heap.size, 0, none⟩) 1 1 R (by rfl) H4.out.2.2 (fun h => by cases h) hd9 H4.out.2.1.size ?_
  intro A5 c5 w5 o5 nx5
  refine hK.out _ _ trivial (fun _ => ?_)
  clear hK K
  try simp only [Act.put, List.setIfInBounds_toArray, List.set_cons_zero, List.set_cons_succ]
  refine' wpAnyH_take (i := 12) (oi := _) (v := _) ?hi12 (by kernel_rfl) ?hf12 ?hr12 ?hQ12 ?hy12 trivial ?rest12
  case hi12 => (simp only [List.getElem?_toArray, List.getElem?_cons_zero, List.getElem?_cons_succ]; rfl)
  case hf12 => kernel_rfl
  case hr12 => kernel_rfl
  case hQ12 => exact fun _ _ _ h => h
  case hy12 =>
    refine Or.inl ⟨by rfl, ?_⟩
    intro W _
    go_simp
    try with_reducible rfl
  try simp only [Act.put, List.setIfInBounds_toArray, List.set_cons_zero, List.set_cons_succ]
  refine wpAnyH_done (by kernel_rfl) ?_ _
  go_wp2
  go_ret
  exact ⟨A5, c5, rfl, o5, nx5.below H4.out.1 H4.out.2.1 (Nat.le_refl _) H4.out.2.1.size⟩

set_option maxRecDepth 100000 in
set_option maxHeartbeats 4000000 in
theorem klink_high {ad : Addr} {k m a d : Nat} {L R : List Nat} (hc : n ≤ c) (hn : n ≤ 65536) (h2 : 2 ≤ n) (hfn : from_ < n) (hk0 : cutN n = k) (hm0 : n - k = m) (ha : ¬ from_ ≤ k) (ha0 : from_ - k = a) (hd : d ≤ 100) (hRl : R.length = 32)
    (ci : Calls Tryd.prog 75 #[.slice (some (ad.add (k * 32))) m (c - k), .int .i64 (a : Int), .bool false] w.drew (GivesS w.heap.size w d L))
    (cr : ∀ W : World, Below w.heap.size w W → Calls Tryd.prog 46 #[.slice (some ad) k c] W fun e w' => e = .returned (sv R) ∧ Below W.heap.size W w') :
    Calls Tryd.prog 75 #[.slice (some ad) n c, .int .i64 (from_ : Int), .bool edge] w (GivesS w.heap.size w (d + 1) (L ++ R)) := by
  have hcl := cutN_lt h2
  have hcp := cutN_pos n
  rw [hk0] at hcl hcp
  have hk65 : k ≤ 65536 := by omega
  have ha65 : a ≤ 65536 := by omega
  have hne : ((from_ : Int) == (n : Int)) = false := by simp; omega
  have hai : ¬ (from_ : Int) ≤ (k : Int) := by omega
  have CM := Lib.hid (kleft_any n w h2 (by omega))
  rw [hk0] at CM
  have ht := run_take_sums (ad := ad) (n := n) (c := c) (k := k) (by omega) hc
  have hr := run_drop_sums (ad := ad) (n := n) (c := c) (k := k) hcl hc
  rw [hm0] at hr
  have CI := Lib.hid ci
  have CR := Lib.hid cr
  have HD := Lib.hid hd
  have hd9 : d + 1 ≤ 1000000000 := by omega
  have wn : IntKind.u64.wrap (n : Int) = (n : Int) := by rw [IntKind.wrap_u64]; omega
  have wk : IntKind.i64.wrap (k : Int) = (k : Int) := kwrapI hk65
  have ea : (from_ : Int) - (k : Int) = (a : Int) := by omega
  have wa : wrap64 (a : Int) = (a : Int) := kwrap64 ha65
  have wa2 : IntKind.i64.wrap (a : Int) = (a : Int) := kwrapI ha65
  have wk2 : wrap64 (k : Int) = (k : Int) := kwrap64 hk65
  clear ci cr hcl hcp hc hn h2 hk0 hm0 hd ha hfn hk65 ha0 ha65
  go_enter Tryd.func75, Tryd.ntmps75
  go_wp2_with fail
  refine CM.out.mono ?_
  rintro e w1 ⟨rfl, rfl⟩
  go_upto_region 8 with fail
  refine wp_region_held (S := fun _ => True) (by kernel_rfl) ?_
  change wpAnyH _ _ _ _ _ _ _ _ w1.drew
  refine' wpAnyH_take (i := 0) (oi := _) (v := _) ?hi0 (by kernel_rfl) ?hf0 ?hr0 ?hQ0 ?hy0 trivial ?rest0
  case hi0 => (simp only [List.getElem?_toArray, List.getElem?_cons_zero]; rfl)
  case hf0 => kernel_rfl
  case hr0 => kernel_rfl
  case hQ0 => exact fun _ _ _ h => h
  case hy0 =>
    refine Or.inl ⟨by rfl, ?_⟩
    intro W _
    go_simp
    try with_reducible rfl
  try simp only [Act.put, List.setIfInBounds_toArray, List.set_cons_zero, List.set_cons_succ]
  refine' wpAnyH_take (i := 1) (oi := _) (v := _) ?hi1 (by kernel_rfl) ?hf1 ?hr1 ?hQ1 ?hy1 trivial ?rest1
  case hi1 => (simp only [List.getElem?_toArray, List.getElem?_cons_zero, List.getElem?_cons_succ]; rfl)
  case hf1 => kernel_rfl
  case hr1 => kernel_rfl
  case hQ1 => exact fun _ _ _ h => h
  case hy1 =>
    refine Or.inl ⟨by rfl, ?_⟩
    intro W _
    go_simp
    try with_reducible rfl
  try simp only [Act.put, List.setIfInBounds_toArray, List.set_cons_zero, List.set_cons_succ]
  refine' wpAnyH_take (i := 2) (oi := _) (v := _) ?hi2 (by kernel_rfl) ?hf2 ?hr2 ?hQ2 ?hy2 trivial ?rest2
  case hi2 => (simp only [List.getElem?_toArray, List.getElem?_cons_zero, List.getElem?_cons_succ]; rfl)
  case hf2 => kernel_rfl
  case hr2 => kernel_rfl
  case hQ2 => exact fun _ _ _ h => h
  case hy2 =>
    refine Or.inl ⟨by rfl, ?_⟩
    intro W _
    go_simp
    try with_reducible rfl
  try simp only [Act.put, List.setIfInBounds_toArray, List.set_cons_zero, List.set_cons_succ]
  refine' wpAnyH_take (i := 3) (oi := _) (v := _) ?hi3 (by kernel_rfl) ?hf3 ?hr3 ?hQ3 ?hy3 trivial ?rest3
  case hi3 => (simp only [List.getElem?_toArray, List.getElem?_cons_zero, List.getElem?_cons_succ]; rfl)
  case hf3 => kernel_rfl
  case hr3 => kernel_rfl
  case hQ3 => exact fun _ _ _ h => h
  case hy3 =>
    refine Or.inl ⟨by rfl, ?_⟩
    intro W _
    go_simp
    try with_reducible rfl
  try simp only [Act.put, List.setIfInBounds_toArray, List.set_cons_zero, List.set_cons_succ]
  refine' wpAnyH_take (i := 4) (oi := _) (v := _) ?hi4 (by kernel_rfl) ?hf4 ?hr4 ?hQ4 ?hy4 trivial ?rest4
  case hi4 => (simp only [List.getElem?_toArray, List.getElem?_cons_zero, List.getElem?_cons_succ]; rfl)
  case hf4 => kernel_rfl
  case hr4 => kernel_rfl
  case hQ4 => exact fun _ _ _ h => h
  case hy4 =>
    refine Or.inl ⟨by rfl, ?_⟩
    intro W _
    go_simp
    try with_reducible rfl
  try simp only [Act.put, List.setIfInBounds_toArray, List.set_cons_zero, List.set_cons_succ]
  refine' wpAnyH_take (i := 5) (oi := _) (v := _) ?hi5 (by kernel_rfl) ?hf5 ?hr5 ?hQ5 ?hy5 trivial ?rest5
  case hi5 => (simp only [List.getElem?_toArray, List.getElem?_cons_zero, List.getElem?_cons_succ]; rfl)
  case hf5 => kernel_rfl
  case hr5 => kernel_rfl
  case hQ5 => exact fun _ _ _ h => h
  case hy5 =>
    refine Or.inl ⟨by rfl, ?_⟩
    intro W _
    go_simp
    try with_reducible rfl
  try simp only [Act.put, List.setIfInBounds_toArray, List.set_cons_zero, List.set_cons_succ]
  refine' wpAnyH_take (i := 7) (oi := _) (v := _) ?hi7 (by kernel_rfl) ?hf7 ?hr7 ?hQ7 ?hy7 trivial ?rest7
  case hi7 => (simp only [List.getElem?_toArray, List.getElem?_cons_zero, List.getElem?_cons_succ]; rfl)
  case hf7 => kernel_rfl
  case hr7 => kernel_rfl
  case hQ7 => exact fun _ _ _ h => h
  case hy7 =>
    refine Or.inl ⟨by rfl, ?_⟩
    intro W _
    go_simp
    try with_reducible rfl
  try simp only [Act.put, List.setIfInBounds_toArray, List.set_cons_zero, List.set_cons_succ]
  refine' wpAnyH_take (i := 8) (oi := _) (v := _) ?hi8 (by kernel_rfl) ?hf8 ?hr8 ?hQ8 ?hy8 trivial ?rest8
  case hi8 => (simp only [List.getElem?_toArray, List.getElem?_cons_zero, List.getElem?_cons_succ]; rfl)
  case hf8 => kernel_rfl
  case hr8 => kernel_rfl
  case hQ8 => exact fun _ _ _ h => h
  case hy8 =>
    refine Or.inl ⟨by rfl, ?_⟩
    intro W _
    go_simp
    try with_reducible rfl
  try simp only [Act.put, List.setIfInBounds_toArray, List.set_cons_zero, List.set_cons_succ]
  refine' wpAnyH_take (i := 9) (oi := _) (v := _) ?hi9 (by kernel_rfl) ?hf9 ?hr9 ?hQ9 ?hy9 trivial ?rest9
  case hi9 => (simp only [List.getElem?_toArray, List.getElem?_cons_zero, List.getElem?_cons_succ]; rfl)
  case hf9 => kernel_rfl
  case hr9 => kernel_rfl
  case hQ9 => exact fun _ _ _ h => h
  case hy9 =>
    refine Or.inl ⟨by rfl, ?_⟩
    intro W _
    go_simp
    try with_reducible rfl
  try simp only [Act.put, List.setIfInBounds_toArray, List.set_cons_zero, List.set_cons_succ]
  refine wpAnyH_ready (rs := [6]) (by kernel_rfl) (by simp) ?_
  refine' AllReadyH.cons (o := _) ?hi6 (fun K hK => ?_) AllReadyH.nil
  case hi6 => (simp only [List.getElem?_toArray, List.getElem?_cons_zero, List.getElem?_cons_succ]; rfl)
  go_simp
  refine CI.out.mono ?_
  rintro e w2 ⟨A2, c2, rfl, ho2, hb2⟩
  have HO2 := Lib.hid (And.intro ho2 hb2)
  clear ho2 hb2
  refine hK.out _ _ trivial (fun _ => ?_)
  clear hK K
  try simp only [Act.put, List.setIfInBounds_toArray, List.set_cons_zero, List.set_cons_succ]
  refine wpAnyH_ready (rs := [10]) (by kernel_rfl) (by simp) ?_
  refine' AllReadyH.cons (o := _) ?hi10 (fun K hK => ?_) AllReadyH.nil
  case hi10 => (simp only [List.getElem?_toArray, List.getElem?_cons_zero, List.getElem?_cons_succ]; rfl)
  go_simp
  refine (CR.out w2 HO2.out.2).mono ?_
  rintro e w3 ⟨rfl, hb3⟩
  have b3 := below_on HO2.out.2 (Nat.le_refl _) hb3
  have o3 := own_on HO2.out.1 hb3
  have o4 := own_on o3 (below_alloc w3 (.cells (bvs R).toArray 34))
  have b4 := b3.alloc b3.size (.cells (bvs R).toArray 34)
  have i4 : InS (w3.alloc (.cells (bvs R).toArray 34)) (some ⟨w3.heap.size, 0, none⟩) 1 R := InS.of_own (own_sum w3 R 0 hRl (Nat.zero_le _))
  have H4 := Lib.hid (And.intro o4 (And.intro b4 i4))
  clear b3 o3 o4 b4 i4 hb3
  refine hK.out _ _ trivial (fun _ => ?_)
  clear hK K
  try simp only [Act.put, List.setIfInBounds_toArray, List.set_cons_zero, List.set_cons_succ]
  refine wpAnyH_ready (rs := [11]) (by kernel_rfl) (by simp) ?_
  refine' AllReadyH.cons (o := _) ?hi11 (fun K hK => ?_) AllReadyH.nil
  case hi11 => (simp only [List.getElem?_toArray, List.getElem?_cons_zero, List.getElem?_cons_succ]; rfl)
  rw [if_pos (by rfl)]
  refine wp_sums _ [R] 1 rfl rfl (by simp <;> rfl) (by intro q hq; simp at hq; rw [hq]; exact hRl) (by omega) (by omega) ?_
  rw [show [R].flatten = R by simp]
  refine hK.out _ _ trivial (fun _ => ?_)
  clear hK K
  try simp only [Act.put, List.setIfInBounds_toArray, List.set_cons_zero, List.set_cons_succ]
  refine wpAnyH_ready (rs := [12]) (by kernel_rfl) (by simp) ?_
  refine' AllReadyH.cons (o := _) ?hi12 (fun K hK => ?_) AllReadyH.nil
  case hi12 => (simp only [List.getElem?_toArray, List.getElem?_cons_zero, List.getElem?_cons_succ]; rfl)
  refine step_sapp (K := K) (by rfl) _ _ (by rfl) w1.heap.size A2 d c2 L (by rfl) H4.out.1 (some ⟨w3.heap.size, 0, none⟩) 1 1 R (by rfl) H4.out.2.2 (fun h => by cases h) hd9 H4.out.2.1.size ?_
  intro A5 c5 w5 o5 nx5
  refine hK.out _ _ trivial (fun _ => ?_)
  clear hK K
  try simp only [Act.put, List.setIfInBounds_toArray, List.set_cons_zero, List.set_cons_succ]
  refine' wpAnyH_take (i := 13) (oi := _) (v := _) ?hi13 (by kernel_rfl) ?hf13 ?hr13 ?hQ13 ?hy13 trivial ?rest13
  case hi13 => (simp only [List.getElem?_toArray, List.getElem?_cons_zero, List.getElem?_cons_succ]; rfl)
  case hf13 => kernel_rfl
  case hr13 => kernel_rfl
  case hQ13 => exact fun _ _ _ h => h
  case hy13 =>
    refine Or.inl ⟨by rfl, ?_⟩
    intro W _
    go_simp
    try with_reducible rfl
  try simp only [Act.put, List.setIfInBounds_toArray, List.set_cons_zero, List.set_cons_succ]
  refine wpAnyH_done (by kernel_rfl) ?_ _
  go_wp2
  go_ret
  exact ⟨A5, c5, rfl, o5, nx5.below H4.out.1 H4.out.2.1 (Nat.le_refl _) H4.out.2.1.size⟩

end

end Go.Proofs.YtllohbgejjbagaaDoor

/-
  links.linkOf whole; links.Of.
-/
namespace Go.Proofs.YtllohbgejjbagaaDoor
open Go.RowKit

theorem klink_any : ∀ (n from_ : Nat) (edge : Bool) (A : Option Addr) (c : Nat) (ys : List Nat) (w : World), InS w A n ys → (∀ x ∈ ys, x < 256) → n ≤ c → n ≤ 65536 → 1 ≤ from_ → from_ ≤ n → Knows w → Starts w →
    Calls Tryd.prog 75 #[.slice A n c, .int .i64 (from_ : Int), .bool edge] w (GivesS w.heap.size w (ldep from_ n edge) (linkL (nth ys) 0 n from_ edge).flatten) := by
  intro n
  induction n using Nat.strongRecOn with
  | ind n ih =>
    intro from_ edge A c ys w hin hy hc hn h1 hfn hk hs
    by_cases h2 : n < 2 ∨ from_ = n
    · have hf : from_ = n := by omega
      rw [ldep_all h2, linkL_all _ h2]
      cases edge with
      | true => exact klink_edge hf
      | false =>
        simp only [Bool.false_eq_true, if_false, List.flatten_singleton]
        exact klink_root hf (rt_length _ 0 n fun j hj => nth_length hin.len (by omega)) (root_any A n c ys w hin hy hc (by omega) hk hs)
    · have hcl := cutN_lt (m := n) (by omega)
      have hcp := cutN_pos n
      obtain ⟨ad, rfl⟩ := hin.some_ (by omega)
      have hd := ldep_64 (n := n) (by omega) from_ edge
      have lk : ∀ {i m : Nat}, i + m ≤ n → (rt (nth ys) i m).length = 32 := fun {i m} h => rt_length _ i m fun j hj => nth_length hin.len (by omega)
      have dr : Below w.heap.size w w.drew := (Below.refl _ w).drew
      have ytake : ∀ x ∈ ys.take (32 * cutN n), x < 256 := fun x hx => hy x (List.mem_of_mem_take hx)
      have ydrop : ∀ x ∈ ys.drop (32 * cutN n), x < 256 := fun x hx => hy x (List.mem_of_mem_drop hx)
      by_cases ha : from_ ≤ cutN n
      · rw [ldep_low h2 ha] at hd ⊢
        rw [linkL_low _ h2 ha, List.flatten_append, List.flatten_singleton, Nat.zero_add]
        refine klink_low hc hn (by omega) (by omega) rfl rfl ha (by omega) (lk (by omega)) ?_ ?_
        · have := ih (cutN n) hcl from_ edge (some ad) c (ys.take (32 * cutN n)) w.drew ((hin.take (k := cutN n) (by omega)).below dr) ytake (by omega) (by omega) h1 ha (hk.below dr) (hs.below dr)
          rw [linkL_congr (nth (ys.take (32 * cutN n))) (nth ys) (cutN n) 0 0 from_ edge (fun j hj => by rw [Nat.zero_add]; exact nth_take hj)] at this
          exact this.mono fun e w' ⟨A', c', he, ho, hb⟩ => ⟨A', c', he, ho, dr.trans hb⟩
        · intro W hW
          have := root_any (some (ad.add (cutN n * 32))) (n - cutN n) (c - cutN n) (ys.drop (32 * cutN n)) W ((hin.drop_ _ (by omega)).below hW) ydrop (by omega) (by omega) (hk.below hW) (hs.below hW)
          rw [rt_drop] at this
          exact this
      · rw [ldep_high h2 ha] at hd ⊢
        rw [linkL_high _ h2 ha, List.flatten_append, List.flatten_singleton, Nat.zero_add]
        refine klink_high hc hn (by omega) (by omega) rfl rfl ha rfl (by omega) (lk (by omega)) ?_ ?_
        · have := ih (n - cutN n) (by omega) (from_ - cutN n) false (some (ad.add (cutN n * 32))) (c - cutN n) (ys.drop (32 * cutN n)) w.drew ((hin.drop_ (cutN n) (by omega)).below dr) ydrop (by omega) (by omega) (by omega) (by omega) (hk.below dr) (hs.below dr)
          rw [linkL_congr (nth (ys.drop (32 * cutN n))) (nth ys) (n - cutN n) 0 (cutN n) (from_ - cutN n) false (fun j hj => by rw [Nat.zero_add]; exact nth_drop _ _ _)] at this
          exact this.mono fun e w' ⟨A', c', he, ho, hb⟩ => ⟨A', c', he, ho, dr.trans hb⟩
        · intro W hW
          have := root_any (some ad) (cutN n) c (ys.take (32 * cutN n)) W ((hin.take (by omega)).below hW) ytake (by omega) (by omega) (hk.below hW) (hs.below hW)
          rw [rt_take] at this
          exact this

set_option maxRecDepth 100000 in
set_option maxHeartbeats 1000000 in
/-- links.Of of no beginning. -/
theorem kof_no {w : World} {n c : Nat} {A : Option Addr} (z : Int) (h : z < 1 ∨ (n : Int) < z) :
    Calls Tryd.prog 50 #[.slice A n c, .int .i64 z] w fun e w' => e = .returned (.tuple #[.slice none 0 0, .int .i64 1]) ∧ w' = w := by
  by_cases h0 : z < 1
  · go_enter Tryd.func50, Tryd.ntmps50
    go_wp2_with fail
    go_ret2
    exact ⟨rfl, rfl⟩
  · have h1 : (n : Int) < z := by omega
    have hd : decide (z < 1) = false := by simp; omega
    go_enter Tryd.func50, Tryd.ntmps50
    go_wp2_with fail
    go_ret2
    exact ⟨rfl, rfl⟩

set_option maxRecDepth 100000 in
set_option maxHeartbeats 1000000 in
/-- links.Of. -/
theorem kof_yes {w : World} {n c from_ : Nat} {A : Option Addr} {ys : List Nat} (hin : InS w A n ys) (hy : ∀ x ∈ ys, x < 256) (hc : n ≤ c) (hn : n ≤ 65536) (h1 : 1 ≤ from_) (hfn : from_ ≤ n) (hk : Knows w) (hs : Starts w) :
    Calls Tryd.prog 50 #[.slice A n c, .int .i64 (from_ : Int)] w fun e w' => ∃ A' c', e = .returned (.tuple #[.slice A' (ldep from_ n true) c', .int .i64 0]) ∧ w'.ownsRow w.heap.size 34 32 (.slice A' (ldep from_ n true) c') (ldep from_ n true) (bvs (linkL (nth ys) 0 n from_ true).flatten) ∧ Below w.heap.size w w' := by
  have C := Lib.hid (klink_any n from_ true A c ys w hin hy hc hn h1 hfn hk hs)
  have h0 : ¬ (from_ : Int) < 1 := by omega
  have hd : decide ((from_ : Int) < 1) = false := by simp; omega
  have h2 : ¬ (n : Int) < (from_ : Int) := by omega
  clear hin hy hc hn h1 hfn hk hs
  go_enter Tryd.func50, Tryd.ntmps50
  go_wp2_with fail
  refine C.out.mono ?_
  rintro e w1 ⟨A', c', rfl, ho, hb⟩
  go_wp2_with fail
  go_ret2
  exact ⟨A', c', rfl, ho, hb⟩

end Go.Proofs.YtllohbgejjbagaaDoor

/-
  chains: Path, Link.
-/
namespace Go.Proofs.YtllohbgejjbagaaDoor
open Go.RowKit

section
variable {w w' : World} {g gf fc : Nat} {fA : Option Addr} {v : Value} {E : List (List Value)} {G : Nat → Prop} {l : List (List Nat)}

set_option maxRecDepth 100000 in
theorem hfpath_of {w : World} {s z : Value} {R : Value → Value → World → Prop} (h : Calls Tryd.prog 49 #[s, z] w fun e w' => ∃ u c, e = .returned (.tuple #[u, c]) ∧ R u c w') :
    Calls Tryd.prog 31 #[s, z] w fun e w' => ∃ u c, e = .returned (.tuple #[u, c]) ∧ R u c w' := by
  have C := Lib.hid h
  clear h
  go_enter Tryd.func31, Tryd.ntmps31
  go_wp2_with fail
  refine C.out.mono ?_
  rintro e w2 ⟨u, c, rfl, hr⟩
  have HR := Lib.hid hr
  clear hr
  go_wp2_with fail
  go_ret2
  exact ⟨u, c, rfl, HR.out⟩

set_option maxRecDepth 100000 in
theorem hflink_of {w : World} {s z : Value} {R : Value → Value → World → Prop} (h : Calls Tryd.prog 50 #[s, z] w fun e w' => ∃ u c, e = .returned (.tuple #[u, c]) ∧ R u c w') :
    Calls Tryd.prog 32 #[s, z] w fun e w' => ∃ u c, e = .returned (.tuple #[u, c]) ∧ R u c w' := by
  have C := Lib.hid h
  clear h
  go_enter Tryd.func32, Tryd.ntmps32
  go_wp2_with fail
  refine C.out.mono ?_
  rintro e w2 ⟨u, c, rfl, hr⟩
  have HR := Lib.hid hr
  clear hr
  go_wp2_with fail
  go_ret2
  exact ⟨u, c, rfl, HR.out⟩

set_option maxRecDepth 100000 in
theorem htold_path {w : World} {s : Value} {a n q : Nat} (hn : n ≤ 65536) (hq : min a (n + 1) = q) {R : Value → Value → World → Prop} (h : Calls Tryd.prog 31 #[s, .int .i64 (q : Int)] w fun e w' => ∃ u c, e = .returned (.tuple #[u, c]) ∧ R u c w') :
    Calls Tryd.prog 30 #[.func (.func 31) #[s] #[], .int .u64 (a : Int), .int .u64 (n : Int)] w fun e w' => ∃ u c, e = .returned (.tuple #[u, c]) ∧ R u c w' := by
  have C := Lib.hid h
  have hqi := Lib.hid (show min (a : Int) ((n : Int) + 1) = (q : Int) by omega)
  clear h hq
  go_enter Tryd.func30, Tryd.ntmps30
  go_wp2_with fail
  rw [hqi.out]
  refine C.out.mono ?_
  rintro e w2 ⟨u, c, rfl, hr⟩
  have HR := Lib.hid hr
  clear hr
  go_wp2_with fail
  go_ret2
  exact ⟨u, c, rfl, HR.out⟩

set_option maxRecDepth 100000 in
set_option maxHeartbeats 1000000 in
theorem hpath_gen (h : ChainAt w g gf fA fc v E G l) {n a : Nat} (hn : n ≤ l.length) (hl : l.length ≤ 65536) {R : Value → Value → World → Prop}
    (hR : ∀ A c w2, w2.ownsRow w.heap.size 34 32 (.slice A n c) n (bvs (leavesL (l.take n))) → Below w.heap.size w w2 → Calls Tryd.prog 49 #[.slice A n c, .int .i64 ((min a (n + 1) : Nat) : Int)] w2 fun e w' => ∃ u c, e = .returned (.tuple #[u, c]) ∧ R u c w') :
    Calls Tryd.prog 11 #[.pointer (some ⟨g, 0, none⟩), .int .u64 (a : Int), .int .u64 (n : Int)] w fun e w' => ∃ u c, e = .returned (.tuple #[u, c]) ∧ R u c w' := by
  have C := Lib.hid (hhas_at h n)
  rw [hasE, if_pos hn] at C
  have F := Lib.hid (hfirst_at h hn hl)
  have hmf : ∀ (fn : Fn) (first cap : Array Value) (w : World), (Instr.makeFunc fn first cap).run Tryd.prog w = .ok (.func fn first cap) w := fun _ _ _ _ => rfl
  have HR := Lib.hid (fun A c w2 ho hb => htold_path (a := a) (n := n) (by omega) rfl (hfpath_of (hR A c w2 ho hb)))
  clear h hn hl hR
  go_enter Tryd.func11, Tryd.ntmps11
  go_wp2_with fail
  refine C.out.mono ?_
  rintro e w' ⟨rfl, rfl⟩
  go_wp2_with fail
  refine F.out.mono ?_
  rintro e w2 ⟨A, c, rfl, ho, hb⟩
  have H2 := Lib.hid (HR.out A c w2 ho hb)
  clear ho hb
  go_wp2_with fail
  refine H2.out.mono ?_
  rintro e w3 ⟨u, c3, rfl, hr⟩
  have HR3 := Lib.hid hr
  clear hr
  go_wp2_with fail
  go_ret2
  exact ⟨u, c3, rfl, HR3.out⟩

set_option maxRecDepth 100000 in
set_option maxHeartbeats 1000000 in
theorem hpath_far (h : ChainAt w g gf fA fc v E G l) {n : Nat} (hn : ¬ n ≤ l.length) (a : Nat) :
    Calls Tryd.prog 11 #[.pointer (some ⟨g, 0, none⟩), .int .u64 (a : Int), .int .u64 (n : Int)] w fun e w' => e = .returned (.tuple #[.slice none 0 0, .int .i64 1]) ∧ w' = w := by
  have C := Lib.hid (hhas_at h n)
  rw [hasE, if_neg hn] at C
  clear h hn
  go_enter Tryd.func11, Tryd.ntmps11
  go_wp2_with fail
  refine C.out.mono ?_
  rintro e w' ⟨rfl, rfl⟩
  go_wp2_with fail
  go_ret2
  exact ⟨rfl, rfl⟩

set_option maxRecDepth 100000 in
theorem htold_link {w : World} {s : Value} {a n q : Nat} (hn : n ≤ 65536) (hq : min a (n + 1) = q) {R : Value → Value → World → Prop} (h : Calls Tryd.prog 32 #[s, .int .i64 (q : Int)] w fun e w' => ∃ u c, e = .returned (.tuple #[u, c]) ∧ R u c w') :
    Calls Tryd.prog 30 #[.func (.func 32) #[s] #[], .int .u64 (a : Int), .int .u64 (n : Int)] w fun e w' => ∃ u c, e = .returned (.tuple #[u, c]) ∧ R u c w' := by
  have C := Lib.hid h
  have hqi := Lib.hid (show min (a : Int) ((n : Int) + 1) = (q : Int) by omega)
  clear h hq
  go_enter Tryd.func30, Tryd.ntmps30
  go_wp2_with fail
  rw [hqi.out]
  refine C.out.mono ?_
  rintro e w2 ⟨u, c, rfl, hr⟩
  have HR := Lib.hid hr
  clear hr
  go_wp2_with fail
  go_ret2
  exact ⟨u, c, rfl, HR.out⟩

set_option maxRecDepth 100000 in
set_option maxHeartbeats 1000000 in
theorem hlink_gen (h : ChainAt w g gf fA fc v E G l) {n a : Nat} (hn : n ≤ l.length) (hl : l.length ≤ 65536) {R : Value → Value → World → Prop}
    (hR : ∀ A c w2, w2.ownsRow w.heap.size 34 32 (.slice A n c) n (bvs (leavesL (l.take n))) → Below w.heap.size w w2 → Calls Tryd.prog 50 #[.slice A n c, .int .i64 ((min a (n + 1) : Nat) : Int)] w2 fun e w' => ∃ u c, e = .returned (.tuple #[u, c]) ∧ R u c w') :
    Calls Tryd.prog 12 #[.pointer (some ⟨g, 0, none⟩), .int .u64 (a : Int), .int .u64 (n : Int)] w fun e w' => ∃ u c, e = .returned (.tuple #[u, c]) ∧ R u c w' := by
  have C := Lib.hid (hhas_at h n)
  rw [hasE, if_pos hn] at C
  have F := Lib.hid (hfirst_at h hn hl)
  have hmf : ∀ (fn : Fn) (first cap : Array Value) (w : World), (Instr.makeFunc fn first cap).run Tryd.prog w = .ok (.func fn first cap) w := fun _ _ _ _ => rfl
  have HR := Lib.hid (fun A c w2 ho hb => htold_link (a := a) (n := n) (by omega) rfl (hflink_of (hR A c w2 ho hb)))
  clear h hn hl hR
  go_enter Tryd.func12, Tryd.ntmps12
  go_wp2_with fail
  refine C.out.mono ?_
  rintro e w' ⟨rfl, rfl⟩
  go_wp2_with fail
  refine F.out.mono ?_
  rintro e w2 ⟨A, c, rfl, ho, hb⟩
  have H2 := Lib.hid (HR.out A c w2 ho hb)
  clear ho hb
  go_wp2_with fail
  refine H2.out.mono ?_
  rintro e w3 ⟨u, c3, rfl, hr⟩
  have HR3 := Lib.hid hr
  clear hr
  go_wp2_with fail
  go_ret2
  exact ⟨u, c3, rfl, HR3.out⟩

set_option maxRecDepth 100000 in
set_option maxHeartbeats 1000000 in
theorem hlink_far (h : ChainAt w g gf fA fc v E G l) {n : Nat} (hn : ¬ n ≤ l.length) (a : Nat) :
    Calls Tryd.prog 12 #[.pointer (some ⟨g, 0, none⟩), .int .u64 (a : Int), .int .u64 (n : Int)] w fun e w' => e = .returned (.tuple #[.slice none 0 0, .int .i64 1]) ∧ w' = w := by
  have C := Lib.hid (hhas_at h n)
  rw [hasE, if_neg hn] at C
  clear h hn
  go_enter Tryd.func12, Tryd.ntmps12
  go_wp2_with fail
  refine C.out.mono ?_
  rintro e w' ⟨rfl, rfl⟩
  go_wp2_with fail
  go_ret2
  exact ⟨rfl, rfl⟩

theorem hpath_yes (h : ChainAt w g gf fA fc v E G l) {n a : Nat} (hn : n ≤ l.length) (hl : l.length ≤ 65536) (ha : a < n) (hk : Knows w) (hs : Starts w) :
    Calls Tryd.prog 11 #[.pointer (some ⟨g, 0, none⟩), .int .u64 (a : Int), .int .u64 (n : Int)] w fun e w' => ∃ u c, e = .returned (.tuple #[u, c]) ∧
      (∃ A' c', u = .slice A' (dep a n) c' ∧ c = .int .i64 0 ∧ w'.ownsRow w.heap.size 34 32 (.slice A' (dep a n) c') (dep a n) (bvs (pathL (lf l) 0 n a).flatten) ∧ Below w.heap.size w w') := by
  refine hpath_gen (R := fun u c w' => ∃ A' c', u = .slice A' (dep a n) c' ∧ c = .int .i64 0 ∧ w'.ownsRow w.heap.size 34 32 (.slice A' (dep a n) c') (dep a n) (bvs (pathL (lf l) 0 n a).flatten) ∧ Below w.heap.size w w') h hn hl fun A c w2 ho hb => ?_
  rw [Nat.min_eq_left (show a ≤ n + 1 by omega)]
  refine (pof_yes (InS.of_own ho) (leavesL_lt _) (own_cap ho) (by omega) ha (hk.below hb) (hs.below hb)).mono ?_
  rintro e w3 ⟨A', c', rfl, ho3, hb3⟩
  rw [path_first l hn] at ho3
  exact ⟨_, _, rfl, A', c', rfl, rfl, own_rebase ho3 (fun b e => Nat.le_trans hb.size (ho3.lt b e).1), below_on hb (Nat.le_refl _) hb3⟩
theorem hpath_no (h : ChainAt w g gf fA fc v E G l) {n a : Nat} (hn : n ≤ l.length) (hl : l.length ≤ 65536) (ha : ¬ a < n) :
    Calls Tryd.prog 11 #[.pointer (some ⟨g, 0, none⟩), .int .u64 (a : Int), .int .u64 (n : Int)] w fun e w' => ∃ u c, e = .returned (.tuple #[u, c]) ∧ (u = .slice none 0 0 ∧ c = .int .i64 1 ∧ Below w.heap.size w w') := by
  refine hpath_gen (R := fun u c w' => u = .slice none 0 0 ∧ c = .int .i64 1 ∧ Below w.heap.size w w') h hn hl fun A c w2 ho hb => ?_
  refine (pof_no _ (.inr (by omega))).mono ?_
  rintro e w3 ⟨rfl, rfl⟩
  exact ⟨_, _, rfl, rfl, rfl, hb⟩
theorem hlink_yes (h : ChainAt w g gf fA fc v E G l) {n a : Nat} (hn : n ≤ l.length) (hl : l.length ≤ 65536) (h1 : 1 ≤ a) (ha : a ≤ n) (hk : Knows w) (hs : Starts w) :
    Calls Tryd.prog 12 #[.pointer (some ⟨g, 0, none⟩), .int .u64 (a : Int), .int .u64 (n : Int)] w fun e w' => ∃ u c, e = .returned (.tuple #[u, c]) ∧
      (∃ A' c', u = .slice A' (ldep a n true) c' ∧ c = .int .i64 0 ∧ w'.ownsRow w.heap.size 34 32 (.slice A' (ldep a n true) c') (ldep a n true) (bvs (linkL (lf l) 0 n a true).flatten) ∧ Below w.heap.size w w') := by
  refine hlink_gen (R := fun u c w' => ∃ A' c', u = .slice A' (ldep a n true) c' ∧ c = .int .i64 0 ∧ w'.ownsRow w.heap.size 34 32 (.slice A' (ldep a n true) c') (ldep a n true) (bvs (linkL (lf l) 0 n a true).flatten) ∧ Below w.heap.size w w') h hn hl fun A c w2 ho hb => ?_
  rw [Nat.min_eq_left (show a ≤ n + 1 by omega)]
  refine (kof_yes (InS.of_own ho) (leavesL_lt _) (own_cap ho) (by omega) h1 ha (hk.below hb) (hs.below hb)).mono ?_
  rintro e w3 ⟨A', c', rfl, ho3, hb3⟩
  rw [link_first l hn] at ho3
  exact ⟨_, _, rfl, A', c', rfl, rfl, own_rebase ho3 (fun b e => Nat.le_trans hb.size (ho3.lt b e).1), below_on hb (Nat.le_refl _) hb3⟩
theorem hlink_no (h : ChainAt w g gf fA fc v E G l) {n a : Nat} (hn : n ≤ l.length) (hl : l.length ≤ 65536) (ha : ¬ (1 ≤ a ∧ a ≤ n)) :
    Calls Tryd.prog 12 #[.pointer (some ⟨g, 0, none⟩), .int .u64 (a : Int), .int .u64 (n : Int)] w fun e w' => ∃ u c, e = .returned (.tuple #[u, c]) ∧ (u = .slice none 0 0 ∧ c = .int .i64 1 ∧ Below w.heap.size w w') := by
  refine hlink_gen (R := fun u c w' => u = .slice none 0 0 ∧ c = .int .i64 1 ∧ Below w.heap.size w w') h hn hl fun A c w2 ho hb => ?_
  refine (kof_no _ (by omega)).mono ?_
  rintro e w3 ⟨rfl, rfl⟩
  exact ⟨_, _, rfl, rfl, rfl, hb⟩
end

end Go.Proofs.YtllohbgejjbagaaDoor
