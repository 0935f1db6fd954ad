/-
  Several texts in one: WPure, KPure, HPure, GIn, GPure, GBack, GTog, GMerged, GRep, LZeros, LBut, LRowApp, GConcat, GAdd, GRoot, GFrontC, DChunk, HRep, LStoreSum, VGives, HFirst, HBuild, HGrew, HConcat, HClone, VLeaf, DOne.
-/
import Derived.Test.YtnaebjdccngeoaaGreatDoorVPure
import Derived.Test.YtnaebjdccngeoaaGreatDoorVList
import Derived.Test.YtnaebjdccngeoaaGreatDoorLOnly
import Derived.RangeFuncNested
import Derived.RangeFuncBound
import Derived.RangeFuncCalls
import Derived.RangeFuncLeaves
import Derived.RangeFuncBox
import Derived.Shelf.Abstract
import Derived.WalkKit
import Derived.OwnWalkIn
import Derived.TacticsInMore
import Derived.LoopNIn
import Derived.LoopIn
import Derived.Test.YtnaebjdccngeoaaGreatDoorVTools
import Derived.WalkMore
import Derived.Test.YtnaebjdccngeoaaGreatDoorVSApp
import Derived.Test.YtnaebjdccngeoaaGreatDoorLMem
import Derived.Laws.CopyRow
import Derived.Deep.RegionHeld3
import Derived.Deep.AppendLies
import Derived.Laws.Pointers
import Derived.StillTactics
import Derived.Test.YtnaebjdccngeoaaGreatDoorLRows
import Derived.Deep.Slices
import Derived.Deep.CutRange
import Derived.Deep.RegionLaw
import Derived.StillTailTactics
import Derived.Test.YtnaebjdccngeoaaGreatDoorLBArr
import Derived.Test.YtnaebjdccngeoaaGreatDoorLQuietTail
import Derived.Deep.MidRow
import Derived.Deep.QuietTactic
import Derived.BigQuiet
import Derived.Test.YtnaebjdccngeoaaGreatDoorLSum
import Derived.Laws.Tables
import Derived.Test.YtnaebjdccngeoaaGreatDoorLApp2
import Derived.Deep.Cut
import Derived.Lib.SmallJoins
import Derived.Test.YtnaebjdccngeoaaGreatDoorVMarked
import Derived.Great.BuildSlice
import Derived.Deep.RegionHeld
/-
  The path of a leaf, as plain functions: how many sums it has, which they are, and what a path leads to.
-/
namespace Go.Proofs.YtnaebjdccngeoaaGreatDoor
open Go.RowKit

/-- How many trees stand beside a leaf. -/
def dep (at_ n : Nat) : Nat := if _ : n < 2 then 0 else if at_ < cutN n then dep at_ (cutN n) + 1 else dep (at_ - cutN n) (n - cutN n) + 1
termination_by n
decreasing_by
  · exact cutN_lt (by omega)
  · have := cutN_pos n; omega
theorem dep_one {n : Nat} (h : n < 2) (at_ : Nat) : dep at_ n = 0 := by rw [dep, dif_pos h]
theorem dep_low {n at_ : Nat} (h : 2 ≤ n) (ha : at_ < cutN n) : dep at_ n = dep at_ (cutN n) + 1 := by rw [dep, dif_neg (by omega), if_pos ha]
theorem dep_high {n at_ : Nat} (h : 2 ≤ n) (ha : ¬ at_ < cutN n) : dep at_ n = dep (at_ - cutN n) (n - cutN n) + 1 := by rw [dep, dif_neg (by omega), if_neg ha]

/-- What the sums from number j on lead to, the lower ones first. -/
def leadF (f : Nat → List Nat) (leaf : List Nat) (at_ n j : Nat) : List Nat :=
  if _ : n < 2 then leaf
  else if at_ < cutN n then nodeL (leadF f leaf at_ (cutN n) j) (f (j + dep at_ (cutN n)))
  else nodeL (f (j + dep (at_ - cutN n) (n - cutN n))) (leadF f leaf (at_ - cutN n) (n - cutN n) j)
termination_by n
decreasing_by
  · exact cutN_lt (by omega)
  · have := cutN_pos n; omega
theorem leadF_one (f : Nat → List Nat) (leaf : List Nat) {n : Nat} (h : n < 2) (at_ j : Nat) : leadF f leaf at_ n j = leaf := by rw [leadF, dif_pos h]
theorem leadF_low (f : Nat → List Nat) (leaf : List Nat) {n at_ : Nat} (h : 2 ≤ n) (ha : at_ < cutN n) (j : Nat) : leadF f leaf at_ n j = nodeL (leadF f leaf at_ (cutN n) j) (f (j + dep at_ (cutN n))) := by
  rw [leadF, dif_neg (by omega), if_pos ha]
theorem leadF_high (f : Nat → List Nat) (leaf : List Nat) {n at_ : Nat} (h : 2 ≤ n) (ha : ¬ at_ < cutN n) (j : Nat) : leadF f leaf at_ n j = nodeL (f (j + dep (at_ - cutN n) (n - cutN n))) (leadF f leaf (at_ - cutN n) (n - cutN n) j) := by
  rw [leadF, dif_neg (by omega), if_neg ha]
theorem leadF_of {P : List Nat → Prop} (hs : ∀ xs, P (sha xs)) (f : Nat → List Nat) (leaf : List Nat) (hl : P leaf) (at_ n j : Nat) : P (leadF f leaf at_ n j) := by
  by_cases h : n < 2
  · rw [leadF_one f leaf h]; exact hl
  · by_cases ha : at_ < cutN n
    · rw [leadF_low f leaf (by omega) ha]; exact hs _
    · rw [leadF_high f leaf (by omega) ha]; exact hs _
theorem leadF_length (f : Nat → List Nat) (leaf : List Nat) (hl : leaf.length = 32) (at_ n j : Nat) : (leadF f leaf at_ n j).length = 32 := leadF_of (P := fun l => l.length = 32) sha_length f leaf hl at_ n j
theorem leadF_lt (f : Nat → List Nat) (leaf : List Nat) (hl : ∀ x ∈ leaf, x < 256) (at_ n j : Nat) : ∀ x ∈ leadF f leaf at_ n j, x < 256 := leadF_of (P := fun l => ∀ x ∈ l, x < 256) sha_lt f leaf hl at_ n j
theorem leadF_congr (f g : Nat → List Nat) (leaf : List Nat) : ∀ (n at_ j : Nat), (∀ k, k < dep at_ n → f (j + k) = g (j + k)) → leadF f leaf at_ n j = leadF g leaf at_ n j := by
  intro n
  induction n using Nat.strongRecOn with
  | ind n ih =>
    intro at_ j h
    by_cases h2 : n < 2
    · rw [leadF_one f leaf h2, leadF_one g leaf h2]
    · have a := cutN_lt (m := n) (by omega)
      have b := cutN_pos n
      by_cases ha : at_ < cutN n
      · rw [dep_low (by omega) ha] at h
        rw [leadF_low f leaf (by omega) ha, leadF_low g leaf (by omega) ha, h _ (by omega), ih _ a _ _ (fun k hk => h k (by omega))]
      · rw [dep_high (by omega) ha] at h
        rw [leadF_high f leaf (by omega) ha, leadF_high g leaf (by omega) ha, h _ (by omega), ih _ (by omega) _ _ (fun k hk => h k (by omega))]

/-- The path of the leaf at a place, of the n sums from i on. -/
def pathL (f : Nat → List Nat) (i n at_ : Nat) : List (List Nat) :=
  if _ : n < 2 then []
  else if at_ < cutN n then pathL f i (cutN n) at_ ++ [rt f (i + cutN n) (n - cutN n)]
  else pathL f (i + cutN n) (n - cutN n) (at_ - cutN n) ++ [rt f i (cutN n)]
termination_by n
decreasing_by
  · exact cutN_lt (by omega)
  · have := cutN_pos n; omega
theorem pathL_one (f : Nat → List Nat) {n : Nat} (h : n < 2) (i at_ : Nat) : pathL f i n at_ = [] := by rw [pathL, dif_pos h]
theorem pathL_low (f : Nat → List Nat) {n at_ : Nat} (h : 2 ≤ n) (ha : at_ < cutN n) (i : Nat) : pathL f i n at_ = pathL f i (cutN n) at_ ++ [rt f (i + cutN n) (n - cutN n)] := by
  rw [pathL, dif_neg (by omega), if_pos ha]
theorem pathL_high (f : Nat → List Nat) {n at_ : Nat} (h : 2 ≤ n) (ha : ¬ at_ < cutN n) (i : Nat) : pathL f i n at_ = pathL f (i + cutN n) (n - cutN n) (at_ - cutN n) ++ [rt f i (cutN n)] := by
  rw [pathL, dif_neg (by omega), if_neg ha]
theorem pathL_length (f : Nat → List Nat) : ∀ (n i at_ : Nat), (pathL f i n at_).length = dep at_ n := by
  intro n
  induction n using Nat.strongRecOn with
  | ind n ih =>
    intro i at_
    by_cases h2 : n < 2
    · rw [pathL_one f h2, dep_one h2]; rfl
    · have a := cutN_lt (m := n) (by omega)
      have b := cutN_pos n
      by_cases ha : at_ < cutN n
      · rw [pathL_low f (by omega) ha, dep_low (by omega) ha, List.length_append, ih _ a]; rfl
      · rw [pathL_high f (by omega) ha, dep_high (by omega) ha, List.length_append, ih _ (by omega)]; rfl
theorem pathL_of {P : List Nat → Prop} (f : Nat → List Nat) : ∀ (n i at_ : Nat), (∀ i m, P (rt f i m)) → ∀ s ∈ pathL f i n at_, P s := by
  intro n
  induction n using Nat.strongRecOn with
  | ind n ih =>
    intro i at_ h s hs
    by_cases h2 : n < 2
    · rw [pathL_one f h2] at hs; cases hs
    · have a := cutN_lt (m := n) (by omega)
      have b := cutN_pos n
      by_cases ha : at_ < cutN n
      · rw [pathL_low f (by omega) ha] at hs
        rcases List.mem_append.1 hs with hs | hs
        · exact ih _ a _ _ h s hs
        · rw [List.mem_singleton.1 hs]; exact h _ _
      · rw [pathL_high f (by omega) ha] at hs
        rcases List.mem_append.1 hs with hs | hs
        · exact ih _ (by omega) _ _ h s hs
        · rw [List.mem_singleton.1 hs]; exact h _ _
theorem pathL_len32 (f : Nat → List Nat) : ∀ (n i at_ : Nat), (∀ j, j < n → (f (i + j)).length = 32) → ∀ s ∈ pathL f i n at_, s.length = 32 := by
  intro n
  induction n using Nat.strongRecOn with
  | ind n ih =>
    intro i at_ h s hs
    by_cases h2 : n < 2
    · rw [pathL_one f h2] at hs; cases hs
    · have a := cutN_lt (m := n) (by omega)
      have b := cutN_pos n
      by_cases ha : at_ < cutN n
      · rw [pathL_low f (by omega) ha] at hs
        rcases List.mem_append.1 hs with hs | hs
        · exact ih _ a _ _ (fun j hj => h j (by omega)) s hs
        · rw [List.mem_singleton.1 hs]; exact rt_length f _ _ fun j hj => by rw [Nat.add_assoc]; exact h _ (by omega)
      · rw [pathL_high f (by omega) ha] at hs
        rcases List.mem_append.1 hs with hs | hs
        · exact ih _ (by omega) _ _ (fun j hj => by rw [Nat.add_assoc]; exact h _ (by omega)) s hs
        · rw [List.mem_singleton.1 hs]; exact rt_length f _ _ fun j hj => h j (by omega)
theorem pathL_congr (f g : Nat → List Nat) : ∀ (n i i' at_ : Nat), (∀ j, j < n → f (i + j) = g (i' + j)) → pathL f i n at_ = pathL g i' n at_ := by
  intro n
  induction n using Nat.strongRecOn with
  | ind n ih =>
    intro i i' at_ h
    by_cases h2 : n < 2
    · rw [pathL_one f h2, pathL_one g h2]
    · have a := cutN_lt (m := n) (by omega)
      have b := cutN_pos n
      by_cases ha : at_ < cutN n
      · rw [pathL_low f (by omega) ha, pathL_low g (by omega) ha, ih _ a i i' at_ (fun j hj => h j (by omega)), rt_congr f g _ (i + cutN n) (i' + cutN n) (fun j hj => by rw [Nat.add_assoc, Nat.add_assoc]; exact h _ (by omega))]
      · rw [pathL_high f (by omega) ha, pathL_high g (by omega) ha, ih _ (by omega) (i + cutN n) (i' + cutN n) _ (fun j hj => by rw [Nat.add_assoc, Nat.add_assoc]; exact h _ (by omega)), rt_congr f g _ i i' (fun j hj => h j (by omega))]

/-- The path of a leaf leads to the root. -/
theorem lead_path (f g : Nat → List Nat) : ∀ (n i at_ j : Nat), 1 ≤ n → at_ < n → (∀ k s, (pathL f i n at_)[k]? = some s → g (j + k) = s) → leadF g (f (i + at_)) at_ n j = rt f i n := by
  intro n
  induction n using Nat.strongRecOn with
  | ind n ih =>
    intro i at_ j h1 hat h
    by_cases h2 : n < 2
    · obtain rfl : n = 1 := by omega
      obtain rfl : at_ = 0 := by omega
      rw [leadF_one g _ h2, rt_one]; rfl
    · have a := cutN_lt (m := n) (by omega)
      have b := cutN_pos n
      by_cases ha : at_ < cutN n
      · rw [pathL_low f (by omega) ha] at h
        rw [leadF_low g _ (by omega) ha, rt_cut f i (by omega), ih _ a i at_ j b ha (fun k s hk => h k s (by rw [List.getElem?_append_left (List.getElem?_eq_some_iff.1 hk).1]; exact hk)),
          h (dep at_ (cutN n)) _ (by rw [List.getElem?_append_right (by rw [pathL_length]; exact Nat.le_refl _), pathL_length, Nat.sub_self]; rfl)]
      · rw [pathL_high f (by omega) ha] at h
        rw [leadF_high g _ (by omega) ha, rt_cut f i (by omega), show i + at_ = i + cutN n + (at_ - cutN n) by omega,
          ih _ (by omega) (i + cutN n) (at_ - cutN n) j (by omega) (by omega) (fun k s hk => h k s (by rw [List.getElem?_append_left (List.getElem?_eq_some_iff.1 hk).1]; exact hk)),
          h (dep (at_ - cutN n) (n - cutN n)) _ (by rw [List.getElem?_append_right (by rw [pathL_length]; exact Nat.le_refl _), pathL_length, Nat.sub_self]; rfl)]

/-- How many bits a number has. -/
def bl (x : Nat) : Nat := if x = 0 then 0 else Nat.log2 x + 1
theorem bl_le {x e : Nat} (h : x < 2 ^ e) : bl x ≤ e := by
  unfold bl
  split
  · omega
  · have := (Nat.log2_lt (by omega)).2 h; omega
theorem bl_half {x : Nat} (h : 0 < x) : bl x = bl (x / 2) + 1 := by
  unfold bl
  rw [if_neg (by omega)]
  by_cases h1 : x = 1
  · subst h1; decide
  · rw [if_neg (by omega)]
    have a : Nat.log2 x = Nat.log2 (x / 2) + 1 := by
      rw [Nat.log2_def, if_pos (by omega)]
    rw [a]
theorem bl_zero : bl 0 = 0 := rfl
theorem dep_le : ∀ (n at_ : Nat), at_ < n → dep at_ n ≤ bl (n - 1) := by
  intro n
  induction n using Nat.strongRecOn with
  | ind n ih =>
    intro at_ hat
    by_cases h2 : n < 2
    · rw [dep_one h2]; omega
    · have a := cutN_lt (m := n) (by omega)
      have b := cutN_pos n
      have c := cutN_two (m := n) (by omega)
      have hb : bl (n - 1) = Nat.log2 (n - 1) + 1 := by unfold bl; rw [if_neg (by omega)]
      have hc : cutN n = 2 ^ Nat.log2 (n - 1) := rfl
      rw [hb]
      by_cases ha : at_ < cutN n
      · rw [dep_low (by omega) ha]
        have := ih _ a at_ ha
        have := bl_le (x := cutN n - 1) (e := Nat.log2 (n - 1)) (by omega)
        omega
      · rw [dep_high (by omega) ha]
        have := ih _ (by omega) (at_ - cutN n) (show at_ - cutN n < n - cutN n by omega)
        have := bl_le (x := n - cutN n - 1) (e := Nat.log2 (n - 1)) (by omega)
        omega
theorem dep_64 {n at_ : Nat} (h : at_ < n) (hn : n ≤ 18446744073709551616) : dep at_ n ≤ 64 := Nat.le_trans (dep_le n at_ h) (bl_le (by omega))

end Go.Proofs.YtnaebjdccngeoaaGreatDoor

/-
  The link of a beginning, as plain functions: how many sums it has, which they are, and what a link leads to.
-/
namespace Go.Proofs.YtnaebjdccngeoaaGreatDoor
open Go.RowKit

theorem cutN_mid {n m : Nat} (h : cutN n < m) (hm : m ≤ n) : cutN m = cutN n := by
  have h2 : 2 ≤ n := by have := cutN_pos n; omega
  have := cutN_two h2
  exact cutN_of (e := Nat.log2 (n - 1)) h (by show m ≤ 2 * cutN n; omega)

/-- How many sums a link has. -/
def ldep (m n : Nat) (edge : Bool) : Nat := if _ : n < 2 ∨ m = n then (if edge then 0 else 1) else if m ≤ cutN n then ldep m (cutN n) edge + 1 else ldep (m - cutN n) (n - cutN n) false + 1
termination_by n
decreasing_by
  · exact cutN_lt (by omega)
  · have := cutN_pos n; omega
theorem ldep_all {n m : Nat} (h : n < 2 ∨ m = n) (edge : Bool) : ldep m n edge = if edge then 0 else 1 := by rw [ldep, dif_pos h]
theorem ldep_low {n m : Nat} (h : ¬(n < 2 ∨ m = n)) (ha : m ≤ cutN n) (edge : Bool) : ldep m n edge = ldep m (cutN n) edge + 1 := by rw [ldep, dif_neg h, if_pos ha]
theorem ldep_high {n m : Nat} (h : ¬(n < 2 ∨ m = n)) (ha : ¬ m ≤ cutN n) (edge : Bool) : ldep m n edge = ldep (m - cutN n) (n - cutN n) false + 1 := by rw [ldep, dif_neg h, if_neg ha]

/-- What the sums from number j on lead to: an old one and a new one. -/
def linkF (f : Nat → List Nat) (a : List Nat) (m n : Nat) (edge : Bool) (j : Nat) : List Nat × List Nat :=
  if _ : n < 2 ∨ m = n then (if edge then (a, a) else (f j, f j))
  else if m ≤ cutN n then ((linkF f a m (cutN n) edge j).1, nodeL (linkF f a m (cutN n) edge j).2 (f (j + ldep m (cutN n) edge)))
  else (nodeL (f (j + ldep (m - cutN n) (n - cutN n) false)) (linkF f a (m - cutN n) (n - cutN n) false j).1, nodeL (f (j + ldep (m - cutN n) (n - cutN n) false)) (linkF f a (m - cutN n) (n - cutN n) false j).2)
termination_by n
decreasing_by
  all_goals first | exact cutN_lt (by omega) | (have := cutN_pos n; omega)
theorem linkF_all (f : Nat → List Nat) (a : List Nat) {n m : Nat} (h : n < 2 ∨ m = n) (edge : Bool) (j : Nat) : linkF f a m n edge j = if edge then (a, a) else (f j, f j) := by rw [linkF, dif_pos h]
theorem linkF_low (f : Nat → List Nat) (a : List Nat) {n m : Nat} (h : ¬(n < 2 ∨ m = n)) (ha : m ≤ cutN n) (edge : Bool) (j : Nat) : linkF f a m n edge j = ((linkF f a m (cutN n) edge j).1, nodeL (linkF f a m (cutN n) edge j).2 (f (j + ldep m (cutN n) edge))) := by
  rw [linkF, dif_neg h, if_pos ha]
theorem linkF_high (f : Nat → List Nat) (a : List Nat) {n m : Nat} (h : ¬(n < 2 ∨ m = n)) (ha : ¬ m ≤ cutN n) (edge : Bool) (j : Nat) : linkF f a m n edge j = (nodeL (f (j + ldep (m - cutN n) (n - cutN n) false)) (linkF f a (m - cutN n) (n - cutN n) false j).1, nodeL (f (j + ldep (m - cutN n) (n - cutN n) false)) (linkF f a (m - cutN n) (n - cutN n) false j).2) := by
  rw [linkF, dif_neg h, if_neg ha]
/-- A law of sums that each of them keeps; of those that are taken it is asked alone. -/
theorem linkF_of {P : List Nat → Prop} (hs : ∀ xs, P (sha xs)) (f : Nat → List Nat) (a : List Nat) (hl : P a) : ∀ (n m : Nat) (edge : Bool) (j : Nat), (∀ k, k < ldep m n edge → P (f (j + k))) → P (linkF f a m n edge j).1 ∧ P (linkF f a m n edge j).2 := by
  intro n
  induction n using Nat.strongRecOn with
  | ind n ih =>
    intro m edge j h
    by_cases h2 : n < 2 ∨ m = n
    · rw [linkF_all f a h2]
      rw [ldep_all h2] at h
      cases edge with
      | true => exact ⟨hl, hl⟩
      | false => exact ⟨h 0 (by decide), h 0 (by decide)⟩
    · have hc := cutN_lt (m := n) (by omega)
      have hp := cutN_pos n
      by_cases ha : m ≤ cutN n
      · rw [ldep_low h2 ha] at h
        rw [linkF_low f a h2 ha]
        exact ⟨(ih _ hc m edge j (fun k hk => h k (by omega))).1, hs _⟩
      · rw [linkF_high f a h2 ha]
        exact ⟨hs _, hs _⟩
theorem linkF_congr (f g : Nat → List Nat) (a : List Nat) : ∀ (n m : Nat) (edge : Bool) (j : Nat), (∀ k, k < ldep m n edge → f (j + k) = g (j + k)) → linkF f a m n edge j = linkF g a m n edge j := by
  intro n
  induction n using Nat.strongRecOn with
  | ind n ih =>
    intro m edge j h
    by_cases h2 : n < 2 ∨ m = n
    · rw [linkF_all f a h2, linkF_all g a h2]
      rw [ldep_all h2] at h
      cases edge with
      | true => rfl
      | false => rw [show f j = g j from h 0 (by decide)]
    · have hc := cutN_lt (m := n) (by omega)
      have hp := cutN_pos n
      by_cases ha : m ≤ cutN n
      · rw [ldep_low h2 ha] at h
        rw [linkF_low f a h2 ha, linkF_low g a h2 ha, h _ (Nat.lt_succ_self _), ih _ hc m edge j (fun k hk => h k (by omega))]
      · rw [ldep_high h2 ha] at h
        rw [linkF_high f a h2 ha, linkF_high g a h2 ha, h _ (Nat.lt_succ_self _), ih _ (by omega) _ false j (fun k hk => h k (by omega))]

/-- The link of the first m of the n sums from i on. -/
def linkL (f : Nat → List Nat) (i n m : Nat) (edge : Bool) : List (List Nat) :=
  if _ : n < 2 ∨ m = n then (if edge then [] else [rt f i n])
  else if m ≤ cutN n then linkL f i (cutN n) m edge ++ [rt f (i + cutN n) (n - cutN n)]
  else linkL f (i + cutN n) (n - cutN n) (m - cutN n) false ++ [rt f i (cutN n)]
termination_by n
decreasing_by
  · exact cutN_lt (by omega)
  · have := cutN_pos n; omega
theorem linkL_all (f : Nat → List Nat) {n m : Nat} (h : n < 2 ∨ m = n) (i : Nat) (edge : Bool) : linkL f i n m edge = if edge then [] else [rt f i n] := by rw [linkL, dif_pos h]
theorem linkL_low (f : Nat → List Nat) {n m : Nat} (h : ¬(n < 2 ∨ m = n)) (ha : m ≤ cutN n) (i : Nat) (edge : Bool) : linkL f i n m edge = linkL f i (cutN n) m edge ++ [rt f (i + cutN n) (n - cutN n)] := by
  rw [linkL, dif_neg h, if_pos ha]
theorem linkL_high (f : Nat → List Nat) {n m : Nat} (h : ¬(n < 2 ∨ m = n)) (ha : ¬ m ≤ cutN n) (i : Nat) (edge : Bool) : linkL f i n m edge = linkL f (i + cutN n) (n - cutN n) (m - cutN n) false ++ [rt f i (cutN n)] := by
  rw [linkL, dif_neg h, if_neg ha]
theorem linkL_length (f : Nat → List Nat) : ∀ (n i m : Nat) (edge : Bool), (linkL f i n m edge).length = ldep m n edge := by
  intro n
  induction n using Nat.strongRecOn with
  | ind n ih =>
    intro i m edge
    by_cases h2 : n < 2 ∨ m = n
    · rw [linkL_all f h2, ldep_all h2]; cases edge <;> rfl
    · have hc := cutN_lt (m := n) (by omega)
      have hp := cutN_pos n
      by_cases ha : m ≤ cutN n
      · rw [linkL_low f h2 ha, ldep_low h2 ha, List.length_append, ih _ hc]; rfl
      · rw [linkL_high f h2 ha, ldep_high h2 ha, List.length_append, ih _ (by omega)]; rfl
theorem linkL_of {P : List Nat → Prop} (f : Nat → List Nat) : ∀ (n i m : Nat) (edge : Bool), (∀ i m, P (rt f i m)) → ∀ s ∈ linkL f i n m edge, P s := by
  intro n
  induction n using Nat.strongRecOn with
  | ind n ih =>
    intro i m edge h s hs
    by_cases h2 : n < 2 ∨ m = n
    · rw [linkL_all f h2] at hs
      cases edge with
      | true => cases hs
      | false => rw [List.mem_singleton.1 hs]; exact h _ _
    · have hc := cutN_lt (m := n) (by omega)
      have hp := cutN_pos n
      by_cases ha : m ≤ cutN n
      · rw [linkL_low f h2 ha] at hs
        rcases List.mem_append.1 hs with hs | hs
        · exact ih _ hc _ _ _ h s hs
        · rw [List.mem_singleton.1 hs]; exact h _ _
      · rw [linkL_high f h2 ha] at hs
        rcases List.mem_append.1 hs with hs | hs
        · exact ih _ (by omega) _ _ _ h s hs
        · rw [List.mem_singleton.1 hs]; exact h _ _
theorem linkL_len32 (f : Nat → List Nat) : ∀ (n i m : Nat) (edge : Bool), (∀ j, j < n → (f (i + j)).length = 32) → ∀ s ∈ linkL f i n m edge, s.length = 32 := by
  intro n
  induction n using Nat.strongRecOn with
  | ind n ih =>
    intro i m edge h s hs
    by_cases h2 : n < 2 ∨ m = n
    · rw [linkL_all f h2] at hs
      cases edge with
      | true => cases hs
      | false => rw [List.mem_singleton.1 hs]; exact rt_length f _ _ h
    · have hc := cutN_lt (m := n) (by omega)
      have hp := cutN_pos n
      by_cases ha : m ≤ cutN n
      · rw [linkL_low f h2 ha] at hs
        rcases List.mem_append.1 hs with hs | hs
        · exact ih _ hc _ _ _ (fun j hj => h j (by omega)) s hs
        · rw [List.mem_singleton.1 hs]; exact rt_length f _ _ fun j hj => by rw [Nat.add_assoc]; exact h _ (by omega)
      · rw [linkL_high f h2 ha] at hs
        rcases List.mem_append.1 hs with hs | hs
        · exact ih _ (by omega) _ _ _ (fun j hj => by rw [Nat.add_assoc]; exact h _ (by omega)) s hs
        · rw [List.mem_singleton.1 hs]; exact rt_length f _ _ fun j hj => h j (by omega)
theorem linkL_congr (f g : Nat → List Nat) : ∀ (n i i' m : Nat) (edge : Bool), (∀ j, j < n → f (i + j) = g (i' + j)) → linkL f i n m edge = linkL g i' n m edge := by
  intro n
  induction n using Nat.strongRecOn with
  | ind n ih =>
    intro i i' m edge h
    by_cases h2 : n < 2 ∨ m = n
    · rw [linkL_all f h2, linkL_all g h2, rt_congr f g _ i i' h]
    · have hc := cutN_lt (m := n) (by omega)
      have hp := cutN_pos n
      by_cases ha : m ≤ cutN n
      · rw [linkL_low f h2 ha, linkL_low g h2 ha, ih _ hc i i' m edge (fun j hj => h j (by omega)), rt_congr f g _ (i + cutN n) (i' + cutN n) (fun j hj => by rw [Nat.add_assoc, Nat.add_assoc]; exact h _ (by omega))]
      · rw [linkL_high f h2 ha, linkL_high g h2 ha, ih _ (by omega) (i + cutN n) (i' + cutN n) _ false (fun j hj => by rw [Nat.add_assoc, Nat.add_assoc]; exact h _ (by omega)), rt_congr f g _ i i' (fun j hj => h j (by omega))]

/-- The link of a beginning leads to both roots. -/
theorem link_back (f g : Nat → List Nat) (a : List Nat) : ∀ (n i m j : Nat) (edge : Bool), 1 ≤ m → m ≤ n → (edge = true → a = rt f i m) → (∀ k s, (linkL f i n m edge)[k]? = some s → g (j + k) = s) →
    linkF g a m n edge j = (rt f i m, rt f i n) := by
  intro n
  induction n using Nat.strongRecOn with
  | ind n ih =>
    intro i m j edge h1 hm ha h
    by_cases h2 : n < 2 ∨ m = n
    · obtain rfl : m = n := by omega
      rw [linkL_all f h2] at h
      rw [linkF_all g a h2]
      cases edge with
      | true => rw [ha rfl]; rfl
      | false =>
        have := h 0 _ rfl
        rw [Nat.add_zero] at this
        rw [this]; rfl
    · have hc := cutN_lt (m := n) (by omega)
      have hp := cutN_pos n
      by_cases hl : m ≤ cutN n
      · rw [linkL_low f h2 hl] at h
        rw [linkF_low g a h2 hl, ih _ hc i m j edge h1 hl ha (fun k s hk => h k s (by rw [List.getElem?_append_left (List.getElem?_eq_some_iff.1 hk).1]; exact hk)), rt_cut f i (m := n) (by omega),
          h (ldep m (cutN n) edge) _ (by rw [List.getElem?_append_right (by rw [linkL_length]; exact Nat.le_refl _), linkL_length, Nat.sub_self]; rfl)]
      · rw [linkL_high f h2 hl] at h
        rw [linkF_high g a h2 hl, ih _ (by omega) (i + cutN n) (m - cutN n) j false (by omega) (by omega) (fun e => by cases e) (fun k s hk => h k s (by rw [List.getElem?_append_left (List.getElem?_eq_some_iff.1 hk).1]; exact hk)),
          h (ldep (m - cutN n) (n - cutN n) false) _ (by rw [List.getElem?_append_right (by rw [linkL_length]; exact Nat.le_refl _), linkL_length, Nat.sub_self]; rfl),
          rt_cut f i (m := n) (by omega), rt_cut f i (m := m) (by omega), cutN_mid (by omega) hm]

/-- How many sums a link has at most. -/
theorem ldep_le : ∀ (n m e : Nat) (edge : Bool), n ≤ 2 ^ e → ldep m n edge ≤ e + 1 := by
  intro n
  induction n using Nat.strongRecOn with
  | ind n ih =>
    intro m e edge hn
    by_cases h2 : n < 2 ∨ m = n
    · rw [ldep_all h2]; split <;> omega
    · have hc := cutN_lt (m := n) (by omega)
      have hp := cutN_pos n
      have ht := cutN_two (m := n) (by omega)
      have he : ∃ d, e = d + 1 := by
        cases e with
        | zero => rw [Nat.pow_zero] at hn; omega
        | succ d => exact ⟨d, rfl⟩
      obtain ⟨d, rfl⟩ := he
      rw [Nat.pow_succ] at hn
      have hcd : cutN n ≤ 2 ^ d := by
        have hlt : cutN n < 2 ^ (d + 1) := by rw [Nat.pow_succ]; omega
        have : Nat.log2 (n - 1) < d + 1 := (Nat.pow_lt_pow_iff_right (by decide)).1 hlt
        exact Nat.pow_le_pow_right (by decide) (by omega)
      by_cases ha : m ≤ cutN n
      · rw [ldep_low h2 ha]
        have := ih _ hc m d edge hcd
        omega
      · rw [ldep_high h2 ha]
        have := ih _ (by omega) (m - cutN n) d false (show n - cutN n ≤ 2 ^ d by omega)
        omega
theorem ldep_64 {n : Nat} (hn : n ≤ 18446744073709551616) (m : Nat) (edge : Bool) : ldep m n edge ≤ 65 := ldep_le n m 64 edge (by omega)

/-- Of a power of two: what stands to its right, from the nearest one on. -/
theorem link_power (f : Nat → List Nat) (e : Nat) : ∀ (n i : Nat), 2 ^ e ≤ n → (linkL f i n (2 ^ e) true).foldl nodeL (rt f i (2 ^ e)) = rt f i n := by
  intro n
  induction n using Nat.strongRecOn with
  | ind n ih =>
    intro i hn
    by_cases h2 : n < 2 ∨ 2 ^ e = n
    · have h0 : 0 < 2 ^ e := Nat.two_pow_pos e
      obtain rfl : 2 ^ e = n := by omega
      rw [linkL_all f h2]; rfl
    · have hc := cutN_lt (m := n) (by omega)
      have hl : 2 ^ e ≤ cutN n := by
        have h1 : 2 ^ e ≤ n - 1 := by omega
        have : e ≤ Nat.log2 (n - 1) := (Nat.le_log2 (by omega)).2 h1
        exact Nat.pow_le_pow_right (by decide) this
      rw [linkL_low f h2 hl, List.foldl_append, ih _ hc i hl, rt_cut f i (m := n) (by omega)]; rfl

end Go.Proofs.YtnaebjdccngeoaaGreatDoor

/-
  A chain: its entries' leaves' sums, and their marks, as plain functions.
-/
namespace Go.Proofs.YtnaebjdccngeoaaGreatDoor
open Go.RowKit

/-- The leaf's sum of the j-th entry. -/
def lf (l : List (List Nat)) (j : Nat) : List Nat := leafL (l.getD j [])
/-- All of them, one behind the other. -/
def leavesL (l : List (List Nat)) : List Nat := (l.map leafL).flatten
/-- What all entries come to. -/
def markL (l : List (List Nat)) : List Nat := l.foldl (fun m b => sha (m ++ leafL b)) zero32

theorem markL_nil : markL [] = zero32 := rfl
theorem markL_snoc (l : List (List Nat)) (b : List Nat) : markL (l ++ [b]) = sha (markL l ++ leafL b) := by simp [markL, List.foldl_append]
theorem markL_length (l : List (List Nat)) : (markL l).length = 32 := by
  rcases List.eq_nil_or_concat l with rfl | ⟨l', b, rfl⟩
  · rfl
  · rw [List.concat_eq_append, markL_snoc]; exact sha_length _
theorem zero32_lt : ∀ x ∈ zero32, x < 256 := by
  intro x hx
  rw [List.eq_of_mem_replicate hx]
  omega
theorem markL_lt (l : List (List Nat)) : ∀ x ∈ markL l, x < 256 := by
  rcases List.eq_nil_or_concat l with rfl | ⟨l', b, rfl⟩
  · exact zero32_lt
  · rw [List.concat_eq_append, markL_snoc]; exact sha_lt _

theorem lf_length (l : List (List Nat)) (j : Nat) : (lf l j).length = 32 := leafL_length _
theorem lf_lt (l : List (List Nat)) (j : Nat) : ∀ x ∈ lf l j, x < 256 := leafL_lt _
theorem lf_of {l : List (List Nat)} {j : Nat} {b : List Nat} (h : l[j]? = some b) : lf l j = leafL b := by rw [lf, List.getD_eq_getElem?_getD, h]; rfl
theorem lf_append (l r : List (List Nat)) {j : Nat} (h : j < l.length) : lf (l ++ r) j = lf l j := by
  rw [lf, lf, List.getD_eq_getElem?_getD, List.getD_eq_getElem?_getD, List.getElem?_append_left h]
theorem lf_take (l : List (List Nat)) {j n : Nat} (h : j < n) : lf (l.take n) j = lf l j := by
  rw [lf, lf, List.getD_eq_getElem?_getD, List.getD_eq_getElem?_getD, List.getElem?_take, if_pos h]
theorem lf_snoc (l : List (List Nat)) (b : List Nat) : lf (l ++ [b]) l.length = leafL b := lf_of (by simp)

theorem leavesL_length (l : List (List Nat)) : (leavesL l).length = 32 * l.length := by
  induction l with
  | nil => rfl
  | cons b l ih => rw [leavesL, List.map_cons, List.flatten_cons, List.length_append, leafL_length, List.length_cons]; unfold leavesL at ih; rw [ih]; omega
theorem leavesL_lt (l : List (List Nat)) : ∀ x ∈ leavesL l, x < 256 := by
  intro x hx
  obtain ⟨s, hs, hxs⟩ := List.mem_flatten.1 hx
  obtain ⟨b, _, rfl⟩ := List.mem_map.1 hs
  exact leafL_lt _ x hxs
theorem leavesL_snoc (l : List (List Nat)) (b : List Nat) : leavesL (l ++ [b]) = leavesL l ++ leafL b := by simp [leavesL]
theorem nth_leaves {l : List (List Nat)} {j : Nat} (h : j < l.length) : nth (leavesL l) j = lf l j := by
  refine nth_flatten _ (fun s hs => ?_) j _ ?_
  · obtain ⟨b, _, rfl⟩ := List.mem_map.1 hs
    exact leafL_length _
  · rw [List.getElem?_map, List.getElem?_eq_getElem h, lf, List.getD_eq_getElem?_getD, List.getElem?_eq_getElem h]
    rfl

/-- What is told of the first n of a list hangs on these alone. -/
theorem root_first (l : List (List Nat)) {n : Nat} (h : n ≤ l.length) : rt (nth (leavesL (l.take n))) 0 n = rt (lf l) 0 n := rt_congr _ _ n 0 0 fun j hj => by
  rw [Nat.zero_add, nth_leaves (by rw [List.length_take]; omega), lf_take l hj]
theorem path_first (l : List (List Nat)) {n : Nat} (h : n ≤ l.length) (a : Nat) : pathL (nth (leavesL (l.take n))) 0 n a = pathL (lf l) 0 n a := pathL_congr _ _ n 0 0 a fun j hj => by
  rw [Nat.zero_add, nth_leaves (by rw [List.length_take]; omega), lf_take l hj]
theorem link_first (l : List (List Nat)) {n : Nat} (h : n ≤ l.length) (m : Nat) : linkL (nth (leavesL (l.take n))) 0 n m true = linkL (lf l) 0 n m true := linkL_congr _ _ n 0 0 m true fun j hj => by
  rw [Nat.zero_add, nth_leaves (by rw [List.length_take]; omega), lf_take l hj]
theorem root_begin (l r : List (List Nat)) {n : Nat} (h : n ≤ l.length) : rt (lf (l ++ r)) 0 n = rt (lf l) 0 n := rt_congr _ _ n 0 0 fun j hj => by rw [Nat.zero_add]; exact lf_append l r (by omega)
theorem path_begin (l r : List (List Nat)) {n : Nat} (h : n ≤ l.length) (a : Nat) : pathL (lf (l ++ r)) 0 n a = pathL (lf l) 0 n a := pathL_congr _ _ n 0 0 a fun j hj => by rw [Nat.zero_add]; exact lf_append l r (by omega)
theorem link_begin (l r : List (List Nat)) {n : Nat} (h : n ≤ l.length) (m : Nat) : linkL (lf (l ++ r)) 0 n m true = linkL (lf l) 0 n m true := linkL_congr _ _ n 0 0 m true fun j hj => by rw [Nat.zero_add]; exact lf_append l r (by omega)

end Go.Proofs.YtnaebjdccngeoaaGreatDoor

/-
  A sum that is loaded, or stored, in a plain region of a walk within a fence (a range over a function).
-/
namespace Go.Proofs.YtnaebjdccngeoaaGreatDoor
open Go.RowKit

theorem wpListIn_load_sum {F : Fence} {n : Nat} {ops : Array Oper} {rest : List Oper} {o : Oper} {a : Act} {w : World} {Q : Exit → Act → World → Prop} (hgd : o.guard = none) (x : Operand) (ho : o.op = .load 50 x)
    (ad : Addr) (hx : a.eval x = .pointer (some ad)) (s : List Nat) (hl : s.length = 32) (hc : At w ad s)
    (h : wpListIn F n Tryz.prog ops Q rest (a.put o.dst (sv s)) w) : wpListIn F n Tryz.prog ops Q (o :: rest) a w := by
  refine wpListIn_plain hgd fun K hK => ?_
  unfold Oper.wpIn
  refine ⟨?_, ?_⟩
  · simp [Oper.about, ho]
  · rw [Oper.semAt_plain F _ _ (by rw [ho]; intro c hc'; cases hc')]
    simp only [execOp, ho, hx, Instr.loadAt, Instr.sureAddr, Sem.run_bind, Sem.run_pure, Result.andThen_ok, run_load_sum w ad s hl hc]
    exact hK _ _ h

theorem wpListIn_store_sum {F : Fence} {n : Nat} {ops : Array Oper} {rest : List Oper} {o : Oper} {a : Act} {w : World} {Q : Exit → Act → World → Prop} (hgd : o.guard = none) (x y : Operand) (ho : o.op = .store 50 x y)
    (g : Nat) (hx : a.eval x = .pointer (some ⟨g, 0, none⟩)) {T : TypeId} (xs ys : List Nat) (hl : Hid (xs.length = 32)) (hl' : ys.length = 32) (hc : BArr w g T xs) (hy : a.eval y = sv ys)
    (h : wpListIn F n Tryz.prog ops Q rest (a.put o.dst undef) (w.setRow g (bvs ys).toArray)) : wpListIn F n Tryz.prog ops Q (o :: rest) a w := by
  refine wpListIn_plain hgd fun K hK => ?_
  have hr := run_storeVar_row (P := Tryz.prog) w g T 50 (bvs xs).toArray (bvs ys).toArray hc (by rw [List.size_toArray, bvs_length, hl']; exact sizeSum) (by rw [List.size_toArray, bvs_length, hl.out, List.size_toArray, bvs_length, hl']) (all_oneCell_toArray (bvs_oneCell ys))
  unfold Oper.wpIn
  refine ⟨?_, ?_⟩
  · simp [Oper.about, ho]
  · rw [Oper.semAt_plain F _ _ (by rw [ho]; intro c hc'; cases hc')]
    simp only [execOp, ho, hx, hy, sv, Instr.storeAt, Instr.sureAddr, Sem.run_bind, Sem.run_pure, Result.andThen_ok, hr]
    exact hK _ _ h

end Go.Proofs.YtnaebjdccngeoaaGreatDoor

/-
  The front of a tree that grows, as plain lists: the roots of the whole trees of the n sums from i on; what those ahead and a last one come to; one more.
-/
namespace Go.Proofs.YtnaebjdccngeoaaGreatDoor
open Go.RowKit

theorem top_le {n : Nat} (h : n ≠ 0) : 2 ^ Nat.log2 n ≤ n := Nat.log2_self_le h
theorem top_lt (n : Nat) : n < 2 * 2 ^ Nat.log2 n := by
  have := Nat.lt_log2_self (n := n)
  rw [Nat.pow_succ] at this
  omega
theorem top_of {n e : Nat} (h1 : 2 ^ e ≤ n) (h2 : n < 2 * 2 ^ e) : Nat.log2 n = e := by
  have hp : 0 < 2 ^ e := Nat.two_pow_pos e
  have a : Nat.log2 n < e + 1 := (Nat.log2_lt (by omega)).2 (by rw [Nat.pow_succ]; omega)
  have b : ¬ Nat.log2 n < e := fun hh => by have := (Nat.log2_lt (by omega)).1 hh; omega
  omega

/-- The roots of the whole trees of the n sums from i on, the greatest first. -/
def fr (f : Nat → List Nat) (i n : Nat) : List (List Nat) :=
  if _ : n = 0 then [] else rt f i (2 ^ Nat.log2 n) :: fr f (i + 2 ^ Nat.log2 n) (n - 2 ^ Nat.log2 n)
termination_by n
decreasing_by have := Nat.two_pow_pos (Nat.log2 n); omega

theorem fr_nil (f : Nat → List Nat) (i : Nat) : fr f i 0 = [] := by rw [fr]; simp
theorem fr_top (f : Nat → List Nat) (i : Nat) {n : Nat} (h : n ≠ 0) : fr f i n = rt f i (2 ^ Nat.log2 n) :: fr f (i + 2 ^ Nat.log2 n) (n - 2 ^ Nat.log2 n) := by
  rw [fr, dif_neg h]
theorem fr_at (f : Nat → List Nat) (i : Nat) {n e : Nat} (h1 : 2 ^ e ≤ n) (h2 : n < 2 * 2 ^ e) : fr f i n = rt f i (2 ^ e) :: fr f (i + 2 ^ e) (n - 2 ^ e) := by
  have := Nat.two_pow_pos e
  rw [fr_top f i (by omega), top_of h1 h2]
theorem fr_pow (f : Nat → List Nat) (i e : Nat) : fr f i (2 ^ e) = [rt f i (2 ^ e)] := by
  have := Nat.two_pow_pos e
  rw [fr_at f i (Nat.le_refl _) (by omega), Nat.sub_self, fr_nil]
theorem fr_none {f : Nat → List Nat} {i n : Nat} : fr f i n = [] ↔ n = 0 := by
  constructor
  · intro h
    by_cases h0 : n = 0
    · exact h0
    · rw [fr_top f i h0] at h; cases h
  · rintro rfl; exact fr_nil f i

theorem fr_of {P : List Nat → Prop} (hs : ∀ xs, P (sha xs)) (f : Nat → List Nat) : ∀ (n i : Nat), (∀ j, j < n → P (f (i + j))) → ∀ x ∈ fr f i n, P x := by
  intro n
  induction n using Nat.strongRecOn with
  | ind n ih =>
    intro i h x hx
    by_cases h0 : n = 0
    · subst h0; rw [fr_nil] at hx; cases hx
    · have a := top_le h0
      have b := Nat.two_pow_pos (Nat.log2 n)
      rw [fr_top f i h0] at hx
      rcases List.mem_cons.1 hx with rfl | hx
      · exact rt_of hs f i _ fun j hj => h j (by omega)
      · exact ih _ (by omega) _ (fun j hj => by rw [Nat.add_assoc]; exact h _ (by omega)) x hx
theorem fr_congr (f g : Nat → List Nat) : ∀ (n i i' : Nat), (∀ j, j < n → f (i + j) = g (i' + j)) → fr f i n = fr g i' n := by
  intro n
  induction n using Nat.strongRecOn with
  | ind n ih =>
    intro i i' h
    by_cases h0 : n = 0
    · subst h0; rw [fr_nil, fr_nil]
    · have a := top_le h0
      have b := Nat.two_pow_pos (Nat.log2 n)
      rw [fr_top f i h0, fr_top g i' h0, rt_congr f g _ i i' fun j hj => h j (by omega),
        ih _ (by omega) _ (i' + 2 ^ Nat.log2 n) fun j hj => by rw [Nat.add_assoc, Nat.add_assoc]; exact h _ (by omega)]

/-- The last one, put together with the one ahead of it, and so on. -/
def tog (ahead : List (List Nat)) (last : List Nat) : List Nat := ahead.foldr nodeL last
theorem tog_nil (x : List Nat) : tog [] x = x := rfl
theorem tog_cons (y : List Nat) (ys : List (List Nat)) (x : List Nat) : tog (y :: ys) x = nodeL y (tog ys x) := rfl
theorem tog_snoc (ys : List (List Nat)) (y x : List Nat) : tog (ys ++ [y]) x = tog ys (nodeL y x) := by simp [tog]
theorem tog_of {P : List Nat → Prop} (hs : ∀ xs, P (sha xs)) (ys : List (List Nat)) (x : List Nat) (h : P x) : P (tog ys x) := by
  cases ys with
  | nil => exact h
  | cons y ys => exact hs _

/-- The whole trees put together are the root. -/
theorem tog_fr (f : Nat → List Nat) : ∀ (n i : Nat) (pre : List (List Nat)) (x : List Nat), fr f i n = pre ++ [x] → tog pre x = rt f i n := by
  intro n
  induction n using Nat.strongRecOn with
  | ind n ih =>
    intro i pre x h
    by_cases h0 : n = 0
    · subst h0; rw [fr_nil] at h; simp at h
    · have a := top_le h0
      have b := Nat.two_pow_pos (Nat.log2 n)
      have c := top_lt n
      rw [fr_top f i h0] at h
      by_cases hp : n = 2 ^ Nat.log2 n
      · rw [← hp, Nat.sub_self, fr_nil] at h
        cases pre with
        | nil => simp at h; rw [tog_nil, h]
        | cons y ys => simp at h
      · cases pre with
        | nil =>
          simp at h
          have := fr_none.1 h.2
          omega
        | cons y ys =>
          rw [List.cons_append] at h
          injection h with h1 h2
          rw [tog_cons, ih _ (by omega) _ ys x h2, ← h1, rt_cut f i (m := n) (by omega), cutN_of (m := n) (e := Nat.log2 n) (by omega) (by omega)]

theorem fr_append (f : Nat → List Nat) {m b : Nat} (hb : b < 2 ^ m) : ∀ (q i : Nat), fr f i (q * 2 ^ m + b) = fr f i (q * 2 ^ m) ++ fr f (i + q * 2 ^ m) b := by
  intro q
  induction q using Nat.strongRecOn with
  | ind q ih =>
    intro i
    by_cases h0 : q = 0
    · subst h0; rw [Nat.zero_mul, fr_nil, Nat.zero_add]; rfl
    · have a := top_le h0
      have c := top_lt q
      have d := Nat.two_pow_pos m
      have e1 : 2 ^ (Nat.log2 q + m) = 2 ^ Nat.log2 q * 2 ^ m := Nat.pow_add ..
      have a1 : 2 ^ Nat.log2 q * 2 ^ m ≤ q * 2 ^ m := Nat.mul_le_mul_right _ a
      have c1 : (q + 1) * 2 ^ m ≤ 2 * 2 ^ Nat.log2 q * 2 ^ m := Nat.mul_le_mul_right _ (by omega)
      rw [Nat.add_mul, Nat.one_mul, Nat.mul_assoc] at c1
      have z := Nat.two_pow_pos (Nat.log2 q)
      have e2 : q * 2 ^ m - 2 ^ Nat.log2 q * 2 ^ m = (q - 2 ^ Nat.log2 q) * 2 ^ m := (Nat.sub_mul ..).symm
      rw [fr_at f i (n := q * 2 ^ m + b) (e := Nat.log2 q + m) (by omega) (by omega), fr_at f i (n := q * 2 ^ m) (e := Nat.log2 q + m) (by omega) (by omega), e1,
        show q * 2 ^ m + b - 2 ^ Nat.log2 q * 2 ^ m = (q - 2 ^ Nat.log2 q) * 2 ^ m + b by rw [← e2]; omega, e2, ih _ (by omega), List.cons_append,
        show i + 2 ^ Nat.log2 q * 2 ^ m + (q - 2 ^ Nat.log2 q) * 2 ^ m = i + q * 2 ^ m by rw [← e2]; omega]

theorem fr_ones (f : Nat → List Nat) : ∀ (k i : Nat), (fr f i (2 ^ k - 1)).length = k ∧ tog (fr f i (2 ^ k - 1)) (f (i + (2 ^ k - 1))) = rt f i (2 ^ k) := by
  intro k
  induction k with
  | zero => intro i; rw [show 2 ^ 0 - 1 = 0 from rfl, fr_nil, tog_nil, show 2 ^ 0 = 1 from rfl, rt_one]; exact ⟨rfl, rfl⟩
  | succ k ih =>
    intro i
    have hp := Nat.two_pow_pos k
    have hs : 2 ^ (k + 1) = 2 * 2 ^ k := by rw [Nat.pow_succ]; omega
    have h := ih (i + 2 ^ k)
    rw [fr_at f i (n := 2 ^ (k + 1) - 1) (e := k) (by omega) (by omega), show 2 ^ (k + 1) - 1 - 2 ^ k = 2 ^ k - 1 by omega]
    refine ⟨by rw [List.length_cons, h.1], ?_⟩
    rw [tog_cons, show i + (2 ^ (k + 1) - 1) = i + 2 ^ k + (2 ^ k - 1) by omega, h.2, rt_cut f i (m := 2 ^ (k + 1)) (by omega), cutN_of (m := 2 ^ (k + 1)) (e := k) (by omega) (by omega), show 2 ^ (k + 1) - 2 ^ k = 2 ^ k by omega]

/-- One more: the last trees, as many as the size has bits set from the lowest on, become one with it. -/
theorem fr_more (f : Nat → List Nat) (i : Nat) {n k : Nat} (h : n % (2 * 2 ^ k) = 2 ^ k - 1) :
    ∃ pre l, fr f i n = pre ++ l ∧ l.length = k ∧ fr f i (n + 1) = pre ++ [tog l (f (i + n))] := by
  have hp := Nat.two_pow_pos k
  have hs : 2 ^ (k + 1) = 2 * 2 ^ k := by rw [Nat.pow_succ]; omega
  have hd := Nat.div_add_mod n (2 * 2 ^ k)
  rw [h, ← hs, Nat.mul_comm] at hd
  obtain ⟨q, hq⟩ : ∃ q, n / 2 ^ (k + 1) = q := ⟨_, rfl⟩
  rw [hq] at hd
  have o := fr_ones f k (i + q * 2 ^ (k + 1))
  refine ⟨fr f i (q * 2 ^ (k + 1)), fr f (i + q * 2 ^ (k + 1)) (2 ^ k - 1), ?_, o.1, ?_⟩
  · rw [← hd]; exact fr_append f (by omega) q i
  · rw [← hd, show i + (q * 2 ^ (k + 1) + (2 ^ k - 1)) = i + q * 2 ^ (k + 1) + (2 ^ k - 1) by omega, o.2, show q * 2 ^ (k + 1) + (2 ^ k - 1) + 1 = q * 2 ^ (k + 1) + 2 ^ k by omega, fr_append f (by omega) q i, fr_pow]

/-- How many bits are set. -/
def pop (n : Nat) : Nat := if _ : n = 0 then 0 else n % 2 + pop (n / 2)
termination_by n
decreasing_by omega
theorem pop_zero : pop 0 = 0 := by rw [pop]; simp
theorem pop_step {n : Nat} (h : n ≠ 0) : pop n = n % 2 + pop (n / 2) := by rw [pop, dif_neg h]
theorem pop_le (n : Nat) : pop n ≤ n := by
  induction n using Nat.strongRecOn with
  | ind n ih =>
    by_cases h0 : n = 0
    · subst h0; rw [pop_zero]; exact Nat.le_refl _
    · rw [pop_step h0]; have := ih (n / 2) (by omega); omega

theorem fr_twice (f : Nat → List Nat) : ∀ (h i j : Nat), (fr f i (2 * h)).length = (fr f j h).length := by
  intro h
  induction h using Nat.strongRecOn with
  | ind h ih =>
    intro i j
    by_cases h0 : h = 0
    · subst h0; rw [Nat.mul_zero, fr_nil, fr_nil]
    · have a := top_le h0
      have b := Nat.two_pow_pos (Nat.log2 h)
      have c := top_lt h
      have e : 2 ^ (Nat.log2 h + 1) = 2 * 2 ^ Nat.log2 h := by rw [Nat.pow_succ]; omega
      rw [fr_at f i (n := 2 * h) (e := Nat.log2 h + 1) (by omega) (by omega), fr_top f j h0, List.length_cons, List.length_cons, e, show 2 * h - 2 * 2 ^ Nat.log2 h = 2 * (h - 2 ^ Nat.log2 h) by omega, ih _ (by omega)]
theorem fr_length (f : Nat → List Nat) : ∀ (n i : Nat), (fr f i n).length = pop n := by
  intro n
  induction n using Nat.strongRecOn with
  | ind n ih =>
    intro i
    by_cases h0 : n = 0
    · subst h0; rw [fr_nil, pop_zero]; rfl
    · have hd : n = n / 2 * 2 ^ 1 + n % 2 := by omega
      have := fr_append f (m := 1) (b := n % 2) (by omega) (n / 2) i
      rw [← hd] at this
      rw [this, List.length_append, Nat.mul_comm, show 2 ^ 1 * (n / 2) = 2 * (n / 2) from rfl, fr_twice f _ i i, ih _ (by omega), pop_step h0, Nat.add_comm]
      congr 1
      rcases (show n % 2 = 0 ∨ n % 2 = 1 by omega) with h | h <;> rw [h]
      · rw [fr_nil]; rfl
      · rw [show 1 = 2 ^ 0 from rfl, fr_pow]; rfl

/-- The sums of a list of sums, one behind the other, are 32 bytes each. -/
theorem gflat_len {l : List (List Nat)} (h : ∀ x ∈ l, x.length = 32) : l.flatten.length = 32 * l.length := by
  induction l with
  | nil => rfl
  | cons x l ih => rw [List.flatten_cons, List.length_append, h x (by simp), ih fun y hy => h y (by simp [hy]), List.length_cons]; omega
theorem gflat_lt {l : List (List Nat)} (h : ∀ x ∈ l, ∀ y ∈ x, y < 256) : ∀ y ∈ l.flatten, y < 256 := by
  intro y hy
  obtain ⟨x, hx, hxy⟩ := List.mem_flatten.1 hy
  exact h x hx y hxy
theorem flat_drop {l : List (List Nat)} (h : ∀ x ∈ l, x.length = 32) (k : Nat) : l.flatten.drop (32 * k) = (l.drop k).flatten := by
  induction k generalizing l with
  | zero => rfl
  | succ k ih =>
    cases l with
    | nil => simp
    | cons x l =>
      rw [List.flatten_cons, List.drop_succ_cons, ← ih fun y hy => h y (by simp [hy]), show 32 * (k + 1) = 32 + 32 * k by omega, ← List.drop_drop, List.drop_append, h x (by simp), Nat.sub_self, List.drop_of_length_le (Nat.le_of_eq (h x (by simp)))]
      rfl
theorem flat_take {l : List (List Nat)} (h : ∀ x ∈ l, x.length = 32) (k : Nat) : l.flatten.take (32 * k) = (l.take k).flatten := by
  induction k generalizing l with
  | zero => rfl
  | succ k ih =>
    cases l with
    | nil => simp
    | cons x l =>
      rw [List.flatten_cons, List.take_succ_cons, List.flatten_cons, ← ih fun y hy => h y (by simp [hy]), List.take_append, h x (by simp), List.take_of_length_le (by rw [h x (by simp)]; omega), show 32 * (k + 1) - 32 = 32 * k by omega]

end Go.Proofs.YtnaebjdccngeoaaGreatDoor

/-
  slices.Backward over sums: the last one first.
-/
namespace Go.Proofs.YtnaebjdccngeoaaGreatDoor
open Go.RowKit Go.Shelf

attribute [local go_sem] Oper.semAt_some

/-- The blocks that stood at the start, and the box, hold what they held. -/
def KeepsBk (B0 Bs : Nat) (W W' : World) : Prop := ∀ b, (b < B0 ∨ b = Bs) → W'.heap[b]? = W.heap[b]?
theorem KeepsBk.refl (B0 Bs : Nat) (W : World) : KeepsBk B0 Bs W W := fun _ _ => rfl
theorem KeepsBk.trans {B0 Bs : Nat} {X Y Z : World} (h : KeepsBk B0 Bs X Y) (k : KeepsBk B0 Bs Y Z) : KeepsBk B0 Bs X Z := fun b hb => (k b hb).trans (h b hb)

/-- What is handed over: a place, and the sum there. -/
abbrev BackP := { p : Nat × List Nat // p.2.length = 32 ∧ ∀ y ∈ p.2, y < 256 }
def encB (x : BackP) : Array Value := #[.int .i64 (x.1.1 : Int), sv x.1.2]

set_option maxRecDepth 100000 in
set_option maxHeartbeats 1000000 in
theorem back1_in (F : Fence) (m : Nat) (hf : F.fn 198) (hro : F.round = none) (hm : 1 ≤ m) (l Bs B0 n c : Nat) (A : Option Addr) (ss : List (List Nat)) (hlen : ss.length = n)
    (h32 : ∀ s ∈ ss, s.length = 32) (hlt : ∀ s ∈ ss, ∀ x ∈ s, x < 256) (hn : n ≤ 1000000) (J Jx : List BackP → World → Prop) (W0 : World)
    (hY : ∀ pre x W, J pre W → pre.length < n → YieldAt F (m - 1) Tryz.prog l (encB x) W fun e W' =>
      (e = .returned (.bool true) ∧ J (pre ++ [x]) W' ∧ KeepsBk B0 Bs W W') ∨ (e = .returned (.bool false) ∧ Jx (pre ++ [x]) W'))
    (hBs : Boxed W0 Bs 53 (.slice A n c)) (hT : ∀ W, KeepsBk B0 Bs W0 W → InS W A n ss.flatten) (h0 : J [] W0) :
    CallsIn F m Tryz.prog 198 #[.func (.yield l) #[] #[], .pointer (some ⟨Bs, 0, none⟩)] W0 fun e W' => (∃ v, e = .returned v) ∧
      ((∃ xs : List BackP, xs.map (·.1.2) = ss.reverse ∧ J xs W') ∨ (∃ pre : List BackP, True ∧ Jx pre W')) := by
  have HT := Lib.hid hT
  have HS := Lib.hid (And.intro h32 hlt)
  clear hT h32 hlt
  refine callsIn_of_wp Tryz.func198 rfl hf ?_ hro
  simp only [Tryz.ntmps198, List.size_toArray, List.length_cons, List.length_nil, Nat.reduceAdd, Nat.reduceSub, Array.replicate_succ, Array.replicate_zero, List.push_toArray, List.append_toArray, List.nil_append, List.cons_append]
  have cs := hBs.cell
  have HB := Lib.hid hBs
  have HL := Lib.hid hlen
  clear hBs hlen
  gi_wp2
  gi_loopw [3] (fun i wr => ∃ (k : Nat) (pre : List BackP), k ≤ n ∧ i = .int .i64 ((n : Int) - 1 - (k : Int)) ∧ pre.length = k ∧ pre.map (·.1.2) = ss.reverse.take k ∧ J pre wr ∧ KeepsBk B0 Bs W0 wr)
    (fun i _ => (intOf i + 1).toNat)
  case atStart =>
    exact ⟨0, [], Nat.zero_le _, by go_num, rfl, rfl, h0, KeepsBk.refl _ _ _⟩
  case round =>
    clear cs
    obtain ⟨k, pre, hk, rfl, hpl, hpm, hJs, hkp⟩ := hrel
    have bs : Boxed wr Bs 53 (.slice A n c) := (hkp Bs (.inr rfl)).trans HB.out
    have cs := bs.cell
    by_cases hlt : k < n
    · obtain ⟨q, hq⟩ : ∃ q : Nat, (n : Int) - 1 - (k : Int) = (q : Int) := ⟨n - 1 - k, by omega⟩
      have hqn : q < n := by omega
      obtain ⟨ad, rfl, hsl, hat⟩ := (HT.out wr hkp).at_ hqn
      obtain ⟨s, hs⟩ : ∃ s, nth ss.flatten q = s := ⟨_, rfl⟩
      rw [hs] at hsl hat
      have hsq : ss[q]? = some s := by
        have h1 : ss[q]? = some (ss[q]'(by rw [HL.out]; exact hqn)) := List.getElem?_eq_getElem _
        rw [h1, ← hs, nth_flatten ss HS.out.1 q _ h1]
      have hsm : s ∈ ss := List.mem_of_getElem? hsq
      have hrev : ss.reverse.take (k + 1) = ss.reverse.take k ++ [s] := by
        rw [List.take_add_one, List.getElem?_reverse (by rw [HL.out]; omega), HL.out, show n - 1 - k = q by omega, hsq]; rfl
      obtain ⟨x, hx⟩ : ∃ x : BackP, x = ⟨(q, s), hsl, HS.out.2 s hsm⟩ := ⟨_, rfl⟩
      obtain ⟨fn, tmps, assign, body, hy, hR⟩ := hY pre x wr hJs (by omega)
      have hye : encB x = #[.int .i64 (q : Int), sv s] := by rw [hx]; rfl
      rw [hye] at hy
      have hx2 : x.1.2 = s := by rw [hx]
      have HK := Lib.hid (And.intro hkp (And.intro hpl (And.intro hpm (And.intro hrev hx2))))
      have HQ := Lib.hid hq
      have HAt := Lib.hid hat
      have hnq : ¬ ((q : Int) < 0) := by omega
      rw [hq]
      clear hkp hpl hpm hrev hx2 hq hat hsq hsm hs hx hye
      gi_wp2_with (refine wpListIn_load_sum rfl (.tmp 15) rfl (ad.add (q * 32)) rfl s hsl HAt.out ?_)
      refine hR.mono ?_
      rintro e W3 (⟨rfl, hJ3, hk3⟩ | ⟨rfl, hJx3⟩)
      · gi_wp2
        go_roundw
        case rel =>
          refine ⟨k + 1, pre ++ [x], by omega, by have := HQ.out; go_num, by rw [List.length_append, HK.out.2.1]; rfl, ?_, hJ3, HK.out.1.trans hk3⟩
          rw [List.map_append, HK.out.2.2.1, HK.out.2.2.2.1, List.map_singleton, HK.out.2.2.2.2]
        case measure => simp [intOf]
      · gi_wp2
        refine bodyPost_ret (results_none rfl _ _ _) rfl ?_
        exact ⟨⟨_, rfl⟩, .inr ⟨pre ++ [x], trivial, hJx3⟩⟩
    · obtain rfl : k = n := by omega
      have hneg : (k : Int) - 1 - (k : Int) = -1 := by omega
      rw [hneg]
      rw [List.take_of_length_le (by rw [List.length_reverse, HL.out]; omega)] at hpm
      clear hneg
      gi_wp2
      go_end0
      exact ⟨⟨_, rfl⟩, .inl ⟨pre, hpm, hJs⟩⟩

set_option maxRecDepth 100000 in
set_option maxHeartbeats 400000 in
/-- Backward hands back a function value that has captured the box. -/
theorem back_in (F : Fence) (m : Nat) (hf : F.fn 174) (hro : F.round = none) (A : Option Addr) (n c : Nat) (w : World) :
    CallsIn F m Tryz.prog 174 #[.slice A n c] w fun e w' =>
      e = .returned (.func (.func 198) #[] #[.pointer (some ⟨w.heap.size, 0, none⟩)]) ∧ w.alloc (.cells #[.slice A n c] 53) = w' := by
  refine callsIn_of_wp Tryz.func174 rfl hf ?_ hro
  simp only [Tryz.ntmps174, List.size_toArray, List.length_cons, List.length_nil, Nat.reduceAdd, Nat.reduceSub, Array.replicate_succ, Array.replicate_zero, List.push_toArray, List.append_toArray, List.nil_append, List.cons_append]
  gi_wp2
  go_ret
  exact ⟨rfl, rfl⟩

/-- The iterator's contract: all of them, the last one first. -/
theorem back_stops (F : Fence) (m : Nat) (hf : F.fn 198) (hro : F.round = none) (hm : 1 ≤ m) (Bs B0 n c : Nat) (A : Option Addr) (ss : List (List Nat)) (hlen : ss.length = n)
    (h32 : ∀ s ∈ ss, s.length = 32) (hlt : ∀ s ∈ ss, ∀ x ∈ s, x < 256) (hn : n ≤ 1000000) (w : World) (hBs : Boxed w Bs 53 (.slice A n c)) (hB : B0 ≤ w.heap.size) (hT : ∀ W, KeepsBk B0 Bs w W → InS W A n ss.flatten) :
    SeqStopsK F m Tryz.prog 198 #[.pointer (some ⟨Bs, 0, none⟩)] encB (KeepsBk B0 Bs) (fun xs : List BackP => xs.map (·.1.2) = ss.reverse) (fun _ => True) n w := fun l J Jx W hW _ _ hY h0 => by
  have hk : KeepsBk B0 Bs w W := fun b hb => hW.block b (by rcases hb with h | h; exact Nat.lt_of_lt_of_le h hB; subst h; exact hBs.lt)
  exact back1_in F m hf hro hm l Bs B0 n c A ss hlen h32 hlt hn J Jx W hY ((hk Bs (.inr rfl)).trans hBs) (fun W' h => hT W' (hk.trans h)) h0

end Go.Proofs.YtnaebjdccngeoaaGreatDoor

/-
  fronts.together, with leaves.Node: those ahead and the last one, from the last one on.
-/
namespace Go.Proofs.YtnaebjdccngeoaaGreatDoor
open Go.RowKit Go.Shelf

attribute [local go_sem] Oper.semAt_some

/-- What a list of places and sums comes to, one put ahead of the other. -/
def accP (s : List Nat) (pre : List BackP) : List Nat := (pre.map (·.1.2)).foldl (fun acc y => nodeL y acc) s
theorem accP_snoc (s : List Nat) (pre : List BackP) (x : BackP) : accP s (pre ++ [x]) = nodeL x.1.2 (accP s pre) := by simp [accP]
theorem accP_all (s : List Nat) (ss : List (List Nat)) (pre : List BackP) (h : pre.map (·.1.2) = ss.reverse) : accP s pre = tog ss s := by
  rw [accP, h, tog, List.foldl_reverse]
theorem accP_of {P : List Nat → Prop} (hs : ∀ xs, P (sha xs)) (s : List Nat) (h : P s) (pre : List BackP) : P (accP s pre) := by
  rcases List.eq_nil_or_concat pre with rfl | ⟨L, b, rfl⟩
  · exact h
  · rw [List.concat_eq_append, accP_snoc]; exact hs _

theorem keepsOthers_of {w w' : World} (h : Below w.heap.size w w') : KeepsOthers w w' := ⟨h.size, fun k _ hk _ => (h.block k (Array.getElem?_eq_some_iff.1 hk).1).trans hk⟩
theorem keepsBk_of {B0 Bs : Nat} {w w' : World} (h : Below w.heap.size w w') (hB : B0 ≤ w.heap.size) (hs : Bs < w.heap.size) : KeepsBk B0 Bs w w' := fun b hb => h.block b (by rcases hb with hb | hb <;> omega)
theorem keepsBk_set {B0 Bs g : Nat} (w : World) (cs : Array Value) (hB : B0 ≤ g) (hs : Bs ≠ g) : KeepsBk B0 Bs w (w.setRow g cs) := fun b hb => setRow_other w g b cs (by rcases hb with hb | hb <;> omega)

theorem cell_of_block {W W' : World} {a : Addr} (h : W'.heap[a.block]? = W.heap[a.block]?) : W'.cell? a = W.cell? a := by simp [World.cell?, h]

theorem setRow_others (W : World) (g : Nat) (cs : Array Value) : KeepsOthers W (W.setRow g cs) := ⟨by rw [setRow_size]; exact Nat.le_refl _, fun k o hk ho => by
  by_cases h : k = g
  · subst h
    obtain ⟨hlt, hk'⟩ := Array.getElem?_eq_some_iff.1 hk
    show (W.heap.modify k _)[k]? = some o
    rw [Array.getElem?_eq_getElem (by rw [Array.size_modify]; exact hlt), Array.getElem_modify_self, hk']
    cases o <;> first | rfl | (simp [Obj.isCells] at ho)
  · exact (setRow_other W g k cs h).trans hk⟩

/-- What holds between two rounds. -/
structure TogKept (w : World) (g : Nat) (s : List Nat) (pre : List BackP) (W : World) : Prop where
  acc : BArr W g 50 (accP s pre)
  fn : Boxed W (g + 1) 128 (.func (.func 126) #[] #[])
  res : BArr W (g + 2) 50 zero32
  bel : Below w.heap.size w W
  size : g + 4 ≤ W.heap.size
theorem togKept_own {w : World} {g : Nat} {s : List Nat} {B : Nat} (hB : w.heap.size ≤ B) : OwnFrom B (TogKept w g s) := fun _ _ _ _ hs hg hr =>
  ⟨(grownBy_keeps_cells hg (fun r e => (hr r e).2) hs.acc rfl).trans hs.acc, (grownBy_keeps_cells hg (fun r e => (hr r e).2) hs.fn rfl).trans hs.fn, (grownBy_keeps_cells hg (fun r e => (hr r e).2) hs.res rfl).trans hs.res,
    hs.bel.grown hg hs.bel.size (fun k e => Nat.le_trans hB (hr k e).1), Nat.le_trans hs.size hg.size⟩
theorem TogKept.below {w : World} {g : Nat} {s : List Nat} {pre : List BackP} {W W' : World} (h : TogKept w g s pre W) (hb : Below W.heap.size W W') : TogKept w g s pre W' :=
  ⟨h.acc.below hb, (hb.block _ h.fn.lt).trans h.fn, h.res.below hb, below_on h.bel (Nat.le_refl _) hb, Nat.le_trans h.size hb.size⟩


set_option maxRecDepth 100000 in
set_option maxHeartbeats 2000000 in
theorem together_in (A : Option Addr) (n c : Nat) (ss : List (List Nat)) (s : List Nat) (w : World) (hin : InS w A n ss.flatten) (hlen : ss.length = n) (h32 : ∀ x ∈ ss, x.length = 32) (hlt : ∀ x ∈ ss, ∀ y ∈ x, y < 256)
    (hs32 : s.length = 32) (hsl : ∀ x ∈ s, x < 256) (hn : n ≤ 1000000) (hk : Knows w) (hs : Starts w) :
    CallsIn Fence.wide 3 Tryz.prog 125 #[.slice A n c, sv s, .func (.func 126) #[] #[]] w fun e W' => e = .returned (sv (tog ss s)) ∧ Below w.heap.size w W' := by
  have e0 : (bvs zero32).toArray = #[.int .u8 0, .int .u8 0, .int .u8 0, .int .u8 0, .int .u8 0, .int .u8 0, .int .u8 0, .int .u8 0, .int .u8 0, .int .u8 0, .int .u8 0, .int .u8 0, .int .u8 0, .int .u8 0, .int .u8 0, .int .u8 0, .int .u8 0, .int .u8 0, .int .u8 0, .int .u8 0, .int .u8 0, .int .u8 0, .int .u8 0, .int .u8 0, .int .u8 0, .int .u8 0, .int .u8 0, .int .u8 0, .int .u8 0, .int .u8 0, .int .u8 0, .int .u8 0] := rfl
  obtain ⟨W0, hW0⟩ : ∃ W0, W0 = ((w.alloc (.cells (bvs s).toArray 50)).alloc (.cells #[.func (.func 126) #[] #[]] 128)).alloc (.cells #[.int .u8 0, .int .u8 0, .int .u8 0, .int .u8 0, .int .u8 0, .int .u8 0, .int .u8 0, .int .u8 0, .int .u8 0, .int .u8 0, .int .u8 0, .int .u8 0, .int .u8 0, .int .u8 0, .int .u8 0, .int .u8 0, .int .u8 0, .int .u8 0, .int .u8 0, .int .u8 0, .int .u8 0, .int .u8 0, .int .u8 0, .int .u8 0, .int .u8 0, .int .u8 0, .int .u8 0, .int .u8 0, .int .u8 0, .int .u8 0, .int .u8 0, .int .u8 0] 50) := ⟨_, rfl⟩
  have z0 : W0.heap.size = w.heap.size + 3 := by rw [hW0]; simp
  have r0 := ((BArr.new w 50 s).alloc (.cells #[.func (.func 126) #[] #[]] 128)).alloc (.cells (bvs zero32).toArray 50)
  have r1 := (Boxed.new (w.alloc (.cells (bvs s).toArray 50)) 128 (.func (.func 126) #[] #[])).alloc (.cells (bvs zero32).toArray 50)
  have r2 := BArr.new ((w.alloc (.cells (bvs s).toArray 50)).alloc (.cells #[.func (.func 126) #[] #[]] 128)) 50 zero32
  rw [World.size_alloc] at r1
  rw [World.size_alloc, World.size_alloc] at r2
  have b0 : Below w.heap.size w W0 := by rw [hW0]; exact ((below_alloc w _).alloc (by simp) _).alloc (by simp; omega) _
  rw [e0, ← hW0] at r0 r1 r2
  obtain ⟨W1, hW1⟩ : ∃ W1, W1 = W0.alloc (.cells #[.slice A n c] 53) := ⟨_, rfl⟩
  have z1 : W1.heap.size = w.heap.size + 4 := by rw [hW1, World.size_alloc, z0]
  have b1 : Below W0.heap.size W0 W1 := by rw [hW1]; exact below_alloc _ _
  have rb : Boxed W1 (w.heap.size + 3) 53 (.slice A n c) := by rw [hW1, ← z0]; exact Boxed.new _ _ _
  have k0 : TogKept w w.heap.size s [] W1 := ⟨r0.below b1, (b1.block _ r1.lt).trans r1, r2.below b1, below_on b0 (Nat.le_refl _) b1, by omega⟩
  have HW := Lib.hid (And.intro hW0 hW1)
  have HI := Lib.hid hin
  have HX := Lib.hid (And.intro hlen (And.intro h32 (And.intro hlt (And.intro hs32 hsl))))
  obtain ⟨g, hg⟩ : ∃ g, g = w.heap.size := ⟨_, rfl⟩
  rw [← hg] at k0 rb z1
  have HG := Lib.hid (And.intro hg (And.intro z0 z1))
  clear r0 r1 r2 b0 b1 e0 hW0 hW1 hin hlen h32 hlt hs32 hsl hg z0 z1
  refine callsIn_of_wp_marks Tryz.func125 rfl trivial ?_ rfl
  simp only [Tryz.ntmps125, List.size_toArray, List.length_cons, List.length_nil, Nat.reduceAdd, Nat.reduceSub, Array.replicate_succ, Array.replicate_zero, List.push_toArray, List.append_toArray, List.nil_append, List.cons_append]
  unfold sv
  gi_wp2_with (refine ⟨trivial, ?_⟩; gi_at_call 174; refine (back_in Fence.wide _ trivial rfl _ _ _ _).mono ?_; rintro e w3 ⟨rfl, rfl⟩)
  rw [← HW.out.1]
  rw [← HW.out.2, show w.heap.size + 1 + 1 + 1 = g + 3 by have := HG.out.1; omega, show w.heap.size + 1 + 1 = g + 2 by have := HG.out.1; omega, show w.heap.size + 1 = g + 1 by have := HG.out.1; omega, ← HG.out.1]
  have hBK : ∀ W, KeepsBk w.heap.size (g + 3) W1 W → InS W A n ss.flatten := fun W hW => by
    have h1 := HI.out.below k0.bel
    exact ⟨HI.out.len, fun j x hx => by
      obtain ⟨ad, e, hc⟩ := HI.out.rd j x hx
      obtain ⟨ad1, e1, hc1⟩ := h1.rd j x hx
      have : ad1 = ad := by rw [e] at e1; cases e1; rfl
      subst this
      exact ⟨_, e, (cell_of_block (hW _ (.inl (World.block_lt_of_cell? w _ hc)))).trans hc1⟩⟩
  refine wpIn_rangeFunc_ownH rfl (by decide) (gf := 198) (lb := #[.pointer (some ⟨g + 3, 0, none⟩)]) rfl trivial (enters_of Tryz.func198 (by kernel_rfl) rfl)
    (back_stops Fence.wide (3 - 1) trivial rfl (by decide) (g + 3) w.heap.size n c A ss HX.out.1 HX.out.2.1 HX.out.2.2.1 hn W1 rb (by have := HG.out; omega) hBK) KeepsBk.trans
    (fun W l o o' hl _ _ _ b hb => World.putObj_heap_other (by have := HG.out; omega)) (Below.refl _ _) (fun _ => rfl)
    (TogKept w g s) (fun _ _ _ => False) (togKept_own (by have := HG.out; omega)) (fun _ _ _ _ _ hs _ _ => hs) k0
    (fun x a' W => ∃ p, a' = { tmps := #[.slice A n c, .agg (bvs s).toArray, .func (.func 126) #[] #[], undef, .pointer (some ⟨g, 0, none⟩), .pointer (some ⟨g + 1, 0, none⟩), .pointer (some ⟨g + 2, 0, none⟩), undef, .pointer (some ⟨p, 0, none⟩), .slice A n c,
      .func (.func 198) #[] #[.pointer (some ⟨g + 3, 0, none⟩)], .int .i64 (x.1.1 : Int), sv x.1.2, undef, undef, undef, undef, undef], defers := [] } ∧ BArr W p 50 x.1.2) ?own ?assign ?body ?done ?stop
  case own =>
    rintro x a' _ W W' row ⟨p, e, hb⟩ hg hr
    exact ⟨p, e, (grownBy_keeps_cells hg (fun r e => (hr r e).2) hb rfl).trans hb⟩
  case assign =>
    rintro l pre ⟨⟨q, y⟩, hy, hyl⟩ W K hI hK
    have e0 : #[.int .u8 0, .int .u8 0, .int .u8 0, .int .u8 0, .int .u8 0, .int .u8 0, .int .u8 0, .int .u8 0, .int .u8 0, .int .u8 0, .int .u8 0, .int .u8 0, .int .u8 0, .int .u8 0, .int .u8 0, .int .u8 0, .int .u8 0, .int .u8 0, .int .u8 0, .int .u8 0, .int .u8 0, .int .u8 0, .int .u8 0, .int .u8 0, .int .u8 0, .int .u8 0, .int .u8 0, .int .u8 0, .int .u8 0, .int .u8 0, .int .u8 0, .int .u8 0] = (bvs zero32).toArray := rfl
    have HZ := Lib.hid (show zero32.length = 32 from rfl)
    have hB := below_alloc W (.cells (bvs y).toArray 50)
    have hfin : K { tmps := #[.slice A n c, .agg (bvs s).toArray, .func (.func 126) #[] #[], undef, .pointer (some ⟨g, 0, none⟩), .pointer (some ⟨g + 1, 0, none⟩), .pointer (some ⟨g + 2, 0, none⟩), undef, .pointer (some ⟨W.heap.size, 0, none⟩), .slice A n c,
      .func (.func 198) #[] #[.pointer (some ⟨g + 3, 0, none⟩)], .int .i64 (q : Int), sv y, undef, undef, undef, undef, undef], defers := [] } (W.alloc (.cells (bvs y).toArray 50)) := by
      refine hK _ _ ((keepsOthers_of hB).from _) (keepsBk_of hB ?_ ?_) (hI.below hB) ⟨_, rfl, BArr.new _ _ _⟩
      · have := hI.bel.size; omega
      · have := hI.size; omega
    have HF := Lib.hid hfin
    clear hfin hB
    unfold encB
    gi_wp2_with (refine wpListIn_store_sum rfl (.tmp 8) (.tmp 12) rfl W.heap.size rfl zero32 y HZ hy (BArr.new _ _ _) rfl ?_; rw [World.setRow_alloc_new])
    exact HF.out
  case body =>
    rintro l pre ⟨⟨q, y⟩, hy, hyl⟩ a' W hl hrec hI ⟨p, rfl, hp⟩ hlt
    have c1 := hI.fn.cell
    obtain ⟨a, ha⟩ : ∃ a, accP s pre = a := ⟨_, rfl⟩
    have hal : a.length = 32 := by rw [← ha]; exact accP_of (P := fun l => l.length = 32) sha_length s HX.out.2.2.2.1 pre
    have hab : ∀ x ∈ a, x < 256 := by rw [← ha]; exact accP_of (P := fun l => ∀ x ∈ l, x < 256) sha_lt s HX.out.2.2.2.2 pre
    have hacc := hI.acc
    rw [ha] at hacc
    have C := Lib.hid (node_any y a W hy hal hyl hab (hk.below hI.bel) (hs.below hI.bel))
    have hnl := nodeL_length y a
    have hpn : accP s (pre ++ [⟨(q, y), hy, hyl⟩]) = nodeL y a := by rw [accP_snoc, ha]
    obtain ⟨b, hb⟩ : ∃ b, nodeL y a = b := ⟨_, rfl⟩
    rw [hb] at C hnl hpn
    have HA := Lib.hid (And.intro hacc hpn)
    have HAL := Lib.hid hal
    have HP := Lib.hid hp.at_
    have HC := Lib.hid hacc.at_
    have H0 := Lib.hid hI
    clear ha hb hab hacc hpn hp hI
    unfold sv at C
    gi_wp2_with (first
      | refine wpListIn_load_sum rfl (.tmp 8) rfl ⟨p, 0, none⟩ rfl y hy HP.out ?_
      | refine wpListIn_load_sum rfl (.tmp 4) rfl ⟨g, 0, none⟩ rfl a hal HC.out ?_
      | (refine ⟨trivial, ?_⟩; gi_at_call 126; refine (CallsIn.inRound l (callsIn_wide.2 C.out)).mono ?_; rintro e w3 ⟨rfl, bel3⟩; have HB3 := Lib.hid bel3; clear bel3)
      | refine wpListIn_store_sum rfl (.tmp 4) (.tmp 16) rfl g rfl a b HAL hnl (HA.out.1.below HB3.out) rfl ?_)
    have h3 := H0.out.below HB3.out
    have hsz := H0.out.bel.size
    have hgs := H0.out.size
    have hgg := HG.out.1
    refine ⟨(((keepsOthers_of HB3.out).trans (setRow_others w3 g _)).from _), (keepsBk_of HB3.out hsz (by omega)).trans (keepsBk_set w3 _ (by omega) (by omega)), ?_, ?_, ?_, ?_, ?_⟩
    · rw [HA.out.2]; exact (HA.out.1.below HB3.out).setRow b
    · exact (setRow_other w3 g (g + 1) _ (by omega)).trans h3.fn
    · exact (setRow_other w3 g (g + 2) _ (by omega)).trans h3.res
    · exact below_setRow h3.bel (by omega) _
    · rw [setRow_size]; exact h3.size
  case done =>
    intro D xs W hD hS hI hDf
    have hfin := accP_all s ss xs hS
    have hal : (tog ss s).length = 32 := tog_of (P := fun l => l.length = 32) sha_length ss s HX.out.2.2.2.1
    have hacc := hI.acc
    rw [hfin] at hacc
    obtain ⟨b, hb⟩ : ∃ b, tog ss s = b := ⟨_, rfl⟩
    rw [hb] at hacc hal
    have HBq := Lib.hid hb
    have HAt := Lib.hid hacc.at_
    have H0 := Lib.hid hI
    have HZ := Lib.hid (show zero32.length = 32 from rfl)
    clear hb hfin hacc hI hS
    gi_wp2_with (first
      | refine wpListIn_load_sum rfl (.tmp 4) rfl ⟨g, 0, none⟩ rfl b hal HAt.out ?_
      | refine wpListIn_store_sum rfl (.tmp 6) (.tmp 17) rfl (g + 2) rfl zero32 b HZ hal H0.out.res rfl ?_)
    have hf := (H0.out.res).setRow b
    have hDs : D ≠ g + 2 := by
      rintro rfl
      have := H0.out.res
      unfold BArr at this
      rw [this] at hDf
      cases hDf
    have hDf2 : (W.setRow (g + 2) (bvs b).toArray).heap[D]? = some (.deferred (some [])) := (setRow_other W (g + 2) D _ hDs).trans hDf
    refine ⟨by simp, .inl ⟨_, _, rfl, run_takeDeferred hDf2, ?_⟩⟩
    refine ⟨_, results_cell_row (p := 6) (ty := 50) (by kernel_rfl) _ _ (g + 2) 50 (bvs b).toArray (0, 0) _ rfl ((World.putObj_heap_other (Ne.symm hDs)).trans hf) Tryz.underlying50 rfl (by rw [List.size_toArray, bvs_length, hal]; exact sizeSum), ?_⟩
    have hgg := HG.out
    refine ⟨by rw [HBq.out], (below_setRow H0.out.bel (by omega) _).trans (belowK_b (w := w) (Nat.le_refl _) _ D _ _ (by omega) hDf2 rfl rfl)⟩
  case stop =>
    rintro D c' pre W _ _ h _
    exact h.elim

theorem together_any (A : Option Addr) (n c : Nat) (ss : List (List Nat)) (s : List Nat) (w : World) (hin : InS w A n ss.flatten) (hlen : ss.length = n) (h32 : ∀ x ∈ ss, x.length = 32) (hlt : ∀ x ∈ ss, ∀ y ∈ x, y < 256)
    (hs32 : s.length = 32) (hsl : ∀ x ∈ s, x < 256) (hn : n ≤ 1000000) (hk : Knows w) (hs : Starts w) :
    Calls Tryz.prog 125 #[.slice A n c, sv s, .func (.func 126) #[] #[]] w fun e W' => e = .returned (sv (tog ss s)) ∧ Below w.heap.size w W' :=
  (callsIn_wide (n := 3)).1 (together_in A n c ss s w hin hlen h32 hlt hs32 hsl hn hk hs)

end Go.Proofs.YtnaebjdccngeoaaGreatDoor

/-
  fronts.merged: how many bits of the size are set, from the lowest one on.
-/
namespace Go.Proofs.YtnaebjdccngeoaaGreatDoor
open Go.RowKit

/-- Bit k of a number, as the walk has it. -/
theorem bit_at (n k : Nat) (hn : n < 1000000) : bits .and .u64 ((n : Int) / 2 ^ k) 1 = ((n / 2 ^ k % 2 : Nat) : Int) := by
  have h : (n : Int) / 2 ^ k = ((n / 2 ^ k : Nat) : Int) := by norm_cast
  have hlt : n / 2 ^ k ≤ n := Nat.div_le_self _ _
  rw [h, show (1 : Int) = ((1 : Nat) : Int) from rfl, u64_and_nat _ _ (by omega) (by omega), Nat.and_one_is_mod]

theorem ones_more {n k : Nat} (hm : n % 2 ^ k = 2 ^ k - 1) (hb : n / 2 ^ k % 2 = 1) : n % 2 ^ (k + 1) = 2 ^ (k + 1) - 1 := by
  have hp := Nat.two_pow_pos k
  rw [Nat.pow_succ, Nat.mod_mul, hm, hb]
  omega
theorem ones_end {n k : Nat} (hm : n % 2 ^ k = 2 ^ k - 1) (hb : n / 2 ^ k % 2 = 0) : n % (2 * 2 ^ k) = 2 ^ k - 1 := by
  rw [Nat.mul_comm, Nat.mod_mul, hm, hb]
  omega
theorem ones_few {n k : Nat} (hb : n / 2 ^ k % 2 = 1) (hn : n < 1000000) : k < 20 := by
  apply Nat.lt_of_not_le
  intro h
  have h1 : 2 ^ 20 ≤ 2 ^ k := Nat.pow_le_pow_right (by omega) h
  have h2 : n / 2 ^ k = 0 := Nat.div_eq_of_lt (by have : (2 : Nat) ^ 20 = 1048576 := by decide
                                                  omega)
  rw [h2] at hb
  omega

set_option maxRecDepth 100000 in
set_option maxHeartbeats 1000000 in
theorem merged_any (n : Nat) (w : World) (hn : n < 1000000) :
    Calls Tryz.prog 124 #[.int .u64 (n : Int)] w fun e w' => ∃ k : Nat, e = .returned (.int .i64 (k : Int)) ∧ n % (2 * 2 ^ k) = 2 ^ k - 1 ∧ w' = w := by
  go_enter Tryz.func124, Tryz.ntmps124
  go_wp2
  go_step3
  go_wp2
  go_step3
  go_wp2
  go_loopw [3] (fun i wr => ∃ k : Nat, k ≤ 20 ∧ i = .int .i64 (k : Int) ∧ n % 2 ^ k = 2 ^ k - 1 ∧ wr = w) (fun i _ => 20 - (intOf i).toNat)
  case atStart => exact ⟨0, by omega, rfl, by simp [Nat.mod_one], rfl⟩
  case round =>
    obtain ⟨k, hk, rfl, hm, rfl⟩ := hrel
    have hb := bit_at n k hn
    rcases (show n / 2 ^ k % 2 = 0 ∨ n / 2 ^ k % 2 = 1 by omega) with h0 | h0
    · rw [h0] at hb
      have HE := Lib.hid (ones_end hm h0)
      clear hm h0
      go_wp2
      try rw [Exit.noGoto_ret]
      go_ret
      exact ⟨k, rfl, HE.out, rfl⟩
    · rw [h0] at hb
      have hk2 := ones_few h0 hn
      have HE := Lib.hid (ones_more hm h0)
      clear hm h0
      go_wp2
      go_roundw
      case rel => exact ⟨k + 1, by omega, by go_num, HE.out, trivial⟩
      case measure => simp [intOf]; omega

/-- There is just one such number. -/
theorem ones_unique {n j k : Nat} (hj : n % (2 * 2 ^ j) = 2 ^ j - 1) (hk : n % (2 * 2 ^ k) = 2 ^ k - 1) : j = k := by
  have key : ∀ {a b : Nat}, a < b → n % (2 * 2 ^ a) = 2 ^ a - 1 → n % (2 * 2 ^ b) = 2 ^ b - 1 → False := by
    intro a b hab ha hb
    obtain ⟨d, rfl⟩ : ∃ d, b = a + 1 + d := ⟨b - (a + 1), by omega⟩
    have e1 : 2 * 2 ^ (a + 1 + d) = 2 * 2 ^ a * (2 * 2 ^ d) := by rw [Nat.pow_add, Nat.pow_succ, Nat.mul_comm (2 ^ a) 2]; rw [Nat.mul_left_comm]
    have e2 : 2 ^ (a + 1 + d) = 2 * 2 ^ a * 2 ^ d := by rw [Nat.pow_add, Nat.pow_succ, Nat.mul_comm (2 ^ a) 2]
    have h1 := Nat.mod_mul_right_mod n (2 * 2 ^ a) (2 * 2 ^ d)
    rw [← e1, hb, ha, e2] at h1
    have hp := Nat.two_pow_pos a
    have hd := Nat.two_pow_pos d
    have h2 : 2 * 2 ^ a * 2 ^ d - 1 = (2 * 2 ^ a - 1) + 2 * 2 ^ a * (2 ^ d - 1) := by
      obtain ⟨e, he⟩ : ∃ e, 2 ^ d = e + 1 := ⟨2 ^ d - 1, by omega⟩
      rw [he, Nat.add_sub_cancel, Nat.mul_succ]
      omega
    rw [h2, Nat.add_mul_mod_self_left, Nat.mod_eq_of_lt (by omega)] at h1
    omega
  rcases Nat.lt_trichotomy j k with h | h | h
  · exact (key h hj hk).elim
  · exact h
  · exact (key h hk hj).elim
theorem ones_some : ∀ n : Nat, ∃ k, n % (2 * 2 ^ k) = 2 ^ k - 1 := by
  intro n
  induction n using Nat.strongRecOn with
  | ind n ih =>
    by_cases h0 : n % 2 = 0
    · exact ⟨0, by simpa using h0⟩
    · obtain ⟨k, hk⟩ := ih (n / 2) (by omega)
      refine ⟨k + 1, ?_⟩
      have hp := Nat.two_pow_pos k
      have e : 2 * 2 ^ (k + 1) = 2 * (2 * 2 ^ k) := by rw [Nat.pow_succ, Nat.mul_comm (2 ^ k) 2]
      rw [e, Nat.mod_mul, hk, Nat.pow_succ]
      omega
theorem merged_at {n k : Nat} (hk : n % (2 * 2 ^ k) = 2 ^ k - 1) (w : World) (hn : n < 1000000) : Calls Tryz.prog 124 #[.int .u64 (n : Int)] w fun e w' => e = .returned (.int .i64 (k : Int)) ∧ w' = w :=
  (merged_any n w hn).mono fun e w' ⟨j, he, hj, hw⟩ => ⟨by rw [he, ones_unique hj hk], hw⟩

end Go.Proofs.YtnaebjdccngeoaaGreatDoor

/-
  A front in memory; fronts.New, isThere, Size, Sums.
-/
namespace Go.Proofs.YtnaebjdccngeoaaGreatDoor
open Go.RowKit

/-- Block g is the front of the first n of the sums f. -/
structure FrontAt (w : World) (g : Nat) (f : Nat → List Nat) (n : Nat) (A : Option Addr) (c : Nat) : Prop where
  row : w.heap[g]? = some (.cells #[.bool true, .int .u64 (n : Int), .slice A (pop n) c] 121 (0, 0))
  trees : InS w A (pop n) (fr f 0 n).flatten
  cap : pop n ≤ c
  nil : A = none → c = 0
  off : ∀ ad, A = some ad → ad.block ≠ g
def Front (w : World) (g : Nat) (f : Nat → List Nat) (n : Nat) : Prop := ∃ A c, FrontAt w g f n A c

section
variable {w w' : World} {g : Nat} {f : Nat → List Nat} {n c : Nat} {A : Option Addr}
theorem FrontAt.lt (h : FrontAt w g f n A c) : g < w.heap.size := (Array.getElem?_eq_some_iff.1 h.row).1
theorem FrontAt.made (h : FrontAt w g f n A c) : w.cell? ⟨g, 0, none⟩ = some (.bool true) := (cell_of_row _ g 0 _ _ (0, 0) h.row).trans rfl
theorem FrontAt.size (h : FrontAt w g f n A c) : w.cell? ⟨g, 1, none⟩ = some (.int .u64 (n : Int)) := (cell_of_row _ g 1 _ _ (0, 0) h.row).trans rfl
theorem FrontAt.list (h : FrontAt w g f n A c) : w.cell? ⟨g, 2, none⟩ = some (.slice A (pop n) c) := (cell_of_row _ g 2 _ _ (0, 0) h.row).trans rfl
theorem FrontAt.free (h : FrontAt w g f n A c) (i : Nat) : w.frozen? ⟨g, i, none⟩ = false := frozen_of_row w g i _ _ h.row
theorem FrontAt.below (h : FrontAt w g f n A c) (hb : Below w.heap.size w w') : FrontAt w' g f n A c := ⟨(hb.block _ h.lt).trans h.row, h.trees.below hb, h.cap, h.nil, h.off⟩
theorem Front.below (h : Front w g f n) (hb : Below w.heap.size w w') : Front w' g f n := by
  obtain ⟨A, c, h⟩ := h
  exact ⟨A, c, h.below hb⟩
theorem Front.lt (h : Front w g f n) : g < w.heap.size := by
  obtain ⟨A, c, h⟩ := h
  exact h.lt
theorem inS_blocks {w w' : World} {A : Option Addr} {n : Nat} {ys : List Nat} (h : InS w A n ys) (hb : ∀ ad, A = some ad → w'.heap[ad.block]? = w.heap[ad.block]?) : InS w' A n ys :=
  ⟨h.len, fun j x hx => by
    obtain ⟨ad, e, hc⟩ := h.rd j x hx
    refine ⟨ad, e, ?_⟩
    rw [← hc]
    have := hb ad e
    rw [← block_add ad j] at this
    simp [World.cell?, this]⟩
/-- What turns elsewhere is nothing to a front. -/
theorem FrontAt.keep (h : FrontAt w g f n A c) (hg : w'.heap[g]? = w.heap[g]?) (hb : ∀ ad, A = some ad → w'.heap[ad.block]? = w.heap[ad.block]?) : FrontAt w' g f n A c :=
  ⟨hg.trans h.row, inS_blocks h.trees hb, h.cap, h.nil, h.off⟩
theorem Front.congr {f' : Nat → List Nat} (h : Front w g f n) (hf : ∀ j, j < n → f j = f' j) : Front w g f' n := by
  obtain ⟨A, c, h⟩ := h
  refine ⟨A, c, h.row, ?_, h.cap, h.nil, h.off⟩
  have e := fr_congr f f' n 0 0 fun j hj => by rw [Nat.zero_add]; exact hf j hj
  rw [← e]
  exact h.trees
end

/-- The sums are sums. -/
structure Sums32 (f : Nat → List Nat) (n : Nat) : Prop where
  len : ∀ j, j < n → (f j).length = 32
  lt : ∀ j, j < n → ∀ x ∈ f j, x < 256
theorem Sums32.mono {f : Nat → List Nat} {n m : Nat} (h : Sums32 f n) (hm : m ≤ n) : Sums32 f m := ⟨fun j hj => h.len j (by omega), fun j hj => h.lt j (by omega)⟩
theorem Sums32.fr32 {f : Nat → List Nat} {n : Nat} (h : Sums32 f n) : ∀ x ∈ fr f 0 n, x.length = 32 := fr_of (P := fun l => l.length = 32) sha_length f n 0 fun j hj => by rw [Nat.zero_add]; exact h.len j hj
theorem Sums32.frlt {f : Nat → List Nat} {n : Nat} (h : Sums32 f n) : ∀ x ∈ fr f 0 n, ∀ y ∈ x, y < 256 := fr_of (P := fun l => ∀ y ∈ l, y < 256) sha_lt f n 0 fun j hj => by rw [Nat.zero_add]; exact h.lt j hj

set_option maxRecDepth 100000 in
set_option maxHeartbeats 1000000 in
theorem new_front (f : Nat → List Nat) (w : World) : Calls Tryz.prog 44 #[] w fun e w' => e = .returned (.pointer (some ⟨w.heap.size, 0, none⟩)) ∧ Front w' w.heap.size f 0 ∧ Below w.heap.size w w' := by
  go_enter Tryz.func44, Tryz.ntmps44
  go_wp2
  go_ret
  refine ⟨rfl, ⟨none, 0, by rw [pop_zero]; exact World.alloc_heap_new w _, ?_, by rw [pop_zero]; exact Nat.le_refl _, fun _ => rfl, fun ad e => by cases e⟩, below_alloc w _⟩
  rw [fr_nil, pop_zero]
  exact InS.none_ _ _

set_option maxRecDepth 100000 in
set_option maxHeartbeats 1000000 in
theorem there_yes {w : World} {g : Nat} (hc : w.cell? ⟨g, 0, none⟩ = some (.bool true)) : Calls Tryz.prog 123 #[.pointer (some ⟨g, 0, none⟩)] w fun e w' => e = .returned (.bool true) ∧ w' = w := by
  go_enter Tryz.func123, Tryz.ntmps123
  go_wp2
  go_ret
  exact ⟨rfl, rfl⟩

set_option maxRecDepth 100000 in
set_option maxHeartbeats 1000000 in
theorem fthere_no {w : World} {g : Nat} (hc : w.cell? ⟨g, 0, none⟩ = some (.bool false)) : Calls Tryz.prog 123 #[.pointer (some ⟨g, 0, none⟩)] w fun e w' => e = .returned (.bool false) ∧ w' = w := by
  go_enter Tryz.func123, Tryz.ntmps123
  go_wp2
  go_ret
  exact ⟨rfl, rfl⟩

set_option maxRecDepth 100000 in
set_option maxHeartbeats 1000000 in
theorem there_nil (w : World) : Calls Tryz.prog 123 #[.pointer none] w fun e w' => e = .returned (.bool false) ∧ w' = w := by
  go_enter Tryz.func123, Tryz.ntmps123
  go_wp2
  go_ret
  exact ⟨rfl, rfl⟩

set_option maxRecDepth 100000 in
set_option maxHeartbeats 1000000 in
theorem size_front {w : World} {g : Nat} {f : Nat → List Nat} {n : Nat} (h : Front w g f n) : Calls Tryz.prog 53 #[.pointer (some ⟨g, 0, none⟩)] w fun e w' => e = .returned (.int .u64 (n : Int)) ∧ w' = w := by
  obtain ⟨A, c, h⟩ := h
  have C := Lib.hid (there_yes h.made)
  have c1 := h.size
  clear h
  go_enter Tryz.func53, Tryz.ntmps53
  go_wp2_with fail
  refine C.out.mono ?_
  rintro e w' ⟨rfl, rfl⟩
  go_wp2_with fail
  go_ret
  exact ⟨rfl, rfl⟩

end Go.Proofs.YtnaebjdccngeoaaGreatDoor

/-
  'append(b, make([]byte, m)...)' to a row of the call's own, whether there is room or not, m whatever.
-/
namespace Go.Proofs.YtnaebjdccngeoaaGreatDoor
open Go.RowKit

theorem zeroCells_list (m : Nat) : (Builtin.zeroCells #[.int .u8 0] m).toList = bvs (List.replicate m 0) := by rw [zeroCells_bytes]

theorem run_zeros_own (w : World) (ty : TypeId) (base g n c m : Nat) (xs : List Nat) (hown : w.ownsRow base 5 1 (.slice (some ⟨g, 0, none⟩) n c) n (bvs xs)) (hbase : base ≤ w.heap.size) (hle : n + m ≤ 1000000000) :
    ∃ A' c' w', (Builtin.append_ #[38, 3] ty #[.slice (some ⟨g, 0, none⟩) n c, .int .i64 (m : Int)]).run Tryz.prog w = .ok (.slice A' (n + m) c') w' ∧
      In w' A' (n + m) (xs ++ List.replicate m 0) ∧ A' ≠ none ∧ n + m ≤ c' ∧ Below base w w' := by
  have hin : In w (some ⟨g, 0, none⟩) n xs := In.of_own hown
  by_cases hroom : n + m ≤ c
  · obtain ⟨i0, hi, hz0, hz1, hz2⟩ := info_parts infoByte
    rcases hown.2 with ⟨e, _⟩ | ⟨g', cap, cur, e, hbg, hg, hnc, hcm, hcs, htake⟩
    · cases e
    · cases e
      have hl : (bvs (List.replicate m 0)).length = m := by rw [bvs_length, List.length_replicate]
      have hst := run_storeCells_at Tryz.prog g n 5 (bvs (List.replicate m 0)) 0 cur w hg (by rw [hl, hcs]; omega) (bvs_oneCell _)
      rw [Nat.add_zero, hl, ← zeroCells_list] at hst
      have hw : IntKind.i64.wrap (m : Int) = (m : Int) := by rw [IntKind.wrap_i64]; omega
      have hn0 : ¬ ((m : Int) < 0) := by omega
      have hnb : ¬ (281474976710656 < (m : Int)) := by omega
      have hrun : (Builtin.append_ #[38, 3] ty #[.slice (some ⟨g, 0, none⟩) n c, .int .i64 (m : Int)]).run Tryz.prog w =
          .ok (.slice (some ⟨g, 0, none⟩) (n + m) c) (w.setRow g (cur.toList.take n ++ (Builtin.zeroCells #[.int .u8 0] m).toList ++ cur.toList.drop (n + m)).toArray) := by
        by_cases hm : m = 0
        · subst hm
          simp [Builtin.append_, run_underlying Tryz.underlying38, run_underlying Tryz.underlying3, sizeOf, typeInfo, hi, hz1, asInt, asIntOf, IntKind.wrap_i64, storeCells, Builtin.zeroCells]
          rw [if_pos (by omega)]
          simp
          rw [setRow_self w g cur _ (0, 0) hg]
        · simp [Builtin.append_, run_underlying Tryz.underlying38, run_underlying Tryz.underlying3, sizeOf, typeInfo, zeroValue, hi, hz0, hz1, hz2, asInt, asIntOf, hw, hn0, hnb, hroom, hm, Value.cells, Addr.add_lit, hst]
      rw [zeroCells_list] at hrun
      have hx : cur.toList.take n = bvs xs := by rw [← htake, Nat.mul_one]
      rw [hx] at hrun
      refine ⟨_, _, _, hrun, ⟨by rw [List.length_append, hin.len, List.length_replicate], fun j x hj => ⟨_, rfl, ?_⟩⟩, (fun h => by cases h), hroom, below_setRow (Below.refl _ _) hbg _⟩
      rw [show (⟨g, 0, none⟩ : Addr).add j = ⟨g, j, none⟩ from by unfold Addr.add; split <;> simp_all]
      rw [cell_of_row _ g j _ _ (0, 0) (setRow_heap w g cur _ _ (0, 0) hg), List.getElem?_toArray, ← bvs_append]
      have hlt : j < (xs ++ List.replicate m 0).length := (List.getElem?_eq_some_iff.1 hj).1
      rw [List.getElem?_append_left (by rw [bvs_length]; exact hlt), bvs_get, hj]
      rfl
  · obtain ⟨A', c', w', h1, h2, h3, h4⟩ := run_append_zeros w ty ⟨g, 0, none⟩ n c m xs hin (by have := own_cap hown; omega) (by omega) hle
    refine ⟨A', c', w', h1, h2, ?_, h3, h4.mono hbase⟩
    rintro rfl
    have hpos : 0 < n + m := by have := own_cap hown; omega
    obtain ⟨ad, _, e, _⟩ := h2.at_ hpos
    cases e

theorem wpList_zeros_own {ops : Array Oper} {rest : List Oper} {o : Oper} {a : Act} {Q : Exit → Act → World → Prop} (w : World) (hgd : o.guard = none) (s x : Operand)
    (ho : o.op = .call { callee := .builtin .append, args := #[s, x], argTypes := #[38, 3] })
    (base g n c m : Nat) (xs : List Nat) (hs : a.eval s = .slice (some ⟨g, 0, none⟩) n c) (hx : a.eval x = .int .i64 (m : Int)) (hown : w.ownsRow base 5 1 (.slice (some ⟨g, 0, none⟩) n c) n (bvs xs)) (hbase : base ≤ w.heap.size) (hle : n + m ≤ 1000000000)
    (h : ∀ A' c' w', In w' A' (n + m) (xs ++ List.replicate m 0) → A' ≠ none → n + m ≤ c' → Below base w w' → wpList Tryz.prog ops Q rest (a.put o.dst (.slice A' (n + m) c')) w') :
    wpList Tryz.prog ops Q (o :: rest) a w := by
  refine wpList_plain hgd fun K hK => ?_
  obtain ⟨A', c', w', hr, h2, h3, h4, h5⟩ := run_zeros_own w o.type base g n c m xs hown hbase hle
  unfold Oper.wp execOp
  simp only [ho, resolve, invoke, builtin, Sem.run_bind, Sem.run_pure, Result.andThen_ok, List.map_toArray, List.map_cons, List.map_nil, hs, hx, hr]
  exact hK _ _ (h A' c' w' h2 h3 h4 h5)

end Go.Proofs.YtnaebjdccngeoaaGreatDoor

/-
  A frame: every block but these is as it was.
-/
namespace Go.Proofs.YtnaebjdccngeoaaGreatDoor
open Go.RowKit

/-- Only blocks of S, and new ones, have turned. -/
structure But (S : Nat → Prop) (w w' : World) : Prop where
  os : w'.os = w.os
  tape : w'.tape = w.tape
  output : w'.output = w.output
  size : w.heap.size ≤ w'.heap.size
  block : ∀ b, b < w.heap.size → ¬ S b → w'.heap[b]? = w.heap[b]?

theorem But.refl (S : Nat → Prop) (w : World) : But S w w := ⟨rfl, rfl, rfl, Nat.le_refl _, fun _ _ _ => rfl⟩
theorem But.trans {S : Nat → Prop} {a b c : World} (h : But S a b) (k : But S b c) : But S a c :=
  ⟨k.os.trans h.os, k.tape.trans h.tape, k.output.trans h.output, Nat.le_trans h.size k.size, fun i hi hn => (k.block i (Nat.lt_of_lt_of_le hi h.size) hn).trans (h.block i hi hn)⟩
theorem But.mono {S T : Nat → Prop} {w w' : World} (h : But S w w') (hST : ∀ b, b < w.heap.size → S b → T b) : But T w w' := ⟨h.os, h.tape, h.output, h.size, fun b hb hn => h.block b hb (fun hs => hn (hST b hb hs))⟩
theorem But.of_below {S : Nat → Prop} {w w' : World} (h : Below w.heap.size w w') : But S w w' := ⟨h.os, h.tape, h.output, h.size, fun b hb _ => h.block b hb⟩
theorem But.below {S : Nat → Prop} {w w' : World} {base : Nat} (h : But S w w') (hb : base ≤ w.heap.size) (hS : ∀ b, S b → base ≤ b) : Below base w w' :=
  ⟨h.os, h.tape, h.output, h.size, fun k hk => h.block k (by omega) (fun hs => by have := hS k hs; omega)⟩
theorem But.grown {S : Nat → Prop} {a w w' : World} {row : Option Nat} (h : But S a w) (hg : w.grownBy w' row) (hr : ∀ k, row = some k → k < a.heap.size → S k) : But S a w' :=
  ⟨hg.os.trans h.os, hg.tape.trans h.tape, hg.output.trans h.output, Nat.le_trans h.size hg.size, fun b hb hn => (hg.block b (Nat.lt_of_lt_of_le hb h.size) (fun e => hn (hr b e.symm hb))).trans (h.block b hb hn)⟩
theorem But.alloc {S : Nat → Prop} {a w : World} (h : But S a w) (o : Obj) : But S a (w.alloc o) := h.grown (World.grownBy_alloc w o none) (fun _ e => by cases e)
theorem But.drew {S : Nat → Prop} {a w : World} (h : But S a w) : But S a w.drew := ⟨h.os, h.tape, h.output, h.size, h.block⟩
theorem But.set {S : Nat → Prop} {a w : World} (h : But S a w) {b : Nat} (i : Nat) (v : Value) (hb : b < a.heap.size → S b) : But S a (w.setCell ⟨b, i, none⟩ v) :=
  h.grown (row := some b) ⟨rfl, rfl, rfl, by simp [World.setCell], fun k _ hk => Below.heap_setCell _ _ _ k (fun e => hk (by rw [e]))⟩ (fun k e hk => by cases e; exact hb hk)

end Go.Proofs.YtnaebjdccngeoaaGreatDoor

/-
  append to a row of slices of the call's own; such a row read as rows of bytes.
-/
namespace Go.Proofs.YtnaebjdccngeoaaGreatDoor
open Go.ChangeShapes Go.WideShapes Go.ChangeAt Go.RowKit Go.Deep

theorem infoSlc : (Tryz.prog.info? 38).map (fun i => (i.zero, i.size, i.bytes)) = some (some (.slice none 0 0), 1, 24) := by kernel_rfl

/-- Y: slices, one for each list of R. -/
structure RowsIs (w : World) (Y : List Value) (R : List (List Nat)) : Prop where
  len : Y.length = R.length
  row : ∀ (j : Nat) (b : List Nat), R[j]? = some b → ∃ (A : Option Addr) (n c : Nat), Y[j]? = some (Value.slice A n c) ∧ Came w A n c b ∧ n ≤ 140737488355328
theorem RowsIs.one {w : World} {Y : List Value} {R : List (List Nat)} (h : RowsIs w Y R) : ∀ v ∈ Y, v.oneCell' = true := fun v hv => by
  obtain ⟨j, hj⟩ := List.mem_iff_getElem?.1 hv
  have hlt : j < R.length := by rw [← h.len]; exact (List.getElem?_eq_some_iff.1 hj).1
  obtain ⟨A, n, c, e, _⟩ := h.row j R[j] (List.getElem?_eq_getElem hlt)
  rw [hj] at e
  cases e
  rfl
theorem RowsIs.append {w : World} {Y Z : List Value} {R S : List (List Nat)} (h : RowsIs w Y R) (h2 : RowsIs w Z S) : RowsIs w (Y ++ Z) (R ++ S) :=
  ⟨by rw [List.length_append, List.length_append, h.len, h2.len], fun j b hb => by
    by_cases hj : j < R.length
    · rw [List.getElem?_append_left hj] at hb
      rw [List.getElem?_append_left (by rw [h.len]; exact hj)]
      exact h.row j b hb
    · rw [List.getElem?_append_right (by omega)] at hb
      rw [List.getElem?_append_right (by rw [h.len]; omega), h.len]
      exact h2.row _ b hb⟩
theorem RowsIs.take {w : World} {Y : List Value} {R : List (List Nat)} (h : RowsIs w Y R) (k : Nat) : RowsIs w (Y.take k) (R.take k) :=
  ⟨by rw [List.length_take, List.length_take, h.len], fun j b hb => by
    rw [List.getElem?_take] at hb ⊢
    split at hb
    · rename_i hj; rw [if_pos hj]; exact h.row j b hb
    · cases hb⟩
theorem rowsIs_nil (w : World) : RowsIs w [] [] := ⟨rfl, fun j b hb => by simp at hb⟩
theorem rowsIs_one {w : World} {A : Option Addr} {n c : Nat} {b : List Nat} (h : Came w A n c b) (hn : n ≤ 140737488355328) : RowsIs w [.slice A n c] [b] := ⟨rfl, fun j x hx => by
  cases j with
  | zero => cases hx; exact ⟨A, n, c, rfl, h, hn⟩
  | succ j => simp at hx⟩
theorem rows_out {w : World} {A : Option Addr} {n : Nat} {R : List (List Nat)} (h : CameRows w A n R) : ∃ Y, RowsIs w Y R ∧ ∀ (j : Nat) (v : Value), Y[j]? = some v → ∃ ad, A = some ad ∧ w.cell? (ad.add j) = some v := by
  have key : ∀ j, j < R.length → ∃ v : Value, (∃ B m c, v = .slice B m c ∧ Came w B m c (R.getD j []) ∧ m ≤ 140737488355328) ∧ ∃ ad, A = some ad ∧ w.cell? (ad.add j) = some v := fun j hj => by
    obtain ⟨ad, B, m, c, e, hc, hcame, hm⟩ := h.row j R[j] (List.getElem?_eq_getElem hj)
    refine ⟨_, ⟨B, m, c, rfl, ?_, hm⟩, ad, e, hc⟩
    rw [List.getD_eq_getElem?_getD, List.getElem?_eq_getElem hj]
    exact hcame
  obtain ⟨f, hf⟩ := choose_lt key
  refine ⟨(List.range R.length).map f, ⟨by simp, fun j b hb => ?_⟩, fun j v hv => ?_⟩
  · have hlt := (List.getElem?_eq_some_iff.1 hb).1
    obtain ⟨⟨B, m, c, e, hcame, hm⟩, _⟩ := hf j hlt
    refine ⟨B, m, c, ?_, ?_, hm⟩
    · rw [List.getElem?_map, List.getElem?_range hlt]; simp [e]
    · rw [List.getD_eq_getElem?_getD, hb] at hcame; exact hcame
  · rw [List.getElem?_map] at hv
    obtain ⟨i, hi, rfl⟩ := Option.map_eq_some_iff.1 hv
    have hlt : j < R.length := by have := (List.getElem?_eq_some_iff.1 hi).1; simpa using this
    rw [List.getElem?_range hlt] at hi
    cases hi
    exact (hf j hlt).2

theorem rows_nil {H : Type} {enc : TypeId × Value → H} {w : World} {base : Nat} {held : Bool} {fuel n c : Nat} {A : Option Addr} {x : DataW H × List MemPlace} (h : DataW.trod enc Tryz.prog w base (fun _ => true) held fuel 22 [.slice A n c] = some x) : A = none → c = 0 := by
  intro e
  subst e
  rcases open_int_rows Tryz.underlying22 Tryz.underlying38 Tryz.underlying5 (by kernel_rfl) (by kernel_rfl) h with ⟨e, _⟩ | ⟨a, len, cap, B, L, C, Z, e, _⟩
  · simp at e; exact e.2
  · simp at e

theorem run_rapp (w : World) (ty : TypeId) (base : Nat) (A : Option Addr) (n c : Nat) (X : List Value) (hown : w.ownsRow base 38 1 (.slice A n c) n X)
    (A2 : Option Addr) (m c2 : Nat) (Y : List Value) (hl : Y.length = m) (hin : ∀ (j : Nat) (v : Value), Y[j]? = some v → ∃ ad, A2 = some ad ∧ w.cell? (ad.add j) = some v) (h1 : ∀ v ∈ Y, v.oneCell' = true) (hnil : A2 = none → c2 = 0) (hle : n + m ≤ 1000000) (hbase : base ≤ w.heap.size) :
    ∃ A' c' w', (Builtin.append_ #[22, 22] ty #[.slice A n c, .slice A2 m c2]).run Tryz.prog w = .ok (.slice A' (n + m) c') w' ∧
      w'.ownsRow base 38 1 (.slice A' (n + m) c') (n + m) (X ++ Y) ∧ Below base w w' := by
  obtain ⟨i0, hi, hz0, hz1, hz2⟩ := info_parts infoSlc
  cases A2 with
  | none =>
    obtain rfl := hnil rfl
    have hy : Y = [] := by
      cases Y with
      | nil => rfl
      | cons y ys =>
        obtain ⟨ad, e, _⟩ := hin 0 y rfl
        cases e
    subst hy
    obtain rfl : m = 0 := hl.symm
    exact ⟨A, c, w, run_append_owned_none (P := Tryz.prog) (w := w) base 22 ty 38 i0 1 Tryz.underlying22 hi _ n X hown, by simpa using hown, Below.refl _ _⟩
  | some ad =>
    obtain ⟨v', w', hr, h2, h3, _⟩ := run_append_own (P := Tryz.prog) w base 22 ty 38 i0 _ 1 24 Tryz.underlying22 hi hz0 hz1 hz2 rfl (by decide) _ n X hown ad m c2 Y (by rw [hl]; simp)
      (fun j u hu => by
        obtain ⟨ad', e, hc⟩ := hin j u hu
        cases e
        exact hc) h1 (by unfold maxLen; omega) (by omega) hbase
    have hf : ∃ A c, v' = .slice A (n + m) c := by
      rcases h2.2 with ⟨rfl, e⟩ | ⟨g, cap, cur, rfl, _⟩
      · rw [e]; exact ⟨_, _, rfl⟩
      · exact ⟨_, _, rfl⟩
    obtain ⟨A', c', rfl⟩ := hf
    exact ⟨A', c', w', hr, h2, (Below.refl _ _).grown h3 hbase fun k hk => (hown.lt k hk).1⟩

theorem step_rapp {ops : Array Oper} {o : Oper} {a : Act} {w : World} {K : Act → World → Prop} {Q : Exit → Act → World → Prop} {E : Prop} (hgd : o.guard = none) (s x : Operand)
    (ho : o.op = .call { callee := .builtin .append, args := #[s, x], argTypes := #[22, 22] })
    (base : Nat) (A : Option Addr) (n c : Nat) (X : List Value) (hs : a.eval s = .slice A n c) (hown : w.ownsRow base 38 1 (.slice A n c) n X)
    (A2 : Option Addr) (m c2 : Nat) (Y : List Value) (hx : a.eval x = .slice A2 m c2) (hl : Y.length = m) (hin : ∀ (j : Nat) (v : Value), Y[j]? = some v → ∃ ad, A2 = some ad ∧ w.cell? (ad.add j) = some v) (h1 : ∀ v ∈ Y, v.oneCell' = true) (hnil : A2 = none → c2 = 0) (N : Nat) (hN : n + m = N) (hle : N ≤ 1000000) (hbase : base ≤ w.heap.size)
    (h : ∀ A' c' w', w'.ownsRow base 38 1 (.slice A' N c') N (X ++ Y) → Below base w w' → K (a.put o.dst (.slice A' N c')) w') :
    if Region.wanted o (yielded ops a.tmps) = true then Oper.wp Tryz.prog o a w K Q else E := by
  subst hN
  have hw : Region.wanted o (yielded ops a.tmps) = true := by simp [Region.wanted, hgd]
  rw [if_pos hw]
  obtain ⟨A', c', w', hr, h2, h3⟩ := run_rapp w o.type base A n c X hown A2 m c2 Y hl hin h1 hnil hle hbase
  unfold Oper.wp execOp
  simp only [ho, resolve, invoke, builtin, Sem.run_bind, Sem.run_pure, Result.andThen_ok, List.map_toArray, List.map_cons, List.map_nil, hs, hx, hr]
  exact h A' c' w' h2 h3

/-- A row of slices in blocks of O; what they read was there at v. -/
structure RowIn (v W : World) (O : Nat → Prop) (A : Option Addr) (n : Nat) (R : List (List Nat)) : Prop where
  len : R.length = n
  row : ∀ (r : Nat) (b : List Nat), R[r]? = some b → ∃ (ad : Addr) (B : Option Addr) (m c : Nat), A = some ad ∧ O ad.block ∧ W.cell? (ad.add r) = some (Value.slice B m c) ∧ Came v B m c b ∧ m ≤ 140737488355328
section
variable {v W W' : World} {O S : Nat → Prop} {A : Option Addr} {n c : Nat} {R : List (List Nat)}
theorem RowIn.came (h : RowIn v W O A n R) (hb : Below v.heap.size v W) : CameRows W A n R := ⟨h.len, fun r b hr => by
  obtain ⟨ad, B, m, c, e, _, hc, hcame, hm⟩ := h.row r b hr
  exact ⟨ad, B, m, c, e, hc, hcame.below hb, hm⟩⟩
theorem RowIn.but (h : RowIn v W O A n R) (hb : But S W W') (hO : ∀ x, O x → ¬ S x) : RowIn v W' O A n R := ⟨h.len, fun r b hr => by
  obtain ⟨ad, B, m, c, e, ho, hc, hcame, hm⟩ := h.row r b hr
  have hlt := World.block_lt_of_cell? W _ hc
  have hbl : (ad.add r).block = ad.block := block_add _ _
  refine ⟨ad, B, m, c, e, ho, ?_, hcame, hm⟩
  exact (World.cell?_of_block (w := W) (hb.block _ hlt (by rw [hbl]; exact hO _ ho))).trans hc⟩
theorem RowIn.below (h : RowIn v W O A n R) (hb : Below W.heap.size W W') : RowIn v W' O A n R := h.but (S := fun _ => False) (But.of_below hb) (fun _ _ hf => hf)
theorem rowIn_of_own {base : Nat} {e : TypeId} {Y : List Value} (h : W.ownsRow base e 1 (.slice A n c) n Y) (hY : RowsIs v Y R) : RowIn v W (fun x => base ≤ x ∧ x < W.heap.size) A n R := by
  have hlen : R.length = n := by rw [← hY.len, h.1]; omega
  refine ⟨hlen, fun r b hr => ?_⟩
  obtain ⟨B, m, k, hy, hcame, hm⟩ := hY.row r b hr
  rcases h.2 with ⟨e1, h0⟩ | ⟨g, cap, cur, e1, hg, _⟩
  · have := (List.getElem?_eq_some_iff.1 hr).1
    omega
  · cases e1
    have hc := h.cells rfl r _ hy
    refine ⟨_, B, m, k, rfl, ⟨hg, ?_⟩, hc, hcame, hm⟩
    have := World.block_lt_of_cell? W _ hc
    rwa [block_add] at this
end

end Go.Proofs.YtnaebjdccngeoaaGreatDoor

/-
  slices.Grow of no sums, slices.Concat of two lists of sums.
-/
namespace Go.Proofs.YtnaebjdccngeoaaGreatDoor
open Go.RowKit

/-- 'append([]api.Sum(nil), make([]api.Sum, m)...)'. -/
theorem run_grow_sums (w : World) (ty : TypeId) (m : Nat) (hm : 0 < m) (hle : m ≤ 1000000) :
    ∃ c' w', (Builtin.append_ #[53, 3] ty #[.slice none 0 0, .int .i64 (m : Int)]).run Tryz.prog w = .ok (.slice (some ⟨w.heap.size, 0, none⟩) m c') w' ∧ m ≤ c' ∧
      w'.ownsRow w.heap.size 50 32 (.slice (some ⟨w.heap.size, 0, none⟩) 0 c') 0 (bvs []) ∧ Below w.heap.size w w' := by
  obtain ⟨i0, hi, hz0, hz1, hz2⟩ := info_parts infoSum
  have hf := growslice_fits (need := m) (old := 0) (bytes := 32) (by omega) (by omega)
  have h48' : ¬ (281474976710656 < Builtin.nextslicecap m 0 * 32) := by omega
  have hw : IntKind.i64.wrap (m : Int) = (m : Int) := by rw [IntKind.wrap_i64]; omega
  have hn0 : ¬ ((m : Int) < 0) := by omega
  have hnb : ¬ (281474976710656 < (m : Int) * 32) := by omega
  have hnc : ¬ (9223372036854775807 < (m : Int)) := by omega
  have hm0 : ¬ m = 0 := by omega
  have hge := grownCap_ge w m 0 50
  have hgl := grownCap_le_maxLen w m 0 50 (by unfold maxLen; omega)
  have hfo := run_firstCells_none (P := Tryz.prog) (w := w.drew) 32 0 0 0
  have hrun : (Builtin.append_ #[53, 3] ty #[.slice none 0 0, .int .i64 (m : Int)]).run Tryz.prog w =
      .ok (.slice (some ⟨w.heap.size, 0, none⟩) m (grownCap w m 0 50)) (w.drew.alloc (.cells (#[] ++ Builtin.zeroCells (Array.replicate 32 (.int .u8 0)) m ++ Builtin.zeroCells (Array.replicate 32 (.int .u8 0)) (grownCap w m 0 50 - m)) 50)) := by
    simp [Builtin.append_, run_underlying Tryz.underlying53, run_underlying Tryz.underlying3, sizeOf, typeInfo, zeroValue, hi, hz0, hz1, hz2, asInt, asIntOf, hw, hn0, hnb, hnc, hm0, h48', Question.forced, hfo, newRow, grownCap, Value.cells]
    intro h
    omega
  refine ⟨_, _, hrun, hge, ⟨rfl, .inr ⟨w.heap.size, _, _, rfl, Nat.le_refl _, World.alloc_heap_new w.drew _, Nat.zero_le _, hgl, ?_, rfl⟩⟩, ((Below.refl _ w).drew).alloc (Nat.le_refl _) _⟩
  rw [Array.size_append, Array.size_append, size_zeroCells, size_zeroCells, Array.size_replicate]
  simp
  omega

theorem wpList_grow_sums {ops : Array Oper} {rest : List Oper} {o : Oper} {a : Act} {Q : Exit → Act → World → Prop} (w : World) (hgd : o.guard = none) (s x : Operand)
    (ho : o.op = .call { callee := .builtin .append, args := #[s, x], argTypes := #[53, 3] }) (m : Nat) (hs : a.eval s = .slice none 0 0) (hx : a.eval x = .int .i64 (m : Int)) (hm : 0 < m) (hle : m ≤ 1000000)
    (h : ∀ c' w', m ≤ c' → w'.ownsRow w.heap.size 50 32 (.slice (some ⟨w.heap.size, 0, none⟩) 0 c') 0 (bvs []) → Below w.heap.size w w' → wpList Tryz.prog ops Q rest (a.put o.dst (.slice (some ⟨w.heap.size, 0, none⟩) m c')) w') :
    wpList Tryz.prog ops Q (o :: rest) a w := by
  refine wpList_plain hgd fun K hK => ?_
  obtain ⟨c', w', hr, h2, h3, h4⟩ := run_grow_sums w o.type m hm hle
  unfold Oper.wp execOp
  simp only [ho, resolve, invoke, builtin, Sem.run_bind, Sem.run_pure, Result.andThen_ok, List.map_toArray, List.map_cons, List.map_nil, hs, hx, hr]
  exact hK _ _ (h c' w' h2 h3 h4)

set_option maxRecDepth 100000 in
set_option maxHeartbeats 1000000 in
theorem growS_any (m : Nat) (w : World) (hm : 0 < m) (hle : m ≤ 1000000) :
    Calls Tryz.prog 175 #[.slice none 0 0, .int .i64 (m : Int)] w fun e w' =>
      ∃ c', e = .returned (.slice (some ⟨w.heap.size, 0, none⟩) 0 c') ∧ w'.ownsRow w.heap.size 50 32 (.slice (some ⟨w.heap.size, 0, none⟩) 0 c') 0 (bvs []) ∧ Below w.heap.size w w' := by
  have h0 : ¬ ((m : Int) < 0) := by omega
  have h1 : (0 : Int) < (m : Int) := by omega
  go_enter Tryz.func175, Tryz.ntmps175
  go_wp2_with (refine wpList_grow_sums w rfl _ _ rfl m rfl rfl hm hle ?_; intro c' w1 hc ho hb; have HR := Lib.hid (And.intro ho hb); clear ho hb)
  go_ret
  exact ⟨c', rfl, HR.out.1, HR.out.2⟩

/-- How many, and what, the first j of two lists have. -/
def firstN (n m : Nat) : Nat → Nat
  | 0 => 0
  | 1 => n
  | _ => n + m
def firstL (xs ys : List Nat) : Nat → List Nat
  | 0 => []
  | 1 => xs
  | _ => xs ++ ys

set_option maxRecDepth 100000 in
set_option maxHeartbeats 2000000 in
theorem concat_any (b : Nat) (A A2 : Option Addr) (n c m c2 : Nat) (xs ys : List Nat) (w : World) (h1 : w.cell? ⟨b, 0, none⟩ = some (.slice A n c)) (h2 : w.cell? ⟨b, 1, none⟩ = some (.slice A2 m c2))
    (hx : InS w A n xs) (hy : InS w A2 m ys) (nx : A = none → c = 0) (ny : A2 = none → c2 = 0) (h0 : 0 < n + m) (hle : n + m ≤ 1000000) :
    Calls Tryz.prog 127 #[.slice (some ⟨b, 0, none⟩) 2 2] w fun e w' =>
      ∃ A' c', e = .returned (.slice A' (n + m) c') ∧ w'.ownsRow w.heap.size 50 32 (.slice A' (n + m) c') (n + m) (bvs (xs ++ ys)) ∧ Below w.heap.size w w' := by
  have HX := Lib.hid (And.intro hx (And.intro hy (And.intro nx ny)))
  have G := Lib.hid (growS_any (n + m) w h0 hle)
  have hbl : b < w.heap.size := World.block_lt_of_cell? w _ h1
  clear hx hy nx ny
  go_enter Tryz.func127, Tryz.ntmps127
  go_wp2
  go_loopw [3, 5, 11] (fun sz _ i wr => ∃ j : Nat, j ≤ 2 ∧ i = .int .i64 (j : Int) ∧ sz = .int .i64 (firstN n m j : Int) ∧ wr = w) (fun _ _ i _ => 2 - (intOf i).toNat)
  case atStart => exact ⟨0, by omega, rfl, rfl, rfl⟩
  case round =>
    obtain ⟨j, hj, rfl, rfl, e⟩ := hrel
    have e' := e.symm
    clear e
    subst e'
    obtain rfl | rfl | rfl : j = 0 ∨ j = 1 ∨ j = 2 := by omega
    · have hn : ¬ ((n : Int) < 0) := by omega
      simp only [firstN]
      go_wp2
      go_roundw
      case rel => exact ⟨1, by omega, by go_num, rfl, trivial⟩
      case measure => simp [intOf]
    · have hn : ¬ ((n : Int) + (m : Int) < 0) := by omega
      simp only [firstN]
      go_wp2
      go_roundw
      case rel => exact ⟨2, by omega, by go_num, by simp, trivial⟩
      case measure => simp [intOf]
    · simp only [firstN]
      go_wp2_with fail
      refine G.out.mono ?_
      rintro e w1 ⟨c1, rfl, ho, hb⟩
      have HO := Lib.hid (And.intro ho hb)
      clear ho hb
      have hw1 := HO.out.2
      have d1 : w1.cell? ⟨b, 0, none⟩ = some (.slice A n c) := (hw1.cell (World.block_lt_of_cell? w _ h1)).trans h1
      have d2 : w1.cell? ⟨b, 1, none⟩ = some (.slice A2 m c2) := (hw1.cell (World.block_lt_of_cell? w _ h2)).trans h2
      have HD := Lib.hid (And.intro d1 d2)
      clear h1 h2 hw1 d1 d2
      go_wp2
      go_loopw [6, 8, 27] (fun nw _ i w2 => ∃ (j : Nat) (A' : Option Addr) (c' : Nat), j ≤ 2 ∧ i = .int .i64 (j : Int) ∧ nw = .slice A' (firstN n m j) c' ∧ w2.ownsRow w.heap.size 50 32 (.slice A' (firstN n m j) c') (firstN n m j) (bvs (firstL xs ys j)) ∧ Below w.heap.size w w2 ∧
        w2.cell? ⟨b, 0, none⟩ = some (.slice A n c) ∧ w2.cell? ⟨b, 1, none⟩ = some (.slice A2 m c2)) (fun _ _ i _ => 2 - (intOf i).toNat)
      case atStart => exact ⟨0, _, c1, by omega, rfl, rfl, HO.out.1, HO.out.2, HD.out.1, HD.out.2⟩
      case round =>
        obtain ⟨j, A', c', hj, rfl, rfl, how, hbw, e1, e2⟩ := hrel
        have HW := Lib.hid (And.intro how hbw)
        clear how hbw
        obtain rfl | rfl | rfl : j = 0 ∨ j = 1 ∨ j = 2 := by omega
        · simp only [firstN, firstL] at HW ⊢
          go_wp2_with (refine wpList_step fun K hK => ?_; refine step_sapp (K := K) (by rfl) _ _ (by rfl) w.heap.size A' 0 c' [] (by rfl) HW.out.1 A n c xs (by rfl) (HX.out.1.below HW.out.2) HX.out.2.2.1 (by omega) HW.out.2.size ?_; intro A3 c3 w3 ow3 nx3; have HN := Lib.hid (And.intro ow3 nx3); clear ow3 nx3; refine hK _ _ ?_; clear hK K)
          have hb3 := HN.out.2.below HW.out.1 HW.out.2 (Nat.le_refl _) HW.out.2.size
          have ow3 := HN.out.1
          rw [Nat.zero_add, List.nil_append] at ow3
          have H3 := Lib.hid (And.intro ow3 hb3)
          have k1 := HN.out.2.cell e1 (fun e => by have := (HW.out.1.lt b e.symm).1; omega)
          have k2 := HN.out.2.cell e2 (fun e => by have := (HW.out.1.lt b e.symm).1; omega)
          clear ow3 hb3
          go_wp2
          go_roundw
          case rel => exact ⟨1, A3, c3, by omega, by go_num, by simp, H3.out.1, H3.out.2, k1, k2⟩
          case measure => simp [intOf]
        · simp only [firstN, firstL] at HW ⊢
          go_wp2_with (refine wpList_step fun K hK => ?_; refine step_sapp (K := K) (by rfl) _ _ (by rfl) w.heap.size A' n c' xs (by rfl) HW.out.1 A2 m c2 ys (by rfl) (HX.out.2.1.below HW.out.2) HX.out.2.2.2 (by omega) HW.out.2.size ?_; intro A3 c3 w3 ow3 nx3; have HN := Lib.hid (And.intro ow3 nx3); clear ow3 nx3; refine hK _ _ ?_; clear hK K)
          have hb3 := HN.out.2.below HW.out.1 HW.out.2 (Nat.le_refl _) HW.out.2.size
          have H3 := Lib.hid (And.intro HN.out.1 hb3)
          have k1 := HN.out.2.cell e1 (fun e => by have := (HW.out.1.lt b e.symm).1; omega)
          have k2 := HN.out.2.cell e2 (fun e => by have := (HW.out.1.lt b e.symm).1; omega)
          clear hb3
          go_wp2
          go_roundw
          case rel => exact ⟨2, A3, c3, by omega, by go_num, rfl, H3.out.1, H3.out.2, k1, k2⟩
          case measure => simp [intOf]
        · simp only [firstN, firstL] at HW ⊢
          go_wp2
          go_ret
          exact ⟨A', c', rfl, HW.out.1, HW.out.2⟩

end Go.Proofs.YtnaebjdccngeoaaGreatDoor

/-
  fronts.Add: one sum more.
-/
namespace Go.Proofs.YtnaebjdccngeoaaGreatDoor
open Go.RowKit

/-- The beginning of a list of sums that may be nil. -/
theorem run_take_sumsO {A : Option Addr} {n c k : Nat} (hk : k ≤ n) (hc : n ≤ c) (hn : A = none → c = 0) (W : World) :
    (Instr.slice 53 (.slice A n c) none (some (.int .i64 (k : Int))) none).run Tryz.prog W = .ok (.slice A k c) W := by
  cases A with
  | some ad => exact run_take_sums hk hc W
  | none =>
    obtain rfl := hn rfl
    obtain rfl : n = 0 := by omega
    obtain rfl : k = 0 := by omega
    obtain ⟨i0, hi, hz0, hz1, hz2⟩ := info_parts infoSum
    have he : Tryz.prog.elem 53 = 50 := by kernel_rfl
    rw [run_slice_h W 53 none 0 0 (by rw [he]; exact Tryz.underlying53) .i64 ((0 : Nat) : Int) (by omega) (by omega), he]
    simp [sizeOf, typeInfo, hi, hz1, sliced]

/-- The end, the beginning of a list, in every world. -/
theorem yields_low {ops : Array Oper} {S : World → Prop} {o : Oper} {a : Act} (hw : Region.wanted o (yielded ops a.tmps) = true) (x y : Operand) (ho : o.op = .slice 53 x (some y) none none) {A : Option Addr} {n c : Nat} {lo r : Value} (hx : a.eval x = .slice A n c) (hy : a.eval y = lo)
    (hr : ∀ W : World, (Instr.slice 53 (.slice A n c) (some lo) none none).run Tryz.prog W = .ok r W) : YieldsIf Tryz.prog ops S o r a := by
  refine Or.inl ⟨hw, fun w hS => ?_⟩
  unfold execOp
  simp only [ho, hx, hy, Instr.sliceAt, run_underlying Tryz.underlying53, Option.map_some, Option.map_none, Sem.run_bind, Sem.run_pure, Result.andThen_ok, hr]
theorem yields_high {ops : Array Oper} {S : World → Prop} {o : Oper} {a : Act} (hw : Region.wanted o (yielded ops a.tmps) = true) (x y : Operand) (ho : o.op = .slice 53 x none (some y) none) {A : Option Addr} {n c : Nat} {lo r : Value} (hx : a.eval x = .slice A n c) (hy : a.eval y = lo)
    (hr : ∀ W : World, (Instr.slice 53 (.slice A n c) none (some lo) none).run Tryz.prog W = .ok r W) : YieldsIf Tryz.prog ops S o r a := by
  refine Or.inl ⟨hw, fun w hS => ?_⟩
  unfold execOp
  simp only [ho, hx, hy, Instr.sliceAt, run_underlying Tryz.underlying53, Option.map_some, Option.map_none, Sem.run_bind, Sem.run_pure, Result.andThen_ok, hr]

theorem one_flat' (X : List Nat) : [X].flatten = X := by simp

/-- A sum that is loaded, in a region that leaves the world alone. -/
theorem still_load_sum {ops : Array Oper} {o : Oper} {a : Act} {w : World} {K : Act → Prop} {E : Prop} (hgd : o.guard = none) (x : Operand) (ho : o.op = .load 50 x)
    (ad : Addr) (hx : a.eval x = .pointer (some ad)) (s : List Nat) (hl : s.length = 32) (hc : At w ad s) (h : K (a.put o.dst (sv s))) :
    if Region.wanted o (yielded ops a.tmps) = true then o.still Tryz.prog a w K else E := by
  have hw : Region.wanted o (yielded ops a.tmps) = true := by simp [Region.wanted, hgd]
  rw [if_pos hw]
  have hr : (execOp a.eval o).run Tryz.prog w = .ok (.value (sv s)) w := by
    unfold execOp
    simp only [ho, hx, Instr.loadAt, Instr.sureAddr, Sem.run_bind, Sem.run_pure, Result.andThen_ok, run_load_sum w ad s hl hc]
  unfold Oper.still
  rw [hr, Oper.stillUpon_value]
  exact h

theorem wp_load_sum {o : Oper} {a : Act} {w : World} {K : Act → World → Prop} {Q : Exit → Act → World → Prop} (x : Operand) (ho : o.op = .load 50 x)
    (ad : Addr) (hx : a.eval x = .pointer (some ad)) (s : List Nat) (hl : s.length = 32) (hc : At w ad s) (h : K (a.put o.dst (sv s)) w) : o.wp Tryz.prog a w K Q := by
  unfold Oper.wp execOp
  simp only [ho, hx, Instr.loadAt, Instr.sureAddr, Sem.run_bind, Sem.run_pure, Result.andThen_ok, run_load_sum w ad s hl hc]
  exact h

theorem size_setCell_ (w : World) (a : Addr) (v : Value) : (w.setCell a v).heap.size = w.heap.size := by simp [World.setCell]

/-- What stands in a new block of a pair of slices. -/
theorem cell_pair (W : World) (u v : Value) (t : TypeId) : (W.alloc (.cells #[u, v] t)).cell? ⟨W.heap.size, 0, none⟩ = some u ∧ (W.alloc (.cells #[u, v] t)).cell? ⟨W.heap.size, 1, none⟩ = some v :=
  ⟨(cell_of_row _ _ 0 _ _ (0, 0) (World.alloc_heap_new W _)).trans rfl, (cell_of_row _ _ 1 _ _ (0, 0) (World.alloc_heap_new W _)).trans rfl⟩

/-- A front, cell by cell: the trees are told apart from the size. -/
structure RowAt (w : World) (g : Nat) (n : Nat) (A : Option Addr) (m c : Nat) : Prop where
  row : w.heap[g]? = some (.cells #[.bool true, .int .u64 (n : Int), .slice A m c] 121 (0, 0))
theorem RowAt.size {w : World} {g n m c : Nat} {A : Option Addr} (h : RowAt w g n A m c) : w.cell? ⟨g, 1, none⟩ = some (.int .u64 (n : Int)) := (cell_of_row _ g 1 _ _ (0, 0) h.row).trans rfl
theorem RowAt.free {w : World} {g n m c : Nat} {A : Option Addr} (h : RowAt w g n A m c) (i : Nat) : w.frozen? ⟨g, i, none⟩ = false := frozen_of_row w g i _ _ h.row
theorem RowAt.cell2 {w : World} {g n m c : Nat} {A : Option Addr} (h : RowAt w g n A m c) : w.cell? ⟨g, 2, none⟩ = some (.slice A m c) := (cell_of_row _ g 2 _ _ (0, 0) h.row).trans rfl
theorem RowAt.setList {w : World} {g n m c m' c' : Nat} {A A' : Option Addr} (h : RowAt w g n A m c) : RowAt (w.setCell ⟨g, 2, none⟩ (.slice A' m' c')) g n A' m' c' := ⟨heap_setCell_same w g 2 _ _ _ h.row⟩
theorem RowAt.setSize {w : World} {g n m c n' : Nat} {A : Option Addr} (h : RowAt w g n A m c) : RowAt (w.setCell ⟨g, 1, none⟩ (.int .u64 (n' : Int))) g n' A m c := ⟨heap_setCell_same w g 1 _ _ _ h.row⟩
theorem RowAt.below {w w' : World} {g n m c : Nat} {A : Option Addr} (h : RowAt w g n A m c) (hb : Below w.heap.size w w') : RowAt w' g n A m c := ⟨(hb.block _ (Array.getElem?_eq_some_iff.1 h.row).1).trans h.row⟩

set_option maxRecDepth 100000 in
set_option maxHeartbeats 4000000 in
theorem add_front_at {w : World} {g : Nat} {f : Nat → List Nat} {n : Nat} (h : Front w g f n) (hf : Sums32 f (n + 1)) (hn : n < 999999) (hk : Knows w) (hs : Starts w) :
    Calls Tryz.prog 51 #[.pointer (some ⟨g, 0, none⟩), sv (f n)] w fun e w' => e = .returned (.int .i64 0) ∧ (∃ A' c', FrontAt w' g f (n + 1) A' c' ∧ ∀ ad, A' = some ad → w.heap.size ≤ ad.block ∧ ad.block < w'.heap.size) ∧ But (fun b => b = g) w w' := by
  obtain ⟨A, c, h⟩ := h
  obtain ⟨k, hkn⟩ := ones_some n
  obtain ⟨pre, l, hpl, hll, hnx⟩ := fr_more f 0 hkn
  rw [Nat.zero_add] at hnx
  have h32 := (hf.mono (Nat.le_succ n)).fr32
  have hlt := (hf.mono (Nat.le_succ n)).frlt
  have hm := fr_length f n 0
  rw [hpl] at h32 hlt hm
  obtain ⟨s, hsn⟩ : ∃ s, f n = s := ⟨_, rfl⟩
  have hs32 : s.length = 32 := by rw [← hsn]; exact hf.len n (by omega)
  have hslt : ∀ x ∈ s, x < 256 := by rw [← hsn]; exact hf.lt n (by omega)
  rw [hsn] at hnx ⊢
  obtain ⟨q, hq⟩ : ∃ q, pre.length = q := ⟨_, rfl⟩
  obtain ⟨m, hmp⟩ : ∃ m, pop n = m := ⟨_, rfl⟩
  have hmq : m = q + k := by rw [← hmp, ← hm, List.length_append, hq, hll]
  have hmn := pop_le n
  have htr := h.trees
  have hcap := h.cap
  have hlist := h.list
  have hrow : RowAt w g n A m c := ⟨by rw [← hmp]; exact h.row⟩
  rw [hmp] at htr hcap hlist hmn
  rw [hpl] at htr
  have hdrop : (pre ++ l).flatten.drop (32 * q) = l.flatten := by rw [flat_drop h32, ← hq, List.drop_left]
  have htake : (pre ++ l).flatten.take (32 * q) = pre.flatten := by rw [flat_take h32, ← hq, List.take_left]
  obtain ⟨B, hB, hBe⟩ := cut_nameS (A := A) (n := m) (c := c) (k := q) (by omega)
  have hTk := fun W => run_take_sumsO (A := A) (n := m) (c := c) (k := q) (by omega) hcap h.nil W
  have i1 : InS w A q pre.flatten := by rw [← htake]; exact htr.take (by omega)
  have i2 : InS w B k l.flatten := by
    have := htr.cut (k := q) (c := c) (by omega) hcap
    rw [← hBe, hdrop, show m - q = k by omega] at this
    exact this
  have C0 := Lib.hid h.made
  have HL := Lib.hid (And.intro i1 (And.intro i2 (And.intro h.nil (And.intro hnx (And.intro hsn (And.intro hq hll))))))
  have H32 := Lib.hid (And.intro h32 hlt)
  have HS := Lib.hid (And.intro hs32 hslt)
  have HR := Lib.hid hrow
  have hglt := h.lt
  have HM := Lib.hid (merged_at hkn)
  have HN := Lib.hid (And.intro hmq (And.intro hmn hmp))
  have HC := Lib.hid (And.intro h.row h.off)
  have l32 : l.flatten.length = l.flatten.length := rfl
  obtain ⟨w1, hw1⟩ : ∃ w1, w1 = w.alloc (.cells (bvs s).toArray 50) := ⟨_, rfl⟩
  have b1 : Below w.heap.size w w1 := by rw [hw1]; exact below_alloc _ _
  have a1 : BArr w1 w.heap.size 50 s := by rw [hw1]; exact BArr.new _ _ _
  have HW := Lib.hid hw1
  have H1 := Lib.hid (And.intro b1 (And.intro a1 (HR.out.below b1)))
  have CT := Lib.hid (there_yes (w := w1) (g := g) ((b1.cell (World.block_lt_of_cell? w _ C0.out)).trans C0.out))
  have c2 := H1.out.2.2.cell2
  have c1 := H1.out.2.2.size
  have hle : m - q = k := by omega
  rw [hle] at hB
  have HB := Lib.hid hB
  have HTk := Lib.hid hTk
  clear hB hTk
  have hkb : k ≤ 1000000 := by omega
  have hqb : q + 1 ≤ 1000000 := by omega
  have hwq : IntKind.i64.wrap (q : Int) = (q : Int) := by rw [IntKind.wrap_i64]; omega
  have hik : ((m : Int) - (k : Int)) = (q : Int) := by omega
  clear h hpl hll hnx h32 hlt hm hsn hs32 hslt hq hmp hmq hmn htr hcap hlist hrow hdrop htake hBe i1 i2 hw1 b1 a1 hkn l32 C0
  unfold sv
  go_enter Tryz.func51, Tryz.ntmps51
  go_wp2_with fail
  rw [← HW.out]
  refine CT.out.mono ?_
  rintro e w' ⟨rfl, e1⟩
  obtain rfl := e1.symm
  clear e1
  go_upto_region 3 with fail
  go_still_tail 11, (by kernel_rfl)
  still_call (still_left ((HM.out w1.drew (by omega)).mono fun e w' h => ⟨h.1, h.2.symm⟩))
  repeat still_step
  refine wpStill_nil ?_
  change wpList _ _ _ _ _ w1.drew
  go_upto_region 4 with fail
  obtain ⟨w2, hw2⟩ : ∃ w2, w2 = w1.drew := ⟨_, rfl⟩
  have b2 : Below w1.heap.size w1 w2 := by rw [hw2]; exact (Below.refl _ _).drew
  rw [← hw2]
  have H2 := Lib.hid (And.intro (below_on H1.out.1 (Nat.le_refl _) b2) (And.intro (H1.out.2.1.below b2) (H1.out.2.2.below b2)))
  have c2' := H2.out.2.2.cell2
  clear hw2 b2
  have hRl : (tog l s).length = 32 := tog_of (P := fun l => l.length = 32) sha_length l s HS.out.1
  have hRb : ∀ x ∈ tog l s, x < 256 := tog_of (P := fun l => ∀ x ∈ l, x < 256) sha_lt l s HS.out.2
  obtain ⟨R, hR⟩ : ∃ R, tog l s = R := ⟨_, rfl⟩
  rw [hR] at hRl hRb
  have HRR := Lib.hid (And.intro hR hRb)
  clear hR hRb
  go_cut [6] from 21 to 28 (fun s6 wx => ∃ p, s6 = .pointer (some ⟨p, 0, none⟩) ∧ w2.heap.size ≤ p ∧ BArr wx p 50 R ∧ Below w2.heap.size w2 wx)
  case first =>
    have CG := Lib.hid (fun (W : World) (hW : Below w2.heap.size w2 W) => together_any B k (c - q) l s W (HL.out.2.1.below (below_on H2.out.1 (Nat.le_refl _) hW)) HL.out.2.2.2.2.2.2 (fun x hx => H32.out.1 x (List.mem_append_right _ hx)) (fun x hx => H32.out.2 x (List.mem_append_right _ hx)) HS.out.1 HS.out.2 hkb (hk.below (below_on H2.out.1 (Nat.le_refl _) hW)) (hs.below (below_on H2.out.1 (Nat.le_refl _) hW)))
    have HC2 := Lib.hid (fun (W : World) (hW : Below w2.heap.size w2 W) => (H2.out.2.2.below hW).cell2)
    rw [HRR.out.1] at CG
    unfold sv at CG
    have hst : ∀ (W : World) (p : Nat), BArr W p 50 zero32 → (storeCells ⟨p, 0, none⟩ (bvs R)).run Tryz.prog W = .ok () (W.setRow p (bvs R).toArray) := fun W p hW => by
      have := run_storeCells_from (P := Tryz.prog) p 50 (bvs R) 0 _ W hW (by rw [bvs_length, hRl]; rfl) (bvs_oneCell R)
      simpa using this
    have hbR : (bvs R).length = 32 := by rw [bvs_length, hRl]
    have HE0 := Lib.hid (show #[.int .u8 0, .int .u8 0, .int .u8 0, .int .u8 0, .int .u8 0, .int .u8 0, .int .u8 0, .int .u8 0, .int .u8 0, .int .u8 0, .int .u8 0, .int .u8 0, .int .u8 0, .int .u8 0, .int .u8 0, .int .u8 0, .int .u8 0, .int .u8 0, .int .u8 0, .int .u8 0, .int .u8 0, .int .u8 0, .int .u8 0, .int .u8 0, .int .u8 0, .int .u8 0, .int .u8 0, .int .u8 0, .int .u8 0, .int .u8 0, .int .u8 0, .int .u8 0] = (bvs zero32).toArray from rfl)
    refine wp_region_held_drew (S := fun W => Below w2.heap.size w2 W) (by kernel_rfl) ((Below.refl _ _).drew) (fun hS0 => ?_)
    change wpAnyH _ _ _ _ _ _ _ _ w2.drew
    refine' wpAnyH_take (i := 0) (oi := _) (v := _) ?hia0 (by kernel_rfl) ?hfa0 ?hra0 ?hQa0 ?hya0 hS0 ?resta0
    case hia0 => (simp only [List.getElem?_toArray, List.getElem?_cons_zero]; rfl)
    case hfa0 => kernel_rfl
    case hra0 => kernel_rfl
    case hQa0 => exact fun _ _ _ h => h
    case hya0 => refine Or.inl ⟨by rfl, ?_⟩; intro W hSw; go_simp; try with_reducible rfl
    try simp only [Act.put, List.setIfInBounds_toArray, List.set_cons_zero, List.set_cons_succ]
    refine' wpAnyH_take (i := 1) (oi := _) (v := _) ?hia1 (by kernel_rfl) ?hfa1 ?hra1 ?hQa1 ?hya1 hS0 ?resta1
    case hia1 => (simp only [List.getElem?_toArray, List.getElem?_cons_zero, List.getElem?_cons_succ]; rfl)
    case hfa1 => kernel_rfl
    case hra1 => kernel_rfl
    case hQa1 => exact fun _ _ _ h => h
    case hya1 => refine Or.inl ⟨by rfl, ?_⟩; intro W hSw; go_simp; try with_reducible rfl
    try simp only [Act.put, List.setIfInBounds_toArray, List.set_cons_zero, List.set_cons_succ]
    refine' wpAnyH_take (i := 2) (oi := _) (v := _) ?hia2 (by kernel_rfl) ?hfa2 ?hra2 ?hQa2 ?hya2 hS0 ?resta2
    case hia2 => (simp only [List.getElem?_toArray, List.getElem?_cons_zero, List.getElem?_cons_succ]; rfl)
    case hfa2 => kernel_rfl
    case hra2 => kernel_rfl
    case hQa2 => exact fun _ _ _ h => h
    case hya2 => refine Or.inl ⟨by rfl, ?_⟩; intro W hSw; go_simp; try with_reducible rfl
    try simp only [Act.put, List.setIfInBounds_toArray, List.set_cons_zero, List.set_cons_succ]
    refine' wpAnyH_take (i := 3) (oi := _) (v := .slice A m c) ?hia3 (by kernel_rfl) ?hfa3 ?hra3 ?hQa3 ?hya3 hS0 ?resta3
    case hia3 => (simp only [List.getElem?_toArray, List.getElem?_cons_zero, List.getElem?_cons_succ]; rfl)
    case hfa3 => kernel_rfl
    case hra3 => kernel_rfl
    case hQa3 => exact fun _ _ _ h => h
    case hya3 => refine Or.inl ⟨by rfl, ?_⟩; intro W hSw; have hcc := HC2.out W hSw; go_simp; try with_reducible rfl
    try simp only [Act.put, List.setIfInBounds_toArray, List.set_cons_zero, List.set_cons_succ]
    refine' wpAnyH_take (i := 4) (oi := _) (v := _) ?hia4 (by kernel_rfl) ?hfa4 ?hra4 ?hQa4 ?hya4 hS0 ?resta4
    case hia4 => (simp only [List.getElem?_toArray, List.getElem?_cons_zero, List.getElem?_cons_succ]; rfl)
    case hfa4 => kernel_rfl
    case hra4 => kernel_rfl
    case hQa4 => exact fun _ _ _ h => h
    case hya4 => refine Or.inl ⟨by rfl, ?_⟩; intro W hSw; go_simp; try with_reducible rfl
    try simp only [Act.put, List.setIfInBounds_toArray, List.set_cons_zero, List.set_cons_succ]
    refine' wpAnyH_take (i := 5) (oi := _) (v := .slice B k (c - q)) ?hia5 (by kernel_rfl) ?hfa5 ?hra5 ?hQa5 ?hya5 hS0 ?resta5
    case hia5 => (simp only [List.getElem?_toArray, List.getElem?_cons_zero, List.getElem?_cons_succ]; rfl)
    case hfa5 => kernel_rfl
    case hra5 => kernel_rfl
    case hQa5 => exact fun _ _ _ h => h
    case hya5 => refine yields_low (by rfl) _ _ rfl rfl rfl ?_; exact HB.out
    try simp only [Act.put, List.setIfInBounds_toArray, List.set_cons_zero, List.set_cons_succ]
    refine' wpAnyH_take (i := 6) (oi := _) (v := sv s) ?hia6 (by kernel_rfl) ?hfa6 ?hra6 ?hQa6 ?hya6 hS0 ?resta6
    case hia6 => (simp only [List.getElem?_toArray, List.getElem?_cons_zero, List.getElem?_cons_succ]; rfl)
    case hfa6 => kernel_rfl
    case hra6 => kernel_rfl
    case hQa6 => exact fun _ _ _ h => h
    case hya6 => refine yields_sum ?_ (.tmp 3) rfl ⟨w.heap.size, 0, none⟩ rfl s HS.out.1 (fun W hSw => (H2.out.2.1.below hSw).at_); rfl
    try simp only [Act.put, List.setIfInBounds_toArray, List.set_cons_zero, List.set_cons_succ]
    refine wpAnyH_ready (rs := [7, 8]) (by kernel_rfl) (by simp) ?_
    refine' AllReadyH.cons (o := _) ?hix7 (fun K hK => ?_) (AllReadyH.cons (o := _) ?hix8 (fun K hK => ?_) AllReadyH.nil)
    case hix7 => (simp only [List.getElem?_toArray, List.getElem?_cons_zero, List.getElem?_cons_succ]; rfl)
    case hix8 => (simp only [List.getElem?_toArray, List.getElem?_cons_zero, List.getElem?_cons_succ]; rfl)
    · skip
      go_simp
      go_at_call 125
      refine (CG.out _ hS0).mono ?_
      rintro e W1 ⟨rfl, hb1⟩
      have hB1 := below_on hS0 (Nat.le_refl _) hb1
      refine hK.out _ _ hB1 (fun _ => ?_)
      clear hK K
      try simp only [Act.put, List.setIfInBounds_toArray, List.set_cons_zero, List.set_cons_succ]
      refine wpAnyH_ready (rs := [8]) (by kernel_rfl) (by simp) ?_
      refine' AllReadyH.cons (o := _) ?hib8 (fun K hK => ?_) AllReadyH.nil
      case hib8 => (simp only [List.getElem?_toArray, List.getElem?_cons_zero, List.getElem?_cons_succ]; rfl)
      go_simp
      have hB2 := Below.alloc hB1 (Below.size hB1) (.cells (bvs zero32).toArray 50)
      have hZ := BArr.new W1 50 zero32
      rw [← HE0.out] at hB2 hZ
      refine hK.out _ _ hB2 (fun _ => ?_)
      clear hK K
      try simp only [Act.put, List.setIfInBounds_toArray, List.set_cons_zero, List.set_cons_succ]
      have hZ3 : BArr _ (W1.heap.size) 50 zero32 := hZ
      refine wpAnyH_ready (rs := [9]) (by kernel_rfl) (by simp) ?_
      refine' AllReadyH.cons (o := _) ?hib9 (fun K hK => ?_) AllReadyH.nil
      case hib9 => (simp only [List.getElem?_toArray, List.getElem?_cons_zero, List.getElem?_cons_succ]; rfl)
      go_simp
      refine hK.out _ _ (below_setRow hB2 (hB1.size) _) (fun _ => ?_)
      clear hK K
      refine wpAnyH_done (by kernel_rfl) ?_ _
      go_wp2_with fail
      go_meet
      case rel => exact ⟨W1.heap.size, rfl, hB1.size, hZ3.setRow R, below_setRow hB2 (hB1.size) _⟩
    · skip
      go_simp
      have hB2 := Below.alloc hS0 (Below.size hS0) (.cells (bvs zero32).toArray 50)
      have hZ := BArr.new w2.drew 50 zero32
      rw [← HE0.out] at hB2 hZ
      refine hK.out _ _ hB2 (fun _ => ?_)
      clear hK K
      try simp only [Act.put, List.setIfInBounds_toArray, List.set_cons_zero, List.set_cons_succ]
      refine wpAnyH_ready (rs := [7]) (by kernel_rfl) (by simp) ?_
      refine' AllReadyH.cons (o := _) ?hic7 (fun K hK => ?_) AllReadyH.nil
      case hic7 => (simp only [List.getElem?_toArray, List.getElem?_cons_zero, List.getElem?_cons_succ]; rfl)
      go_simp
      go_at_call 125
      refine (CG.out _ hB2).mono ?_
      rintro e W1 ⟨rfl, hb1⟩
      have hB1 := below_on hB2 (Nat.le_refl _) hb1
      refine hK.out _ _ hB1 (fun _ => ?_)
      clear hK K
      try simp only [Act.put, List.setIfInBounds_toArray, List.set_cons_zero, List.set_cons_succ]
      have hZ3 : BArr _ (w2.heap.size) 50 zero32 := (hZ.below hb1)
      refine wpAnyH_ready (rs := [9]) (by kernel_rfl) (by simp) ?_
      refine' AllReadyH.cons (o := _) ?hic9 (fun K hK => ?_) AllReadyH.nil
      case hic9 => (simp only [List.getElem?_toArray, List.getElem?_cons_zero, List.getElem?_cons_succ]; rfl)
      go_simp
      refine hK.out _ _ (below_setRow hB1 (Nat.le_refl _) _) (fun _ => ?_)
      clear hK K
      refine wpAnyH_done (by kernel_rfl) ?_ _
      go_wp2_with fail
      go_meet
      case rel => exact ⟨w2.heap.size, rfl, Nat.le_refl _, hZ3.setRow R, below_setRow hB1 (Nat.le_refl _) _⟩
  case rest =>
    obtain ⟨p, rfl, hpw, hp, hb3⟩ := hcut
    have hrow3 := H2.out.2.2.below hb3
    have b3 := below_on H2.out.1 (Nat.le_refl _) hb3
    have c2'' := hrow3.cell2
    have HP := Lib.hid hp
    have hTk := HTk.out
    have H3 := Lib.hid (And.intro b3 (And.intro hrow3 (And.intro hp hpw)))
    have fr2 := hrow3.free 2
    obtain ⟨w4, hw4⟩ : ∃ w4, w4 = wc.drew := ⟨_, rfl⟩
    have bd : Below wc.heap.size wc w4 := by rw [hw4]; exact (Below.refl _ _).drew
    have b5 := below_alloc w4 (.cells (bvs [R].flatten).toArray 50)
    obtain ⟨w5, hw5⟩ : ∃ w5, w5 = w4.alloc (.cells (bvs [R].flatten).toArray 50) := ⟨_, rfl⟩
    rw [← hw5] at b5
    have i5 : InS w5 (some ⟨w4.heap.size, 0, none⟩) 1 R := by rw [hw5, one_flat']; exact ⟨by rw [hRl], (In.new' w4 R 50).rd⟩
    have H4 := Lib.hid (And.intro (H3.out.2.1.below bd) (H3.out.2.2.1.below bd))
    have c24 := H4.out.1.cell2
    have c25 := (H4.out.1.below b5).cell2
    have H5 := Lib.hid (And.intro (below_on (below_on H3.out.1 (Nat.le_refl _) bd) (Nat.le_refl _) b5) (And.intro (H4.out.1.below b5) i5))
    have HW5 := Lib.hid (And.intro hw4 hw5)
    have HB5 := Lib.hid (And.intro bd b5)
    obtain ⟨w6, hw6⟩ : ∃ w6, w6 = w5.alloc (.cells #[.slice A q c, .slice (some ⟨w4.heap.size, 0, none⟩) 1 1] 53) := ⟨_, rfl⟩
    have b6 : Below w5.heap.size w5 w6 := by rw [hw6]; exact below_alloc _ _
    have p6 := cell_pair w5 (.slice A q c) (.slice (some ⟨w4.heap.size, 0, none⟩) 1 1) 53
    rw [← hw6] at p6
    have b06 := below_on H5.out.1 (Nat.le_refl _) b6
    have CC := Lib.hid (concat_any w5.heap.size A (some ⟨w4.heap.size, 0, none⟩) q c 1 1 pre.flatten R w6 p6.1 p6.2 (HL.out.1.below b06) (H5.out.2.2.below b6) HL.out.2.2.1 (fun e => by cases e) (by omega) (by omega))
    have H6 := Lib.hid (And.intro b06 (H5.out.2.1.below b6))
    have HW6 := Lib.hid hw6
    have hg6 : g < w6.heap.size := Nat.lt_of_lt_of_le hglt b06.size
    clear hp hb3 hrow3 b3 c2' c2 c1 c2'' bd b5 i5 hw4 hw5 fr2 hw6 b6 p6 b06
    go_upto_region 5 with fail
    go_cut [] from 29 to 41 (fun wx => ∃ A' c', RowAt wx g n A' (q + 1) c' ∧ InS wx A' (q + 1) (pre.flatten ++ R) ∧ q + 1 ≤ c' ∧ (A' = none → c' = 0) ∧ (∀ ad, A' = some ad → w.heap.size ≤ ad.block ∧ ad.block < wx.heap.size) ∧ But (fun b => b = g) w wx)
    case first =>
      skip
      refine wp_region_held (S := fun _ => True) (by kernel_rfl) ?_
      change wpAnyH _ _ _ _ _ _ _ _ wc.drew
      rw [← HW5.out.1]
      refine' wpAnyH_take (i := 0) (oi := _) (v := _) ?hie0 (by kernel_rfl) ?hfe0 ?hre0 ?hQe0 ?hye0 trivial ?reste0
      case hie0 => (simp only [List.getElem?_toArray, List.getElem?_cons_zero]; rfl)
      case hfe0 => kernel_rfl
      case hre0 => kernel_rfl
      case hQe0 => exact fun _ _ _ h => h
      case hye0 => refine Or.inl ⟨by rfl, ?_⟩; intro W hSw; go_simp; try with_reducible rfl
      try simp only [Act.put, List.setIfInBounds_toArray, List.set_cons_zero, List.set_cons_succ]
      refine' wpAnyH_take (i := 1) (oi := _) (v := _) ?hie1 (by kernel_rfl) ?hfe1 ?hre1 ?hQe1 ?hye1 trivial ?reste1
      case hie1 => (simp only [List.getElem?_toArray, List.getElem?_cons_zero, List.getElem?_cons_succ]; rfl)
      case hfe1 => kernel_rfl
      case hre1 => kernel_rfl
      case hQe1 => exact fun _ _ _ h => h
      case hye1 => refine Or.inl ⟨by rfl, ?_⟩; intro W hSw; go_simp; try with_reducible rfl
      try simp only [Act.put, List.setIfInBounds_toArray, List.set_cons_zero, List.set_cons_succ]
      refine' wpAnyH_take (i := 2) (oi := _) (v := _) ?hie2 (by kernel_rfl) ?hfe2 ?hre2 ?hQe2 ?hye2 trivial ?reste2
      case hie2 => (simp only [List.getElem?_toArray, List.getElem?_cons_zero, List.getElem?_cons_succ]; rfl)
      case hfe2 => kernel_rfl
      case hre2 => kernel_rfl
      case hQe2 => exact fun _ _ _ h => h
      case hye2 => refine Or.inl ⟨by rfl, ?_⟩; intro W hSw; go_simp; try with_reducible rfl
      try simp only [Act.put, List.setIfInBounds_toArray, List.set_cons_zero, List.set_cons_succ]
      refine' wpAnyH_take (i := 3) (oi := _) (v := _) ?hie3 (by kernel_rfl) ?hfe3 ?hre3 ?hQe3 ?hye3 trivial ?reste3
      case hie3 => (simp only [List.getElem?_toArray, List.getElem?_cons_zero, List.getElem?_cons_succ]; rfl)
      case hfe3 => kernel_rfl
      case hre3 => kernel_rfl
      case hQe3 => exact fun _ _ _ h => h
      case hye3 => refine Or.inl ⟨by rfl, ?_⟩; intro W hSw; go_simp; try with_reducible rfl
      try simp only [Act.put, List.setIfInBounds_toArray, List.set_cons_zero, List.set_cons_succ]
      refine' wpAnyH_take (i := 5) (oi := _) (v := _) ?hie5 (by kernel_rfl) ?hfe5 ?hre5 ?hQe5 ?hye5 trivial ?reste5
      case hie5 => (simp only [List.getElem?_toArray, List.getElem?_cons_zero, List.getElem?_cons_succ]; rfl)
      case hfe5 => kernel_rfl
      case hre5 => kernel_rfl
      case hQe5 => exact fun _ _ _ h => h
      case hye5 => refine Or.inl ⟨by rfl, ?_⟩; intro W hSw; go_simp; try with_reducible rfl
      try simp only [Act.put, List.setIfInBounds_toArray, List.set_cons_zero, List.set_cons_succ]
      refine wpAnyH_ready (rs := [4, 7]) (by kernel_rfl) (by simp) ?_
      refine' AllReadyH.cons (o := _) ?hiz4 (fun K hK => ?_) (AllReadyH.cons (o := _) ?hiz7 (fun K hK => ?_) AllReadyH.nil)
      case hiz4 => (simp only [List.getElem?_toArray, List.getElem?_cons_zero, List.getElem?_cons_succ]; rfl)
      case hiz7 => (simp only [List.getElem?_toArray, List.getElem?_cons_zero, List.getElem?_cons_succ]; rfl)
      · skip
        go_simp
        refine hK.out _ _ trivial (fun _ => ?_)
        clear hK K
        try simp only [Act.put, List.setIfInBounds_toArray, List.set_cons_zero, List.set_cons_succ]
        refine' wpAnyH_take (i := 6) (oi := _) (v := .slice A q c) ?hif6 (by kernel_rfl) ?hff6 ?hrf6 ?hQf6 ?hyf6 trivial ?restf6
        case hif6 => (simp only [List.getElem?_toArray, List.getElem?_cons_zero, List.getElem?_cons_succ]; rfl)
        case hff6 => kernel_rfl
        case hrf6 => kernel_rfl
        case hQf6 => exact fun _ _ _ h => h
        case hyf6 => refine yields_high (by rfl) _ _ rfl rfl rfl ?_; exact HTk.out
        try simp only [Act.put, List.setIfInBounds_toArray, List.set_cons_zero, List.set_cons_succ]
        refine wpAnyH_ready (rs := [7]) (by kernel_rfl) (by simp) ?_
        refine' AllReadyH.cons (o := _) ?hif7 (fun K hK => ?_) AllReadyH.nil
        case hif7 => (simp only [List.getElem?_toArray, List.getElem?_cons_zero, List.getElem?_cons_succ]; rfl)
        rw [if_pos (by rfl)]
        refine wp_load_sum (.tmp 6) rfl ⟨p, 0, none⟩ rfl R hRl H4.out.2.at_ ?_
        refine hK.out _ _ trivial (fun _ => ?_)
        clear hK K
        try simp only [Act.put, List.setIfInBounds_toArray, List.set_cons_zero, List.set_cons_succ]
        refine wpAnyH_ready (rs := [8]) (by kernel_rfl) (by simp) ?_
        refine' AllReadyH.cons (o := _) ?hif8 (fun K hK => ?_) AllReadyH.nil
        case hif8 => (simp only [List.getElem?_toArray, List.getElem?_cons_zero, List.getElem?_cons_succ]; rfl)
        rw [if_pos (by rfl)]
        refine wp_sums _ [R] 1 rfl rfl (by simp <;> rfl) (by intro x hx; simp at hx; rw [hx]; exact hRl) (by omega) (by omega) ?_
        refine hK.out _ _ trivial (fun _ => ?_)
        clear hK K
        rw [← HW5.out.2]
        try simp only [Act.put, List.setIfInBounds_toArray, List.set_cons_zero, List.set_cons_succ]
        refine wpAnyH_ready (rs := [9]) (by kernel_rfl) (by simp) ?_
        refine' AllReadyH.cons (o := _) ?hif9 (fun K hK => ?_) AllReadyH.nil
        case hif9 => (simp only [List.getElem?_toArray, List.getElem?_cons_zero, List.getElem?_cons_succ]; rfl)
        go_simp
        refine hK.out _ _ trivial (fun _ => ?_)
        clear hK K
        rw [← HW6.out]
        try simp only [Act.put, List.setIfInBounds_toArray, List.set_cons_zero, List.set_cons_succ]
        refine wpAnyH_ready (rs := [10]) (by kernel_rfl) (by simp) ?_
        refine' AllReadyH.cons (o := _) ?hif10 (fun K hK => ?_) AllReadyH.nil
        case hif10 => (simp only [List.getElem?_toArray, List.getElem?_cons_zero, List.getElem?_cons_succ]; rfl)
        go_simp
        go_at_call 127
        refine CC.out.mono ?_
        rintro e W7 ⟨A', c', rfl, ho, hb7⟩
        have r7 := H6.out.2.below hb7
        have c27 := r7.cell2
        have f27 := r7.free 2
        have H7 := Lib.hid (And.intro ho (And.intro r7 hb7))
        clear r7 hb7 ho
        refine hK.out _ _ trivial (fun _ => ?_)
        clear hK K
        try simp only [Act.put, List.setIfInBounds_toArray, List.set_cons_zero, List.set_cons_succ]
        refine' wpAnyH_take (i := 11) (oi := _) (v := _) ?hif11 (by kernel_rfl) ?hff11 ?hrf11 ?hQf11 ?hyf11 trivial ?restf11
        case hif11 => (simp only [List.getElem?_toArray, List.getElem?_cons_zero, List.getElem?_cons_succ]; rfl)
        case hff11 => kernel_rfl
        case hrf11 => kernel_rfl
        case hQf11 => exact fun _ _ _ h => h
        case hyf11 => refine Or.inl ⟨by rfl, ?_⟩; intro W hSw; go_simp; try with_reducible rfl
        try simp only [Act.put, List.setIfInBounds_toArray, List.set_cons_zero, List.set_cons_succ]
        refine' wpAnyH_take (i := 12) (oi := _) (v := _) ?hif12 (by kernel_rfl) ?hff12 ?hrf12 ?hQf12 ?hyf12 trivial ?restf12
        case hif12 => (simp only [List.getElem?_toArray, List.getElem?_cons_zero, List.getElem?_cons_succ]; rfl)
        case hff12 => kernel_rfl
        case hrf12 => kernel_rfl
        case hQf12 => exact fun _ _ _ h => h
        case hyf12 => refine Or.inl ⟨by rfl, ?_⟩; intro W hSw; go_simp; try with_reducible rfl
        try simp only [Act.put, List.setIfInBounds_toArray, List.set_cons_zero, List.set_cons_succ]
        refine wpAnyH_ready (rs := [13]) (by kernel_rfl) (by simp) ?_
        refine' AllReadyH.cons (o := _) ?hif13 (fun K hK => ?_) AllReadyH.nil
        case hif13 => (simp only [List.getElem?_toArray, List.getElem?_cons_zero, List.getElem?_cons_succ]; rfl)
        go_simp
        refine hK.out _ _ trivial (fun _ => ?_)
        clear hK K
        refine wpAnyH_done (by kernel_rfl) ?_ _
        go_wp2_with fail
        go_meet
        case rel =>
          have hb := below_on H6.out.1 (Nat.le_refl _) H7.out.2.2
          have hold : ∀ ad, A' = some ad → w.heap.size ≤ ad.block ∧ ad.block < W7.heap.size := fun ad e => by
            have h1 := H7.out.1.lt ad.block (by rw [e]; rfl)
            have h2 := H6.out.1.size
            exact ⟨by omega, h1.2⟩
          have hoff : ∀ ad, A' = some ad → ad.block ≠ g := fun ad e hh => by have := (hold ad e).1; omega
          refine ⟨A', c', H7.out.2.1.setList, inS_blocks (InS.of_own H7.out.1) (fun ad e => heap_setCell_other _ _ _ _ (hoff ad e)), own_cap H7.out.1, own_nil H7.out.1, fun ad e => ⟨(hold ad e).1, by rw [size_setCell_]; exact (hold ad e).2⟩, (But.of_below hb).set 2 _ (fun _ => rfl)⟩
      · skip
        rw [if_pos (by rfl)]
        refine wp_load_sum (.tmp 6) rfl ⟨p, 0, none⟩ rfl R hRl H4.out.2.at_ ?_
        refine hK.out _ _ trivial (fun _ => ?_)
        clear hK K
        try simp only [Act.put, List.setIfInBounds_toArray, List.set_cons_zero, List.set_cons_succ]
        refine wpAnyH_ready (rs := [4, 8]) (by kernel_rfl) (by simp) ?_
        refine' AllReadyH.cons (o := _) ?hiy4 (fun K hK => ?_) (AllReadyH.cons (o := _) ?hiy8 (fun K hK => ?_) AllReadyH.nil)
        case hiy4 => (simp only [List.getElem?_toArray, List.getElem?_cons_zero, List.getElem?_cons_succ]; rfl)
        case hiy8 => (simp only [List.getElem?_toArray, List.getElem?_cons_zero, List.getElem?_cons_succ]; rfl)
        · skip
          go_simp
          refine hK.out _ _ trivial (fun _ => ?_)
          clear hK K
          try simp only [Act.put, List.setIfInBounds_toArray, List.set_cons_zero, List.set_cons_succ]
          refine' wpAnyH_take (i := 6) (oi := _) (v := .slice A q c) ?hik6 (by kernel_rfl) ?hfk6 ?hrk6 ?hQk6 ?hyk6 trivial ?restk6
          case hik6 => (simp only [List.getElem?_toArray, List.getElem?_cons_zero, List.getElem?_cons_succ]; rfl)
          case hfk6 => kernel_rfl
          case hrk6 => kernel_rfl
          case hQk6 => exact fun _ _ _ h => h
          case hyk6 => refine yields_high (by rfl) _ _ rfl rfl rfl ?_; exact HTk.out
          try simp only [Act.put, List.setIfInBounds_toArray, List.set_cons_zero, List.set_cons_succ]
          refine wpAnyH_ready (rs := [8]) (by kernel_rfl) (by simp) ?_
          refine' AllReadyH.cons (o := _) ?hik8 (fun K hK => ?_) AllReadyH.nil
          case hik8 => (simp only [List.getElem?_toArray, List.getElem?_cons_zero, List.getElem?_cons_succ]; rfl)
          rw [if_pos (by rfl)]
          refine wp_sums _ [R] 1 rfl rfl (by simp <;> rfl) (by intro x hx; simp at hx; rw [hx]; exact hRl) (by omega) (by omega) ?_
          refine hK.out _ _ trivial (fun _ => ?_)
          clear hK K
          rw [← HW5.out.2]
          try simp only [Act.put, List.setIfInBounds_toArray, List.set_cons_zero, List.set_cons_succ]
          refine wpAnyH_ready (rs := [9]) (by kernel_rfl) (by simp) ?_
          refine' AllReadyH.cons (o := _) ?hik9 (fun K hK => ?_) AllReadyH.nil
          case hik9 => (simp only [List.getElem?_toArray, List.getElem?_cons_zero, List.getElem?_cons_succ]; rfl)
          go_simp
          refine hK.out _ _ trivial (fun _ => ?_)
          clear hK K
          rw [← HW6.out]
          try simp only [Act.put, List.setIfInBounds_toArray, List.set_cons_zero, List.set_cons_succ]
          refine wpAnyH_ready (rs := [10]) (by kernel_rfl) (by simp) ?_
          refine' AllReadyH.cons (o := _) ?hik10 (fun K hK => ?_) AllReadyH.nil
          case hik10 => (simp only [List.getElem?_toArray, List.getElem?_cons_zero, List.getElem?_cons_succ]; rfl)
          go_simp
          go_at_call 127
          refine CC.out.mono ?_
          rintro e W7 ⟨A', c', rfl, ho, hb7⟩
          have r7 := H6.out.2.below hb7
          have c27 := r7.cell2
          have f27 := r7.free 2
          have H7 := Lib.hid (And.intro ho (And.intro r7 hb7))
          clear r7 hb7 ho
          refine hK.out _ _ trivial (fun _ => ?_)
          clear hK K
          try simp only [Act.put, List.setIfInBounds_toArray, List.set_cons_zero, List.set_cons_succ]
          refine' wpAnyH_take (i := 11) (oi := _) (v := _) ?hik11 (by kernel_rfl) ?hfk11 ?hrk11 ?hQk11 ?hyk11 trivial ?restk11
          case hik11 => (simp only [List.getElem?_toArray, List.getElem?_cons_zero, List.getElem?_cons_succ]; rfl)
          case hfk11 => kernel_rfl
          case hrk11 => kernel_rfl
          case hQk11 => exact fun _ _ _ h => h
          case hyk11 => refine Or.inl ⟨by rfl, ?_⟩; intro W hSw; go_simp; try with_reducible rfl
          try simp only [Act.put, List.setIfInBounds_toArray, List.set_cons_zero, List.set_cons_succ]
          refine' wpAnyH_take (i := 12) (oi := _) (v := _) ?hik12 (by kernel_rfl) ?hfk12 ?hrk12 ?hQk12 ?hyk12 trivial ?restk12
          case hik12 => (simp only [List.getElem?_toArray, List.getElem?_cons_zero, List.getElem?_cons_succ]; rfl)
          case hfk12 => kernel_rfl
          case hrk12 => kernel_rfl
          case hQk12 => exact fun _ _ _ h => h
          case hyk12 => refine Or.inl ⟨by rfl, ?_⟩; intro W hSw; go_simp; try with_reducible rfl
          try simp only [Act.put, List.setIfInBounds_toArray, List.set_cons_zero, List.set_cons_succ]
          refine wpAnyH_ready (rs := [13]) (by kernel_rfl) (by simp) ?_
          refine' AllReadyH.cons (o := _) ?hik13 (fun K hK => ?_) AllReadyH.nil
          case hik13 => (simp only [List.getElem?_toArray, List.getElem?_cons_zero, List.getElem?_cons_succ]; rfl)
          go_simp
          refine hK.out _ _ trivial (fun _ => ?_)
          clear hK K
          refine wpAnyH_done (by kernel_rfl) ?_ _
          go_wp2_with fail
          go_meet
          case rel =>
            have hb := below_on H6.out.1 (Nat.le_refl _) H7.out.2.2
            have hold : ∀ ad, A' = some ad → w.heap.size ≤ ad.block ∧ ad.block < W7.heap.size := fun ad e => by
              have h1 := H7.out.1.lt ad.block (by rw [e]; rfl)
              have h2 := H6.out.1.size
              exact ⟨by omega, h1.2⟩
            have hoff : ∀ ad, A' = some ad → ad.block ≠ g := fun ad e hh => by have := (hold ad e).1; omega
            refine ⟨A', c', H7.out.2.1.setList, inS_blocks (InS.of_own H7.out.1) (fun ad e => heap_setCell_other _ _ _ _ (hoff ad e)), own_cap H7.out.1, own_nil H7.out.1, fun ad e => ⟨(hold ad e).1, by rw [size_setCell_]; exact (hold ad e).2⟩, (But.of_below hb).set 2 _ (fun _ => rfl)⟩
        · skip
          rw [if_pos (by rfl)]
          refine wp_sums _ [R] 1 rfl rfl (by simp <;> rfl) (by intro x hx; simp at hx; rw [hx]; exact hRl) (by omega) (by omega) ?_
          refine hK.out _ _ trivial (fun _ => ?_)
          clear hK K
          rw [← HW5.out.2]
          try simp only [Act.put, List.setIfInBounds_toArray, List.set_cons_zero, List.set_cons_succ]
          refine wpAnyH_ready (rs := [4]) (by kernel_rfl) (by simp) ?_
          refine' AllReadyH.cons (o := _) ?hil4 (fun K hK => ?_) AllReadyH.nil
          case hil4 => (simp only [List.getElem?_toArray, List.getElem?_cons_zero, List.getElem?_cons_succ]; rfl)
          go_simp
          refine hK.out _ _ trivial (fun _ => ?_)
          clear hK K
          try simp only [Act.put, List.setIfInBounds_toArray, List.set_cons_zero, List.set_cons_succ]
          refine' wpAnyH_take (i := 6) (oi := _) (v := .slice A q c) ?hil6 (by kernel_rfl) ?hfl6 ?hrl6 ?hQl6 ?hyl6 trivial ?restl6
          case hil6 => (simp only [List.getElem?_toArray, List.getElem?_cons_zero, List.getElem?_cons_succ]; rfl)
          case hfl6 => kernel_rfl
          case hrl6 => kernel_rfl
          case hQl6 => exact fun _ _ _ h => h
          case hyl6 => refine yields_high (by rfl) _ _ rfl rfl rfl ?_; exact HTk.out
          try simp only [Act.put, List.setIfInBounds_toArray, List.set_cons_zero, List.set_cons_succ]
          refine wpAnyH_ready (rs := [9]) (by kernel_rfl) (by simp) ?_
          refine' AllReadyH.cons (o := _) ?hil9 (fun K hK => ?_) AllReadyH.nil
          case hil9 => (simp only [List.getElem?_toArray, List.getElem?_cons_zero, List.getElem?_cons_succ]; rfl)
          go_simp
          refine hK.out _ _ trivial (fun _ => ?_)
          clear hK K
          rw [← HW6.out]
          try simp only [Act.put, List.setIfInBounds_toArray, List.set_cons_zero, List.set_cons_succ]
          refine wpAnyH_ready (rs := [10]) (by kernel_rfl) (by simp) ?_
          refine' AllReadyH.cons (o := _) ?hil10 (fun K hK => ?_) AllReadyH.nil
          case hil10 => (simp only [List.getElem?_toArray, List.getElem?_cons_zero, List.getElem?_cons_succ]; rfl)
          go_simp
          go_at_call 127
          refine CC.out.mono ?_
          rintro e W7 ⟨A', c', rfl, ho, hb7⟩
          have r7 := H6.out.2.below hb7
          have c27 := r7.cell2
          have f27 := r7.free 2
          have H7 := Lib.hid (And.intro ho (And.intro r7 hb7))
          clear r7 hb7 ho
          refine hK.out _ _ trivial (fun _ => ?_)
          clear hK K
          try simp only [Act.put, List.setIfInBounds_toArray, List.set_cons_zero, List.set_cons_succ]
          refine' wpAnyH_take (i := 11) (oi := _) (v := _) ?hil11 (by kernel_rfl) ?hfl11 ?hrl11 ?hQl11 ?hyl11 trivial ?restl11
          case hil11 => (simp only [List.getElem?_toArray, List.getElem?_cons_zero, List.getElem?_cons_succ]; rfl)
          case hfl11 => kernel_rfl
          case hrl11 => kernel_rfl
          case hQl11 => exact fun _ _ _ h => h
          case hyl11 => refine Or.inl ⟨by rfl, ?_⟩; intro W hSw; go_simp; try with_reducible rfl
          try simp only [Act.put, List.setIfInBounds_toArray, List.set_cons_zero, List.set_cons_succ]
          refine' wpAnyH_take (i := 12) (oi := _) (v := _) ?hil12 (by kernel_rfl) ?hfl12 ?hrl12 ?hQl12 ?hyl12 trivial ?restl12
          case hil12 => (simp only [List.getElem?_toArray, List.getElem?_cons_zero, List.getElem?_cons_succ]; rfl)
          case hfl12 => kernel_rfl
          case hrl12 => kernel_rfl
          case hQl12 => exact fun _ _ _ h => h
          case hyl12 => refine Or.inl ⟨by rfl, ?_⟩; intro W hSw; go_simp; try with_reducible rfl
          try simp only [Act.put, List.setIfInBounds_toArray, List.set_cons_zero, List.set_cons_succ]
          refine wpAnyH_ready (rs := [13]) (by kernel_rfl) (by simp) ?_
          refine' AllReadyH.cons (o := _) ?hil13 (fun K hK => ?_) AllReadyH.nil
          case hil13 => (simp only [List.getElem?_toArray, List.getElem?_cons_zero, List.getElem?_cons_succ]; rfl)
          go_simp
          refine hK.out _ _ trivial (fun _ => ?_)
          clear hK K
          refine wpAnyH_done (by kernel_rfl) ?_ _
          go_wp2_with fail
          go_meet
          case rel =>
            have hb := below_on H6.out.1 (Nat.le_refl _) H7.out.2.2
            have hold : ∀ ad, A' = some ad → w.heap.size ≤ ad.block ∧ ad.block < W7.heap.size := fun ad e => by
              have h1 := H7.out.1.lt ad.block (by rw [e]; rfl)
              have h2 := H6.out.1.size
              exact ⟨by omega, h1.2⟩
            have hoff : ∀ ad, A' = some ad → ad.block ≠ g := fun ad e hh => by have := (hold ad e).1; omega
            refine ⟨A', c', H7.out.2.1.setList, inS_blocks (InS.of_own H7.out.1) (fun ad e => heap_setCell_other _ _ _ _ (hoff ad e)), own_cap H7.out.1, own_nil H7.out.1, fun ad e => ⟨(hold ad e).1, by rw [size_setCell_]; exact (hold ad e).2⟩, (But.of_below hb).set 2 _ (fun _ => rfl)⟩
    case rest =>
      clear c24 c25 CC
      obtain ⟨A', c', hrow, hin, hc', hn', hoff, hbut⟩ := hcut
      have c1 := hrow.size
      have f1 := hrow.free 1
      have hwn : IntKind.u64.wrap ((n : Int) + 1) = (n : Int) + 1 := by rw [IntKind.wrap_u64]; omega
      have HX := Lib.hid (And.intro hrow (And.intro hin (And.intro hc' (And.intro hn' (And.intro hoff hbut)))))
      clear hrow hin hc' hn' hoff hbut
      go_wp2_with fail
      go_ret
      have hfr : fr f 0 (n + 1) = pre ++ [R] := by rw [HL.out.2.2.2.1, HRR.out.1]
      have hpop : pop (n + 1) = q + 1 := by rw [← fr_length f (n + 1) 0, hfr, List.length_append, HL.out.2.2.2.2.2.1]; rfl
      have hoffg : ∀ ad, A' = some ad → ad.block ≠ g := fun ad e => by have := (HX.out.2.2.2.2.1 ad e).1; omega
      refine ⟨rfl, ⟨A', c', ⟨?_, ?_, ?_, HX.out.2.2.2.1, hoffg⟩, fun ad e => ⟨(HX.out.2.2.2.2.1 ad e).1, by rw [size_setCell_]; exact (HX.out.2.2.2.2.1 ad e).2⟩⟩, HX.out.2.2.2.2.2.set 1 _ (fun _ => rfl)⟩
      · rw [hpop]
        exact (HX.out.1.setSize (n' := n + 1)).row
      · rw [hpop, hfr, List.flatten_append, one_flat']
        exact inS_blocks HX.out.2.1 (fun ad e => heap_setCell_other _ _ _ _ (hoffg ad e))
      · rw [hpop]; exact HX.out.2.2.1

theorem add_front {w : World} {g : Nat} {f : Nat → List Nat} {n : Nat} (h : Front w g f n) (hf : Sums32 f (n + 1)) (hn : n < 999999) (hk : Knows w) (hs : Starts w) :
    Calls Tryz.prog 51 #[.pointer (some ⟨g, 0, none⟩), sv (f n)] w fun e w' => e = .returned (.int .i64 0) ∧ Front w' g f (n + 1) ∧ But (fun b => b = g) w w' :=
  (add_front_at h hf hn hk hs).mono fun _ _ ⟨he, ⟨A', c', hf', _⟩, hb⟩ => ⟨he, ⟨A', c', hf'⟩, hb⟩

end Go.Proofs.YtnaebjdccngeoaaGreatDoor

/-
  fronts.Root: the whole trees put together.
-/
namespace Go.Proofs.YtnaebjdccngeoaaGreatDoor
open Go.RowKit

set_option maxRecDepth 100000 in
set_option maxHeartbeats 4000000 in
theorem root_none_front {w : World} {g : Nat} {f : Nat → List Nat} (h : Front w g f 0) (hk : Knows w) (hs : Starts w) :
    Calls Tryz.prog 55 #[.pointer (some ⟨g, 0, none⟩)] w fun e w' => e = .returned (sv (rt f 0 0)) ∧ Below w.heap.size w w' := by
  obtain ⟨A, c, h⟩ := h
  have e0 : (bvs zero32).toArray = #[.int .u8 0, .int .u8 0, .int .u8 0, .int .u8 0, .int .u8 0, .int .u8 0, .int .u8 0, .int .u8 0, .int .u8 0, .int .u8 0, .int .u8 0, .int .u8 0, .int .u8 0, .int .u8 0, .int .u8 0, .int .u8 0, .int .u8 0, .int .u8 0, .int .u8 0, .int .u8 0, .int .u8 0, .int .u8 0, .int .u8 0, .int .u8 0, .int .u8 0, .int .u8 0, .int .u8 0, .int .u8 0, .int .u8 0, .int .u8 0, .int .u8 0, .int .u8 0] := rfl
  obtain ⟨w1, hw1⟩ : ∃ w1, w1 = w.alloc (.cells #[.int .u8 0, .int .u8 0, .int .u8 0, .int .u8 0, .int .u8 0, .int .u8 0, .int .u8 0, .int .u8 0, .int .u8 0, .int .u8 0, .int .u8 0, .int .u8 0, .int .u8 0, .int .u8 0, .int .u8 0, .int .u8 0, .int .u8 0, .int .u8 0, .int .u8 0, .int .u8 0, .int .u8 0, .int .u8 0, .int .u8 0, .int .u8 0, .int .u8 0, .int .u8 0, .int .u8 0, .int .u8 0, .int .u8 0, .int .u8 0, .int .u8 0, .int .u8 0] 50) := ⟨_, rfl⟩
  have b1 : Below w.heap.size w w1 := by rw [hw1]; exact below_alloc _ _
  have r1 : BArr w1 w.heap.size 50 zero32 := by rw [hw1, ← e0]; exact BArr.new _ _ _
  have HW := Lib.hid hw1
  have H1 := Lib.hid (And.intro b1 r1)
  clear hw1 b1 r1 e0
  have h1 := h.below H1.out.1
  have CT := Lib.hid (there_yes h1.made)
  have c1 := h1.size
  have C := Lib.hid (root_any none 0 0 [] w1 (InS.none_ _ _) (by intro x hx; cases hx) (Nat.le_refl _) (by omega) (hk.below H1.out.1) (hs.below H1.out.1))
  have hRl := sha_length []
  rw [rt_nil] at C ⊢
  obtain ⟨R, hR⟩ : ∃ R, sha [] = R := ⟨_, rfl⟩
  rw [hR] at C hRl ⊢
  have HZ32 := Lib.hid (show zero32.length = 32 from rfl)
  clear h h1 hR
  go_enter Tryz.func55, Tryz.ntmps55
  go_upto_region 1 with fail
  rw [← HW.out]
  go_wp2_with fail
  refine CT.out.mono ?_
  rintro e w' ⟨rfl, e1⟩
  obtain rfl := e1.symm
  clear e1
  go_wp2_with fail
  refine C.out.mono ?_
  rintro e w2 ⟨rfl, hb2⟩
  have hf7 := H1.out.2.below hb2
  go_wp2_with (with_reducible refine wpList_store_sum rfl (.tmp 2) (.tmp 15) rfl w.heap.size rfl zero32 R HZ32 hRl hf7 rfl ?_)
  refine bodyPost_ret_by (results_cell_row (p := 2) (ty := 50) (by kernel_rfl) _ _ w.heap.size 50 (bvs R).toArray (0, 0) _ rfl (hf7.setRow _) Tryz.underlying50 rfl (by rw [List.size_toArray, bvs_length, hRl]; exact sizeSum)) rfl ?_
  exact ⟨rfl, below_setRow (below_on H1.out.1 (Nat.le_refl _) hb2) (Nat.le_refl _) _⟩

set_option maxRecDepth 100000 in
set_option maxHeartbeats 4000000 in
theorem root_some_front {w : World} {g : Nat} {f : Nat → List Nat} {n : Nat} (h : Front w g f n) (hf : Sums32 f n) (h0 : 0 < n) (hn : n < 1000000) (hk : Knows w) (hs : Starts w) :
    Calls Tryz.prog 55 #[.pointer (some ⟨g, 0, none⟩)] w fun e w' => e = .returned (sv (rt f 0 n)) ∧ Below w.heap.size w w' := by
  obtain ⟨A, c, h⟩ := h
  have h32 := hf.fr32
  have hlt := hf.frlt
  have hm := fr_length f n 0
  have hmn := pop_le n
  obtain ⟨pre, x, hpx⟩ : ∃ pre x, fr f 0 n = pre ++ [x] := by
    rcases List.eq_nil_or_concat (fr f 0 n) with e | ⟨L, b, e⟩
    · have := fr_none.1 e; omega
    · exact ⟨L, b, by rw [e, List.concat_eq_append]⟩
  have htog := tog_fr f n 0 pre x hpx
  obtain ⟨q, hq⟩ : ∃ q, pre.length = q := ⟨_, rfl⟩
  obtain ⟨m, hmp⟩ : ∃ m, pop n = m := ⟨_, rfl⟩
  have e0 : (bvs zero32).toArray = #[.int .u8 0, .int .u8 0, .int .u8 0, .int .u8 0, .int .u8 0, .int .u8 0, .int .u8 0, .int .u8 0, .int .u8 0, .int .u8 0, .int .u8 0, .int .u8 0, .int .u8 0, .int .u8 0, .int .u8 0, .int .u8 0, .int .u8 0, .int .u8 0, .int .u8 0, .int .u8 0, .int .u8 0, .int .u8 0, .int .u8 0, .int .u8 0, .int .u8 0, .int .u8 0, .int .u8 0, .int .u8 0, .int .u8 0, .int .u8 0, .int .u8 0, .int .u8 0] := rfl
  obtain ⟨w1, hw1⟩ : ∃ w1, w1 = w.alloc (.cells #[.int .u8 0, .int .u8 0, .int .u8 0, .int .u8 0, .int .u8 0, .int .u8 0, .int .u8 0, .int .u8 0, .int .u8 0, .int .u8 0, .int .u8 0, .int .u8 0, .int .u8 0, .int .u8 0, .int .u8 0, .int .u8 0, .int .u8 0, .int .u8 0, .int .u8 0, .int .u8 0, .int .u8 0, .int .u8 0, .int .u8 0, .int .u8 0, .int .u8 0, .int .u8 0, .int .u8 0, .int .u8 0, .int .u8 0, .int .u8 0, .int .u8 0, .int .u8 0] 50) := ⟨_, rfl⟩
  have b1 : Below w.heap.size w w1 := by rw [hw1]; exact below_alloc _ _
  have r1 : BArr w1 w.heap.size 50 zero32 := by rw [hw1, ← e0]; exact BArr.new _ _ _
  have HW := Lib.hid hw1
  have H1 := Lib.hid (And.intro b1 r1)
  clear hw1 b1 r1 e0
  have h1 := h.below H1.out.1
  have CT := Lib.hid (there_yes h1.made)
  have c1 := h1.size
  have c2 := h1.list
  have htr := h.trees
  have c20 := h.list
  have hcap := h1.cap
  have hnil := h1.nil
  rw [hmp] at c2 c20 htr hcap hm hmn
  rw [hpx] at h32 hlt hm htr
  have hmq : m = q + 1 := by rw [← hm, List.length_append, hq]; rfl
  subst hmq
  have htake : (pre ++ [x]).flatten.take (32 * q) = pre.flatten := by rw [flat_take h32, ← hq, List.take_left]
  have hnth : nth (pre ++ [x]).flatten q = x := nth_flatten _ h32 q x (by rw [← hq]; simp)
  have i1 : InS w A q pre.flatten := by rw [← htake]; exact htr.take (by omega)
  obtain ⟨ad, rfl, hxl, hat⟩ := htr.at_ (show q < q + 1 by omega)
  rw [hnth] at hxl hat
  have hTk := fun W => run_take_sums (ad := ad) (n := q + 1) (c := c) (k := q) (by omega) hcap W
  have CG := Lib.hid (fun (W : World) (hW : Below w.heap.size w1 W) => together_any (some ad) q c pre x W (i1.below (H1.out.1.trans hW)) hq (fun y hy => h32 y (List.mem_append_left _ hy)) (fun y hy => hlt y (List.mem_append_left _ hy)) hxl (hlt x (by simp)) (by omega) (hk.below (H1.out.1.trans hW)) (hs.below (H1.out.1.trans hW)))
  have hRl : (rt f 0 n).length = 32 := rt_length f 0 n fun j hj => by rw [Nat.zero_add]; exact hf.len j hj
  obtain ⟨R, hR⟩ : ∃ R, rt f 0 n = R := ⟨_, rfl⟩
  rw [hR] at htog hRl ⊢
  rw [htog] at CG
  have HAt := Lib.hid hat
  have HC2 := Lib.hid (fun (W : World) (hW : Below w.heap.size w1 W) => ((H1.out.1.trans hW).cell (World.block_lt_of_cell? w _ c20)).trans c20)
  have HTk := Lib.hid hTk
  have hnz : ((n : Int) == 0) = false := by simp; omega
  have hwq : IntKind.i64.wrap (q : Int) = (q : Int) := by rw [IntKind.wrap_i64]; omega
  have hsub : ((q + 1 : Nat) : Int) - 1 = (q : Int) := by omega
  have hsub2 : (q : Int) + 1 - 1 = (q : Int) := by omega
  have hst : ∀ W : World, BArr W w.heap.size 50 zero32 → (storeCells ⟨w.heap.size, 0, none⟩ (bvs R)).run Tryz.prog W = .ok () (W.setRow w.heap.size (bvs R).toArray) := fun W hW => by
    have := run_storeCells_from (P := Tryz.prog) w.heap.size 50 (bvs R) 0 _ W hW (by rw [bvs_length, hRl]; rfl) (bvs_oneCell R)
    simpa using this
  have hbR : (bvs R).length = 32 := by rw [bvs_length, hRl]
  have hsz1 := H1.out.2.lt
  have hnq : ¬ ((q : Int) + 1 ≤ (q : Int)) := by omega
  clear c20 h h1 hf h32 hlt hm hmn hpx htog hq hmp htr hcap hnil htake hnth i1 hat hTk hR
  unfold sv at CG
  go_enter Tryz.func55, Tryz.ntmps55
  go_upto_region 1 with fail
  rw [← HW.out]
  go_wp2_with fail
  refine CT.out.mono ?_
  rintro e w' ⟨rfl, e1⟩
  obtain rfl := e1.symm
  clear e1
  go_upto_region 6 with fail
  refine wp_region_held_drew (S := fun W => Below w.heap.size w1 W) (by kernel_rfl) ((Below.refl _ _).drew) (fun hS0 => ?_)
  change wpAnyH _ _ _ _ _ _ _ _ w1.drew
  refine' wpAnyH_take (i := 0) (oi := _) (v := _) ?hir0 (by kernel_rfl) ?hfr0 ?hrr0 ?hQr0 ?hyr0 hS0 ?restr0
  case hir0 => (simp only [List.getElem?_toArray, List.getElem?_cons_zero]; rfl)
  case hfr0 => kernel_rfl
  case hrr0 => kernel_rfl
  case hQr0 => exact fun _ _ _ h => h
  case hyr0 => refine Or.inl ⟨by rfl, ?_⟩; intro W hSw; go_simp; try with_reducible rfl
  try simp only [Act.put, List.setIfInBounds_toArray, List.set_cons_zero, List.set_cons_succ]
  refine' wpAnyH_take (i := 1) (oi := _) (v := _) ?hir1 (by kernel_rfl) ?hfr1 ?hrr1 ?hQr1 ?hyr1 hS0 ?restr1
  case hir1 => (simp only [List.getElem?_toArray, List.getElem?_cons_zero, List.getElem?_cons_succ]; rfl)
  case hfr1 => kernel_rfl
  case hrr1 => kernel_rfl
  case hQr1 => exact fun _ _ _ h => h
  case hyr1 => refine Or.inl ⟨by rfl, ?_⟩; intro W hSw; go_simp; try with_reducible rfl
  try simp only [Act.put, List.setIfInBounds_toArray, List.set_cons_zero, List.set_cons_succ]
  refine' wpAnyH_take (i := 2) (oi := _) (v := _) ?hir2 (by kernel_rfl) ?hfr2 ?hrr2 ?hQr2 ?hyr2 hS0 ?restr2
  case hir2 => (simp only [List.getElem?_toArray, List.getElem?_cons_zero, List.getElem?_cons_succ]; rfl)
  case hfr2 => kernel_rfl
  case hrr2 => kernel_rfl
  case hQr2 => exact fun _ _ _ h => h
  case hyr2 => refine Or.inl ⟨by rfl, ?_⟩; intro W hSw; go_simp; try with_reducible rfl
  try simp only [Act.put, List.setIfInBounds_toArray, List.set_cons_zero, List.set_cons_succ]
  refine' wpAnyH_take (i := 3) (oi := _) (v := .slice (some ad) (q + 1) c) ?hir3 (by kernel_rfl) ?hfr3 ?hrr3 ?hQr3 ?hyr3 hS0 ?restr3
  case hir3 => (simp only [List.getElem?_toArray, List.getElem?_cons_zero, List.getElem?_cons_succ]; rfl)
  case hfr3 => kernel_rfl
  case hrr3 => kernel_rfl
  case hQr3 => exact fun _ _ _ h => h
  case hyr3 => refine Or.inl ⟨by rfl, ?_⟩; intro W hSw; have hcc := HC2.out W hSw; go_simp; try with_reducible rfl
  try simp only [Act.put, List.setIfInBounds_toArray, List.set_cons_zero, List.set_cons_succ]
  refine' wpAnyH_take (i := 4) (oi := _) (v := _) ?hir4 (by kernel_rfl) ?hfr4 ?hrr4 ?hQr4 ?hyr4 hS0 ?restr4
  case hir4 => (simp only [List.getElem?_toArray, List.getElem?_cons_zero, List.getElem?_cons_succ]; rfl)
  case hfr4 => kernel_rfl
  case hrr4 => kernel_rfl
  case hQr4 => exact fun _ _ _ h => h
  case hyr4 => refine Or.inl ⟨by rfl, ?_⟩; intro W hSw; go_simp; try with_reducible rfl
  try simp only [Act.put, List.setIfInBounds_toArray, List.set_cons_zero, List.set_cons_succ]
  refine' wpAnyH_take (i := 5) (oi := _) (v := .slice (some ad) q c) ?hir5 (by kernel_rfl) ?hfr5 ?hrr5 ?hQr5 ?hyr5 hS0 ?restr5
  case hir5 => (simp only [List.getElem?_toArray, List.getElem?_cons_zero, List.getElem?_cons_succ]; rfl)
  case hfr5 => kernel_rfl
  case hrr5 => kernel_rfl
  case hQr5 => exact fun _ _ _ h => h
  case hyr5 => refine yields_high (by rfl) _ _ rfl rfl rfl ?_; exact HTk.out
  try simp only [Act.put, List.setIfInBounds_toArray, List.set_cons_zero, List.set_cons_succ]
  refine' wpAnyH_take (i := 6) (oi := _) (v := _) ?hir6 (by kernel_rfl) ?hfr6 ?hrr6 ?hQr6 ?hyr6 hS0 ?restr6
  case hir6 => (simp only [List.getElem?_toArray, List.getElem?_cons_zero, List.getElem?_cons_succ]; rfl)
  case hfr6 => kernel_rfl
  case hrr6 => kernel_rfl
  case hQr6 => exact fun _ _ _ h => h
  case hyr6 => refine Or.inl ⟨by rfl, ?_⟩; intro W hSw; go_simp; try with_reducible rfl
  try simp only [Act.put, List.setIfInBounds_toArray, List.set_cons_zero, List.set_cons_succ]
  refine' wpAnyH_take (i := 7) (oi := _) (v := _) ?hir7 (by kernel_rfl) ?hfr7 ?hrr7 ?hQr7 ?hyr7 hS0 ?restr7
  case hir7 => (simp only [List.getElem?_toArray, List.getElem?_cons_zero, List.getElem?_cons_succ]; rfl)
  case hfr7 => kernel_rfl
  case hrr7 => kernel_rfl
  case hQr7 => exact fun _ _ _ h => h
  case hyr7 => refine Or.inl ⟨by rfl, ?_⟩; intro W hSw; go_simp; try with_reducible rfl
  try simp only [Act.put, List.setIfInBounds_toArray, List.set_cons_zero, List.set_cons_succ]
  refine' wpAnyH_take (i := 8) (oi := _) (v := _) ?hir8 (by kernel_rfl) ?hfr8 ?hrr8 ?hQr8 ?hyr8 hS0 ?restr8
  case hir8 => (simp only [List.getElem?_toArray, List.getElem?_cons_zero, List.getElem?_cons_succ]; rfl)
  case hfr8 => kernel_rfl
  case hrr8 => kernel_rfl
  case hQr8 => exact fun _ _ _ h => h
  case hyr8 => refine Or.inl ⟨by rfl, ?_⟩; intro W hSw; go_simp; try with_reducible rfl
  try simp only [Act.put, List.setIfInBounds_toArray, List.set_cons_zero, List.set_cons_succ]
  refine' wpAnyH_take (i := 9) (oi := _) (v := .slice (some ad) (q + 1) c) ?hir9 (by kernel_rfl) ?hfr9 ?hrr9 ?hQr9 ?hyr9 hS0 ?restr9
  case hir9 => (simp only [List.getElem?_toArray, List.getElem?_cons_zero, List.getElem?_cons_succ]; rfl)
  case hfr9 => kernel_rfl
  case hrr9 => kernel_rfl
  case hQr9 => exact fun _ _ _ h => h
  case hyr9 => refine Or.inl ⟨by rfl, ?_⟩; intro W hSw; have hcc := HC2.out W hSw; go_simp; try with_reducible rfl
  try simp only [Act.put, List.setIfInBounds_toArray, List.set_cons_zero, List.set_cons_succ]
  refine' wpAnyH_take (i := 10) (oi := _) (v := _) ?hir10 (by kernel_rfl) ?hfr10 ?hrr10 ?hQr10 ?hyr10 hS0 ?restr10
  case hir10 => (simp only [List.getElem?_toArray, List.getElem?_cons_zero, List.getElem?_cons_succ]; rfl)
  case hfr10 => kernel_rfl
  case hrr10 => kernel_rfl
  case hQr10 => exact fun _ _ _ h => h
  case hyr10 => refine Or.inl ⟨by rfl, ?_⟩; intro W hSw; go_simp; try with_reducible rfl
  try simp only [Act.put, List.setIfInBounds_toArray, List.set_cons_zero, List.set_cons_succ]
  refine' wpAnyH_take (i := 11) (oi := _) (v := .pointer (some (ad.add (q * 32)))) ?hir11 (by kernel_rfl) ?hfr11 ?hrr11 ?hQr11 ?hyr11 hS0 ?restr11
  case hir11 => (simp only [List.getElem?_toArray, List.getElem?_cons_zero, List.getElem?_cons_succ]; rfl)
  case hfr11 => kernel_rfl
  case hrr11 => kernel_rfl
  case hQr11 => exact fun _ _ _ h => h
  case hyr11 => refine Or.inl ⟨by rfl, ?_⟩; intro W hSw; go_simp; try with_reducible rfl
  try simp only [Act.put, List.setIfInBounds_toArray, List.set_cons_zero, List.set_cons_succ]
  refine' wpAnyH_take (i := 12) (oi := _) (v := sv x) ?hir12 (by kernel_rfl) ?hfr12 ?hrr12 ?hQr12 ?hyr12 hS0 ?restr12
  case hir12 => (simp only [List.getElem?_toArray, List.getElem?_cons_zero, List.getElem?_cons_succ]; rfl)
  case hfr12 => kernel_rfl
  case hrr12 => kernel_rfl
  case hQr12 => exact fun _ _ _ h => h
  case hyr12 => refine yields_sum ?_ (.tmp 33) rfl (ad.add (q * 32)) rfl x hxl (fun W hSw => HAt.out.below (H1.out.1.trans hSw)); rfl
  try simp only [Act.put, List.setIfInBounds_toArray, List.set_cons_zero, List.set_cons_succ]
  refine wpAnyH_ready (rs := [13]) (by kernel_rfl) (by simp) ?_
  refine' AllReadyH.cons (o := _) ?hir13 (fun K hK => ?_) AllReadyH.nil
  case hir13 => (simp only [List.getElem?_toArray, List.getElem?_cons_zero, List.getElem?_cons_succ]; rfl)
  go_simp
  go_at_call 125
  refine (CG.out _ hS0).mono ?_
  rintro e W4 ⟨rfl, hb4⟩
  have hB4 : Below w.heap.size w1 W4 := hS0.trans (hb4.mono (Nat.le_trans (Nat.le_of_lt hsz1) hS0.size))
  have hf7 : BArr W4 w.heap.size 50 zero32 := H1.out.2.below (below_on (Below.refl _ _).drew (Nat.le_refl _) hb4)
  refine hK.out _ _ hB4 (fun _ => ?_)
  clear hK K
  try simp only [Act.put, List.setIfInBounds_toArray, List.set_cons_zero, List.set_cons_succ]
  refine wpAnyH_ready (rs := [14]) (by kernel_rfl) (by simp) ?_
  refine' AllReadyH.cons (o := _) ?hir14 (fun K hK => ?_) AllReadyH.nil
  case hir14 => (simp only [List.getElem?_toArray, List.getElem?_cons_zero, List.getElem?_cons_succ]; rfl)
  go_simp
  refine hK.out _ _ (below_setRow hB4 (Nat.le_refl _) _) (fun _ => ?_)
  clear hK K
  refine wpAnyH_done (by kernel_rfl) ?_ _
  go_wp2
  refine bodyPost_ret_by (results_cell_row (p := 2) (ty := 50) (by kernel_rfl) _ _ w.heap.size 50 (bvs R).toArray (0, 0) _ rfl (hf7.setRow _) Tryz.underlying50 rfl (by rw [List.size_toArray, bvs_length, hRl]; exact sizeSum)) rfl ?_
  exact ⟨rfl, below_setRow (H1.out.1.trans hB4) (Nat.le_refl _) _⟩

theorem root_front {w : World} {g : Nat} {f : Nat → List Nat} {n : Nat} (h : Front w g f n) (hf : Sums32 f n) (hn : n < 1000000) (hk : Knows w) (hs : Starts w) :
    Calls Tryz.prog 55 #[.pointer (some ⟨g, 0, none⟩)] w fun e w' => e = .returned (sv (rt f 0 n)) ∧ Below w.heap.size w w' := by
  by_cases h0 : n = 0
  · subst h0; exact root_none_front h hk hs
  · exact root_some_front h hf (by omega) hn hk hs

end Go.Proofs.YtnaebjdccngeoaaGreatDoor

/-
  A front, and blocks in which none of its trees lie.
-/
namespace Go.Proofs.YtnaebjdccngeoaaGreatDoor
open Go.RowKit

theorem sums_of {w : World} {A : Option Addr} {n : Nat} {ys : List Nat} (h : InS w A n ys) (hx : ∀ x ∈ ys, x < 256) : Sums32 (nth ys) n := ⟨fun _ hj => nth_length h.len hj, fun j _ => nth_lt hx j⟩

/-- A front none of whose trees lie in these blocks. -/
def FrontC (W : World) (g : Nat) (f : Nat → List Nat) (n : Nat) (S : Nat → Prop) : Prop := ∃ A c, FrontAt W g f n A c ∧ ∀ ad, A = some ad → ad.block < W.heap.size ∧ ¬ S ad.block
theorem FrontC.front {W : World} {g : Nat} {f : Nat → List Nat} {n : Nat} {S : Nat → Prop} (h : FrontC W g f n S) : Front W g f n := by
  obtain ⟨A, c, h, _⟩ := h
  exact ⟨A, c, h⟩
theorem FrontC.lt {W : World} {g : Nat} {f : Nat → List Nat} {n : Nat} {S : Nat → Prop} (h : FrontC W g f n S) : g < W.heap.size := h.front.lt
theorem FrontC.row {W : World} {g : Nat} {f : Nat → List Nat} {n : Nat} {S : Nat → Prop} (h : FrontC W g f n S) : ∃ cs, W.heap[g]? = some (.cells cs 121 (0, 0)) := by
  obtain ⟨A, c, h, _⟩ := h
  exact ⟨_, h.row⟩
theorem FrontC.keep {W W' : World} {g : Nat} {f : Nat → List Nat} {n : Nat} {S S' : Nat → Prop} (h : FrontC W g f n S) (hg : W'.heap[g]? = W.heap[g]?) (hsz : W.heap.size ≤ W'.heap.size)
    (hb : ∀ b, b < W.heap.size → ¬ S b → W'.heap[b]? = W.heap[b]?) (hS : ∀ b, b < W.heap.size → ¬ S b → ¬ S' b) : FrontC W' g f n S' := by
  obtain ⟨A, c, h, hc⟩ := h
  exact ⟨A, c, h.keep hg (fun ad e => hb _ (hc ad e).1 (hc ad e).2), fun ad e => ⟨Nat.lt_of_lt_of_le (hc ad e).1 hsz, hS _ (hc ad e).1 (hc ad e).2⟩⟩
theorem FrontC.congr {W : World} {g : Nat} {f f' : Nat → List Nat} {n : Nat} {S : Nat → Prop} (h : FrontC W g f n S) (hf : ∀ j, j < n → f j = f' j) : FrontC W g f' n S := by
  obtain ⟨A, c, h, hc⟩ := h
  refine ⟨A, c, ⟨h.row, ?_, h.cap, h.nil, h.off⟩, hc⟩
  have e := fr_congr f f' n 0 0 fun j hj => by rw [Nat.zero_add]; exact hf j hj
  rw [← e]
  exact h.trees

set_option maxRecDepth 100000 in
set_option maxHeartbeats 1000000 in
theorem new_front_at (f : Nat → List Nat) (w : World) : Calls Tryz.prog 44 #[] w fun e w' => e = .returned (.pointer (some ⟨w.heap.size, 0, none⟩)) ∧ FrontAt w' w.heap.size f 0 none 0 ∧ Below w.heap.size w w' := by
  go_enter Tryz.func44, Tryz.ntmps44
  go_wp2
  go_ret
  refine ⟨rfl, ⟨by rw [pop_zero]; exact World.alloc_heap_new w _, ?_, by rw [pop_zero]; exact Nat.le_refl _, fun _ => rfl, fun ad e => by cases e⟩, below_alloc w _⟩
  rw [fr_nil, pop_zero]
  exact InS.none_ _ _

theorem own_ne {W : World} {base g n : Nat} {v : Value} {xs : List Value} {cs : Array Value} (h : W.ownsRow base 50 32 v n xs) (hg : W.heap[g]? = some (.cells cs 121 (0, 0))) : v.ownBlock ≠ some g := by
  intro e
  rcases h.2 with ⟨e1, _⟩ | ⟨g', cap, cur, e1, _, hg', _⟩
  · rw [e1] at e; cases e
  · rw [e1] at e
    cases e
    rw [hg'] at hg
    cases hg
theorem own_blocks {w w' : World} {base : Nat} {e : TypeId} {size : Nat} {v : Value} {n : Nat} {xs : List Value} (h : w.ownsRow base e size v n xs) (hb : ∀ k, v.ownBlock = some k → w'.heap[k]? = w.heap[k]?) : w'.ownsRow base e size v n xs := by
  refine ⟨h.1, ?_⟩
  rcases h.2 with ⟨e1, h0⟩ | ⟨g, cap, cur, e1, h1, hg, h2⟩
  · exact .inl ⟨e1, h0⟩
  · exact .inr ⟨g, cap, cur, e1, h1, (hb g (by rw [e1]; rfl)).trans hg, h2⟩

end Go.Proofs.YtnaebjdccngeoaaGreatDoor

/-
  Lists of lists of one length, one behind the other; rows of such elements in memory. No function of the program is named here.
-/
namespace Go.Proofs.YtnaebjdccngeoaaGreatDoor
open Go.RowKit

section
variable {α : Type} {m : Nat} {L : List (List α)}
theorem chunk_len (h : ∀ s ∈ L, s.length = m) : L.flatten.length = L.length * m := by
  induction L with
  | nil => simp
  | cons s L ih =>
    rw [List.flatten_cons, List.length_append, ih (fun x hx => h x (by simp [hx])), h s (by simp), List.length_cons, Nat.add_mul]
    omega
theorem chunk_get (h : ∀ s ∈ L, s.length = m) {k j : Nat} {s : List α} (hk : L[k]? = some s) (hj : j < m) : L.flatten[k * m + j]? = s[j]? := by
  induction L generalizing k with
  | nil => simp at hk
  | cons t L ih =>
    have ht : t.length = m := h t (by simp)
    rw [List.flatten_cons]
    cases k with
    | zero =>
      simp at hk
      subst hk
      rw [Nat.zero_mul, Nat.zero_add, List.getElem?_append_left (by omega)]
    | succ k =>
      have e : (k + 1) * m = m + k * m := by rw [Nat.add_mul]; omega
      rw [e, List.getElem?_append_right (by omega), ht, show m + k * m + j - m = k * m + j by omega]
      exact ih (fun x hx => h x (by simp [hx])) (by simpa using hk)
theorem chunk_set (h : ∀ s ∈ L, s.length = m) {k : Nat} {z : List α} (hk : k < L.length) (hz : z.length = m) : splice L.flatten (k * m) z = (L.set k z).flatten := by
  induction L generalizing k with
  | nil => simp at hk
  | cons t L ih =>
    have ht : t.length = m := h t (by simp)
    cases k with
    | zero =>
      rw [List.set_cons_zero, List.flatten_cons, List.flatten_cons, splice, Nat.zero_mul, List.take_zero, List.nil_append, Nat.zero_add, hz, List.drop_left' ht]
    | succ k =>
      have e : (k + 1) * m = m + k * m := by rw [Nat.add_mul]; omega
      rw [List.set_cons_succ, List.flatten_cons, List.flatten_cons, ← ih (fun x hx => h x (by simp [hx])) (by simpa using hk)]
      simp only [splice]
      rw [e, List.take_append, ht, show m + k * m - m = k * m by omega, List.take_of_length_le (by omega), List.drop_append, ht, List.drop_of_length_le (by omega), show m + k * m + z.length - m = k * m + z.length by omega]
      simp
theorem take_spliceC {xs : List α} {o n : Nat} {z : List α} (h : o + z.length ≤ n) (hn : n ≤ xs.length) : (splice xs o z).take n = splice (xs.take n) o z := by
  apply List.ext_getElem?
  intro i
  rw [List.getElem?_take]
  simp only [splice]
  have hl : (xs.take o).length = o := by rw [List.length_take]; omega
  have hl2 : ((xs.take n).take o).length = o := by rw [List.length_take, List.length_take]; omega
  split
  · rename_i hi
    by_cases h1 : i < o
    · rw [List.getElem?_append_left (by omega), List.getElem?_append_left (by omega), List.getElem?_take, List.getElem?_take, List.getElem?_take, if_pos h1, if_pos h1, if_pos hi]
    · rw [List.getElem?_append_right (l₁ := xs.take o) (by omega), List.getElem?_append_right (l₁ := (xs.take n).take o) (by omega), hl, hl2]
      by_cases h2 : i - o < z.length
      · rw [List.getElem?_append_left h2, List.getElem?_append_left h2]
      · rw [List.getElem?_append_right (by omega), List.getElem?_append_right (by omega), List.getElem?_drop, List.getElem?_drop, List.getElem?_take, if_pos (by omega)]
  · rename_i hi
    symm
    rw [List.getElem?_eq_none]
    simp only [List.length_append, List.length_take, List.length_drop]
    omega
end

theorem setCells_heap (g : Nat) (T : TypeId) (vs : List Value) : ∀ (w : World) (cur : List Value) (o : Nat), w.heap[g]? = some (.cells cur.toArray T (0, 0)) → o + vs.length ≤ cur.length →
    (w.setCells g o vs).heap[g]? = some (.cells (splice cur o vs).toArray T (0, 0)) := by
  induction vs with
  | nil => intro w cur o h _; simp [World.setCells, splice, h]
  | cons v vs ih =>
    intro w cur o h hl
    rw [List.length_cons] at hl
    have e := heap_setCell_same w g o _ T v h
    rw [List.setIfInBounds_toArray] at e
    rw [World.setCells, ih _ _ _ e (by rw [List.length_set]; omega)]
    have hlt : (cur.take o).length = o := by rw [List.length_take]; omega
    have e1 : cur.set o v = cur.take o ++ v :: cur.drop (o + 1) := by rw [List.set_eq_take_append_cons_drop, if_pos (by omega)]
    have e2 : (cur.take o ++ v :: cur.drop (o + 1)).take (o + 1) = cur.take o ++ [v] := by
      rw [List.take_append, hlt, List.take_of_length_le (by omega), show o + 1 - o = 1 by omega]
      rfl
    have e3 : (cur.take o ++ v :: cur.drop (o + 1)).drop (o + 1 + vs.length) = cur.drop (o + (vs.length + 1)) := by
      rw [List.drop_append, hlt, List.drop_of_length_le (by omega), List.nil_append, show o + 1 + vs.length - o = vs.length + 1 by omega, List.drop_succ_cons, List.drop_drop, show o + 1 + vs.length = o + (vs.length + 1) by omega]
    rw [splice, splice, e1, e2, e3, List.length_cons, List.append_assoc]
    rfl
theorem setCells_grown (g : Nat) (vs : List Value) : ∀ (w : World) (o : Nat), w.grownBy (w.setCells g o vs) (some g) := by
  induction vs with
  | nil => intro w o; exact ⟨rfl, rfl, rfl, Nat.le_refl _, fun _ _ _ => rfl⟩
  | cons v vs ih =>
    intro w o
    rw [World.setCells]
    have h := ih (w.setCell ⟨g, o, none⟩ v) (o + 1)
    have hs : (w.setCell ⟨g, o, none⟩ v).heap.size = w.heap.size := by simp [World.setCell]
    exact ⟨h.os, h.tape, h.output, by have := h.size; omega, fun k hk hne => (h.block k (by omega) hne).trans (heap_setCell_other w ⟨g, o, none⟩ k v (fun e => hne (by rw [e])))⟩
theorem setCells_size (g : Nat) (vs : List Value) : ∀ (w : World) (o : Nat), (w.setCells g o vs).heap.size = w.heap.size := by
  induction vs with
  | nil => intro w o; rfl
  | cons v vs ih => intro w o; rw [World.setCells, ih]; simp [World.setCell]
theorem setCell_grown (w : World) (b i : Nat) (v : Value) : w.grownBy (w.setCell ⟨b, i, none⟩ v) (some b) :=
  ⟨rfl, rfl, rfl, by simp [World.setCell], fun k _ hk => heap_setCell_other w ⟨b, i, none⟩ k v (fun e => hk (by rw [e]))⟩

/-! ### Rows of elements of m cells each -/
section
variable {w w' : World} {base : Nat} {e : TypeId} {m n c g : Nat} {L : List (List Value)}
theorem own_block {v : Value} {xs : List Value} (h : w.ownsRow base e m v n xs) (hb : ∀ b, v.ownBlock = some b → w'.heap[b]? = w.heap[b]?) : w'.ownsRow base e m v n xs := by
  refine ⟨h.1, ?_⟩
  rcases h.2 with h0 | ⟨g, cap, cur, e1, r0, r1, r2⟩
  · exact .inl h0
  · exact .inr ⟨g, cap, cur, e1, r0, (hb g (by rw [e1]; rfl)).trans r1, r2⟩
theorem own_base {v : Value} {xs : List Value} (h : w.ownsRow base e m v n xs) : w.ownsRow 0 e m v n xs := by
  refine ⟨h.1, ?_⟩
  rcases h.2 with h0 | ⟨g, cap, cur, e1, r0, r1, r2⟩
  · exact .inl h0
  · exact .inr ⟨g, cap, cur, e1, Nat.zero_le _, r1, r2⟩
theorem own_rebase {v : Value} {xs : List Value} (h : w.ownsRow base e m v n xs) {base' : Nat} (hb : ∀ b, v.ownBlock = some b → base' ≤ b) : w.ownsRow base' e m v n xs := by
  refine ⟨h.1, ?_⟩
  rcases h.2 with h0 | ⟨g, cap, cur, e1, r0, r1, r2⟩
  · exact .inl h0
  · exact .inr ⟨g, cap, cur, e1, hb g (by rw [e1]; rfl), r1, r2⟩
theorem own_lt {v : Value} {xs : List Value} (h : w.ownsRow base e m v n xs) {b : Nat} (hb : v.ownBlock = some b) : b < w.heap.size := by
  rcases h.2 with ⟨rfl, _⟩ | ⟨g, cap, cur, rfl, r0, r1, r2⟩
  · cases hb
  · cases hb; exact (Array.getElem?_eq_some_iff.1 r1).1
theorem own_type {v : Value} {xs : List Value} (h : w.ownsRow base e m v n xs) {b : Nat} (hb : v.ownBlock = some b) : ∃ cur, w.heap[b]? = some (.cells cur e (0, 0)) := by
  rcases h.2 with ⟨rfl, _⟩ | ⟨g, cap, cur, rfl, r0, r1, r2⟩
  · cases hb
  · cases hb; exact ⟨cur, r1⟩
theorem own_range (h : w.ownsRow base e m (.slice (some ⟨g, 0, none⟩) n c) n L.flatten) (hm : ∀ s ∈ L, s.length = m) (hn : L.length = n) {k : Nat} {s : List Value} (hk : L[k]? = some s) : w.rangeAt g (k * m) s := by
  rcases h.2 with ⟨e1, _⟩ | ⟨g, cap, cur, e1, _, hg, _, _, hs, ht⟩
  · cases e1
  · cases e1
    intro j v hv
    have hj : j < m := by have := (List.getElem?_eq_some_iff.1 hv).1; rwa [hm s (List.mem_of_getElem? hk)] at this
    have hk' := (List.getElem?_eq_some_iff.1 hk).1
    have hlt : k * m + j < n * m := by
      have : (k + 1) * m ≤ n * m := Nat.mul_le_mul_right m (by omega)
      rw [Nat.add_mul] at this
      omega
    have h1 := chunk_get hm hk hj
    rw [← ht, List.getElem?_take, if_pos hlt, hv] at h1
    rw [cell_of_row _ g _ _ e (0, 0) hg, ← Array.getElem?_toList]
    exact h1
theorem own_there (h : w.ownsRow base e m (.slice (some ⟨g, 0, none⟩) n c) n L.flatten) {k : Nat} (hk : k < n) : w.there g (k * m) m := by
  rcases h.2 with ⟨e1, _⟩ | ⟨g, cap, cur, e1, _, hg, hc, _, hs, ht⟩
  · cases e1
  · cases e1
    intro j hj
    have hlt : k * m + j < c * m := by
      have : (k + 1) * m ≤ c * m := Nat.mul_le_mul_right m (by omega)
      rw [Nat.add_mul] at this
      omega
    refine ⟨?_, frozen_of_row w g _ _ e hg⟩
    rw [cell_of_row _ g _ _ e (0, 0) hg, Array.getElem?_eq_getElem (by omega)]
    rfl
theorem own_setC (h : w.ownsRow base e m (.slice (some ⟨g, 0, none⟩) n c) n L.flatten) (hm : ∀ s ∈ L, s.length = m) (hn : L.length = n) {k : Nat} (hk : k < n) {z : List Value} (hz : z.length = m) :
    (w.setCells g (k * m) z).ownsRow base e m (.slice (some ⟨g, 0, none⟩) n c) n (L.set k z).flatten := by
  have h0 := h.1
  rcases h.2 with ⟨e1, _⟩ | ⟨g, cap, cur, e1, hb, hg, hc, hx, hs, ht⟩
  · cases e1
  · cases e1
    have hfit : k * m + m ≤ n * m := by
      have : (k + 1) * m ≤ n * m := Nat.mul_le_mul_right m (by omega)
      rwa [Nat.add_mul, Nat.one_mul] at this
    have hnc : n * m ≤ c * m := Nat.mul_le_mul_right m hc
    have hlen : cur.toList.length = c * m := by rw [Array.length_toList, hs]
    have hg' : w.heap[g]? = some (.cells cur.toList.toArray e (0, 0)) := by simpa using hg
    have hH := setCells_heap g e z w cur.toList (k * m) hg' (by omega)
    have hset := chunk_set hm (k := k) (by omega) hz
    refine ⟨?_, .inr ⟨g, c, _, rfl, hb, hH, hc, hx, ?_, ?_⟩⟩
    · rw [← hset, length_splice _ _ _ (by rw [h0]; omega), h0]
    · rw [List.size_toArray, length_splice _ _ _ (by omega), hlen]
    · rw [← hset, ← ht]
      exact take_spliceC (by omega) (by omega)
end

/-! ### Loads of whole elements in a region that draws -/
theorem still_load_mid {ops : Array Oper} {o : Oper} {a : Act} {w : World} {K : Act → Prop} {E : Prop} (hgd : o.guard = none) (ty : TypeId) (x : Operand) (ho : o.op = .load ty x)
    (b off : Nat) (hx : a.eval x = .pointer (some ⟨b, off, none⟩)) (cs : List Value) (d : TypeDesc) (hc : w.rangeAt b off cs)
    (hu : Tryz.prog.underlying ty = some d) (hd : d.isRow = true) (hi : (Tryz.prog.info? ty).map (·.size) = some cs.length) (h : K (a.put o.dst (.agg cs.toArray))) :
    if Region.wanted o (yielded ops a.tmps) = true then o.still Tryz.prog a w K else E := by
  have hw : Region.wanted o (yielded ops a.tmps) = true := by simp [Region.wanted, hgd]
  rw [if_pos hw]
  have hr : (execOp a.eval o).run Tryz.prog w = .ok (.value (.agg cs.toArray)) w := by
    unfold execOp
    simp only [ho, hx, Instr.loadAt, Instr.sureAddr, Sem.run_bind, Sem.run_pure, Result.andThen_ok, run_loadVar_mid w b off ty cs d hc hu hd hi]
  unfold Oper.still
  rw [hr, Oper.stillUpon_value]
  exact h

end Go.Proofs.YtnaebjdccngeoaaGreatDoor

/-
  A chain: what it is, and where it lies; what asks whether it is there, how many entries it has.
-/
namespace Go.Proofs.YtnaebjdccngeoaaGreatDoor
open Go.RowKit

/-- An entry as cells: its leaf's sum, the mark of all up to it, its content. -/
def ecell (s m : List Nat) (u : Value) : List Value := bvs s ++ bvs m ++ [u]
theorem ecell_length {s m : List Nat} (hs : s.length = 32) (hm : m.length = 32) (u : Value) : (ecell s m u).length = 65 := by
  rw [ecell, List.length_append, List.length_append, bvs_length, bvs_length, hs, hm]; rfl

/-- Block g is a chain of the entries l; its front is block gf, whose trees lie at fA; its entries are v. -/
structure ChainAt (w : World) (g gf : Nat) (fA : Option Addr) (fc : Nat) (v : Value) (E : List (List Value)) (G : Nat → Prop) (l : List (List Nat)) : Prop where
  head : w.heap[g]? = some (.cells #[.pointer (some ⟨gf, 0, none⟩), v] 85 (0, 0))
  front : FrontAt w gf (lf l) l.length fA fc
  row : w.ownsRow 0 92 65 v l.length E.flatten
  len : E.length = l.length
  ent : ∀ (k : Nat) (b : List Nat), l[k]? = some b → ∃ u, E[k]? = some (ecell (leafL b) (markL (l.take (k + 1))) u) ∧ w.ownsRow 0 5 1 u b.length (bvs b) ∧ ∀ x, u.ownBlock = some x → G x
  gg : G g
  gfr : G gf
  ga : ∀ ad, fA = some ad → G ad.block
  gv : ∀ x, v.ownBlock = some x → G x
  ok : ∀ b ∈ l, b.length ≤ 16384 ∧ ∀ x ∈ b, x < 256
  gt_ : ∀ ad, fA = some ad → ad.block ≠ g ∧ v.ownBlock ≠ some ad.block
/-- Block g is a chain of the entries l, that lies in blocks of G. -/
def Chain (w : World) (g : Nat) (G : Nat → Prop) (l : List (List Nat)) : Prop := (∃ gf fA fc v E, ChainAt w g gf fA fc v E G l) ∧ ∀ x, G x → x < w.heap.size

theorem hblock_ne {w : World} {a b : Nat} {x y : Array Value} {t u : TypeId} {f f' : Nat × Nat} (ha : w.heap[a]? = some (.cells x t f)) (hb : w.heap[b]? = some (.cells y u f')) (h : t ≠ u) : a ≠ b := by
  rintro rfl
  rw [ha] at hb
  cases hb
  exact h rfl
theorem tne_ce : 85 ≠ 92 := by decide
theorem tne_cb : 85 ≠ 5 := by decide
theorem tne_cf : 85 ≠ 121 := by decide
theorem tne_fe : 121 ≠ 92 := by decide
theorem tne_fb : 121 ≠ 5 := by decide
theorem tne_eb : 92 ≠ 5 := by decide

section
variable {w w' : World} {g gf fc : Nat} {fA : Option Addr} {v : Value} {E : List (List Value)} {G : Nat → Prop} {l : List (List Nat)}
theorem ChainAt.c0 (h : ChainAt w g gf fA fc v E G l) : w.cell? ⟨g, 0, none⟩ = some (.pointer (some ⟨gf, 0, none⟩)) := by rw [cell_of_row _ g 0 _ _ (0, 0) h.head]; rfl
theorem ChainAt.c1 (h : ChainAt w g gf fA fc v E G l) : w.cell? ⟨g, 1, none⟩ = some v := by rw [cell_of_row _ g 1 _ _ (0, 0) h.head]; rfl
theorem ChainAt.fz (h : ChainAt w g gf fA fc v E G l) (i : Nat) : w.frozen? ⟨g, i, none⟩ = false := frozen_of_row _ g i _ _ h.head
theorem ChainAt.lt (h : ChainAt w g gf fA fc v E G l) : g < w.heap.size := (Array.getElem?_eq_some_iff.1 h.head).1
theorem ChainAt.e65 (h : ChainAt w g gf fA fc v E G l) : ∀ s ∈ E, s.length = 65 := by
  intro s hs
  obtain ⟨k, hk, rfl⟩ := List.mem_iff_getElem.1 hs
  have hkl : k < l.length := by rw [← h.len]; exact hk
  obtain ⟨u, hu, _⟩ := h.ent k _ (List.getElem?_eq_getElem hkl)
  rw [List.getElem?_eq_getElem hk] at hu
  rw [Option.some.inj hu]
  exact ecell_length (leafL_length _) (markL_length _) _
theorem ChainAt.blocks (h : ChainAt w g gf fA fc v E G l) (hb : ∀ x, G x → w'.heap[x]? = w.heap[x]?) : ChainAt w' g gf fA fc v E G l :=
  ⟨(hb g h.gg).trans h.head, h.front.keep (hb gf h.gfr) (fun ad e => hb _ (h.ga ad e)), own_block h.row (fun x hx => hb x (h.gv x hx)), h.len,
    fun k b hk => by
      obtain ⟨u, hu, ho, hG⟩ := h.ent k b hk
      exact ⟨u, hu, own_block ho (fun x hx => hb x (hG x hx)), hG⟩, h.gg, h.gfr, h.ga, h.gv, h.ok, h.gt_⟩
theorem Chain.lt (h : Chain w g G l) : g < w.heap.size := by obtain ⟨⟨gf, fA, fc, v, E, h⟩, _⟩ := h; exact h.lt
theorem Chain.mem (h : Chain w g G l) : G g := by obtain ⟨⟨gf, fA, fc, v, E, h⟩, _⟩ := h; exact h.gg
theorem Chain.ok (h : Chain w g G l) : ∀ b ∈ l, b.length ≤ 16384 ∧ ∀ x ∈ b, x < 256 := by obtain ⟨⟨gf, fA, fc, v, E, h⟩, _⟩ := h; exact h.ok
/-- What leaves the blocks of a chain alone leaves the chain. -/
theorem Chain.but {S : Nat → Prop} (h : Chain w g G l) (hb : But S w w') (hd : ∀ x, G x → ¬ S x) : Chain w' g G l := by
  obtain ⟨⟨gf, fA, fc, v, E, h⟩, hl⟩ := h
  exact ⟨⟨gf, fA, fc, v, E, h.blocks (fun x hx => hb.block x (hl x hx) (hd x hx))⟩, fun x hx => Nat.lt_of_lt_of_le (hl x hx) hb.size⟩
theorem Chain.below (h : Chain w g G l) (hb : Below w.heap.size w w') : Chain w' g G l := h.but (S := fun _ => False) (But.of_below hb) (fun _ _ hf => hf)
theorem ChainAt.mono {G' : Nat → Prop} (h : ChainAt w g gf fA fc v E G l) (hG : ∀ x, G x → G' x) : ChainAt w g gf fA fc v E G' l :=
  ⟨h.head, h.front, h.row, h.len, fun k b hk => by
    obtain ⟨u, hu, ho, hx⟩ := h.ent k b hk
    exact ⟨u, hu, ho, fun x e => hG x (hx x e)⟩, hG _ h.gg, hG _ h.gfr, fun ad e => hG _ (h.ga ad e), fun x e => hG _ (h.gv x e), h.ok, h.gt_⟩
theorem ChainAt.below (h : ChainAt w g gf fA fc v E G l) (hG : ∀ x, G x → x < w.heap.size) (hb : Below w.heap.size w w') : ChainAt w' g gf fA fc v E G l := h.blocks fun x hx => hb.block x (hG x hx)
theorem ChainAt.frontF (h : ChainAt w g gf fA fc v E G l) : Front w gf (lf l) l.length := ⟨_, _, h.front⟩
theorem lf32 (l : List (List Nat)) (n : Nat) : Sums32 (lf l) n := ⟨fun j _ => lf_length l j, fun j _ => lf_lt l j⟩
/-- An entry's cells. -/
theorem ChainAt.range (h : ChainAt w g gf fA fc v E G l) {k : Nat} {b : List Nat} (hk : l[k]? = some b) :
    ∃ ge c u, v = .slice (some ⟨ge, 0, none⟩) l.length c ∧ l.length ≤ c ∧ w.rangeAt ge (k * 65) (ecell (leafL b) (markL (l.take (k + 1))) u) ∧ w.ownsRow 0 5 1 u b.length (bvs b) := by
  obtain ⟨u, hu, ho, _⟩ := h.ent k b hk
  have hr := h.row
  have hkl := (List.getElem?_eq_some_iff.1 hk).1
  rcases hr.2 with ⟨e1, h0⟩ | ⟨ge, cap, cur, e1, h1, hg, h2, h3⟩
  · omega
  · rw [e1] at hr
    exact ⟨ge, cap, u, e1, h2, own_range hr h.e65 h.len hu, ho⟩
theorem ecell_at {w : World} {ge o : Nat} {s m : List Nat} {u : Value} (h : w.rangeAt ge o (ecell s m u)) (hs : s.length = 32) (hm : m.length = 32) :
    At w ⟨ge, o, none⟩ s ∧ At w ⟨ge, o + 32, none⟩ m ∧ w.cell? ⟨ge, o + 64, none⟩ = some u := by
  have l1 : (bvs s).length = 32 := by rw [bvs_length, hs]
  have l2 : (bvs s ++ bvs m).length = 64 := by rw [List.length_append, bvs_length, bvs_length, hs, hm]
  have ad : ∀ o j, (⟨ge, o, none⟩ : Addr).add j = ⟨ge, o + j, none⟩ := fun o j => by unfold Addr.add; split <;> simp_all
  refine ⟨fun j x hj => ?_, fun j x hj => ?_, ?_⟩
  · rw [ad]
    have hlt := (List.getElem?_eq_some_iff.1 hj).1
    refine h j _ ?_
    rw [ecell, List.getElem?_append_left (by rw [l2]; omega), List.getElem?_append_left (by rw [l1]; omega), bvs_get, hj]
    rfl
  · rw [ad]
    have hlt := (List.getElem?_eq_some_iff.1 hj).1
    rw [show o + 32 + j = o + (32 + j) by omega]
    refine h (32 + j) _ ?_
    rw [ecell, List.getElem?_append_left (by rw [l2]; omega), List.getElem?_append_right (by rw [l1]; omega), l1, show 32 + j - 32 = j by omega, bvs_get, hj]
    rfl
  · refine h 64 _ ?_
    rw [ecell, List.getElem?_append_right (by rw [l2]; omega), l2]
    rfl

set_option maxRecDepth 100000 in
theorem hthere_at (h : ChainAt w g gf fA fc v E G l) : Calls Tryz.prog 45 #[.pointer (some ⟨g, 0, none⟩)] w fun e w' => e = .returned (.bool true) ∧ w' = w := by
  have c0 := h.c0
  clear h
  go_enter Tryz.func45, Tryz.ntmps45
  go_wp2
  go_ret
  exact ⟨rfl, rfl⟩

set_option maxRecDepth 100000 in
theorem hsize_at (h : ChainAt w g gf fA fc v E G l) : Calls Tryz.prog 11 #[.pointer (some ⟨g, 0, none⟩)] w fun e w' => e = .returned (.int .u64 (l.length : Int)) ∧ w' = w := by
  have C := Lib.hid (hthere_at h)
  have D := Lib.hid (size_front h.frontF)
  have c0 := h.c0
  clear h
  go_enter Tryz.func11, Tryz.ntmps11
  go_wp2_with fail
  refine C.out.mono ?_
  rintro e w' ⟨rfl, rfl⟩
  go_wp2_with fail
  refine D.out.mono ?_
  rintro e w' ⟨rfl, rfl⟩
  go_wp2_with fail
  go_ret
  exact ⟨rfl, rfl⟩

/-- The error of what is asked of the first n. -/
def hasE (l : List (List Nat)) (n : Nat) : Int := if n ≤ l.length then 0 else 1

set_option maxRecDepth 100000 in
theorem hhas_at (h : ChainAt w g gf fA fc v E G l) (n : Nat) : Calls Tryz.prog 54 #[.pointer (some ⟨g, 0, none⟩), .int .u64 (n : Int)] w fun e w' => e = .returned (.int .i64 (hasE l n)) ∧ w' = w := by
  have C := Lib.hid (hthere_at h)
  have D := Lib.hid (hsize_at h)
  clear h
  unfold hasE
  by_cases hn : n ≤ l.length
  · have hi : ¬ ((l.length : Int) < (n : Int)) := by omega
    rw [if_pos hn]
    go_enter Tryz.func54, Tryz.ntmps54
    go_wp2_with fail
    refine C.out.mono ?_
    rintro e w' ⟨rfl, rfl⟩
    go_wp2_with fail
    refine D.out.mono ?_
    rintro e w' ⟨rfl, rfl⟩
    go_wp2_with fail
    go_ret
    exact ⟨rfl, rfl⟩
  · have hi : (l.length : Int) < (n : Int) := by omega
    rw [if_neg hn]
    go_enter Tryz.func54, Tryz.ntmps54
    go_wp2_with fail
    refine C.out.mono ?_
    rintro e w' ⟨rfl, rfl⟩
    go_wp2_with fail
    refine D.out.mono ?_
    rintro e w' ⟨rfl, rfl⟩
    go_wp2_with fail
    go_ret
    exact ⟨rfl, rfl⟩
end

set_option maxRecDepth 100000 in
set_option maxHeartbeats 1000000 in
theorem new_chain (w : World) : Calls Tryz.prog 6 #[] w fun e w' => ∃ g, e = .returned (.pointer (some ⟨g, 0, none⟩)) ∧ Below w.heap.size w w' ∧ Chain w' g (fun x => w.heap.size ≤ x ∧ x < w'.heap.size) [] := by
  go_enter Tryz.func6, Tryz.ntmps6
  go_wp2_with fail
  refine (new_front_at (lf []) w).mono ?_
  rintro e w1 ⟨rfl, hf, hb⟩
  have HF := Lib.hid (And.intro hf hb)
  clear hf hb
  go_wp2_with fail
  go_ret
  have hb2 := below_on HF.out.2 (Nat.le_refl _) (below_alloc w1 (.cells #[.pointer (some ⟨w.heap.size, 0, none⟩), .slice none 0 0] 85))
  have sz : w.heap.size ≤ w1.heap.size := HF.out.2.size
  have sz2 : (w1.alloc (.cells #[.pointer (some ⟨w.heap.size, 0, none⟩), .slice none 0 0] 85)).heap.size = w1.heap.size + 1 := World.size_alloc _ _
  refine ⟨w1.heap.size, rfl, hb2, ⟨w.heap.size, none, 0, .slice none 0 0, [], World.alloc_heap_new w1 _, HF.out.1.below (below_alloc w1 _), ⟨rfl, .inl ⟨rfl, rfl⟩⟩, rfl, fun k b hk => by simp at hk, ⟨sz, by rw [sz2]; omega⟩, ⟨Nat.le_refl _, by rw [sz2]; have := HF.out.1.lt; omega⟩, fun ad e => (by cases e), fun x e => (by cases e), fun b hb => (by simp at hb), fun ad e => (by cases e)⟩, fun x hx => hx.2⟩

end Go.Proofs.YtnaebjdccngeoaaGreatDoor

/-
  A sum stored in a variable, loaded, in a region that draws its order.
-/
namespace Go.Proofs.YtnaebjdccngeoaaGreatDoor
open Go.RowKit

theorem step_store_sum {o : Oper} {a : Act} {w : World} {K : Act → World → Prop} {Q : Exit → Act → World → Prop} (x y : Operand) (ho : o.op = .store 50 x y)
    (g : Nat) (hx : a.eval x = .pointer (some ⟨g, 0, none⟩)) {T : TypeId} (xs ys : List Nat) (hl : xs.length = 32) (hl' : ys.length = 32) (hc : BArr w g T xs) (hy : a.eval y = sv ys)
    (h : K (a.put o.dst undef) (w.setRow g (bvs ys).toArray)) : Oper.wp Tryz.prog o a w K Q := by
  have hr := run_storeVar_row (P := Tryz.prog) w g T 50 (bvs xs).toArray (bvs ys).toArray hc (by rw [List.size_toArray, bvs_length, hl']; exact sizeSum) (by rw [List.size_toArray, bvs_length, hl, List.size_toArray, bvs_length, hl']) (all_oneCell_toArray (bvs_oneCell ys))
  unfold Oper.wp execOp
  simp only [ho, hx, hy, sv, Instr.storeAt, Instr.sureAddr, Sem.run_bind, Sem.run_pure, Result.andThen_ok, hr]
  exact h

theorem run_at_sum {o : Oper} {a : Act} {w : World} (x : Operand) (ho : o.op = .load 50 x) (ad : Addr) (hx : a.eval x = .pointer (some ad)) (s : List Nat) (hl : s.length = 32) (hc : At w ad s) :
    (execOp a.eval o).run Tryz.prog w = .ok (.value (sv s)) w := by
  unfold execOp
  simp only [ho, hx, Instr.loadAt, Instr.sureAddr, Sem.run_bind, Sem.run_pure, Result.andThen_ok, run_load_sum w ad s hl hc]

end Go.Proofs.YtnaebjdccngeoaaGreatDoor

/-
  A list of sums that a call answers, of its own; a list of one sum.
-/
namespace Go.Proofs.YtnaebjdccngeoaaGreatDoor
open Go.RowKit

/-- '[]api.Sum{s}' in a plain region. -/
theorem wpList_one_sum {ops : Array Oper} {rest : List Oper} {o : Oper} {a : Act} {w : World} {Q : Exit → Act → World → Prop} (hgd : o.guard = none) (parts : Array (Nat × Operand)) (s : List Nat) (ho : o.op = .buildSlice 53 1 parts)
    (hx : (parts.map fun (i, x) => (i, a.eval x)).toList = [(0, sv s)]) (hl : s.length = 32)
    (h : wpList Tryz.prog ops Q rest (a.put o.dst (.slice (some ⟨w.heap.size, 0, none⟩) 1 1)) (w.alloc (.cells (bvs s).toArray 50))) : wpList Tryz.prog ops Q (o :: rest) a w := by
  refine wpList_plain hgd fun K hK => ?_
  refine wp_sums parts [s] 1 ho rfl hx (by intro x hx'; rw [List.mem_singleton.1 hx']; exact hl) (by omega) (by omega) ?_
  rw [show [s].flatten = s by simp]
  exact hK _ _ h

/-- A call has answered a list of d sums of its own, whose bytes are xs. -/
def GivesS (base : Nat) (w : World) (d : Nat) (xs : List Nat) (e : Ending) (w' : World) : Prop :=
  ∃ A' c', e = .returned (.slice A' d c') ∧ w'.ownsRow base 50 32 (.slice A' d c') d (bvs xs) ∧ Below base w w'

end Go.Proofs.YtnaebjdccngeoaaGreatDoor

/-
  chains: mark, first.
-/
namespace Go.Proofs.YtnaebjdccngeoaaGreatDoor
open Go.RowKit

/-- A whole value into the block that was made last. -/
theorem wpList_store_freshE {ops : Array Oper} {rest : List Oper} {o : Oper} {a : Act} {Q : Exit → Act → World → Prop} (hgd : o.guard = none) (w : World) (t : TypeId) (c c' : Array Value) (x y : Operand) (ho : o.op = .store t x y)
    (hx : a.eval x = .pointer (some ⟨w.heap.size, 0, none⟩)) (hy : a.eval y = .agg c') (hi : (Tryz.prog.info? t).map (·.size) = some c'.size) (hs : c.size = c'.size) (h1 : c'.all (·.oneCell') = true)
    (h : wpList Tryz.prog ops Q rest (a.put o.dst undef) (w.alloc (.cells c' t))) : wpList Tryz.prog ops Q (o :: rest) a (w.alloc (.cells c t)) := by
  refine wpList_plain hgd fun K hK => ?_
  unfold Oper.wp execOp
  simp only [ho, hx, hy, run_storeAt_new w t c c' hi hs h1, Sem.run_bind, Sem.run_pure, Result.andThen_ok]
  exact hK _ _ h

/-- 'firsts{s}'. -/
theorem wpList_one_first {ops : Array Oper} {rest : List Oper} {o : Oper} {a : Act} {w : World} {Q : Exit → Act → World → Prop} (hgd : o.guard = none) (parts : Array (Nat × Operand)) (s : List Nat) (ho : o.op = .buildSlice 97 1 parts)
    (hx : (parts.map fun (i, x) => (i, a.eval x)).toList = [(0, sv s)]) (hl : s.length = 32)
    (h : wpList Tryz.prog ops Q rest (a.put o.dst (.slice (some ⟨w.heap.size, 0, none⟩) 1 1)) (w.alloc (.cells (bvs s).toArray 50))) : wpList Tryz.prog ops Q (o :: rest) a w := by
  refine wpList_plain hgd fun K hK => ?_
  obtain ⟨i0, hi, hz0, hz1, hz2⟩ := info_parts infoSum
  refine wp_buildSlice 97 50 1 parts ho (bvs s).toArray i0 _ Tryz.underlying97 hi hz0 (by rw [hz1]; omega) (by rw [hz1]; omega) ?_ (hK _ _ h)
  rw [hx, hz1]
  have := fill_all [s] [] ((Array.range (1 * 32)).map ((Value.agg (Array.replicate 32 (.int .u8 0))).cells[· % (Value.agg (Array.replicate 32 (.int .u8 0))).cells.size]!)).toList 0 (by intro x hx'; rw [List.mem_singleton.1 hx']; exact hl) (by simp) rfl
  rw [List.nil_append, Array.toArray_toList, List.nil_append] at this
  rw [show [s].flatten = s by simp] at this
  exact this

/-- append to a list of firsts of the call's own. -/
theorem run_fapp (w : World) (ty : TypeId) (base : Nat) (A : Option Addr) (n c : Nat) (xs : List Nat) (hown : w.ownsRow base 50 32 (.slice A n c) n (bvs xs))
    (ad : Addr) (m c2 : Nat) (ys : List Nat) (hin : InS w (some ad) m ys) (hle : n + m ≤ 1000000000) (hbase : base ≤ w.heap.size) :
    ∃ A' c' w', (Builtin.append_ #[97, 97] ty #[.slice A n c, .slice (some ad) m c2]).run Tryz.prog w = .ok (.slice A' (n + m) c') w' ∧
      w'.ownsRow base 50 32 (.slice A' (n + m) c') (n + m) (bvs (xs ++ ys)) ∧ Next w w' (.slice A n c) (.slice A' (n + m) c') := by
  obtain ⟨i0, hi, hz0, hz1, hz2⟩ := info_parts infoSum
  obtain ⟨v', w', hr, h2, h3, _, h5⟩ := run_append_own_at (P := Tryz.prog) (w := w) base 97 ty 50 i0 _ 32 32 Tryz.underlying97 hi hz0 hz1 hz2 rfl (by decide) _ n (bvs xs) hown ad m c2 (bvs ys) (by rw [bvs_length, hin.len]; omega)
    (fun j u hu => by
      rw [bvs_get] at hu
      obtain ⟨y, hy, rfl⟩ := Option.map_eq_some_iff.1 hu
      obtain ⟨ad', e, hc⟩ := hin.rd j y hy
      cases e
      exact hc) (bvs_oneCell ys) (by unfold maxLen; omega) (by omega) hbase
  rw [← bvs_append] at h2
  obtain ⟨A', c', rfl⟩ := own_formS h2
  exact ⟨A', c', w', hr, h2, h3, h5⟩
theorem wpList_fapp {ops : Array Oper} {rest : List Oper} {o : Oper} {a : Act} {Q : Exit → Act → World → Prop} (w : World) (hgd : o.guard = none) (s x : Operand)
    (ho : o.op = .call { callee := .builtin .append, args := #[s, x], argTypes := #[97, 97] })
    (base : Nat) (A : Option Addr) (n c : Nat) (xs : List Nat) (hs : a.eval s = .slice A n c) (hown : w.ownsRow base 50 32 (.slice A n c) n (bvs xs))
    (ad : Addr) (m c2 : Nat) (ys : List Nat) (hx : a.eval x = .slice (some ad) m c2) (hin : InS w (some ad) m ys) (hle : n + m ≤ 1000000000) (hbase : base ≤ w.heap.size)
    (h : ∀ A' c' w', w'.ownsRow base 50 32 (.slice A' (n + m) c') (n + m) (bvs (xs ++ ys)) → Next w w' (.slice A n c) (.slice A' (n + m) c') → wpList Tryz.prog ops Q rest (a.put o.dst (.slice A' (n + m) c')) w') :
    wpList Tryz.prog ops Q (o :: rest) a w := by
  refine wpList_plain hgd fun K hK => ?_
  obtain ⟨A', c', w', hr, h2, h3⟩ := run_fapp w o.type base A n c xs hown ad m c2 ys hin hle hbase
  unfold Oper.wp execOp
  simp only [ho, resolve, invoke, builtin, Sem.run_bind, Sem.run_pure, Result.andThen_ok, List.map_toArray, List.map_cons, List.map_nil, hs, hx, hr]
  exact hK _ _ (h A' c' w' h2 h3)

theorem take_snoc_of' {α : Type} {xs : List α} {j : Nat} {x : α} (h : xs[j]? = some x) : xs.take (j + 1) = xs.take j ++ [x] := by rw [List.take_add_one, h]; rfl
theorem infoEnt : (Tryz.prog.info? 92).map (fun i => (i.zero, i.size, i.bytes)) = some (some (Value.agg ((bvs (List.replicate 64 0)) ++ [Value.slice none 0 0]).toArray), 65, 88) := by kernel_rfl
theorem sizeEnt : (Tryz.prog.info? 92).map (·.size) = some 65 := by kernel_rfl
theorem ecell_one {s m : List Nat} {u : Value} (hu : u.oneCell' = true) : ∀ x ∈ ecell s m u, x.oneCell' = true := by
  intro x hx
  rcases List.mem_append.1 hx with hx | hx
  · rcases List.mem_append.1 hx with hx | hx
    · exact bvs_oneCell _ x hx
    · exact bvs_oneCell _ x hx
  · rw [List.mem_singleton.1 hx]; exact hu
theorem own_oneCell {w : World} {base : Nat} {e : TypeId} {size : Nat} {v : Value} {n : Nat} {xs : List Value} (h : w.ownsRow base e size v n xs) : v.oneCell' = true := by
  rcases h.2 with ⟨rfl, _⟩ | ⟨g, cap, cur, rfl, _⟩ <;> rfl

section
variable {w w' : World} {g gf fc : Nat} {fA : Option Addr} {v : Value} {E : List (List Value)} {G : Nat → Prop} {l : List (List Nat)}

set_option maxRecDepth 100000 in
set_option maxHeartbeats 1000000 in
theorem hmark_in (h : ChainAt w g gf fA fc v E G l) {n : Nat} (hn : n ≤ l.length) (hl : l.length ≤ 65536) :
    Calls Tryz.prog 47 #[.pointer (some ⟨g, 0, none⟩), .int .u64 (n : Int)] w fun e w' => e = .returned (sv (markL (l.take n))) ∧ Below w.heap.size w w' := by
  have r0 : BArr (w.alloc (.cells #[.int .u8 0, .int .u8 0, .int .u8 0, .int .u8 0, .int .u8 0, .int .u8 0, .int .u8 0, .int .u8 0, .int .u8 0, .int .u8 0, .int .u8 0, .int .u8 0, .int .u8 0, .int .u8 0, .int .u8 0, .int .u8 0, .int .u8 0, .int .u8 0, .int .u8 0, .int .u8 0, .int .u8 0, .int .u8 0, .int .u8 0, .int .u8 0, .int .u8 0, .int .u8 0, .int .u8 0, .int .u8 0, .int .u8 0, .int .u8 0, .int .u8 0, .int .u8 0] 50)) w.heap.size 50 zero32 := BArr.new w _ zero32
  by_cases h0 : n = 0
  · subst h0
    have hg1 : (w.alloc (.cells #[.int .u8 0, .int .u8 0, .int .u8 0, .int .u8 0, .int .u8 0, .int .u8 0, .int .u8 0, .int .u8 0, .int .u8 0, .int .u8 0, .int .u8 0, .int .u8 0, .int .u8 0, .int .u8 0, .int .u8 0, .int .u8 0, .int .u8 0, .int .u8 0, .int .u8 0, .int .u8 0, .int .u8 0, .int .u8 0, .int .u8 0, .int .u8 0, .int .u8 0, .int .u8 0, .int .u8 0, .int .u8 0, .int .u8 0, .int .u8 0, .int .u8 0, .int .u8 0] 50)).heap[w.heap.size]? = some (.cells #[.int .u8 0, .int .u8 0, .int .u8 0, .int .u8 0, .int .u8 0, .int .u8 0, .int .u8 0, .int .u8 0, .int .u8 0, .int .u8 0, .int .u8 0, .int .u8 0, .int .u8 0, .int .u8 0, .int .u8 0, .int .u8 0, .int .u8 0, .int .u8 0, .int .u8 0, .int .u8 0, .int .u8 0, .int .u8 0, .int .u8 0, .int .u8 0, .int .u8 0, .int .u8 0, .int .u8 0, .int .u8 0, .int .u8 0, .int .u8 0, .int .u8 0, .int .u8 0] 50 (0, 0)) := World.alloc_heap_new w _
    obtain ⟨w1, hw1⟩ : ∃ w1, w1 = w.alloc (.cells #[.int .u8 0, .int .u8 0, .int .u8 0, .int .u8 0, .int .u8 0, .int .u8 0, .int .u8 0, .int .u8 0, .int .u8 0, .int .u8 0, .int .u8 0, .int .u8 0, .int .u8 0, .int .u8 0, .int .u8 0, .int .u8 0, .int .u8 0, .int .u8 0, .int .u8 0, .int .u8 0, .int .u8 0, .int .u8 0, .int .u8 0, .int .u8 0, .int .u8 0, .int .u8 0, .int .u8 0, .int .u8 0, .int .u8 0, .int .u8 0, .int .u8 0, .int .u8 0] 50) := ⟨_, rfl⟩
    have b1 : Below w.heap.size w w1 := by rw [hw1]; exact below_alloc _ _
    rw [← hw1] at hg1
    have H1 := Lib.hid (And.intro b1 hg1)
    have HW := Lib.hid hw1
    clear h r0 hw1 b1 hg1
    go_enter Tryz.func47, Tryz.ntmps47
    go_upto_region 1 with fail
    rw [← HW.out]
    have HZ32 := Lib.hid (show zero32.length = 32 from rfl)
    go_wp2_with (with_reducible refine wpList_store_nought rfl (.tmp 4) (.tmp 7) rfl w.heap.size rfl H1.out.2 rfl ?_; intro w4 r4 o4)
    refine bodyPost_ret_by (results_cell_row (p := 4) (ty := 50) (by kernel_rfl) _ _ w.heap.size 50 (bvs zero32).toArray (0, 0) _ rfl r4 Tryz.underlying50 rfl sizeSum) rfl ?_
    exact ⟨rfl, Only.below H1.out.1 (Nat.le_refl _) (Nat.le_refl _) o4⟩
  · obtain ⟨k, rfl⟩ : ∃ k, n = k + 1 := ⟨n - 1, by omega⟩
    obtain ⟨b, hb⟩ : ∃ b, l[k]? = some b := ⟨_, List.getElem?_eq_getElem (by omega)⟩
    obtain ⟨ge, c, u, hv, hc, hr, _⟩ := h.range hb
    obtain ⟨_, hm, _⟩ := ecell_at hr (leafL_length _) (markL_length _)
    have hml := markL_length (l.take (k + 1))
    obtain ⟨m, hme⟩ : ∃ m, markL (l.take (k + 1)) = m := ⟨_, rfl⟩
    rw [hme] at hm hml ⊢
    obtain ⟨L, hL⟩ : ∃ L, l.length = L := ⟨_, rfl⟩
    rw [hL] at hn hc hv hl
    have c1 := h.c1
    rw [hv] at c1
    have hgl := h.lt
    obtain ⟨w1, hw1⟩ : ∃ w1, w1 = w.alloc (.cells #[.int .u8 0, .int .u8 0, .int .u8 0, .int .u8 0, .int .u8 0, .int .u8 0, .int .u8 0, .int .u8 0, .int .u8 0, .int .u8 0, .int .u8 0, .int .u8 0, .int .u8 0, .int .u8 0, .int .u8 0, .int .u8 0, .int .u8 0, .int .u8 0, .int .u8 0, .int .u8 0, .int .u8 0, .int .u8 0, .int .u8 0, .int .u8 0, .int .u8 0, .int .u8 0, .int .u8 0, .int .u8 0, .int .u8 0, .int .u8 0, .int .u8 0, .int .u8 0] 50) := ⟨_, rfl⟩
    have b1 : Below w.heap.size w w1 := by rw [hw1]; exact below_alloc _ _
    rw [← hw1] at r0
    have HM := Lib.hid (And.intro (hm.below b1) (And.intro r0 b1))
    have d1 : w1.cell? ⟨g, 1, none⟩ = some (.slice (some ⟨ge, 0, none⟩) L c) := (b1.cell hgl).trans c1
    have HW := Lib.hid hw1
    clear h hb hv hr hm c1 r0 hw1 b1 hme hL
    go_enter Tryz.func47, Tryz.ntmps47
    go_upto_region 1 with fail
    rw [← HW.out]
    have HZ32 := Lib.hid (show zero32.length = 32 from rfl)
    have f1 := HM.out.2.1
    have hA := Lib.hid HM.out.1
    go_wp2_with (first
      | (with_reducible refine wpList_load_sum rfl (.tmp 16) rfl ⟨ge, k * 65 + 32, none⟩ rfl m hml hA.out ?_)
      | (with_reducible refine wpList_store_sum rfl (.tmp 4) (.tmp 17) rfl w.heap.size rfl zero32 m HZ32 hml f1 rfl ?_))
    refine bodyPost_ret_by (results_cell_row (p := 4) (ty := 50) (by kernel_rfl) _ _ w.heap.size 50 (bvs m).toArray (0, 0) _ rfl (f1.setRow _) Tryz.underlying50 rfl (by rw [List.size_toArray, bvs_length, hml]; exact sizeSum)) rfl ?_
    exact ⟨rfl, below_setRow HM.out.2.2 (Nat.le_refl _) _⟩

/-- The first n of the entries. -/
theorem hcut_at (h : ChainAt w g gf fA fc v E G l) {n : Nat} (hn : n ≤ l.length) :
    ∃ B c, (∀ W : World, (Instr.slice 83 v none (some (.int .u64 (n : Int))) none).run Tryz.prog W = .ok (.slice B n c) W) ∧ n ≤ c ∧
      ∀ k b, k < n → l[k]? = some b → ∃ ge u, B = some ⟨ge, 0, none⟩ ∧ w.rangeAt ge (k * 65) (ecell (leafL b) (markL (l.take (k + 1))) u) ∧ u.oneCell' = true := by
  have he : Tryz.prog.elem 83 = 92 := by kernel_rfl
  obtain ⟨i0, hi, hz0, hz1, hz2⟩ := info_parts infoEnt
  rcases h.row.2 with ⟨e1, e2⟩ | ⟨ge, cap, cur, e1, h1, hg, h2, h3⟩
  · subst e1
    obtain rfl : n = 0 := by omega
    refine ⟨none, 0, fun W => ?_, Nat.le_refl _, fun k b hk _ => by omega⟩
    rw [run_slice_h W 83 none 0 0 (by rw [he]; exact Tryz.underlying83) .u64 ((0 : Nat) : Int) (by omega) (by omega), he]
    simp [sizeOf, typeInfo, hi, hz1, sliced]
  · subst e1
    refine ⟨some ⟨ge, 0, none⟩, cap, fun W => ?_, by omega, fun k b hk hb => ?_⟩
    · rw [run_slice_h W 83 (some ⟨ge, 0, none⟩) l.length cap (by rw [he]; exact Tryz.underlying83) .u64 (n : Int) (by omega) (by omega), he]
      simp [sizeOf, typeInfo, hi, hz1, sliced, add_zero']
    · obtain ⟨ge', c', u, hv, _, hr, ho⟩ := h.range hb
      cases hv
      exact ⟨ge, u, rfl, hr, own_oneCell ho⟩

set_option maxRecDepth 100000 in
set_option maxHeartbeats 2000000 in
theorem hfirst_at (h : ChainAt w g gf fA fc v E G l) {n : Nat} (hn : n ≤ l.length) (hl : l.length ≤ 65536) :
    Calls Tryz.prog 56 #[.pointer (some ⟨g, 0, none⟩), .int .u64 (n : Int)] w fun e w' => ∃ A c, e = .returned (.slice A n c) ∧ w'.ownsRow w.heap.size 50 32 (.slice A n c) n (bvs (leavesL (l.take n))) ∧ Below w.heap.size w w' := by
  obtain ⟨i0, hi, hz0, hz1, hz2⟩ := info_parts infoSum
  obtain ⟨w1, hmk, hmo, hgr⟩ := run_make_own (P := Tryz.prog) w w.heap.size 97 50 i0 _ 32 Tryz.underlying97 hi hz0 hz1 .i64 .u64 n (by rw [hz2]; omega) (by unfold maxLen; omega) (Nat.le_refl _)
  have b1 : Below w.heap.size w w1 := (Below.refl _ w).grown hgr (Nat.le_refl _) (fun k e => by cases e)
  obtain ⟨B, cB, hcut, hnc, hent⟩ := hcut_at h hn
  have c1 : w1.cell? ⟨g, 1, none⟩ = some v := (b1.cell h.lt).trans h.c1
  have hlen : ∀ k, k < n → ∃ b, l[k]? = some b := fun k hk => ⟨_, List.getElem?_eq_getElem (by omega)⟩
  have HE := Lib.hid (And.intro hent hlen)
  have HM := Lib.hid (And.intro hmo b1)
  have n6 : n ≤ 65536 := by omega
  clear h hent hlen hmo b1 hgr hn hl hi hz0 hz1 hz2
  go_enter Tryz.func56, Tryz.ntmps56
  go_wp2_with fail
  go_loopw [5, 17] (fun f i wr => ∃ (j : Nat) (A : Option Addr) (c : Nat), j ≤ n ∧ i = .int .i64 (j : Int) ∧ f = .slice A j c ∧ wr.ownsRow w.heap.size 50 32 (.slice A j c) j (bvs (leavesL (l.take j))) ∧ Below w.heap.size w wr) (fun _ i _ => n - (intOf i).toNat)
  case atStart => exact ⟨0, _, n, Nat.zero_le _, rfl, rfl, by rw [List.take_zero]; exact HM.out.1, HM.out.2⟩
  case round =>
    obtain ⟨j, A, c, hj, rfl, rfl, ho, hb⟩ := hrel
    have HR := Lib.hid (And.intro ho hb)
    clear ho hb
    by_cases hjn : j < n
    · obtain ⟨b, hbl⟩ := HE.out.2 j hjn
      obtain ⟨ge, u, rfl, hr, hu⟩ := HE.out.1 j b hjn hbl
      have hji : (j : Int) < (n : Int) := by omega
      obtain ⟨s, hs⟩ : ∃ s, leafL b = s := ⟨_, rfl⟩
      have hsl : s.length = 32 := by rw [← hs]; exact leafL_length b
      have htk : leavesL (l.take (j + 1)) = leavesL (l.take j) ++ s := by rw [take_snoc_of' hbl, leavesL_snoc, hs]
      rw [hs] at hr
      obtain ⟨m, hm⟩ : ∃ m, markL (l.take (j + 1)) = m := ⟨_, rfl⟩
      have hml : m.length = 32 := by rw [← hm]; exact markL_length _
      rw [hm] at hr
      obtain ⟨X, hX⟩ : ∃ X, ecell s m u = X := ⟨_, rfl⟩
      have hXl : X.length = 65 := by rw [← hX]; exact ecell_length hsl hml u
      have hX1 : X.toArray.all (·.oneCell') = true := all_oneCell_toArray (by rw [← hX]; exact ecell_one hu)
      rw [hX] at hr
      have hr2 : wr.rangeAt ge (j * 65) X := fun q x hq => (HR.out.2.cell (World.block_lt_of_cell? w _ (hr q x hq))).trans (hr q x hq)
      have hat : At (wr.alloc (.cells X.toArray 92)) ⟨wr.heap.size, 0, none⟩ s := by
        have h0 : (wr.alloc (.cells X.toArray 92)).rangeAt wr.heap.size 0 (ecell s m u) := fun q x hq => by
          rw [Nat.zero_add, cell_of_row _ _ q _ _ (0, 0) (World.alloc_heap_new wr _), List.getElem?_toArray, ← hX]
          exact hq
        exact (ecell_at h0 hsl hml).1
      have hin1 : InS ((wr.alloc (.cells X.toArray 92)).alloc (.cells (bvs s).toArray 50)) (some ⟨wr.heap.size + 1, 0, none⟩) 1 s := by
        have h0 := In.new' (wr.alloc (.cells X.toArray 92)) s 50
        rw [World.size_alloc] at h0
        exact ⟨by rw [hsl], h0.rd⟩
      have ho2 := own_on HR.out.1 ((below_alloc wr (.cells X.toArray 92)).alloc (by rw [World.size_alloc]; omega) (.cells (bvs s).toArray 50))
      have hb2 := below_on HR.out.2 (Nat.le_refl _) ((below_alloc wr (.cells X.toArray 92)).alloc (by rw [World.size_alloc]; omega) (.cells (bvs s).toArray 50))
      have HX := Lib.hid (And.intro hr2 (And.intro (show (Tryz.prog.info? 92).map (·.size) = some X.length by rw [hXl]; exact sizeEnt) (And.intro (show (Tryz.prog.info? 92).map (·.size) = some X.toArray.size by rw [List.size_toArray, hXl]; exact sizeEnt) (And.intro (show Tryz.zeroCells92.size = X.toArray.size by rw [show Tryz.zeroCells92.size = 65 by kernel_rfl, List.size_toArray, hXl]) hX1))))
      have HA := Lib.hid (And.intro hat (And.intro hin1 (And.intro ho2 (And.intro hb2 htk))))
      clear hr hr2 hu hs hm hX hXl hX1 hat hin1 ho2 hb2 htk hml
      have hsz : wr.heap.size + 1 = (wr.alloc (.cells X.toArray 92)).heap.size := (World.size_alloc _ _).symm
      have HS := Lib.hid hsz
      clear hsz
      go_wp2_with (first
        | (with_reducible refine wpList_load_mid rfl 92 (.tmp 19) rfl ge (j * 65) rfl X _ HX.out.1 Tryz.underlying92 rfl HX.out.2.1 ?_)
        | (with_reducible refine wpList_store_freshE rfl wr 92 _ X.toArray (.tmp 7) (.tmp 20) rfl rfl rfl HX.out.2.2.1 HX.out.2.2.2.1 HX.out.2.2.2.2 ?_)
        | (with_reducible refine wpList_load_sum rfl (.tmp 23) rfl ⟨wr.heap.size, 0, none⟩ rfl s hsl HA.out.1 ?_)
        | (refine wpList_one_first rfl _ s rfl (by simp <;> rfl) hsl ?_; rw [← HS.out])
        | (at_builtin; refine wpList_fapp _ rfl (.tmp 21) (.tmp 25) rfl w.heap.size A j c (leavesL (l.take j)) rfl HA.out.2.2.1 ⟨wr.heap.size + 1, 0, none⟩ 1 1 s rfl HA.out.2.1 (by omega) HA.out.2.2.2.1.size ?_; intro A2 c2 w2 ho2 hn2; have HN := Lib.hid (And.intro ho2 hn2); clear ho2 hn2))
      go_roundw
      case rel =>
        have ho2 := HN.out.1
        rw [← HA.out.2.2.2.2] at ho2
        exact ⟨j + 1, A2, c2, by omega, by go_num, rfl, ho2, HN.out.2.below HA.out.2.2.1 HA.out.2.2.2.1 (Nat.le_refl _) HA.out.2.2.2.1.size⟩
      case measure => simp [intOf]; omega
    · obtain rfl : j = n := by omega
      go_wp2_with fail
      go_ret
      exact ⟨A, c, rfl, HR.out.1, HR.out.2⟩
end

end Go.Proofs.YtnaebjdccngeoaaGreatDoor

/-
  'sums{leaf, mark}', 'entry{sums, content}' as values.
-/
namespace Go.Proofs.YtnaebjdccngeoaaGreatDoor
open Go.RowKit

/-- Two parts, one behind the other, that are all of a value. -/
theorem fill_two (pl : Nat → Option (Nat × Nat)) {m k : Nat} {a b : Value} {l1 l2 : List Value} {cells : Array Value} (h0 : pl 0 = some (0, m)) (h1 : pl 1 = some (m, k)) (ha : a.cells = l1.toArray) (hb : b.cells = l2.toArray)
    (hm : l1.length = m) (hk : l2.length = k) (hc : cells.size = m + k) : Instr.fill pl cells [(0, a), (1, b)] = some (l1 ++ l2).toArray := by
  obtain ⟨cs, hcs⟩ : ∃ cs, cells = List.toArray cs := ⟨cells.toList, by simp⟩
  subst hcs
  rw [List.size_toArray] at hc
  have e1 := vfold l1 [] (cs.take m) (cs.drop m) 0 0 (by rw [List.length_take, hm]; omega) rfl
  rw [List.nil_append, List.nil_append, List.take_append_drop] at e1
  have e2 := vfold l2 l1 (cs.drop m) [] m 0 (by rw [List.length_drop, hk]; omega) (by rw [hm]; rfl)
  rw [List.append_nil, List.append_nil] at e2
  have f1 : (l1.toArray.zipIdx.foldl (fun (c : Array Value) (x : Value × Nat) => c.setIfInBounds (0 + x.2) x.1) cs.toArray) = (l1 ++ cs.drop m).toArray := by
    rw [← Array.foldl_toList]
    have : l1.toArray.zipIdx.toList = l1.zipIdx 0 := by simp
    rw [this]
    exact e1
  have f2 : (l2.toArray.zipIdx.foldl (fun (c : Array Value) (x : Value × Nat) => c.setIfInBounds (m + x.2) x.1) (l1 ++ cs.drop m).toArray) = (l1 ++ l2).toArray := by
    rw [← Array.foldl_toList]
    have : l2.toArray.zipIdx.toList = l2.zipIdx 0 := by simp
    rw [this]
    exact e2
  have c1 : ¬ ((l1.toArray.size ≠ m || decide (0 + l1.toArray.size > cs.toArray.size)) = true) := by
    simp only [List.size_toArray, hm, hc]
    simp
  have c2 : ¬ ((l2.toArray.size ≠ k || decide (m + l2.toArray.size > (l1 ++ cs.drop m).toArray.size)) = true) := by
    simp only [List.size_toArray, List.length_append, List.length_drop, hm, hk, hc]
    simp
  rw [Instr.fill]
  simp only [h0, ha]
  rw [if_neg c1]
  have g1 : Instr.fill pl (l1.toArray.zipIdx.foldl (fun (c : Array Value) (x : Value × Nat) => c.setIfInBounds (0 + x.2) x.1) cs.toArray) [(1, b)] = some (l1 ++ l2).toArray := by
    rw [f1, Instr.fill]
    simp only [h1, hb]
    rw [if_neg c2]
    exact congrArg some f2
  exact g1

theorem infoSums : (Tryz.prog.info? 90).map (fun i => (i.zero, i.size, i.bytes)) = some (some (Value.agg (Array.replicate 64 (.int .u8 0))), 64, 64) := by kernel_rfl
theorem placesSums : (match Tryz.prog.underlying 90 with | some (.struct fs) => fs.toList.mapM (fun f => (Tryz.prog.info? f.type).map fun i => (f.offset, i.size)) | _ => none) = some [(0, 32), (32, 32)] := by kernel_rfl
theorem placesEnt : (match Tryz.prog.underlying 92 with | some (.struct fs) => fs.toList.mapM (fun f => (Tryz.prog.info? f.type).map fun i => (f.offset, i.size)) | _ => none) = some [(0, 64), (64, 1)] := by kernel_rfl

theorem built_struct {t : TypeId} {it : TypeInfo} {z a b : Value} {m k : Nat} {l1 l2 : List Value} (hit : Tryz.prog.info? t = some it) (hz : it.zero = some z) (hzs : z.cells.size = m + k)
    (hp : (match Tryz.prog.underlying t with | some (.struct fs) => fs.toList.mapM (fun f => (Tryz.prog.info? f.type).map fun i => (f.offset, i.size)) | _ => none) = some [(0, m), (m, k)])
    (ha : a.cells = l1.toArray) (hb : b.cells = l2.toArray) (hm : l1.length = m) (hk : l2.length = k) (w : World) :
    (Instr.build t #[(0, a), (1, b)]).run Tryz.prog w = .ok (.agg (l1 ++ l2).toArray) w := by
  refine run_build w t _ _ ?_
  unfold Program.built
  simp only [hit]
  cases hu : Tryz.prog.underlying t with
  | none => rw [hu] at hp; cases hp
  | some d =>
    cases d <;> try (rw [hu] at hp; cases hp; done)
    case struct fs =>
      rw [hu] at hp
      simp only at hp
      simp only [hz, hp]
      exact fill_two _ rfl rfl ha hb hm hk hzs

/-- Both sums of an entry as cells. -/
theorem run_build_sums (x y : List Nat) (hx : x.length = 32) (hy : y.length = 32) (w : World) : (Instr.build 90 #[(0, sv x), (1, sv y)]).run Tryz.prog w = .ok (.agg (bvs x ++ bvs y).toArray) w := by
  obtain ⟨i0, hi, hz0, hz1, _⟩ := info_parts infoSums
  exact built_struct (m := 32) (k := 32) (l1 := bvs x) (l2 := bvs y) hi hz0 (by simp [Value.cells]) placesSums rfl rfl (by rw [bvs_length, hx]) (by rw [bvs_length, hy]) w
theorem run_build_ent (x y : List Nat) (A : Option Addr) (n c : Nat) (hx : x.length = 32) (hy : y.length = 32) (w : World) : (Instr.build 92 #[(0, .agg (bvs x ++ bvs y).toArray), (1, .slice A n c)]).run Tryz.prog w = .ok (.agg (ecell x y (.slice A n c)).toArray) w := by
  obtain ⟨i0, hi, hz0, hz1, _⟩ := info_parts infoEnt
  exact built_struct (m := 64) (k := 1) (l1 := bvs x ++ bvs y) (l2 := [.slice A n c]) hi hz0 (by simp [Value.cells, bvs_length]) placesEnt rfl rfl (by rw [List.length_append, bvs_length, bvs_length, hx, hy]) rfl w

theorem yields_build_sums {ops : Array Oper} {S : World → Prop} {o : Oper} {a : Act} (hw : Region.wanted o (yielded ops a.tmps) = true) (u v : Operand) (ho : o.op = .build 90 #[(0, u), (1, v)])
    (x y : List Nat) (hu : a.eval u = sv x) (hv : a.eval v = sv y) (hx : x.length = 32) (hy : y.length = 32) : YieldsIf Tryz.prog ops S o (.agg (bvs x ++ bvs y).toArray) a := by
  refine Or.inl ⟨hw, fun w _ => ?_⟩
  have hp : (#[((0 : Nat), u), (1, v)].map fun ((i, x) : Nat × Operand) => (i, a.eval x)) = #[(0, sv x), (1, sv y)] := by simp [hu, hv]
  unfold execOp
  simp only [ho, hp, Sem.run_bind, Sem.run_pure, Result.andThen_ok, run_build_sums x y hx hy w]
theorem yields_build_ent {ops : Array Oper} {S : World → Prop} {o : Oper} {a : Act} (hw : Region.wanted o (yielded ops a.tmps) = true) (u v : Operand) (ho : o.op = .build 92 #[(0, u), (1, v)])
    (x y : List Nat) (A : Option Addr) (n c : Nat) (hu : a.eval u = .agg (bvs x ++ bvs y).toArray) (hv : a.eval v = .slice A n c) (hx : x.length = 32) (hy : y.length = 32) : YieldsIf Tryz.prog ops S o (.agg (ecell x y (.slice A n c)).toArray) a := by
  refine Or.inl ⟨hw, fun w _ => ?_⟩
  have hp : (#[((0 : Nat), u), (1, v)].map fun ((i, x) : Nat × Operand) => (i, a.eval x)) = #[(0, .agg (bvs x ++ bvs y).toArray), (1, .slice A n c)] := by simp [hu, hv]
  unfold execOp
  simp only [ho, hp, Sem.run_bind, Sem.run_pure, Result.andThen_ok, run_build_ent x y A n c hx hy w]

end Go.Proofs.YtnaebjdccngeoaaGreatDoor

/-
  What an entry more leaves.
-/
namespace Go.Proofs.YtnaebjdccngeoaaGreatDoor
open Go.RowKit

/-- What a call leaves of the chain g in G: it lies in G and in new blocks; nothing else has turned. -/
def Grew (w : World) (g : Nat) (G : Nat → Prop) (l' : List (List Nat)) (w' : World) : Prop := ∃ G', Chain w' g G' l' ∧ But G w w' ∧ ∀ x, G' x → G x ∨ w.heap.size ≤ x

/-- The blocks are none of the tables of package shas. -/
def Away (G : Nat → Prop) : Prop := ∀ x, G x → x ≠ 2 ∧ x ≠ 1
theorem away_of {w0 : World} {G : Nat → Prop} (hk : Knows w0) (hs : Starts w0) (hG : ∀ x, G x → w0.heap.size ≤ x) : Away G := fun x hx => by
  have h1 := hk.lt
  have h2 := hs.lt
  have h3 := hG x hx
  exact ⟨by omega, by omega⟩
theorem Knows.but {S : Nat → Prop} {w w' : World} (h : Knows w) (hb : But S w w') (hS : ¬ S 2) : Knows w' := fun i hi => (World.cell?_of_block (hb.block 2 h.lt hS)).trans (h i hi)
theorem Starts.but {S : Nat → Prop} {w w' : World} (h : Starts w) (hb : But S w w') (hS : ¬ S 1) : Starts w' := fun j v hv => (World.cell?_of_block (hb.block 1 h.lt hS)).trans (h j v hv)

/-- The entry stands behind all others; the front has not grown yet. -/
structure HStep (w wx : World) (g gf g5 : Nat) (v v' u : Value) (E : List (List Value)) (l : List (List Nat)) (b : List Nat) : Prop where
  head : wx.heap[g]? = some (.cells #[.pointer (some ⟨gf, 0, none⟩), v'] 85 (0, 0))
  row : wx.ownsRow 0 92 65 v' (l.length + 1) (E.flatten ++ ecell (leafL b) (markL (l ++ [b])) u)
  own : wx.ownsRow 0 5 1 u b.length (bvs b)
  but : But (fun x => x = g ∨ v.ownBlock = some x) w wx
  vnew : ∀ x, v'.ownBlock = some x → v.ownBlock = some x ∨ w.heap.size ≤ x
  unew : ∀ x, u.ownBlock = some x → w.heap.size ≤ x
  leaf : BArr wx g5 50 (leafL b)

section
variable {w : World} {g gf fc : Nat} {fA : Option Addr} {v : Value} {E : List (List Value)} {G : Nat → Prop} {l : List (List Nat)}

theorem hstep_of {W9 w12 : World} {g5 gg cap : Nat} {u : Value} {b : List Nat} (h : ChainAt w g gf fA fc v E G l) (b9 : Below w.heap.size w W9) (hu : W9.ownsRow 0 5 1 u b.length (bvs b)) (hun : ∀ x, u.ownBlock = some x → w.heap.size ≤ x)
    (hA : BArr W9 g5 50 (leafL b)) (hg5 : w.heap.size ≤ g5) {cs : Array Value}
    (hown : w12.ownsRow 0 92 65 (.slice (some ⟨gg, 0, none⟩) (l.length + 1) cap) (l.length + 1) (E.flatten ++ ecell (leafL b) (markL (l ++ [b])) u))
    (hgrow : (W9.alloc (.cells cs 92)).grownBy w12 v.ownBlock) (hat : v.ownBlock = some gg ∨ gg = (W9.alloc (.cells cs 92)).heap.size) :
    HStep w (w12.setCell ⟨g, 1, none⟩ (.slice (some ⟨gg, 0, none⟩) (l.length + 1) cap)) g gf g5 v (.slice (some ⟨gg, 0, none⟩) (l.length + 1) cap) u E l b := by
  have sz : (W9.alloc (.cells cs 92)).heap.size = W9.heap.size + 1 := World.size_alloc _ _
  have s9 := b9.size
  have hgl := h.lt
  obtain ⟨V, hV⟩ : ∃ V, V = Value.slice (some ⟨gg, 0, none⟩) (l.length + 1) cap := ⟨_, rfl⟩
  have hVb : V.ownBlock = some gg := by rw [hV]; rfl
  rw [← hV] at hown ⊢
  have hvl : ∀ x, v.ownBlock = some x → x < w.heap.size := fun x hx => own_lt h.row hx
  have hvg : v.ownBlock ≠ some g := fun e => by
    obtain ⟨cur, hc⟩ := own_type h.row e
    exact hblock_ne h.head hc tne_ce rfl
  -- what stands in a block of w or W9 that is not the entries'
  have k12 : ∀ x, x < W9.heap.size → v.ownBlock ≠ some x → w12.heap[x]? = W9.heap[x]? := fun x hx hne =>
    (hgrow.block x (by rw [sz]; omega) (fun e => hne e.symm)).trans (heap_alloc_old W9 _ hx)
  have kset : ∀ x, x ≠ g → (w12.setCell ⟨g, 1, none⟩ V).heap[x]? = w12.heap[x]? := fun x hx => heap_setCell_other w12 ⟨g, 1, none⟩ x V hx
  have hg12 : w12.heap[g]? = w.heap[g]? := (k12 g (by omega) hvg).trans (b9.block g hgl)
  have hggg : gg ≠ g := by
    rintro rfl
    rcases hat with e | e
    · exact hvg e
    · rw [sz] at e; omega
  refine ⟨heap_setCell_same w12 g 1 _ _ V (hg12.trans h.head), own_block hown (fun x hx => kset x (by rw [hVb] at hx; cases hx; exact hggg)), own_block hu (fun x hx => ?_), ?_, fun x hx => ?_, hun, ?_⟩
  · have hx9 := own_lt hu hx
    have h1 := hun x hx
    have hxg : x ≠ g := by omega
    rw [kset x hxg, k12 x hx9 (fun e => by have := hvl x e; omega)]
  · have e1 : But (fun x => x = g ∨ v.ownBlock = some x) w W9 := But.of_below b9
    have e2 := e1.alloc (.cells cs 92)
    exact (e2.grown hgrow (fun k e _ => .inr e)).set 1 V (fun _ => .inl rfl)
  · rw [hVb] at hx
    cases hx
    rcases hat with e | e
    · exact .inl e
    · right; rw [e, sz]; omega
  · have h5l := hA.lt
    unfold BArr
    rw [kset g5 (by omega), k12 g5 h5l (fun e => by have := hvl g5 e; omega)]
    exact hA

theorem HStep.below {wx wy : World} {g5 : Nat} {v' u : Value} {b : List Nat} (hs : HStep w wx g gf g5 v v' u E l b) (hb : Below wx.heap.size wx wy) : HStep w wy g gf g5 v v' u E l b :=
  ⟨(hb.block g (Array.getElem?_eq_some_iff.1 hs.head).1).trans hs.head, own_block hs.row (fun x hx => hb.block x (own_lt hs.row hx)), own_block hs.own (fun x hx => hb.block x (own_lt hs.own hx)), ⟨hb.os.trans hs.but.os, hb.tape.trans hs.but.tape, hb.output.trans hs.but.output, Nat.le_trans hs.but.size hb.size, fun x hx hn => (hb.block x (Nat.lt_of_lt_of_le hx hs.but.size)).trans (hs.but.block x hx hn)⟩, hs.vnew, hs.unew, hs.leaf.below hb⟩
theorem HStep.front {wx : World} {g5 : Nat} {v' u : Value} {b : List Nat} (hs : HStep w wx g gf g5 v v' u E l b) (h : ChainAt w g gf fA fc v E G l) (hG : ∀ x, G x → x < w.heap.size) : FrontAt wx gf (lf l) l.length fA fc := by
  have hfl := h.front.lt
  refine h.front.keep (hs.but.block gf hfl ?_) (fun ad e => hs.but.block _ (hG _ (h.ga ad e)) ?_)
  · rintro (e | e)
    · exact hblock_ne h.head h.front.row tne_cf e.symm
    · obtain ⟨cur, hc⟩ := own_type h.row e
      exact hblock_ne h.front.row hc tne_fe rfl
  · rintro (e1 | e1)
    · exact (h.gt_ ad e).1 e1
    · exact (h.gt_ ad e).2 e1
theorem HStep.front2 {wx : World} {g5 : Nat} {v' u : Value} {b : List Nat} (hs : HStep w wx g gf g5 v v' u E l b) (h : ChainAt w g gf fA fc v E G l) (hG : ∀ x, G x → x < w.heap.size) : Front wx gf (lf (l ++ [b])) l.length :=
  Front.congr ⟨_, _, hs.front h hG⟩ (fun _ hj => (lf_append l [b] hj).symm)

theorem hstep_done {wx w' : World} {g5 fc' : Nat} {v' u : Value} {b : List Nat} {fA' : Option Addr} (hs : HStep w wx g gf g5 v v' u E l b) (h : ChainAt w g gf fA fc v E G l) (hG : ∀ x, G x → x < w.heap.size) (hb : b.length ≤ 16384 ∧ ∀ x ∈ b, x < 256)
    (hf : FrontAt w' gf (lf (l ++ [b])) (l.length + 1) fA' fc') (hnew : ∀ ad, fA' = some ad → wx.heap.size ≤ ad.block ∧ ad.block < w'.heap.size) (hbut : But (fun x => x = gf) wx w') : Grew w g G (l ++ [b]) w' := by
  have hfl := h.front.lt
  have hgl := h.lt
  have hvl : ∀ x, v.ownBlock = some x → x < w.heap.size := fun x hx => own_lt h.row hx
  have s1 := hs.but.size
  have s2 := hbut.size
  have gne : g ≠ gf := hblock_ne h.head h.front.row tne_cf
  have rowf : wx.heap[gf]? = some (.cells #[.bool true, .int .u64 (l.length : Int), .slice fA (pop l.length) fc] 121 (0, 0)) := (hs.front h hG).row
  have vl' : ∀ x, v'.ownBlock = some x → x < wx.heap.size := fun x hx => own_lt hs.row hx
  have vg' : ∀ x, v'.ownBlock = some x → x ≠ gf := fun x hx e => by
    obtain ⟨cur, hc⟩ := own_type hs.row hx
    exact hblock_ne rowf hc tne_fe e.symm
  have ug' : ∀ x, u.ownBlock = some x → x ≠ gf := fun x hx e => by
    obtain ⟨cur, hc⟩ := own_type hs.own hx
    exact hblock_ne rowf hc tne_fb e.symm
  have E1 : (E ++ [ecell (leafL b) (markL (l ++ [b])) u]).flatten = E.flatten ++ ecell (leafL b) (markL (l ++ [b])) u := by simp
  refine ⟨fun x => G x ∨ (w.heap.size ≤ x ∧ x < w'.heap.size), ⟨⟨gf, fA', fc', v', E ++ [ecell (leafL b) (markL (l ++ [b])) u], ?_, ?_, ?_, ?_, fun k c hk => ?_, .inl h.gg, .inl h.gfr, fun ad e => ?_, fun x hx => ?_, ?_, fun ad e => ?_⟩, fun x hx => ?_⟩, ?_, fun x hx => ?_⟩
  · exact (hbut.block g (Nat.lt_of_lt_of_le hgl s1) gne).trans hs.head
  · rw [List.length_append]; exact hf
  · rw [E1, List.length_append]
    exact own_block hs.row (fun x hx => hbut.block x (vl' x hx) (vg' x hx))
  · rw [List.length_append, List.length_append, h.len]; rfl
  · by_cases hkl : k < l.length
    · rw [List.getElem?_append_left hkl] at hk
      obtain ⟨u1, hu1, ho1, hG1⟩ := h.ent k c hk
      refine ⟨u1, ?_, own_block ho1 (fun x hx => ?_), fun x hx => .inl (hG1 x hx)⟩
      · rw [List.getElem?_append_left (by rw [h.len]; exact hkl), hu1, List.take_append_of_le_length (by omega)]
      · obtain ⟨cur, hc⟩ := own_type ho1 hx
        have xl := own_lt ho1 hx
        have n1 : x ≠ g := fun e => hblock_ne h.head hc tne_cb e.symm
        have n2 : v.ownBlock ≠ some x := fun e => by
          obtain ⟨cur2, hc2⟩ := own_type h.row e
          exact hblock_ne hc2 hc tne_eb rfl
        have e1 := hs.but.block x xl (fun e => e.elim n1 n2)
        exact (hbut.block x (Nat.lt_of_lt_of_le xl s1) (fun e => hblock_ne h.front.row hc tne_fb e.symm)).trans e1
    · have hk0 : k = l.length := by
        have := (List.getElem?_eq_some_iff.1 hk).1
        rw [List.length_append] at this
        simp at this
        omega
      subst hk0
      rw [List.getElem?_append_right (Nat.le_refl _), Nat.sub_self] at hk
      cases hk
      refine ⟨u, ?_, own_block hs.own (fun x hx => hbut.block x (own_lt hs.own hx) (ug' x hx)), fun x hx => .inr ⟨hs.unew x hx, ?_⟩⟩
      · rw [List.getElem?_append_right (by rw [h.len]; exact Nat.le_refl _), h.len, Nat.sub_self, List.take_of_length_le (by rw [List.length_append]; exact Nat.le_refl _)]
        rfl
      · have := own_lt hs.own hx; omega
  · have := hnew ad e; exact .inr ⟨by omega, this.2⟩
  · rcases hs.vnew x hx with e | e
    · exact .inl (h.gv x e)
    · exact .inr ⟨e, by have := vl' x hx; omega⟩
  · intro c hc
    rcases List.mem_append.1 hc with hc | hc
    · exact h.ok c hc
    · rw [List.mem_singleton.1 hc]; exact hb
  · have h1 := (hnew ad e).1
    exact ⟨by omega, fun e2 => by have := vl' _ e2; omega⟩
  · rcases hx with hx | hx
    · have := hG x hx; omega
    · exact hx.2
  · have e1 : But G w wx := hs.but.mono fun x _ hx => hx.elim (fun e => by rw [e]; exact h.gg) (fun e => h.gv x e)
    refine ⟨hbut.os.trans e1.os, hbut.tape.trans e1.tape, hbut.output.trans e1.output, Nat.le_trans s1 s2, fun x hx hn => ?_⟩
    exact (hbut.block x (Nat.lt_of_lt_of_le hx s1) (fun e => hn (by rw [e]; exact h.gfr))).trans (e1.block x hx hn)
  · rcases hx with hx | hx
    · exact .inl hx
    · exact .inr hx.1
end

end Go.Proofs.YtnaebjdccngeoaaGreatDoor

/-
  slices.Grow of no bytes, slices.Concat of two lists of bytes.
-/
namespace Go.Proofs.YtnaebjdccngeoaaGreatDoor
open Go.RowKit

/-- 'append([]byte(nil), make([]byte, m)...)'. -/
theorem run_grow_bytes (w : World) (ty : TypeId) (m : Nat) (hm : 0 < m) (hle : m ≤ 1000000) :
    ∃ c' w', (Builtin.append_ #[38, 3] ty #[.slice none 0 0, .int .i64 (m : Int)]).run Tryz.prog w = .ok (.slice (some ⟨w.heap.size, 0, none⟩) m c') w' ∧ m ≤ c' ∧
      w'.ownsRow w.heap.size 5 1 (.slice (some ⟨w.heap.size, 0, none⟩) 0 c') 0 (bvs []) ∧ Below w.heap.size w w' := by
  obtain ⟨i0, hi, hz0, hz1, hz2⟩ := info_parts infoByte
  have hf := growslice_fits (need := m) (old := 0) (bytes := 1) (by omega) (by omega)
  have h48' : ¬ (281474976710656 < Builtin.nextslicecap m 0) := by omega
  have hw : IntKind.i64.wrap (m : Int) = (m : Int) := by rw [IntKind.wrap_i64]; omega
  have hn0 : ¬ ((m : Int) < 0) := by omega
  have hnb : ¬ (281474976710656 < (m : Int)) := by omega
  have hnc : ¬ (9223372036854775807 < (m : Int)) := by omega
  have hm0 : ¬ m = 0 := by omega
  have hge := grownCap_ge w m 0 5
  have hgl := grownCap_le_maxLen w m 0 5 (by unfold maxLen; omega)
  have hfo := run_firstCells_none (P := Tryz.prog) (w := w.drew) 1 0 0 0
  have hrun : (Builtin.append_ #[38, 3] ty #[.slice none 0 0, .int .i64 (m : Int)]).run Tryz.prog w =
      .ok (.slice (some ⟨w.heap.size, 0, none⟩) m (grownCap w m 0 5)) (w.drew.alloc (.cells (#[] ++ Builtin.zeroCells (#[.int .u8 0]) m ++ Builtin.zeroCells (#[.int .u8 0]) (grownCap w m 0 5 - m)) 5)) := by
    simp [Builtin.append_, run_underlying Tryz.underlying38, run_underlying Tryz.underlying3, sizeOf, typeInfo, zeroValue, hi, hz0, hz1, hz2, asInt, asIntOf, hw, hn0, hnb, hnc, hm0, h48', Question.forced, hfo, newRow, grownCap, Value.cells]

  refine ⟨_, _, hrun, hge, ⟨rfl, .inr ⟨w.heap.size, _, _, rfl, Nat.le_refl _, World.alloc_heap_new w.drew _, Nat.zero_le _, hgl, ?_, rfl⟩⟩, ((Below.refl _ w).drew).alloc (Nat.le_refl _) _⟩
  rw [Array.size_append, Array.size_append, size_zeroCells, size_zeroCells]
  simp
  omega

theorem wpList_grow_bytes {ops : Array Oper} {rest : List Oper} {o : Oper} {a : Act} {Q : Exit → Act → World → Prop} (w : World) (hgd : o.guard = none) (s x : Operand)
    (ho : o.op = .call { callee := .builtin .append, args := #[s, x], argTypes := #[38, 3] }) (m : Nat) (hs : a.eval s = .slice none 0 0) (hx : a.eval x = .int .i64 (m : Int)) (hm : 0 < m) (hle : m ≤ 1000000)
    (h : ∀ c' w', m ≤ c' → w'.ownsRow w.heap.size 5 1 (.slice (some ⟨w.heap.size, 0, none⟩) 0 c') 0 (bvs []) → Below w.heap.size w w' → wpList Tryz.prog ops Q rest (a.put o.dst (.slice (some ⟨w.heap.size, 0, none⟩) m c')) w') :
    wpList Tryz.prog ops Q (o :: rest) a w := by
  refine wpList_plain hgd fun K hK => ?_
  obtain ⟨c', w', hr, h2, h3, h4⟩ := run_grow_bytes w o.type m hm hle
  unfold Oper.wp execOp
  simp only [ho, resolve, invoke, builtin, Sem.run_bind, Sem.run_pure, Result.andThen_ok, List.map_toArray, List.map_cons, List.map_nil, hs, hx, hr]
  exact hK _ _ (h c' w' h2 h3 h4)

set_option maxRecDepth 100000 in
set_option maxHeartbeats 1000000 in
theorem growB_any (m : Nat) (w : World) (hm : 0 < m) (hle : m ≤ 1000000) :
    Calls Tryz.prog 122 #[.slice none 0 0, .int .i64 (m : Int)] w fun e w' =>
      ∃ c', e = .returned (.slice (some ⟨w.heap.size, 0, none⟩) 0 c') ∧ w'.ownsRow w.heap.size 5 1 (.slice (some ⟨w.heap.size, 0, none⟩) 0 c') 0 (bvs []) ∧ Below w.heap.size w w' := by
  have h0 : ¬ ((m : Int) < 0) := by omega
  have h1 : (0 : Int) < (m : Int) := by omega
  go_enter Tryz.func122, Tryz.ntmps122
  go_wp2_with (refine wpList_grow_bytes w rfl _ _ rfl m rfl rfl hm hle ?_; intro c' w1 hc ho hb; have HR := Lib.hid (And.intro ho hb); clear ho hb)
  go_ret
  exact ⟨c', rfl, HR.out.1, HR.out.2⟩

/-- How many, and what, the first j of two lists have. -/
def first2N (n m : Nat) : Nat → Nat
  | 0 => 0
  | 1 => n
  | _ => n + m
def first2L (xs ys : List Nat) : Nat → List Nat
  | 0 => []
  | 1 => xs
  | _ => xs ++ ys

set_option maxRecDepth 100000 in
set_option maxHeartbeats 2000000 in
theorem concatB_any (b : Nat) (A A2 : Option Addr) (n c m c2 : Nat) (xs ys : List Nat) (w : World) (h1 : w.cell? ⟨b, 0, none⟩ = some (.slice A n c)) (h2 : w.cell? ⟨b, 1, none⟩ = some (.slice A2 m c2))
    (hx : In w A n xs) (hy : In w A2 m ys) (nx : A = none → c = 0) (ny : A2 = none → c2 = 0) (h0 : 0 < n + m) (hle : n + m ≤ 1000000) :
    Calls Tryz.prog 49 #[.slice (some ⟨b, 0, none⟩) 2 2] w fun e w' =>
      ∃ A' c', e = .returned (.slice A' (n + m) c') ∧ w'.ownsRow w.heap.size 5 1 (.slice A' (n + m) c') (n + m) (bvs (xs ++ ys)) ∧ Below w.heap.size w w' := by
  have HX := Lib.hid (And.intro hx (And.intro hy (And.intro nx ny)))
  have G := Lib.hid (growB_any (n + m) w h0 hle)
  have hbl : b < w.heap.size := World.block_lt_of_cell? w _ h1
  clear hx hy nx ny
  go_enter Tryz.func49, Tryz.ntmps49
  go_wp2
  go_loopw [3, 5, 11] (fun sz _ i wr => ∃ j : Nat, j ≤ 2 ∧ i = .int .i64 (j : Int) ∧ sz = .int .i64 (first2N n m j : Int) ∧ wr = w) (fun _ _ i _ => 2 - (intOf i).toNat)
  case atStart => exact ⟨0, by omega, rfl, rfl, rfl⟩
  case round =>
    obtain ⟨j, hj, rfl, rfl, e⟩ := hrel
    have e' := e.symm
    clear e
    subst e'
    obtain rfl | rfl | rfl : j = 0 ∨ j = 1 ∨ j = 2 := by omega
    · have hn : ¬ ((n : Int) < 0) := by omega
      simp only [first2N]
      go_wp2
      go_roundw
      case rel => exact ⟨1, by omega, by go_num, rfl, trivial⟩
      case measure => simp [intOf]
    · have hn : ¬ ((n : Int) + (m : Int) < 0) := by omega
      simp only [first2N]
      go_wp2
      go_roundw
      case rel => exact ⟨2, by omega, by go_num, by simp, trivial⟩
      case measure => simp [intOf]
    · simp only [first2N]
      go_wp2_with fail
      refine G.out.mono ?_
      rintro e w1 ⟨c1, rfl, ho, hb⟩
      have HO := Lib.hid (And.intro ho hb)
      clear ho hb
      have hw1 := HO.out.2
      have d1 : w1.cell? ⟨b, 0, none⟩ = some (.slice A n c) := (hw1.cell (World.block_lt_of_cell? w _ h1)).trans h1
      have d2 : w1.cell? ⟨b, 1, none⟩ = some (.slice A2 m c2) := (hw1.cell (World.block_lt_of_cell? w _ h2)).trans h2
      have HD := Lib.hid (And.intro d1 d2)
      clear h1 h2 hw1 d1 d2
      go_wp2
      go_loopw [6, 8, 27] (fun nw _ i w2 => ∃ (j : Nat) (A' : Option Addr) (c' : Nat), j ≤ 2 ∧ i = .int .i64 (j : Int) ∧ nw = .slice A' (first2N n m j) c' ∧ w2.ownsRow w.heap.size 5 1 (.slice A' (first2N n m j) c') (first2N n m j) (bvs (first2L xs ys j)) ∧ Below w.heap.size w w2 ∧
        w2.cell? ⟨b, 0, none⟩ = some (.slice A n c) ∧ w2.cell? ⟨b, 1, none⟩ = some (.slice A2 m c2)) (fun _ _ i _ => 2 - (intOf i).toNat)
      case atStart => exact ⟨0, _, c1, by omega, rfl, rfl, HO.out.1, HO.out.2, HD.out.1, HD.out.2⟩
      case round =>
        obtain ⟨j, A', c', hj, rfl, rfl, how, hbw, e1, e2⟩ := hrel
        have HW := Lib.hid (And.intro how hbw)
        clear how hbw
        obtain rfl | rfl | rfl : j = 0 ∨ j = 1 ∨ j = 2 := by omega
        · simp only [first2N, first2L] at HW ⊢
          go_wp2_with (refine wpList_step fun K hK => ?_; refine step_app_at (K := K) (by rfl) _ _ (by rfl) w.heap.size A' 0 c' [] (by rfl) HW.out.1 A n c xs (by rfl) (HX.out.1.below HW.out.2) HX.out.2.2.1 (by omega) HW.out.2.size ?_; intro A3 c3 w3 ow3 nx3; have HN := Lib.hid (And.intro ow3 nx3); clear ow3 nx3; refine hK _ _ ?_; clear hK K)
          have hb3 := HN.out.2.below HW.out.1 HW.out.2 (Nat.le_refl _) HW.out.2.size
          have ow3 := HN.out.1
          rw [Nat.zero_add, List.nil_append] at ow3
          have H3 := Lib.hid (And.intro ow3 hb3)
          have k1 := HN.out.2.cell e1 (fun e => by have := (HW.out.1.lt b e.symm).1; omega)
          have k2 := HN.out.2.cell e2 (fun e => by have := (HW.out.1.lt b e.symm).1; omega)
          clear ow3 hb3
          go_wp2
          go_roundw
          case rel => exact ⟨1, A3, c3, by omega, by go_num, by simp, H3.out.1, H3.out.2, k1, k2⟩
          case measure => simp [intOf]
        · simp only [first2N, first2L] at HW ⊢
          go_wp2_with (refine wpList_step fun K hK => ?_; refine step_app_at (K := K) (by rfl) _ _ (by rfl) w.heap.size A' n c' xs (by rfl) HW.out.1 A2 m c2 ys (by rfl) (HX.out.2.1.below HW.out.2) HX.out.2.2.2 (by omega) HW.out.2.size ?_; intro A3 c3 w3 ow3 nx3; have HN := Lib.hid (And.intro ow3 nx3); clear ow3 nx3; refine hK _ _ ?_; clear hK K)
          have hb3 := HN.out.2.below HW.out.1 HW.out.2 (Nat.le_refl _) HW.out.2.size
          have H3 := Lib.hid (And.intro HN.out.1 hb3)
          have k1 := HN.out.2.cell e1 (fun e => by have := (HW.out.1.lt b e.symm).1; omega)
          have k2 := HN.out.2.cell e2 (fun e => by have := (HW.out.1.lt b e.symm).1; omega)
          clear hb3
          go_wp2
          go_roundw
          case rel => exact ⟨2, A3, c3, by omega, by go_num, rfl, H3.out.1, H3.out.2, k1, k2⟩
          case measure => simp [intOf]
        · simp only [first2N, first2L] at HW ⊢
          go_wp2
          go_ret
          exact ⟨A', c', rfl, HW.out.1, HW.out.2⟩

end Go.Proofs.YtnaebjdccngeoaaGreatDoor

/-
  slices.Clone of bytes.
-/
namespace Go.Proofs.YtnaebjdccngeoaaGreatDoor
open Go.RowKit

set_option maxRecDepth 100000 in
set_option maxHeartbeats 1000000 in
theorem clone_b (A : Option Addr) (n c : Nat) (xs : List Nat) (w : World) (hin : In w A n xs) (hA : A = none → c = 0) (hnc : n ≤ c) (hn : n ≤ 1000000000) :
    Calls Tryz.prog 50 #[.slice A n c] w fun e w' => ∃ v, e = .returned v ∧ w'.ownsRow w.heap.size 5 1 v n (bvs xs) ∧ Below w.heap.size w w' := by
  have qT : ∀ (w : World) (a : Option Addr) (n c n' c' : Nat), (binOp .eql 38 (.slice a n c) (.slice none n' c')).run Tryz.prog w = .ok (.bool a.isNone) w := fun w a n c n' c' => Lib.run_eql_slice_nil w _ _ a n c n' c' Tryz.underlying38
  cases A with
  | none =>
    obtain rfl := hA rfl
    obtain rfl : n = 0 := by omega
    have : xs = [] := List.length_eq_zero_iff.1 hin.len
    subst this
    clear hA hin hnc hn
    go_enter Tryz.func50, Tryz.ntmps50
    go_wp2
    go_ret
    exact ⟨_, rfl, ⟨rfl, .inl ⟨rfl, rfl⟩⟩, Below.refl _ _⟩
  | some a =>
    have H := Lib.hid hin
    clear hin
    go_enter Tryz.func50, Tryz.ntmps50
    have h0 : (w.alloc (.cells #[] 5)).ownsRow w.heap.size 5 1 (.slice (some ⟨w.heap.size, 0, none⟩) 0 0) 0 (bvs []) :=
      ⟨rfl, .inr ⟨w.heap.size, 0, #[], rfl, Nat.le_refl _, World.alloc_heap_new w _, Nat.le_refl _, (by unfold maxLen; omega), rfl, rfl⟩⟩
    go_wp2_with (
      at_builtin
      refine wpList_app (w.alloc (.cells #[] 5)) rfl _ _ rfl w.heap.size (some ⟨w.heap.size, 0, none⟩) 0 0 [] rfl h0 (some a) n c xs rfl (H.out.below (below_alloc w _)) (fun h => by cases h) (by omega) (by simp) ?_
      intro A' c' w' ho hb)
    go_ret
    rw [Nat.zero_add, List.nil_append] at ho
    exact ⟨_, rfl, ho, (below_alloc w _).trans hb⟩

end Go.Proofs.YtnaebjdccngeoaaGreatDoor

/-
  leaves.Leaf, leaves.Node.
-/
namespace Go.Proofs.YtnaebjdccngeoaaGreatDoor
open Go.RowKit

set_option maxRecDepth 100000 in
set_option maxHeartbeats 2000000 in
theorem leaf_any (A : Option Addr) (n c : Nat) (xs : List Nat) (w : World) (hx : Came w A n c xs) (hk : Knows w) (hs : Starts w) (hn : n ≤ 800000000) :
    Calls Tryz.prog 46 #[.slice A n c] w fun e w' => e = .returned (sv (leafL xs)) ∧ Below w.heap.size w w' := by
  have e0 : (bvs zero32).toArray = #[.int .u8 0, .int .u8 0, .int .u8 0, .int .u8 0, .int .u8 0, .int .u8 0, .int .u8 0, .int .u8 0, .int .u8 0, .int .u8 0, .int .u8 0, .int .u8 0, .int .u8 0, .int .u8 0, .int .u8 0, .int .u8 0, .int .u8 0, .int .u8 0, .int .u8 0, .int .u8 0, .int .u8 0, .int .u8 0, .int .u8 0, .int .u8 0, .int .u8 0, .int .u8 0, .int .u8 0, .int .u8 0, .int .u8 0, .int .u8 0, .int .u8 0, .int .u8 0] := rfl
  have f1 := BArr.new w 50 zero32
  have b1 := below_alloc w (.cells (bvs zero32).toArray 50)
  have s1 : (w.alloc (.cells (bvs zero32).toArray 50)).heap.size = w.heap.size + 1 := World.size_alloc _ _
  rw [e0] at f1 b1 s1
  clear e0
  have HF := Lib.hid (And.intro f1 (And.intro b1 s1))
  have HX := Lib.hid hx
  clear f1 b1 s1 hx
  go_enter Tryz.func46, Tryz.ntmps46
  go_upto_region 1 with fail
  obtain ⟨w1, hw1⟩ : ∃ w1, w1 = w.alloc (.cells #[.int .u8 0, .int .u8 0, .int .u8 0, .int .u8 0, .int .u8 0, .int .u8 0, .int .u8 0, .int .u8 0, .int .u8 0, .int .u8 0, .int .u8 0, .int .u8 0, .int .u8 0, .int .u8 0, .int .u8 0, .int .u8 0, .int .u8 0, .int .u8 0, .int .u8 0, .int .u8 0, .int .u8 0, .int .u8 0, .int .u8 0, .int .u8 0, .int .u8 0, .int .u8 0, .int .u8 0, .int .u8 0, .int .u8 0, .int .u8 0, .int .u8 0, .int .u8 0] 50) := ⟨_, rfl⟩
  rw [← hw1] at HF ⊢
  clear hw1
  obtain ⟨W, hW⟩ : ∃ W, W = w1.alloc (.cells #[.slice A n c] 38) := ⟨_, rfl⟩
  have hb : Below w1.heap.size w1 W := by rw [hW]; exact below_alloc _ _
  have hcell : W.cell? ⟨w1.heap.size, 0, none⟩ = some (.slice A n c) := by rw [hW]; exact cell_new1 _ _ _
  have bel := below_on HF.out.2.1 (Nat.le_refl _) hb
  have C := Lib.hid (marked_any 0 (some ⟨w1.heap.size, 0, none⟩) 1 1 [xs] W (by omega) ⟨rfl, fun r ys hr => by
    have hr' := (List.getElem?_eq_some_iff.1 hr).1
    obtain rfl : r = 0 := by simp at hr'; omega
    cases hr
    exact ⟨_, A, n, c, rfl, hcell, HX.out.below bel, by omega⟩⟩ (hk.below bel) (hs.below bel) (by have := HX.out.in_.len; simp [tot]; omega) (by omega))
  have hl32 := sha_length (0 :: [xs].flatten)
  have HS : leafL xs = sha (0 :: [xs].flatten) := by rw [leafL]; simp
  obtain ⟨s, hs0⟩ : ∃ s, sha (0 :: [xs].flatten) = s := ⟨_, rfl⟩
  rw [hs0] at C hl32 HS
  have HS' := Lib.hid HS
  clear hs0 HS
  have H1 := Lib.hid (And.intro (HF.out.1.below hb) bel)
  clear hb hcell bel
  go_wp2_with fail
  rw [← hW]
  clear hW
  refine C.out.mono ?_
  rintro e w4 ⟨rfl, hb4⟩
  have f4 := H1.out.1.below hb4
  have HZ32 := Lib.hid (show zero32.length = 32 from rfl)
  go_wp2_with (with_reducible refine wpList_store_sum rfl (.tmp 2) (.tmp 5) rfl w.heap.size rfl zero32 s HZ32 hl32 f4 rfl ?_)
  refine bodyPost_ret_by (results_cell_row (p := 2) (ty := 50) (by kernel_rfl) _ _ w.heap.size 50 (bvs s).toArray (0, 0) _ rfl (f4.setRow _) Tryz.underlying50 rfl (by rw [List.size_toArray, bvs_length, hl32]; exact sizeSum)) rfl ?_
  exact ⟨by rw [HS'.out]; rfl, below_setRow (below_on H1.out.2 (Nat.le_refl _) hb4) (by omega) _⟩

end Go.Proofs.YtnaebjdccngeoaaGreatDoor

/-
  '[]E{x}', x a whole value of many cells: the row of one. No function of the program is named here.
-/
namespace Go.Proofs.YtnaebjdccngeoaaGreatDoor
open Go.RowKit

theorem fold_fill (l : List Value) : ∀ (pre suf : List Value) (off : Nat), suf.length = l.length → pre.length = off →
    ((l.zipIdx off).foldl (fun (cs : Array Value) (x : Value × Nat) => cs.setIfInBounds (0 + x.2) x.1) (pre ++ suf).toArray) = (pre ++ l).toArray := by
  induction l with
  | nil =>
    intro pre suf off h _
    obtain rfl : suf = [] := List.eq_nil_of_length_eq_zero h
    rfl
  | cons x l ih =>
    intro pre suf off h hp
    cases suf with
    | nil => simp at h
    | cons y suf =>
      rw [List.zipIdx_cons, List.foldl_cons]
      have e : (pre ++ y :: suf).toArray.setIfInBounds (0 + off) x = ((pre ++ [x]) ++ suf).toArray := by
        rw [List.setIfInBounds_toArray, Nat.zero_add, List.set_append_right _ _ (by omega), hp, Nat.sub_self, List.set_cons_zero, List.append_assoc]
        rfl
      rw [e, ih (pre ++ [x]) suf (off + 1) (by simpa using h) (by rw [List.length_append, hp]; rfl), List.append_assoc]
      rfl

theorem fill_whole (cs : List Value) (cells : Array Value) (m : Nat) (h1 : cs.length = m) (h2 : cells.size = m) :
    Instr.fill (fun i => some (i * m, m)) cells [(0, .agg cs.toArray)] = some cs.toArray := by
  have e := fold_fill cs [] cells.toList 0 (by rw [Array.length_toList, h1, h2]) rfl
  simp only [List.nil_append] at e
  have e2 : (cs.toArray.zipIdx.foldl (fun (cs : Array Value) (x : Value × Nat) => cs.setIfInBounds (0 + x.2) x.1) cells) = cs.toArray := by
    rw [← Array.foldl_toList]
    have : cs.toArray.zipIdx.toList = cs.zipIdx 0 := by simp
    rw [this]
    simpa using e
  have hv : (Value.agg cs.toArray).cells = cs.toArray := rfl
  unfold Instr.fill
  simp only [hv, Nat.zero_mul, List.size_toArray, h1, h2, Nat.zero_add]
  rw [if_neg (by simp)]
  unfold Instr.fill
  simp only [Nat.zero_add] at e2
  exact congrArg some e2

/-- The operation, as a region that draws asks it. -/
theorem wp_one {o : Oper} {a : Act} {w : World} {K : Act → World → Prop} {Q : Exit → Act → World → Prop} (t e : TypeId) (x : Operand) (ho : o.op = .buildSlice t 1 #[(0, x)])
    (ie : TypeInfo) (z : Value) (m : Nat) (cs : List Value) (hx : a.eval x = .agg cs.toArray)
    (hu : Tryz.prog.underlying t = some (.slice e)) (hie : Tryz.prog.info? e = some ie) (hz : ie.zero = some z) (hsz : ie.size = m) (hm0 : 0 < m) (hm : m ≤ 1000000) (hl : cs.length = m)
    (h : K (a.put o.dst (.slice (some ⟨w.heap.size, 0, none⟩) 1 1)) (w.alloc (.cells cs.toArray e))) : o.wp Tryz.prog a w K Q := by
  subst hsz
  refine wp_buildSlice t e 1 _ ho cs.toArray ie z hu hie hz (by omega) (by omega) ?_ h
  have : ((#[(0, x)] : Array (Nat × Operand)).map fun (p : Nat × Operand) => (p.1, a.eval p.2)).toList = [(0, .agg cs.toArray)] := by simp [hx]
  rw [show ((#[(0, x)] : Array (Nat × Operand)).map fun (i, x) => (i, a.eval x)).toList = [(0, .agg cs.toArray)] from this]
  exact fill_whole cs _ ie.size hl (by simp)

end Go.Proofs.YtnaebjdccngeoaaGreatDoor
