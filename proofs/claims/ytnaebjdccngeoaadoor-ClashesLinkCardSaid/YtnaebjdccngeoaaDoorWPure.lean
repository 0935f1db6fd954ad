/-
  The path of a leaf, as plain functions: how many sums it has, which they are, and what a path leads to.
-/
import Derived.Test.YtnaebjdccngeoaaDoorVPure
namespace Go.Proofs.YtnaebjdccngeoaaDoor
open Go.RowKit

/-- How many trees stand beside a leaf. -/
def dep (at_ n : Nat) : Nat := if _ : n < 2 then 0 else if at_ < cutN n then dep at_ (cutN n) + 1 else dep (at_ - cutN n) (n - cutN n) + 1
termination_by n
decreasing_by
  · exact cutN_lt (by omega)
  · have := cutN_pos n; omega
theorem dep_one {n : Nat} (h : n < 2) (at_ : Nat) : dep at_ n = 0 := by rw [dep, dif_pos h]
theorem dep_low {n at_ : Nat} (h : 2 ≤ n) (ha : at_ < cutN n) : dep at_ n = dep at_ (cutN n) + 1 := by rw [dep, dif_neg (by omega), if_pos ha]
theorem dep_high {n at_ : Nat} (h : 2 ≤ n) (ha : ¬ at_ < cutN n) : dep at_ n = dep (at_ - cutN n) (n - cutN n) + 1 := by rw [dep, dif_neg (by omega), if_neg ha]

/-- What the sums from number j on lead to, the lower ones first. -/
def leadF (f : Nat → List Nat) (leaf : List Nat) (at_ n j : Nat) : List Nat :=
  if _ : n < 2 then leaf
  else if at_ < cutN n then nodeL (leadF f leaf at_ (cutN n) j) (f (j + dep at_ (cutN n)))
  else nodeL (f (j + dep (at_ - cutN n) (n - cutN n))) (leadF f leaf (at_ - cutN n) (n - cutN n) j)
termination_by n
decreasing_by
  · exact cutN_lt (by omega)
  · have := cutN_pos n; omega
theorem leadF_one (f : Nat → List Nat) (leaf : List Nat) {n : Nat} (h : n < 2) (at_ j : Nat) : leadF f leaf at_ n j = leaf := by rw [leadF, dif_pos h]
theorem leadF_low (f : Nat → List Nat) (leaf : List Nat) {n at_ : Nat} (h : 2 ≤ n) (ha : at_ < cutN n) (j : Nat) : leadF f leaf at_ n j = nodeL (leadF f leaf at_ (cutN n) j) (f (j + dep at_ (cutN n))) := by
  rw [leadF, dif_neg (by omega), if_pos ha]
theorem leadF_high (f : Nat → List Nat) (leaf : List Nat) {n at_ : Nat} (h : 2 ≤ n) (ha : ¬ at_ < cutN n) (j : Nat) : leadF f leaf at_ n j = nodeL (f (j + dep (at_ - cutN n) (n - cutN n))) (leadF f leaf (at_ - cutN n) (n - cutN n) j) := by
  rw [leadF, dif_neg (by omega), if_neg ha]
theorem leadF_of {P : List Nat → Prop} (hs : ∀ xs, P (sha xs)) (f : Nat → List Nat) (leaf : List Nat) (hl : P leaf) (at_ n j : Nat) : P (leadF f leaf at_ n j) := by
  by_cases h : n < 2
  · rw [leadF_one f leaf h]; exact hl
  · by_cases ha : at_ < cutN n
    · rw [leadF_low f leaf (by omega) ha]; exact hs _
    · rw [leadF_high f leaf (by omega) ha]; exact hs _
theorem leadF_length (f : Nat → List Nat) (leaf : List Nat) (hl : leaf.length = 32) (at_ n j : Nat) : (leadF f leaf at_ n j).length = 32 := leadF_of (P := fun l => l.length = 32) sha_length f leaf hl at_ n j
theorem leadF_lt (f : Nat → List Nat) (leaf : List Nat) (hl : ∀ x ∈ leaf, x < 256) (at_ n j : Nat) : ∀ x ∈ leadF f leaf at_ n j, x < 256 := leadF_of (P := fun l => ∀ x ∈ l, x < 256) sha_lt f leaf hl at_ n j
theorem leadF_congr (f g : Nat → List Nat) (leaf : List Nat) : ∀ (n at_ j : Nat), (∀ k, k < dep at_ n → f (j + k) = g (j + k)) → leadF f leaf at_ n j = leadF g leaf at_ n j := by
  intro n
  induction n using Nat.strongRecOn with
  | ind n ih =>
    intro at_ j h
    by_cases h2 : n < 2
    · rw [leadF_one f leaf h2, leadF_one g leaf h2]
    · have a := cutN_lt (m := n) (by omega)
      have b := cutN_pos n
      by_cases ha : at_ < cutN n
      · rw [dep_low (by omega) ha] at h
        rw [leadF_low f leaf (by omega) ha, leadF_low g leaf (by omega) ha, h _ (by omega), ih _ a _ _ (fun k hk => h k (by omega))]
      · rw [dep_high (by omega) ha] at h
        rw [leadF_high f leaf (by omega) ha, leadF_high g leaf (by omega) ha, h _ (by omega), ih _ (by omega) _ _ (fun k hk => h k (by omega))]

/-- The path of the leaf at a place, of the n sums from i on. -/
def pathL (f : Nat → List Nat) (i n at_ : Nat) : List (List Nat) :=
  if _ : n < 2 then []
  else if at_ < cutN n then pathL f i (cutN n) at_ ++ [rt f (i + cutN n) (n - cutN n)]
  else pathL f (i + cutN n) (n - cutN n) (at_ - cutN n) ++ [rt f i (cutN n)]
termination_by n
decreasing_by
  · exact cutN_lt (by omega)
  · have := cutN_pos n; omega
theorem pathL_one (f : Nat → List Nat) {n : Nat} (h : n < 2) (i at_ : Nat) : pathL f i n at_ = [] := by rw [pathL, dif_pos h]
theorem pathL_low (f : Nat → List Nat) {n at_ : Nat} (h : 2 ≤ n) (ha : at_ < cutN n) (i : Nat) : pathL f i n at_ = pathL f i (cutN n) at_ ++ [rt f (i + cutN n) (n - cutN n)] := by
  rw [pathL, dif_neg (by omega), if_pos ha]
theorem pathL_high (f : Nat → List Nat) {n at_ : Nat} (h : 2 ≤ n) (ha : ¬ at_ < cutN n) (i : Nat) : pathL f i n at_ = pathL f (i + cutN n) (n - cutN n) (at_ - cutN n) ++ [rt f i (cutN n)] := by
  rw [pathL, dif_neg (by omega), if_neg ha]
theorem pathL_length (f : Nat → List Nat) : ∀ (n i at_ : Nat), (pathL f i n at_).length = dep at_ n := by
  intro n
  induction n using Nat.strongRecOn with
  | ind n ih =>
    intro i at_
    by_cases h2 : n < 2
    · rw [pathL_one f h2, dep_one h2]; rfl
    · have a := cutN_lt (m := n) (by omega)
      have b := cutN_pos n
      by_cases ha : at_ < cutN n
      · rw [pathL_low f (by omega) ha, dep_low (by omega) ha, List.length_append, ih _ a]; rfl
      · rw [pathL_high f (by omega) ha, dep_high (by omega) ha, List.length_append, ih _ (by omega)]; rfl
theorem pathL_of {P : List Nat → Prop} (f : Nat → List Nat) : ∀ (n i at_ : Nat), (∀ i m, P (rt f i m)) → ∀ s ∈ pathL f i n at_, P s := by
  intro n
  induction n using Nat.strongRecOn with
  | ind n ih =>
    intro i at_ h s hs
    by_cases h2 : n < 2
    · rw [pathL_one f h2] at hs; cases hs
    · have a := cutN_lt (m := n) (by omega)
      have b := cutN_pos n
      by_cases ha : at_ < cutN n
      · rw [pathL_low f (by omega) ha] at hs
        rcases List.mem_append.1 hs with hs | hs
        · exact ih _ a _ _ h s hs
        · rw [List.mem_singleton.1 hs]; exact h _ _
      · rw [pathL_high f (by omega) ha] at hs
        rcases List.mem_append.1 hs with hs | hs
        · exact ih _ (by omega) _ _ h s hs
        · rw [List.mem_singleton.1 hs]; exact h _ _
theorem pathL_len32 (f : Nat → List Nat) : ∀ (n i at_ : Nat), (∀ j, j < n → (f (i + j)).length = 32) → ∀ s ∈ pathL f i n at_, s.length = 32 := by
  intro n
  induction n using Nat.strongRecOn with
  | ind n ih =>
    intro i at_ h s hs
    by_cases h2 : n < 2
    · rw [pathL_one f h2] at hs; cases hs
    · have a := cutN_lt (m := n) (by omega)
      have b := cutN_pos n
      by_cases ha : at_ < cutN n
      · rw [pathL_low f (by omega) ha] at hs
        rcases List.mem_append.1 hs with hs | hs
        · exact ih _ a _ _ (fun j hj => h j (by omega)) s hs
        · rw [List.mem_singleton.1 hs]; exact rt_length f _ _ fun j hj => by rw [Nat.add_assoc]; exact h _ (by omega)
      · rw [pathL_high f (by omega) ha] at hs
        rcases List.mem_append.1 hs with hs | hs
        · exact ih _ (by omega) _ _ (fun j hj => by rw [Nat.add_assoc]; exact h _ (by omega)) s hs
        · rw [List.mem_singleton.1 hs]; exact rt_length f _ _ fun j hj => h j (by omega)
theorem pathL_congr (f g : Nat → List Nat) : ∀ (n i i' at_ : Nat), (∀ j, j < n → f (i + j) = g (i' + j)) → pathL f i n at_ = pathL g i' n at_ := by
  intro n
  induction n using Nat.strongRecOn with
  | ind n ih =>
    intro i i' at_ h
    by_cases h2 : n < 2
    · rw [pathL_one f h2, pathL_one g h2]
    · have a := cutN_lt (m := n) (by omega)
      have b := cutN_pos n
      by_cases ha : at_ < cutN n
      · rw [pathL_low f (by omega) ha, pathL_low g (by omega) ha, ih _ a i i' at_ (fun j hj => h j (by omega)), rt_congr f g _ (i + cutN n) (i' + cutN n) (fun j hj => by rw [Nat.add_assoc, Nat.add_assoc]; exact h _ (by omega))]
      · rw [pathL_high f (by omega) ha, pathL_high g (by omega) ha, ih _ (by omega) (i + cutN n) (i' + cutN n) _ (fun j hj => by rw [Nat.add_assoc, Nat.add_assoc]; exact h _ (by omega)), rt_congr f g _ i i' (fun j hj => h j (by omega))]

/-- The path of a leaf leads to the root. -/
theorem lead_path (f g : Nat → List Nat) : ∀ (n i at_ j : Nat), 1 ≤ n → at_ < n → (∀ k s, (pathL f i n at_)[k]? = some s → g (j + k) = s) → leadF g (f (i + at_)) at_ n j = rt f i n := by
  intro n
  induction n using Nat.strongRecOn with
  | ind n ih =>
    intro i at_ j h1 hat h
    by_cases h2 : n < 2
    · obtain rfl : n = 1 := by omega
      obtain rfl : at_ = 0 := by omega
      rw [leadF_one g _ h2, rt_one]; rfl
    · have a := cutN_lt (m := n) (by omega)
      have b := cutN_pos n
      by_cases ha : at_ < cutN n
      · rw [pathL_low f (by omega) ha] at h
        rw [leadF_low g _ (by omega) ha, rt_cut f i (by omega), ih _ a i at_ j b ha (fun k s hk => h k s (by rw [List.getElem?_append_left (List.getElem?_eq_some_iff.1 hk).1]; exact hk)),
          h (dep at_ (cutN n)) _ (by rw [List.getElem?_append_right (by rw [pathL_length]; exact Nat.le_refl _), pathL_length, Nat.sub_self]; rfl)]
      · rw [pathL_high f (by omega) ha] at h
        rw [leadF_high g _ (by omega) ha, rt_cut f i (by omega), show i + at_ = i + cutN n + (at_ - cutN n) by omega,
          ih _ (by omega) (i + cutN n) (at_ - cutN n) j (by omega) (by omega) (fun k s hk => h k s (by rw [List.getElem?_append_left (List.getElem?_eq_some_iff.1 hk).1]; exact hk)),
          h (dep (at_ - cutN n) (n - cutN n)) _ (by rw [List.getElem?_append_right (by rw [pathL_length]; exact Nat.le_refl _), pathL_length, Nat.sub_self]; rfl)]

/-- How many bits a number has. -/
def bl (x : Nat) : Nat := if x = 0 then 0 else Nat.log2 x + 1
theorem bl_le {x e : Nat} (h : x < 2 ^ e) : bl x ≤ e := by
  unfold bl
  split
  · omega
  · have := (Nat.log2_lt (by omega)).2 h; omega
theorem bl_half {x : Nat} (h : 0 < x) : bl x = bl (x / 2) + 1 := by
  unfold bl
  rw [if_neg (by omega)]
  by_cases h1 : x = 1
  · subst h1; decide
  · rw [if_neg (by omega)]
    have a : Nat.log2 x = Nat.log2 (x / 2) + 1 := by
      rw [Nat.log2_def, if_pos (by omega)]
    rw [a]
theorem bl_zero : bl 0 = 0 := rfl
theorem dep_le : ∀ (n at_ : Nat), at_ < n → dep at_ n ≤ bl (n - 1) := by
  intro n
  induction n using Nat.strongRecOn with
  | ind n ih =>
    intro at_ hat
    by_cases h2 : n < 2
    · rw [dep_one h2]; omega
    · have a := cutN_lt (m := n) (by omega)
      have b := cutN_pos n
      have c := cutN_two (m := n) (by omega)
      have hb : bl (n - 1) = Nat.log2 (n - 1) + 1 := by unfold bl; rw [if_neg (by omega)]
      have hc : cutN n = 2 ^ Nat.log2 (n - 1) := rfl
      rw [hb]
      by_cases ha : at_ < cutN n
      · rw [dep_low (by omega) ha]
        have := ih _ a at_ ha
        have := bl_le (x := cutN n - 1) (e := Nat.log2 (n - 1)) (by omega)
        omega
      · rw [dep_high (by omega) ha]
        have := ih _ (by omega) (at_ - cutN n) (show at_ - cutN n < n - cutN n by omega)
        have := bl_le (x := n - cutN n - 1) (e := Nat.log2 (n - 1)) (by omega)
        omega
theorem dep_64 {n at_ : Nat} (h : at_ < n) (hn : n ≤ 18446744073709551616) : dep at_ n ≤ 64 := Nat.le_trans (dep_le n at_ h) (bl_le (by omega))

end Go.Proofs.YtnaebjdccngeoaaDoor
