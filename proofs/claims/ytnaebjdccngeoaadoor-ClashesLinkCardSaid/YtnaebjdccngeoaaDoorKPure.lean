/-
  The link of a beginning, as plain functions: how many sums it has, which they are, and what a link leads to.
-/
import Derived.Test.YtnaebjdccngeoaaDoorVPure
namespace Go.Proofs.YtnaebjdccngeoaaDoor
open Go.RowKit

theorem cutN_mid {n m : Nat} (h : cutN n < m) (hm : m ≤ n) : cutN m = cutN n := by
  have h2 : 2 ≤ n := by have := cutN_pos n; omega
  have := cutN_two h2
  exact cutN_of (e := Nat.log2 (n - 1)) h (by show m ≤ 2 * cutN n; omega)

/-- How many sums a link has. -/
def ldep (m n : Nat) (edge : Bool) : Nat := if _ : n < 2 ∨ m = n then (if edge then 0 else 1) else if m ≤ cutN n then ldep m (cutN n) edge + 1 else ldep (m - cutN n) (n - cutN n) false + 1
termination_by n
decreasing_by
  · exact cutN_lt (by omega)
  · have := cutN_pos n; omega
theorem ldep_all {n m : Nat} (h : n < 2 ∨ m = n) (edge : Bool) : ldep m n edge = if edge then 0 else 1 := by rw [ldep, dif_pos h]
theorem ldep_low {n m : Nat} (h : ¬(n < 2 ∨ m = n)) (ha : m ≤ cutN n) (edge : Bool) : ldep m n edge = ldep m (cutN n) edge + 1 := by rw [ldep, dif_neg h, if_pos ha]
theorem ldep_high {n m : Nat} (h : ¬(n < 2 ∨ m = n)) (ha : ¬ m ≤ cutN n) (edge : Bool) : ldep m n edge = ldep (m - cutN n) (n - cutN n) false + 1 := by rw [ldep, dif_neg h, if_neg ha]

/-- What the sums from number j on lead to: an old one and a new one. -/
def linkF (f : Nat → List Nat) (a : List Nat) (m n : Nat) (edge : Bool) (j : Nat) : List Nat × List Nat :=
  if _ : n < 2 ∨ m = n then (if edge then (a, a) else (f j, f j))
  else if m ≤ cutN n then ((linkF f a m (cutN n) edge j).1, nodeL (linkF f a m (cutN n) edge j).2 (f (j + ldep m (cutN n) edge)))
  else (nodeL (f (j + ldep (m - cutN n) (n - cutN n) false)) (linkF f a (m - cutN n) (n - cutN n) false j).1, nodeL (f (j + ldep (m - cutN n) (n - cutN n) false)) (linkF f a (m - cutN n) (n - cutN n) false j).2)
termination_by n
decreasing_by
  all_goals first | exact cutN_lt (by omega) | (have := cutN_pos n; omega)
theorem linkF_all (f : Nat → List Nat) (a : List Nat) {n m : Nat} (h : n < 2 ∨ m = n) (edge : Bool) (j : Nat) : linkF f a m n edge j = if edge then (a, a) else (f j, f j) := by rw [linkF, dif_pos h]
theorem linkF_low (f : Nat → List Nat) (a : List Nat) {n m : Nat} (h : ¬(n < 2 ∨ m = n)) (ha : m ≤ cutN n) (edge : Bool) (j : Nat) : linkF f a m n edge j = ((linkF f a m (cutN n) edge j).1, nodeL (linkF f a m (cutN n) edge j).2 (f (j + ldep m (cutN n) edge))) := by
  rw [linkF, dif_neg h, if_pos ha]
theorem linkF_high (f : Nat → List Nat) (a : List Nat) {n m : Nat} (h : ¬(n < 2 ∨ m = n)) (ha : ¬ m ≤ cutN n) (edge : Bool) (j : Nat) : linkF f a m n edge j = (nodeL (f (j + ldep (m - cutN n) (n - cutN n) false)) (linkF f a (m - cutN n) (n - cutN n) false j).1, nodeL (f (j + ldep (m - cutN n) (n - cutN n) false)) (linkF f a (m - cutN n) (n - cutN n) false j).2) := by
  rw [linkF, dif_neg h, if_neg ha]
/-- A law of sums that each of them keeps; of those that are taken it is asked alone. -/
theorem linkF_of {P : List Nat → Prop} (hs : ∀ xs, P (sha xs)) (f : Nat → List Nat) (a : List Nat) (hl : P a) : ∀ (n m : Nat) (edge : Bool) (j : Nat), (∀ k, k < ldep m n edge → P (f (j + k))) → P (linkF f a m n edge j).1 ∧ P (linkF f a m n edge j).2 := by
  intro n
  induction n using Nat.strongRecOn with
  | ind n ih =>
    intro m edge j h
    by_cases h2 : n < 2 ∨ m = n
    · rw [linkF_all f a h2]
      rw [ldep_all h2] at h
      cases edge with
      | true => exact ⟨hl, hl⟩
      | false => exact ⟨h 0 (by decide), h 0 (by decide)⟩
    · have hc := cutN_lt (m := n) (by omega)
      have hp := cutN_pos n
      by_cases ha : m ≤ cutN n
      · rw [ldep_low h2 ha] at h
        rw [linkF_low f a h2 ha]
        exact ⟨(ih _ hc m edge j (fun k hk => h k (by omega))).1, hs _⟩
      · rw [linkF_high f a h2 ha]
        exact ⟨hs _, hs _⟩
theorem linkF_congr (f g : Nat → List Nat) (a : List Nat) : ∀ (n m : Nat) (edge : Bool) (j : Nat), (∀ k, k < ldep m n edge → f (j + k) = g (j + k)) → linkF f a m n edge j = linkF g a m n edge j := by
  intro n
  induction n using Nat.strongRecOn with
  | ind n ih =>
    intro m edge j h
    by_cases h2 : n < 2 ∨ m = n
    · rw [linkF_all f a h2, linkF_all g a h2]
      rw [ldep_all h2] at h
      cases edge with
      | true => rfl
      | false => rw [show f j = g j from h 0 (by decide)]
    · have hc := cutN_lt (m := n) (by omega)
      have hp := cutN_pos n
      by_cases ha : m ≤ cutN n
      · rw [ldep_low h2 ha] at h
        rw [linkF_low f a h2 ha, linkF_low g a h2 ha, h _ (Nat.lt_succ_self _), ih _ hc m edge j (fun k hk => h k (by omega))]
      · rw [ldep_high h2 ha] at h
        rw [linkF_high f a h2 ha, linkF_high g a h2 ha, h _ (Nat.lt_succ_self _), ih _ (by omega) _ false j (fun k hk => h k (by omega))]

/-- The link of the first m of the n sums from i on. -/
def linkL (f : Nat → List Nat) (i n m : Nat) (edge : Bool) : List (List Nat) :=
  if _ : n < 2 ∨ m = n then (if edge then [] else [rt f i n])
  else if m ≤ cutN n then linkL f i (cutN n) m edge ++ [rt f (i + cutN n) (n - cutN n)]
  else linkL f (i + cutN n) (n - cutN n) (m - cutN n) false ++ [rt f i (cutN n)]
termination_by n
decreasing_by
  · exact cutN_lt (by omega)
  · have := cutN_pos n; omega
theorem linkL_all (f : Nat → List Nat) {n m : Nat} (h : n < 2 ∨ m = n) (i : Nat) (edge : Bool) : linkL f i n m edge = if edge then [] else [rt f i n] := by rw [linkL, dif_pos h]
theorem linkL_low (f : Nat → List Nat) {n m : Nat} (h : ¬(n < 2 ∨ m = n)) (ha : m ≤ cutN n) (i : Nat) (edge : Bool) : linkL f i n m edge = linkL f i (cutN n) m edge ++ [rt f (i + cutN n) (n - cutN n)] := by
  rw [linkL, dif_neg h, if_pos ha]
theorem linkL_high (f : Nat → List Nat) {n m : Nat} (h : ¬(n < 2 ∨ m = n)) (ha : ¬ m ≤ cutN n) (i : Nat) (edge : Bool) : linkL f i n m edge = linkL f (i + cutN n) (n - cutN n) (m - cutN n) false ++ [rt f i (cutN n)] := by
  rw [linkL, dif_neg h, if_neg ha]
theorem linkL_length (f : Nat → List Nat) : ∀ (n i m : Nat) (edge : Bool), (linkL f i n m edge).length = ldep m n edge := by
  intro n
  induction n using Nat.strongRecOn with
  | ind n ih =>
    intro i m edge
    by_cases h2 : n < 2 ∨ m = n
    · rw [linkL_all f h2, ldep_all h2]; cases edge <;> rfl
    · have hc := cutN_lt (m := n) (by omega)
      have hp := cutN_pos n
      by_cases ha : m ≤ cutN n
      · rw [linkL_low f h2 ha, ldep_low h2 ha, List.length_append, ih _ hc]; rfl
      · rw [linkL_high f h2 ha, ldep_high h2 ha, List.length_append, ih _ (by omega)]; rfl
theorem linkL_of {P : List Nat → Prop} (f : Nat → List Nat) : ∀ (n i m : Nat) (edge : Bool), (∀ i m, P (rt f i m)) → ∀ s ∈ linkL f i n m edge, P s := by
  intro n
  induction n using Nat.strongRecOn with
  | ind n ih =>
    intro i m edge h s hs
    by_cases h2 : n < 2 ∨ m = n
    · rw [linkL_all f h2] at hs
      cases edge with
      | true => cases hs
      | false => rw [List.mem_singleton.1 hs]; exact h _ _
    · have hc := cutN_lt (m := n) (by omega)
      have hp := cutN_pos n
      by_cases ha : m ≤ cutN n
      · rw [linkL_low f h2 ha] at hs
        rcases List.mem_append.1 hs with hs | hs
        · exact ih _ hc _ _ _ h s hs
        · rw [List.mem_singleton.1 hs]; exact h _ _
      · rw [linkL_high f h2 ha] at hs
        rcases List.mem_append.1 hs with hs | hs
        · exact ih _ (by omega) _ _ _ h s hs
        · rw [List.mem_singleton.1 hs]; exact h _ _
theorem linkL_len32 (f : Nat → List Nat) : ∀ (n i m : Nat) (edge : Bool), (∀ j, j < n → (f (i + j)).length = 32) → ∀ s ∈ linkL f i n m edge, s.length = 32 := by
  intro n
  induction n using Nat.strongRecOn with
  | ind n ih =>
    intro i m edge h s hs
    by_cases h2 : n < 2 ∨ m = n
    · rw [linkL_all f h2] at hs
      cases edge with
      | true => cases hs
      | false => rw [List.mem_singleton.1 hs]; exact rt_length f _ _ h
    · have hc := cutN_lt (m := n) (by omega)
      have hp := cutN_pos n
      by_cases ha : m ≤ cutN n
      · rw [linkL_low f h2 ha] at hs
        rcases List.mem_append.1 hs with hs | hs
        · exact ih _ hc _ _ _ (fun j hj => h j (by omega)) s hs
        · rw [List.mem_singleton.1 hs]; exact rt_length f _ _ fun j hj => by rw [Nat.add_assoc]; exact h _ (by omega)
      · rw [linkL_high f h2 ha] at hs
        rcases List.mem_append.1 hs with hs | hs
        · exact ih _ (by omega) _ _ _ (fun j hj => by rw [Nat.add_assoc]; exact h _ (by omega)) s hs
        · rw [List.mem_singleton.1 hs]; exact rt_length f _ _ fun j hj => h j (by omega)
theorem linkL_congr (f g : Nat → List Nat) : ∀ (n i i' m : Nat) (edge : Bool), (∀ j, j < n → f (i + j) = g (i' + j)) → linkL f i n m edge = linkL g i' n m edge := by
  intro n
  induction n using Nat.strongRecOn with
  | ind n ih =>
    intro i i' m edge h
    by_cases h2 : n < 2 ∨ m = n
    · rw [linkL_all f h2, linkL_all g h2, rt_congr f g _ i i' h]
    · have hc := cutN_lt (m := n) (by omega)
      have hp := cutN_pos n
      by_cases ha : m ≤ cutN n
      · rw [linkL_low f h2 ha, linkL_low g h2 ha, ih _ hc i i' m edge (fun j hj => h j (by omega)), rt_congr f g _ (i + cutN n) (i' + cutN n) (fun j hj => by rw [Nat.add_assoc, Nat.add_assoc]; exact h _ (by omega))]
      · rw [linkL_high f h2 ha, linkL_high g h2 ha, ih _ (by omega) (i + cutN n) (i' + cutN n) _ false (fun j hj => by rw [Nat.add_assoc, Nat.add_assoc]; exact h _ (by omega)), rt_congr f g _ i i' (fun j hj => h j (by omega))]

/-- The link of a beginning leads to both roots. -/
theorem link_back (f g : Nat → List Nat) (a : List Nat) : ∀ (n i m j : Nat) (edge : Bool), 1 ≤ m → m ≤ n → (edge = true → a = rt f i m) → (∀ k s, (linkL f i n m edge)[k]? = some s → g (j + k) = s) →
    linkF g a m n edge j = (rt f i m, rt f i n) := by
  intro n
  induction n using Nat.strongRecOn with
  | ind n ih =>
    intro i m j edge h1 hm ha h
    by_cases h2 : n < 2 ∨ m = n
    · obtain rfl : m = n := by omega
      rw [linkL_all f h2] at h
      rw [linkF_all g a h2]
      cases edge with
      | true => rw [ha rfl]; rfl
      | false =>
        have := h 0 _ rfl
        rw [Nat.add_zero] at this
        rw [this]; rfl
    · have hc := cutN_lt (m := n) (by omega)
      have hp := cutN_pos n
      by_cases hl : m ≤ cutN n
      · rw [linkL_low f h2 hl] at h
        rw [linkF_low g a h2 hl, ih _ hc i m j edge h1 hl ha (fun k s hk => h k s (by rw [List.getElem?_append_left (List.getElem?_eq_some_iff.1 hk).1]; exact hk)), rt_cut f i (m := n) (by omega),
          h (ldep m (cutN n) edge) _ (by rw [List.getElem?_append_right (by rw [linkL_length]; exact Nat.le_refl _), linkL_length, Nat.sub_self]; rfl)]
      · rw [linkL_high f h2 hl] at h
        rw [linkF_high g a h2 hl, ih _ (by omega) (i + cutN n) (m - cutN n) j false (by omega) (by omega) (fun e => by cases e) (fun k s hk => h k s (by rw [List.getElem?_append_left (List.getElem?_eq_some_iff.1 hk).1]; exact hk)),
          h (ldep (m - cutN n) (n - cutN n) false) _ (by rw [List.getElem?_append_right (by rw [linkL_length]; exact Nat.le_refl _), linkL_length, Nat.sub_self]; rfl),
          rt_cut f i (m := n) (by omega), rt_cut f i (m := m) (by omega), cutN_mid (by omega) hm]

/-- How many sums a link has at most. -/
theorem ldep_le : ∀ (n m e : Nat) (edge : Bool), n ≤ 2 ^ e → ldep m n edge ≤ e + 1 := by
  intro n
  induction n using Nat.strongRecOn with
  | ind n ih =>
    intro m e edge hn
    by_cases h2 : n < 2 ∨ m = n
    · rw [ldep_all h2]; split <;> omega
    · have hc := cutN_lt (m := n) (by omega)
      have hp := cutN_pos n
      have ht := cutN_two (m := n) (by omega)
      have he : ∃ d, e = d + 1 := by
        cases e with
        | zero => rw [Nat.pow_zero] at hn; omega
        | succ d => exact ⟨d, rfl⟩
      obtain ⟨d, rfl⟩ := he
      rw [Nat.pow_succ] at hn
      have hcd : cutN n ≤ 2 ^ d := by
        have hlt : cutN n < 2 ^ (d + 1) := by rw [Nat.pow_succ]; omega
        have : Nat.log2 (n - 1) < d + 1 := (Nat.pow_lt_pow_iff_right (by decide)).1 hlt
        exact Nat.pow_le_pow_right (by decide) (by omega)
      by_cases ha : m ≤ cutN n
      · rw [ldep_low h2 ha]
        have := ih _ hc m d edge hcd
        omega
      · rw [ldep_high h2 ha]
        have := ih _ (by omega) (m - cutN n) d false (show n - cutN n ≤ 2 ^ d by omega)
        omega
theorem ldep_64 {n : Nat} (hn : n ≤ 18446744073709551616) (m : Nat) (edge : Bool) : ldep m n edge ≤ 65 := ldep_le n m 64 edge (by omega)

/-- Of a power of two: what stands to its right, from the nearest one on. -/
theorem link_power (f : Nat → List Nat) (e : Nat) : ∀ (n i : Nat), 2 ^ e ≤ n → (linkL f i n (2 ^ e) true).foldl nodeL (rt f i (2 ^ e)) = rt f i n := by
  intro n
  induction n using Nat.strongRecOn with
  | ind n ih =>
    intro i hn
    by_cases h2 : n < 2 ∨ 2 ^ e = n
    · have h0 : 0 < 2 ^ e := Nat.two_pow_pos e
      obtain rfl : 2 ^ e = n := by omega
      rw [linkL_all f h2]; rfl
    · have hc := cutN_lt (m := n) (by omega)
      have hl : 2 ^ e ≤ cutN n := by
        have h1 : 2 ^ e ≤ n - 1 := by omega
        have : e ≤ Nat.log2 (n - 1) := (Nat.le_log2 (by omega)).2 h1
        exact Nat.pow_le_pow_right (by decide) this
      rw [linkL_low f h2 hl, List.foldl_append, ih _ hc i hl, rt_cut f i (m := n) (by omega)]; rfl

end Go.Proofs.YtnaebjdccngeoaaDoor
