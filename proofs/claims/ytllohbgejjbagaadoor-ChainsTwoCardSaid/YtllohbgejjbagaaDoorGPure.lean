/-
  The front of a tree that grows, as plain lists: the roots of the whole trees of the n sums from i on; what those ahead and a last one come to; one more.
-/
import Derived.Test.YtllohbgejjbagaaDoorVPure
namespace Go.Proofs.YtllohbgejjbagaaDoor
open Go.RowKit

theorem top_le {n : Nat} (h : n ≠ 0) : 2 ^ Nat.log2 n ≤ n := Nat.log2_self_le h
theorem top_lt (n : Nat) : n < 2 * 2 ^ Nat.log2 n := by
  have := Nat.lt_log2_self (n := n)
  rw [Nat.pow_succ] at this
  omega
theorem top_of {n e : Nat} (h1 : 2 ^ e ≤ n) (h2 : n < 2 * 2 ^ e) : Nat.log2 n = e := by
  have hp : 0 < 2 ^ e := Nat.two_pow_pos e
  have a : Nat.log2 n < e + 1 := (Nat.log2_lt (by omega)).2 (by rw [Nat.pow_succ]; omega)
  have b : ¬ Nat.log2 n < e := fun hh => by have := (Nat.log2_lt (by omega)).1 hh; omega
  omega

/-- The roots of the whole trees of the n sums from i on, the greatest first. -/
def fr (f : Nat → List Nat) (i n : Nat) : List (List Nat) :=
  if _ : n = 0 then [] else rt f i (2 ^ Nat.log2 n) :: fr f (i + 2 ^ Nat.log2 n) (n - 2 ^ Nat.log2 n)
termination_by n
decreasing_by have := Nat.two_pow_pos (Nat.log2 n); omega

theorem fr_nil (f : Nat → List Nat) (i : Nat) : fr f i 0 = [] := by rw [fr]; simp
theorem fr_top (f : Nat → List Nat) (i : Nat) {n : Nat} (h : n ≠ 0) : fr f i n = rt f i (2 ^ Nat.log2 n) :: fr f (i + 2 ^ Nat.log2 n) (n - 2 ^ Nat.log2 n) := by
  rw [fr, dif_neg h]
theorem fr_at (f : Nat → List Nat) (i : Nat) {n e : Nat} (h1 : 2 ^ e ≤ n) (h2 : n < 2 * 2 ^ e) : fr f i n = rt f i (2 ^ e) :: fr f (i + 2 ^ e) (n - 2 ^ e) := by
  have := Nat.two_pow_pos e
  rw [fr_top f i (by omega), top_of h1 h2]
theorem fr_pow (f : Nat → List Nat) (i e : Nat) : fr f i (2 ^ e) = [rt f i (2 ^ e)] := by
  have := Nat.two_pow_pos e
  rw [fr_at f i (Nat.le_refl _) (by omega), Nat.sub_self, fr_nil]
theorem fr_none {f : Nat → List Nat} {i n : Nat} : fr f i n = [] ↔ n = 0 := by
  constructor
  · intro h
    by_cases h0 : n = 0
    · exact h0
    · rw [fr_top f i h0] at h; cases h
  · rintro rfl; exact fr_nil f i

theorem fr_of {P : List Nat → Prop} (hs : ∀ xs, P (sha xs)) (f : Nat → List Nat) : ∀ (n i : Nat), (∀ j, j < n → P (f (i + j))) → ∀ x ∈ fr f i n, P x := by
  intro n
  induction n using Nat.strongRecOn with
  | ind n ih =>
    intro i h x hx
    by_cases h0 : n = 0
    · subst h0; rw [fr_nil] at hx; cases hx
    · have a := top_le h0
      have b := Nat.two_pow_pos (Nat.log2 n)
      rw [fr_top f i h0] at hx
      rcases List.mem_cons.1 hx with rfl | hx
      · exact rt_of hs f i _ fun j hj => h j (by omega)
      · exact ih _ (by omega) _ (fun j hj => by rw [Nat.add_assoc]; exact h _ (by omega)) x hx
theorem fr_congr (f g : Nat → List Nat) : ∀ (n i i' : Nat), (∀ j, j < n → f (i + j) = g (i' + j)) → fr f i n = fr g i' n := by
  intro n
  induction n using Nat.strongRecOn with
  | ind n ih =>
    intro i i' h
    by_cases h0 : n = 0
    · subst h0; rw [fr_nil, fr_nil]
    · have a := top_le h0
      have b := Nat.two_pow_pos (Nat.log2 n)
      rw [fr_top f i h0, fr_top g i' h0, rt_congr f g _ i i' fun j hj => h j (by omega),
        ih _ (by omega) _ (i' + 2 ^ Nat.log2 n) fun j hj => by rw [Nat.add_assoc, Nat.add_assoc]; exact h _ (by omega)]

/-- The last one, put together with the one ahead of it, and so on. -/
def tog (ahead : List (List Nat)) (last : List Nat) : List Nat := ahead.foldr nodeL last
theorem tog_nil (x : List Nat) : tog [] x = x := rfl
theorem tog_cons (y : List Nat) (ys : List (List Nat)) (x : List Nat) : tog (y :: ys) x = nodeL y (tog ys x) := rfl
theorem tog_snoc (ys : List (List Nat)) (y x : List Nat) : tog (ys ++ [y]) x = tog ys (nodeL y x) := by simp [tog]
theorem tog_of {P : List Nat → Prop} (hs : ∀ xs, P (sha xs)) (ys : List (List Nat)) (x : List Nat) (h : P x) : P (tog ys x) := by
  cases ys with
  | nil => exact h
  | cons y ys => exact hs _

/-- The whole trees put together are the root. -/
theorem tog_fr (f : Nat → List Nat) : ∀ (n i : Nat) (pre : List (List Nat)) (x : List Nat), fr f i n = pre ++ [x] → tog pre x = rt f i n := by
  intro n
  induction n using Nat.strongRecOn with
  | ind n ih =>
    intro i pre x h
    by_cases h0 : n = 0
    · subst h0; rw [fr_nil] at h; simp at h
    · have a := top_le h0
      have b := Nat.two_pow_pos (Nat.log2 n)
      have c := top_lt n
      rw [fr_top f i h0] at h
      by_cases hp : n = 2 ^ Nat.log2 n
      · rw [← hp, Nat.sub_self, fr_nil] at h
        cases pre with
        | nil => simp at h; rw [tog_nil, h]
        | cons y ys => simp at h
      · cases pre with
        | nil =>
          simp at h
          have := fr_none.1 h.2
          omega
        | cons y ys =>
          rw [List.cons_append] at h
          injection h with h1 h2
          rw [tog_cons, ih _ (by omega) _ ys x h2, ← h1, rt_cut f i (m := n) (by omega), cutN_of (m := n) (e := Nat.log2 n) (by omega) (by omega)]

theorem fr_append (f : Nat → List Nat) {m b : Nat} (hb : b < 2 ^ m) : ∀ (q i : Nat), fr f i (q * 2 ^ m + b) = fr f i (q * 2 ^ m) ++ fr f (i + q * 2 ^ m) b := by
  intro q
  induction q using Nat.strongRecOn with
  | ind q ih =>
    intro i
    by_cases h0 : q = 0
    · subst h0; rw [Nat.zero_mul, fr_nil, Nat.zero_add]; rfl
    · have a := top_le h0
      have c := top_lt q
      have d := Nat.two_pow_pos m
      have e1 : 2 ^ (Nat.log2 q + m) = 2 ^ Nat.log2 q * 2 ^ m := Nat.pow_add ..
      have a1 : 2 ^ Nat.log2 q * 2 ^ m ≤ q * 2 ^ m := Nat.mul_le_mul_right _ a
      have c1 : (q + 1) * 2 ^ m ≤ 2 * 2 ^ Nat.log2 q * 2 ^ m := Nat.mul_le_mul_right _ (by omega)
      rw [Nat.add_mul, Nat.one_mul, Nat.mul_assoc] at c1
      have z := Nat.two_pow_pos (Nat.log2 q)
      have e2 : q * 2 ^ m - 2 ^ Nat.log2 q * 2 ^ m = (q - 2 ^ Nat.log2 q) * 2 ^ m := (Nat.sub_mul ..).symm
      rw [fr_at f i (n := q * 2 ^ m + b) (e := Nat.log2 q + m) (by omega) (by omega), fr_at f i (n := q * 2 ^ m) (e := Nat.log2 q + m) (by omega) (by omega), e1,
        show q * 2 ^ m + b - 2 ^ Nat.log2 q * 2 ^ m = (q - 2 ^ Nat.log2 q) * 2 ^ m + b by rw [← e2]; omega, e2, ih _ (by omega), List.cons_append,
        show i + 2 ^ Nat.log2 q * 2 ^ m + (q - 2 ^ Nat.log2 q) * 2 ^ m = i + q * 2 ^ m by rw [← e2]; omega]

theorem fr_ones (f : Nat → List Nat) : ∀ (k i : Nat), (fr f i (2 ^ k - 1)).length = k ∧ tog (fr f i (2 ^ k - 1)) (f (i + (2 ^ k - 1))) = rt f i (2 ^ k) := by
  intro k
  induction k with
  | zero => intro i; rw [show 2 ^ 0 - 1 = 0 from rfl, fr_nil, tog_nil, show 2 ^ 0 = 1 from rfl, rt_one]; exact ⟨rfl, rfl⟩
  | succ k ih =>
    intro i
    have hp := Nat.two_pow_pos k
    have hs : 2 ^ (k + 1) = 2 * 2 ^ k := by rw [Nat.pow_succ]; omega
    have h := ih (i + 2 ^ k)
    rw [fr_at f i (n := 2 ^ (k + 1) - 1) (e := k) (by omega) (by omega), show 2 ^ (k + 1) - 1 - 2 ^ k = 2 ^ k - 1 by omega]
    refine ⟨by rw [List.length_cons, h.1], ?_⟩
    rw [tog_cons, show i + (2 ^ (k + 1) - 1) = i + 2 ^ k + (2 ^ k - 1) by omega, h.2, rt_cut f i (m := 2 ^ (k + 1)) (by omega), cutN_of (m := 2 ^ (k + 1)) (e := k) (by omega) (by omega), show 2 ^ (k + 1) - 2 ^ k = 2 ^ k by omega]

/-- One more: the last trees, as many as the size has bits set from the lowest on, become one with it. -/
theorem fr_more (f : Nat → List Nat) (i : Nat) {n k : Nat} (h : n % (2 * 2 ^ k) = 2 ^ k - 1) :
    ∃ pre l, fr f i n = pre ++ l ∧ l.length = k ∧ fr f i (n + 1) = pre ++ [tog l (f (i + n))] := by
  have hp := Nat.two_pow_pos k
  have hs : 2 ^ (k + 1) = 2 * 2 ^ k := by rw [Nat.pow_succ]; omega
  have hd := Nat.div_add_mod n (2 * 2 ^ k)
  rw [h, ← hs, Nat.mul_comm] at hd
  obtain ⟨q, hq⟩ : ∃ q, n / 2 ^ (k + 1) = q := ⟨_, rfl⟩
  rw [hq] at hd
  have o := fr_ones f k (i + q * 2 ^ (k + 1))
  refine ⟨fr f i (q * 2 ^ (k + 1)), fr f (i + q * 2 ^ (k + 1)) (2 ^ k - 1), ?_, o.1, ?_⟩
  · rw [← hd]; exact fr_append f (by omega) q i
  · rw [← hd, show i + (q * 2 ^ (k + 1) + (2 ^ k - 1)) = i + q * 2 ^ (k + 1) + (2 ^ k - 1) by omega, o.2, show q * 2 ^ (k + 1) + (2 ^ k - 1) + 1 = q * 2 ^ (k + 1) + 2 ^ k by omega, fr_append f (by omega) q i, fr_pow]

/-- How many bits are set. -/
def pop (n : Nat) : Nat := if _ : n = 0 then 0 else n % 2 + pop (n / 2)
termination_by n
decreasing_by omega
theorem pop_zero : pop 0 = 0 := by rw [pop]; simp
theorem pop_step {n : Nat} (h : n ≠ 0) : pop n = n % 2 + pop (n / 2) := by rw [pop, dif_neg h]
theorem pop_le (n : Nat) : pop n ≤ n := by
  induction n using Nat.strongRecOn with
  | ind n ih =>
    by_cases h0 : n = 0
    · subst h0; rw [pop_zero]; exact Nat.le_refl _
    · rw [pop_step h0]; have := ih (n / 2) (by omega); omega

theorem fr_twice (f : Nat → List Nat) : ∀ (h i j : Nat), (fr f i (2 * h)).length = (fr f j h).length := by
  intro h
  induction h using Nat.strongRecOn with
  | ind h ih =>
    intro i j
    by_cases h0 : h = 0
    · subst h0; rw [Nat.mul_zero, fr_nil, fr_nil]
    · have a := top_le h0
      have b := Nat.two_pow_pos (Nat.log2 h)
      have c := top_lt h
      have e : 2 ^ (Nat.log2 h + 1) = 2 * 2 ^ Nat.log2 h := by rw [Nat.pow_succ]; omega
      rw [fr_at f i (n := 2 * h) (e := Nat.log2 h + 1) (by omega) (by omega), fr_top f j h0, List.length_cons, List.length_cons, e, show 2 * h - 2 * 2 ^ Nat.log2 h = 2 * (h - 2 ^ Nat.log2 h) by omega, ih _ (by omega)]
theorem fr_length (f : Nat → List Nat) : ∀ (n i : Nat), (fr f i n).length = pop n := by
  intro n
  induction n using Nat.strongRecOn with
  | ind n ih =>
    intro i
    by_cases h0 : n = 0
    · subst h0; rw [fr_nil, pop_zero]; rfl
    · have hd : n = n / 2 * 2 ^ 1 + n % 2 := by omega
      have := fr_append f (m := 1) (b := n % 2) (by omega) (n / 2) i
      rw [← hd] at this
      rw [this, List.length_append, Nat.mul_comm, show 2 ^ 1 * (n / 2) = 2 * (n / 2) from rfl, fr_twice f _ i i, ih _ (by omega), pop_step h0, Nat.add_comm]
      congr 1
      rcases (show n % 2 = 0 ∨ n % 2 = 1 by omega) with h | h <;> rw [h]
      · rw [fr_nil]; rfl
      · rw [show 1 = 2 ^ 0 from rfl, fr_pow]; rfl

/-- The sums of a list of sums, one behind the other, are 32 bytes each. -/
theorem gflat_len {l : List (List Nat)} (h : ∀ x ∈ l, x.length = 32) : l.flatten.length = 32 * l.length := by
  induction l with
  | nil => rfl
  | cons x l ih => rw [List.flatten_cons, List.length_append, h x (by simp), ih fun y hy => h y (by simp [hy]), List.length_cons]; omega
theorem gflat_lt {l : List (List Nat)} (h : ∀ x ∈ l, ∀ y ∈ x, y < 256) : ∀ y ∈ l.flatten, y < 256 := by
  intro y hy
  obtain ⟨x, hx, hxy⟩ := List.mem_flatten.1 hy
  exact h x hx y hxy
theorem flat_drop {l : List (List Nat)} (h : ∀ x ∈ l, x.length = 32) (k : Nat) : l.flatten.drop (32 * k) = (l.drop k).flatten := by
  induction k generalizing l with
  | zero => rfl
  | succ k ih =>
    cases l with
    | nil => simp
    | cons x l =>
      rw [List.flatten_cons, List.drop_succ_cons, ← ih fun y hy => h y (by simp [hy]), show 32 * (k + 1) = 32 + 32 * k by omega, ← List.drop_drop, List.drop_append, h x (by simp), Nat.sub_self, List.drop_of_length_le (Nat.le_of_eq (h x (by simp)))]
      rfl
theorem flat_take {l : List (List Nat)} (h : ∀ x ∈ l, x.length = 32) (k : Nat) : l.flatten.take (32 * k) = (l.take k).flatten := by
  induction k generalizing l with
  | zero => rfl
  | succ k ih =>
    cases l with
    | nil => simp
    | cons x l =>
      rw [List.flatten_cons, List.take_succ_cons, List.flatten_cons, ← ih fun y hy => h y (by simp [hy]), List.take_append, h x (by simp), List.take_of_length_le (by rw [h x (by simp)]; omega), show 32 * (k + 1) - 32 = 32 * k by omega]

end Go.Proofs.YtllohbgejjbagaaDoor
