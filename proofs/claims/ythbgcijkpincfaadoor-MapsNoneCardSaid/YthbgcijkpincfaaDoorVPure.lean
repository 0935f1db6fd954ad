/-
  Trees over leaves: the cut of a number, the sum of a leaf, of a node, the root of the m sums from i on of a list that is told as a function of places; two neighbours put together make the same root.
-/
import Derived.Test.YthbgcijkpincfaaDoorShaSum
namespace Go.Proofs.YthbgcijkpincfaaDoor
open Go.RowKit

def cutN (m : Nat) : Nat := 2 ^ Nat.log2 (m - 1)
theorem cutN_lt {m : Nat} (h : 2 ≤ m) : cutN m < m := by
  have := Nat.log2_self_le (n := m - 1) (by omega)
  rw [cutN]; omega
theorem cutN_pos (m : Nat) : 0 < cutN m := Nat.two_pow_pos _
theorem cutN_two {m : Nat} (h : 2 ≤ m) : m ≤ 2 * cutN m := by
  have : m - 1 < 2 ^ (Nat.log2 (m - 1) + 1) := Nat.lt_log2_self
  rw [Nat.pow_succ] at this
  rw [cutN]; omega
theorem cutN_of {m e : Nat} (h1 : 2 ^ e < m) (h2 : m ≤ 2 * 2 ^ e) : cutN m = 2 ^ e := by
  have hp : 0 < 2 ^ e := Nat.two_pow_pos e
  have : Nat.log2 (m - 1) = e := by
    have a : Nat.log2 (m - 1) < e + 1 := (Nat.log2_lt (by omega)).2 (by rw [Nat.pow_succ]; omega)
    have b : ¬ Nat.log2 (m - 1) < e := fun hh => by have := (Nat.log2_lt (by omega)).1 hh; omega
    omega
  rw [cutN, this]
theorem cutN_half {m : Nat} (h : 3 ≤ m) : cutN m = 2 * cutN ((m + 1) / 2) := by
  have a := cutN_lt (m := (m + 1) / 2) (by omega)
  have b := cutN_two (m := (m + 1) / 2) (by omega)
  have : cutN m = 2 ^ (Nat.log2 ((m + 1) / 2 - 1) + 1) := by
    apply cutN_of <;> (rw [Nat.pow_succ]; unfold cutN at a b; omega)
  rw [this, Nat.pow_succ, cutN]; omega

theorem cutN_even {m : Nat} (h : 3 ≤ m) : cutN m % 2 = 0 := by rw [cutN_half h]; omega

def leafL (xs : List Nat) : List Nat := sha (0 :: xs)
def nodeL (l r : List Nat) : List Nat := sha (1 :: (l ++ r))

def rt (f : Nat → List Nat) (i m : Nat) : List Nat :=
  if m = 0 then sha [] else if _ : m < 2 then f i else nodeL (rt f i (cutN m)) (rt f (i + cutN m) (m - cutN m))
termination_by m
decreasing_by
  · exact cutN_lt (by omega)
  · have := cutN_pos m; omega
theorem rt_nil (f : Nat → List Nat) (i : Nat) : rt f i 0 = sha [] := by rw [rt]; simp
theorem rt_one (f : Nat → List Nat) (i : Nat) : rt f i 1 = f i := by rw [rt]; simp
theorem rt_cut (f : Nat → List Nat) (i : Nat) {m : Nat} (h : 2 ≤ m) : rt f i m = nodeL (rt f i (cutN m)) (rt f (i + cutN m) (m - cutN m)) := by
  rw [rt, if_neg (by omega), dif_neg (by omega)]
theorem rt_congr (f g : Nat → List Nat) : ∀ (m i i' : Nat), (∀ j, j < m → f (i + j) = g (i' + j)) → rt f i m = rt g i' m := by
  intro m
  induction m using Nat.strongRecOn with
  | ind m ih =>
    intro i i' h
    by_cases h0 : m = 0
    · subst h0; rw [rt_nil, rt_nil]
    · by_cases h1 : m = 1
      · subst h1; rw [rt_one, rt_one]; exact h 0 (by omega)
      · have a := cutN_lt (m := m) (by omega)
        have b := cutN_pos m
        rw [rt_cut f i (by omega), rt_cut g i' (by omega), ih _ a i i' (fun j hj => h j (by omega)),
          ih (m - cutN m) (by omega) (i + cutN m) (i' + cutN m) (fun j hj => by rw [Nat.add_assoc, Nat.add_assoc]; exact h _ (by omega))]

/-- Each two neighbours put together; a last one as it is. -/
def upF (f : Nat → List Nat) (e : Nat) (j : Nat) : List Nat := if 2 * j + 1 < e then nodeL (f (2 * j)) (f (2 * j + 1)) else f (2 * j)

theorem rt_up (f : Nat → List Nat) (e : Nat) : ∀ (m i : Nat), 1 ≤ m → (2 * i + m = e ∨ (m % 2 = 0 ∧ 2 * i + m ≤ e)) → rt (upF f e) i ((m + 1) / 2) = rt f (2 * i) m := by
  intro m
  induction m using Nat.strongRecOn with
  | ind m ih =>
    intro i hm h
    by_cases h1 : m = 1
    · subst h1
      rw [show (1 + 1) / 2 = 1 from rfl, rt_one, rt_one, upF, if_neg (by omega)]
    · by_cases h2 : m = 2
      · subst h2
        rw [show (2 + 1) / 2 = 1 from rfl, rt_one, upF, if_pos (by omega), rt_cut f _ (Nat.le_refl 2), show cutN 2 = 1 from rfl, rt_one, show 2 - 1 = 1 from rfl, rt_one]
      · have a := cutN_lt (m := m) (by omega)
        have b := cutN_pos m
        have c := cutN_half (m := m) (by omega)
        have d := cutN_two (m := m) (by omega)
        rw [rt_cut f (2 * i) (by omega), rt_cut _ i (m := (m + 1) / 2) (by omega)]
        have x := ih _ a i b (by omega)
        have y := ih (m - cutN m) (by omega) (i + cutN ((m + 1) / 2)) (by omega) (by omega)
        rw [show (cutN m + 1) / 2 = cutN ((m + 1) / 2) by omega] at x
        rw [show (m - cutN m + 1) / 2 = (m + 1) / 2 - cutN ((m + 1) / 2) by omega, show 2 * (i + cutN ((m + 1) / 2)) = 2 * i + cutN m by omega] at y
        rw [x, y]

theorem nodeL_length (l r : List Nat) : (nodeL l r).length = 32 := sha_length _
theorem nodeL_lt (l r : List Nat) : ∀ x ∈ nodeL l r, x < 256 := sha_lt _
theorem leafL_length (xs : List Nat) : (leafL xs).length = 32 := sha_length _
theorem leafL_lt (xs : List Nat) : ∀ x ∈ leafL xs, x < 256 := sha_lt _
theorem rt_of {P : List Nat → Prop} (hs : ∀ xs, P (sha xs)) (f : Nat → List Nat) (i m : Nat) (h : ∀ j, j < m → P (f (i + j))) : P (rt f i m) := by
  by_cases h0 : m = 0
  · subst h0; rw [rt_nil]; exact hs _
  · by_cases h1 : m = 1
    · subst h1; rw [rt_one]; exact h 0 (by omega)
    · rw [rt_cut f i (by omega)]; exact hs _
theorem rt_length (f : Nat → List Nat) (i m : Nat) (h : ∀ j, j < m → (f (i + j)).length = 32) : (rt f i m).length = 32 := rt_of (P := fun l => l.length = 32) sha_length f i m h
theorem rt_lt (f : Nat → List Nat) (i m : Nat) (h : ∀ j, j < m → ∀ x ∈ f (i + j), x < 256) : ∀ x ∈ rt f i m, x < 256 := rt_of (P := fun l => ∀ x ∈ l, x < 256) sha_lt f i m h

end Go.Proofs.YthbgcijkpincfaaDoor
