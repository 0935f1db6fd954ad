/-
  Plain facts for the proofs over package nums: lists of bytes as natural numbers, the digits of a number to the base 256, and what it is that a slice reads as such a list. No program is named here.
-/
import Derived.WalkKit
import Derived.Lib.Hide
import Derived.RangeFuncBox
namespace Go.Proofs.Ytfgjkddfomddlaa
open Go.RowKit

/-- A byte as a value. -/
def bv (x : Nat) : Value := .int .u8 (x : Int)
def bvs (xs : List Nat) : List Value := xs.map bv
theorem bvs_length (xs : List Nat) : (bvs xs).length = xs.length := List.length_map ..
theorem bvs_append (xs ys : List Nat) : bvs (xs ++ ys) = bvs xs ++ bvs ys := List.map_append ..
theorem bvs_one (x : Nat) : bvs [x] = [bv x] := rfl
theorem bvs_get (xs : List Nat) (j : Nat) : (bvs xs)[j]? = (xs[j]?).map bv := List.getElem?_map ..
theorem bvs_oneCell (xs : List Nat) : ∀ u ∈ bvs xs, u.oneCell' = true := by
  intro u hu
  obtain ⟨x, _, rfl⟩ := List.mem_map.1 hu
  rfl

/-- The digits of n to the base 256, k of them, the highest first. -/
def dg (n : Nat) : Nat → List Nat
  | 0 => []
  | k + 1 => (n / 256 ^ k % 256) :: dg n k
theorem dg_length (n k : Nat) : (dg n k).length = k := by
  induction k with
  | zero => rfl
  | succ k ih => simp [dg, ih]
theorem dg_lt (n k : Nat) : ∀ x ∈ dg n k, x < 256 := by
  induction k with
  | zero => intro x hx; cases hx
  | succ k ih =>
    intro x hx
    rcases List.mem_cons.1 hx with rfl | h
    · exact Nat.mod_lt _ (by omega)
    · exact ih x h

/-- The slice value '.slice A xs.length c' reads as the bytes xs. -/
def Rd (w : World) (A : Option Addr) (xs : List Nat) : Prop :=
  ∀ j x, xs[j]? = some x → ∃ ad, A = some ad ∧ w.cell? (ad.add j) = some (bv x)

theorem block_add (a : Addr) (n : Nat) : (a.add n).block = a.block := by unfold Addr.add; split <;> rfl
theorem add_add (a : Addr) (i j : Nat) : (a.add i).add j = a.add (i + j) := by
  unfold Addr.add
  by_cases hi : i = 0 <;> by_cases hj : j = 0 <;> simp [hi, hj, Nat.add_assoc]

section
variable {w w' : World} {A : Option Addr} {xs : List Nat}
theorem Rd.nil (w : World) (A : Option Addr) : Rd w A [] := fun j x h => by simp at h
theorem Rd.below (h : Rd w A xs) (hb : Below w.heap.size w w') : Rd w' A xs := fun j x hx => by
  obtain ⟨ad, e, hc⟩ := h j x hx
  exact ⟨ad, e, (hb.cell (World.block_lt_of_cell? w _ hc)).trans hc⟩
theorem Rd.at_ (h : Rd w A xs) {k : Nat} (hk : k < xs.length) : ∃ ad, A = some ad ∧ w.cell? (ad.add k) = some (bv xs[k]) :=
  h k _ (List.getElem?_eq_getElem hk)
theorem Rd.take (h : Rd w A xs) (k : Nat) : Rd w A (xs.take k) := fun j x hx => by
  rw [List.getElem?_take] at hx
  split at hx
  · exact h j x hx
  · cases hx
theorem Rd.drop {a : Addr} (h : Rd w (some a) xs) (k : Nat) : Rd w (some (a.add k)) (xs.drop k) := fun j x hx => by
  rw [List.getElem?_drop] at hx
  obtain ⟨ad, e, hc⟩ := h _ x hx
  cases e
  exact ⟨_, rfl, by rw [add_add]; exact hc⟩
end

/-- '.slice A n c' reads as the bytes xs: n of them. -/
structure In (w : World) (A : Option Addr) (n : Nat) (xs : List Nat) : Prop where
  len : xs.length = n
  rd : Rd w A xs

section
variable {w w' : World} {A : Option Addr} {n : Nat} {xs : List Nat}
theorem In.none_ (w : World) (A : Option Addr) : In w A 0 [] := ⟨rfl, Rd.nil _ _⟩
theorem In.below (h : In w A n xs) (hb : Below w.heap.size w w') : In w' A n xs := ⟨h.len, h.rd.below hb⟩
theorem In.at_ (h : In w A n xs) {k : Nat} (hk : k < n) : ∃ ad x, A = some ad ∧ xs[k]? = some x ∧ w.cell? (ad.add k) = some (.int .u8 (x : Int)) := by
  have hl : k < xs.length := by rw [h.len]; exact hk
  obtain ⟨ad, e, hc⟩ := h.rd.at_ hl
  exact ⟨ad, _, e, List.getElem?_eq_getElem hl, hc⟩
theorem In.take (h : In w A n xs) {k : Nat} (hk : k ≤ n) : In w A k (xs.take k) := ⟨by rw [List.length_take, h.len]; omega, h.rd.take k⟩
theorem In.of_own {base : Nat} {e : TypeId} {c : Nat} (h : w.ownsRow base e 1 (.slice A n c) n (bvs xs)) : In w A n xs := by
  refine ⟨by have := h.1; rw [bvs_length] at this; omega, fun j x hx => ?_⟩
  rcases h.2 with ⟨e1, h0⟩ | ⟨g, cap, cur, e1, _⟩
  · have hl := h.1
    rw [bvs_length, h0] at hl
    have : xs = [] := List.eq_nil_of_length_eq_zero (by omega)
    subst this
    simp at hx
  · cases e1
    exact ⟨_, rfl, h.cells rfl j _ (by rw [bvs_get, hx]; rfl)⟩
theorem own_form {base : Nat} {e : TypeId} {v : Value} (h : w.ownsRow base e 1 v n (bvs xs)) : ∃ A c, v = .slice A n c := by
  rcases h.2 with ⟨rfl, rfl⟩ | ⟨g, cap, cur, rfl, _⟩
  · exact ⟨_, _, rfl⟩
  · exact ⟨_, _, rfl⟩
end

end Go.Proofs.Ytfgjkddfomddlaa
