/-
  What a walk down both trees comes to: it is handed back, and what is of one sum is the same; or a clash is panicked with.
-/
import Derived.Test.YtnaebjdccngeoaaDoorCVar
import Derived.Test.YtnaebjdccngeoaaDoorLApp2
namespace Go.Proofs.YtnaebjdccngeoaaDoor
open Go.RowKit

/-- Two lists of bytes that are the call's own, in blocks of their own. -/
structure Two (base : Nat) (w : World) (A : Option Addr) (n c : Nat) (xs : List Nat) (B : Option Addr) (m d : Nat) (ys : List Nat) : Prop where
  a : w.ownsRow base 5 1 (.slice A n c) n (bvs xs)
  b : w.ownsRow base 5 1 (.slice B m d) m (bvs ys)
  apart : ∀ x, (Value.slice A n c).ownBlock = some x → (Value.slice B m d).ownBlock = some x → False
  lta : ∀ x ∈ xs, x < 256
  ltb : ∀ x ∈ ys, x < 256
  na : n ≤ 60000
  nb : m ≤ 60000
theorem Two.below {base : Nat} {w w' : World} {A : Option Addr} {n c : Nat} {xs : List Nat} {B : Option Addr} {m d : Nat} {ys : List Nat} (h : Two base w A n c xs B m d ys) (hb : Below w.heap.size w w') : Two base w' A n c xs B m d ys :=
  ⟨own_on h.a hb, own_on h.b hb, h.apart, h.lta, h.ltb, h.na, h.nb⟩
theorem own_low2 {w : World} {base base' e size n : Nat} {v : Value} {xs : List Value} (h : w.ownsRow base e size v n xs) (hb : base' ≤ base) : w.ownsRow base' e size v n xs :=
  ⟨h.1, h.2.elim Or.inl (fun ⟨g, cap, cur, hv, hg, r⟩ => Or.inr ⟨g, cap, cur, hv, Nat.le_trans hb hg, r⟩)⟩
theorem Two.low {base base' : Nat} {w : World} {A : Option Addr} {n c : Nat} {xs : List Nat} {B : Option Addr} {m d : Nat} {ys : List Nat} (h : Two base w A n c xs B m d ys) (hb : base' ≤ base) : Two base' w A n c xs B m d ys :=
  ⟨own_low2 h.a hb, own_low2 h.b hb, h.apart, h.lta, h.ltb, h.na, h.nb⟩
theorem came_own {base : Nat} {w : World} {A : Option Addr} {n c : Nat} {xs : List Nat} (h : w.ownsRow base 5 1 (.slice A n c) n (bvs xs)) (hx : ∀ x ∈ xs, x < 256) : Came w A n c xs := ⟨In.of_own h, hx, own_nil h, own_cap h⟩

/-- What is panicked with. -/
def tells (v : Value) : List PanicEntry := [{ v := .iface 30 v, recovered := false }]
/-- A clash that is told, in memory of the call's own. -/
def Shown (base : Nat) (w : World) (v : Value) : Prop := ∃ A n c xs B m d ys, v = clv A n c B m d ∧ Two base w A n c xs B m d ys ∧ Clashes xs ys
theorem Shown.below {base : Nat} {w w' : World} {v : Value} (h : Shown base w v) (hb : Below w.heap.size w w') : Shown base w' v := by
  obtain ⟨A, n, c, xs, B, m, d, ys, e, ht, hc⟩ := h
  exact ⟨A, n, c, xs, B, m, d, ys, e, ht.below hb, hc⟩
theorem Shown.low {base base' : Nat} {w : World} {v : Value} (h : Shown base w v) (hb : base' ≤ base) : Shown base' w v := by
  obtain ⟨A, n, c, xs, B, m, d, ys, e, ht, hc⟩ := h
  exact ⟨A, n, c, xs, B, m, d, ys, e, ht.low hb, hc⟩

/-- Either v is handed back, and so it is, or a clash is panicked with. -/
def Told (base : Nat) (v : Value) (C : Prop) (e : Ending) (w' : World) : Prop := (e = .returned v ∧ C) ∨ ∃ u, e = .panicked (tells u) ∧ Shown base w' u

end Go.Proofs.YtnaebjdccngeoaaDoor
