/-
  A disk's own blocks are cells; what the laws on ranges ask of a disk.
-/
import Derived.Test.YthbgcijkpincfaaGreatDoorTAdded
import Derived.Test.YthbgcijkpincfaaGreatDoorTSeq
import Derived.RangeFuncBox
namespace Go.Proofs.YthbgcijkpincfaaGreatDoor
open Go.RowKit

/-- The blocks of F are cells. -/
def CellsIn (F : Nat → Prop) (w : World) : Prop := ∀ x, F x → ∃ c t f, w.heap[x]? = some (.cells c t f)

section
variable {w w' : World} {g : Nat} {F : Nat → Prop} {s : St}
theorem Disk.tight (h : Disk w g F s) : ∃ F0, Disk w g F0 s ∧ CellsIn F0 w ∧ ∀ x, F0 x → F x := by
  obtain ⟨ok, ⟨a, b, ca, cb, v, h, hf⟩, _⟩ := h
  refine ⟨Foot g a b v, ⟨ok, ⟨a, b, ca, cb, v, h, fun x hx => hx⟩, fun x hx => h.foot hx⟩, fun x hx => ?_, hf⟩
  rcases hx with rfl | rfl | rfl | hx
  · exact ⟨_, _, _, h.head⟩
  · obtain ⟨cur, hc⟩ := h.sure.type; exact ⟨_, _, _, hc⟩
  · obtain ⟨cur, hc⟩ := h.rd.type; exact ⟨_, _, _, hc⟩
  · obtain ⟨cur, hc⟩ := own_type h.row hx; exact ⟨_, _, _, hc⟩
theorem keeps_of_but (hc : CellsIn F w) (hb : But F w w') : KeepsOthers w w' := ⟨hb.size, fun k o hk ho => by
  refine (hb.block k (Array.getElem?_eq_some_iff.1 hk).1 (fun hf => ?_)).trans hk
  obtain ⟨c, t, f, e⟩ := hc k hf
  rw [hk] at e
  cases e
  cases ho⟩
/-- A step that turns what is not cells alone. -/
theorem Disk.step {row : Option Nat} (h : Disk w g F s) (hc : CellsIn F w) (hg : w.grownBy w' row) (hr : ∀ r, row = some r → ∃ o : Obj, w.heap[r]? = some o ∧ o.isCells = false) : Disk w' g F s ∧ CellsIn F w' := by
  have hb : ∀ x, F x → w'.heap[x]? = w.heap[x]? := fun x hx => by
    refine hg.block x (h.2.2 x hx) (fun e => ?_)
    obtain ⟨o, ho, hn⟩ := hr x e.symm
    obtain ⟨c, t, f, e2⟩ := hc x hx
    rw [ho] at e2
    cases e2
    cases hn
  refine ⟨?_, fun x hx => ?_⟩
  · obtain ⟨ok, ⟨a, b, ca, cb, v, h, hf⟩, hl⟩ := h
    exact ⟨ok, ⟨a, b, ca, cb, v, h.blocks (fun x hx => hb x (hf x hx)), hf⟩, fun x hx => Nat.lt_of_lt_of_le (hl x hx) hg.size⟩
  · obtain ⟨c, t, f, e⟩ := hc x hx
    exact ⟨c, t, f, (hb x hx).trans e⟩
theorem But.step {S : Nat → Prop} {a w w' : World} {row : Option Nat} (h : But S a w) (hg : w.grownBy w' row) (hr : ∀ r, row = some r → a.heap.size ≤ r) : But S a w' :=
  h.grown hg (fun k e hk => by have := hr k e; omega)
theorem Boxed.step {w w' : World} {B : Nat} {t : TypeId} {v : Value} {row : Option Nat} (h : Boxed w B t v) (hg : w.grownBy w' row) (hr : ∀ r, row = some r → ∃ o : Obj, w.heap[r]? = some o ∧ o.isCells = false) : Boxed w' B t v :=
  h.kept hg (fun e => by
    obtain ⟨o, ho, hn⟩ := hr B e.symm
    rw [show w.heap[B]? = _ from h] at ho
    cases ho
    cases hn)
theorem row_step {w w' : World} {B : Nat} {c : Array Value} {t : TypeId} {f : Nat × Nat} {row : Option Nat} (h : w.heap[B]? = some (.cells c t f)) (hg : w.grownBy w' row) (hr : ∀ r, row = some r → ∃ o : Obj, w.heap[r]? = some o ∧ o.isCells = false) : w'.heap[B]? = some (.cells c t f) :=
  (hg.block B (Array.getElem?_eq_some_iff.1 h).1 (fun e => by
    obtain ⟨o, ho, hn⟩ := hr B e.symm
    rw [h] at ho
    cases ho
    cases hn)).trans h
end

theorem St.puts_append (s : St) (k : Nat) (l m : List (List Nat)) : s.puts k (l ++ m) = if (s.puts k l).1 = 0 then (s.puts k l).2.puts (k + l.length) m else s.puts k l := by
  induction l generalizing s k with
  | nil => simp [St.puts]
  | cons x l ih =>
    rw [List.cons_append, St.puts, St.puts]
    by_cases h0 : s.lets = 0
    · rw [if_pos h0, if_pos h0]; simp
    · rw [if_neg h0, if_neg h0, ih, List.length_cons, show k + 1 + l.length = k + (l.length + 1) by omega]
/-- One sector more, all having been let be so far. -/
theorem St.puts_step {s : St} {k j : Nat} {L : List (List Nat)} {x : List Nat} (h : (s.puts k (L.take j)).1 = 0) (hx : L[j]? = some x) :
    s.puts k (L.take (j + 1)) = ((s.puts k (L.take j)).2.sc, (s.puts k (L.take j)).2.wn (k + j) x) := by
  have hj := (List.getElem?_eq_some_iff.1 hx).1
  rw [List.take_add_one, hx, St.puts_append, if_pos h, List.length_take, Nat.min_eq_left (by omega)]
  show (St.puts _ (k + j) [x]) = _
  unfold St.sc St.wn
  rw [St.puts]
  split <;> rfl
theorem St.puts_fall {s : St} {k j : Nat} {L : List (List Nat)} (h : (s.puts k (L.take j)).1 ≠ 0) : s.puts k L = s.puts k (L.take j) := by
  conv => lhs; rw [← List.take_append_drop j L]
  rw [St.puts_append, if_neg h]
theorem St.wn_sure (s : St) (k : Nat) (x : List Nat) : (s.wn k x).sure = s.sure := by unfold St.wn; split; exact s.burnt_sure; exact s.wrote_sure k x
theorem St.wn_waits (s : St) (k : Nat) (x : List Nat) : (s.wn k x).waits.length ≤ s.waits.length + 1 := by
  unfold St.wn
  split
  · rw [s.burnt_waits]; omega
  · show (s.waits ++ [(k, pad x)]).length ≤ _
    rw [List.length_append]; exact Nat.le_refl _
theorem St.puts_sure (s : St) (k : Nat) (l : List (List Nat)) : (s.puts k l).2.sure = s.sure := by
  induction l generalizing s k with
  | nil => rfl
  | cons x l ih =>
    rw [St.puts]
    split
    · exact s.burnt_sure
    · rw [ih, s.wrote_sure]
theorem St.puts_waits (s : St) (k : Nat) (l : List (List Nat)) : (s.puts k l).2.waits.length ≤ s.waits.length + l.length := by
  induction l generalizing s k with
  | nil => exact Nat.le_refl _
  | cons x l ih =>
    rw [St.puts]
    split
    · show s.burnt.waits.length ≤ _
      rw [s.burnt_waits]; omega
    · refine Nat.le_trans (ih _ _) ?_
      show (s.waits ++ [(k, pad x)]).length + _ ≤ _
      rw [List.length_append, List.length_cons]; simp; omega
theorem St.puts_code (s : St) (k : Nat) (l : List (List Nat)) : (s.puts k l).1 = 0 ∨ (s.puts k l).1 = 9 := by
  induction l generalizing s k with
  | nil => exact .inl rfl
  | cons x l ih =>
    rw [St.puts]
    split
    · exact .inr rfl
    · exact ih _ _
theorem St.sc_code (s : St) : s.sc = 0 ∨ s.sc = 9 := by unfold St.sc; split; exact .inr rfl; exact .inl rfl

end Go.Proofs.YthbgcijkpincfaaGreatDoor
