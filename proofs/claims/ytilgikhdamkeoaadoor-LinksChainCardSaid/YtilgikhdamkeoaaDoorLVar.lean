/-
  A variable of one cell, in a block of its own.
-/
import Derived.Test.YtilgikhdamkeoaaDoorLBArr
import Derived.Test.YtilgikhdamkeoaaDoorLBut
namespace Go.Proofs.YtilgikhdamkeoaaDoor
open Go.RowKit

/-- Block g is a variable of one cell. -/
def VarAt (w : World) (g : Nat) (T : TypeId) (v : Value) : Prop := w.heap[g]? = some (.cells #[v] T (0, 0))
section
variable {w w' : World} {g : Nat} {T : TypeId} {v : Value}
theorem VarAt.cell (h : VarAt w g T v) : w.cell? ⟨g, 0, none⟩ = some v := by rw [cell_of_row _ g 0 _ T (0, 0) h]; rfl
theorem VarAt.free (h : VarAt w g T v) : w.frozen? ⟨g, 0, none⟩ = false := frozen_of_row w g 0 _ T h
theorem VarAt.below (h : VarAt w g T v) (hb : Below w.heap.size w w') : VarAt w' g T v := (hb.block g (Array.getElem?_eq_some_iff.1 h).1).trans h
theorem VarAt.lt (h : VarAt w g T v) : g < w.heap.size := (Array.getElem?_eq_some_iff.1 h).1
theorem VarAt.new (w : World) (T : TypeId) (v : Value) : VarAt (w.alloc (.cells #[v] T)) w.heap.size T v := World.alloc_heap_new w _
theorem VarAt.set (h : VarAt w g T v) (u : Value) : VarAt (w.setCell ⟨g, 0, none⟩ u) g T u := by
  unfold VarAt
  rw [heap_setCell_same w g 0 _ T _ h]
  rfl
theorem VarAt.setRow_other (h : VarAt w g T v) (k : Nat) (hne : g ≠ k) (cs : Array Value) : VarAt (w.setRow k cs) g T v := by
  unfold VarAt
  rw [Go.setRow_other _ _ _ _ hne]
  exact h
end

theorem VarAt.but {S : Nat → Prop} {w w' : World} {g : Nat} {T : TypeId} {v : Value} (h : VarAt w g T v) (hb : But S w w') (hS : ¬ S g) : VarAt w' g T v := (hb.block g h.lt hS).trans h

end Go.Proofs.YtilgikhdamkeoaaDoor
