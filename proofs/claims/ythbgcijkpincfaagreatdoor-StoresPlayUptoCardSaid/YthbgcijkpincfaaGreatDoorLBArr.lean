/-
  A block that is an array of bytes.
-/
import Derived.Test.YthbgcijkpincfaaGreatDoorLPre
import Derived.Deep.WholeRow
namespace Go.Proofs.YthbgcijkpincfaaGreatDoor
open Go.RowKit

/-- Block g is an array of the bytes xs. -/
def BArr (w : World) (g : Nat) (T : TypeId) (xs : List Nat) : Prop := w.heap[g]? = some (.cells (bvs xs).toArray T (0, 0))
section
variable {w w' : World} {g : Nat} {T : TypeId} {xs : List Nat}
theorem BArr.cell (h : BArr w g T xs) {i : Nat} (hi : i < xs.length) : w.cell? ⟨g, i, none⟩ = some (.int .u8 ((xs.getD i 0 : Nat) : Int)) := by
  rw [cell_of_row _ g i _ T (0, 0) h, List.getElem?_toArray, bvs_get, List.getElem?_eq_getElem hi, List.getD_eq_getElem?_getD, List.getElem?_eq_getElem hi]
  rfl
theorem BArr.free (h : BArr w g T xs) (i : Nat) : w.frozen? ⟨g, i, none⟩ = false := frozen_of_row w g i _ T h
theorem bvs_set (xs : List Nat) (i v : Nat) : (bvs xs).set i (bv v) = bvs (xs.set i v) := by unfold bvs; rw [List.map_set]
theorem BArr.set (h : BArr w g T xs) (i v : Nat) : BArr (w.setCell ⟨g, i, none⟩ (.int .u8 (v : Int))) g T (xs.set i v) := by
  unfold BArr
  rw [heap_setCell_same w g i _ T _ h, List.setIfInBounds_toArray, ← bvs_set]
  rfl
theorem BArr.other (h : BArr w g T xs) (a : Addr) (v : Value) (hne : g ≠ a.block) : BArr (w.setCell a v) g T xs := by
  unfold BArr
  rw [heap_setCell_other w a g v hne]
  exact h
theorem BArr.drew (h : BArr w g T xs) : BArr w.drew g T xs := h
theorem BArr.below (h : BArr w g T xs) (hb : Below w.heap.size w w') : BArr w' g T xs := (hb.block g (Array.getElem?_eq_some_iff.1 h).1).trans h
theorem BArr.alloc (h : BArr w g T xs) (o : Obj) : BArr (w.alloc o) g T xs := h.below (below_alloc w o)
theorem BArr.lt (h : BArr w g T xs) : g < w.heap.size := (Array.getElem?_eq_some_iff.1 h).1
theorem BArr.new (w : World) (T : TypeId) (xs : List Nat) : BArr (w.alloc (.cells (bvs xs).toArray T)) w.heap.size T xs := World.alloc_heap_new w _
theorem BArr.setRow (h : BArr w g T xs) (ys : List Nat) : BArr (w.setRow g (bvs ys).toArray) g T ys := setRow_heap w g _ _ T (0, 0) h
theorem BArr.setRow_other (h : BArr w g T xs) (k : Nat) (hne : g ≠ k) (cs : Array Value) : BArr (w.setRow k cs) g T xs := by
  unfold BArr
  rw [Go.setRow_other _ _ _ _ hne]
  exact h
theorem BArr.at_ (h : BArr w g T xs) : At w ⟨g, 0, none⟩ xs := fun j x hx => by
  rw [show (⟨g, 0, none⟩ : Addr).add j = ⟨g, j, none⟩ from by unfold Addr.add; split <;> simp_all]
  rw [cell_of_row _ g j _ T (0, 0) h, List.getElem?_toArray, bvs_get, hx]
  rfl
end

end Go.Proofs.YthbgcijkpincfaaGreatDoor
