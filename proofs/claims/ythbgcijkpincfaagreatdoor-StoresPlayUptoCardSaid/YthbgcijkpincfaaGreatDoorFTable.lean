/-
  The table of a frame's parts.
-/
import Derived.Test.YthbgcijkpincfaaGreatDoorFParts
namespace Go.Proofs.YthbgcijkpincfaaGreatDoor
open Go.RowKit

def alw (B : Nat) : Value := .func (.func 316) #[] #[.pointer (some ⟨B, 0, none⟩)]
def fnv (f : FuncId) : Value := .func (.func f) #[] #[]
/-- Block G is the table of parts; the sizes of the first four lie in blocks B to B + 3. -/
structure Pts (w : World) (G B : Nat) : Prop where
  row : w.heap[G]? = some (.cells #[alw B, fnv 299, alw (B + 1), fnv 300, alw (B + 2), fnv 301, alw (B + 3), fnv 302,
    fnv 303, fnv 304, fnv 305, fnv 307] 319 (0, 0))
  b0 : Boxed w B 3 (.int .i64 (4 : Nat))
  b1 : Boxed w (B + 1) 3 (.int .i64 (8 : Nat))
  b2 : Boxed w (B + 2) 3 (.int .i64 (2 : Nat))
  b3 : Boxed w (B + 3) 3 (.int .i64 (4 : Nat))

theorem boxed_below {w w' : World} {B : Nat} {t : TypeId} {v : Value} (h : Boxed w B t v) (hb : Below w.heap.size w w') : Boxed w' B t v := (hb.block B h.lt).trans h
section
variable {w w' : World} {G B : Nat}
theorem Pts.lt (h : Pts w G B) : G < w.heap.size := (Array.getElem?_eq_some_iff.1 h.row).1
theorem Pts.below (h : Pts w G B) (hb : Below w.heap.size w w') : Pts w' G B :=
  ⟨(hb.block G h.lt).trans h.row, boxed_below h.b0 hb, boxed_below h.b1 hb, boxed_below h.b2 hb, boxed_below h.b3 hb⟩
theorem Pts.setCell (h : Pts w G B) (a : Addr) (v : Value) (hG : a.block ≠ G) (hB : ∀ i, i < 4 → a.block ≠ B + i) : Pts (w.setCell a v) G B :=
  ⟨(heap_setCell_other _ _ _ _ hG.symm).trans h.row, (heap_setCell_other _ _ _ _ (hB 0 (by omega)).symm).trans h.b0, (heap_setCell_other _ _ _ _ (hB 1 (by omega)).symm).trans h.b1, (heap_setCell_other _ _ _ _ (hB 2 (by omega)).symm).trans h.b2, (heap_setCell_other _ _ _ _ (hB 3 (by omega)).symm).trans h.b3⟩
end

set_option maxRecDepth 100000 in
set_option maxHeartbeats 1000000 in
theorem parts_any (w : World) : Calls Tryz.prog 274 #[] w fun e w' =>
    e = .returned (.slice (some ⟨w.heap.size + 4, 0, none⟩) 6 6) ∧ Pts w' (w.heap.size + 4) w.heap.size ∧ Below w.heap.size w w' := by
  have C1 := always_any 4 w
  go_enter Tryz.func274, Tryz.ntmps274
  go_wp2_with fail
  refine C1.mono ?_
  rintro e w1 ⟨rfl, hw1⟩
  have s1 : w1.heap.size = w.heap.size + 1 := by rw [← hw1]; simp
  have C2 := always_any 8 w1
  have H1 := Lib.hid hw1
  have S1 := Lib.hid s1
  rw [s1] at C2
  clear hw1 s1
  go_wp2_with fail
  refine C2.mono ?_
  rintro e w2 ⟨rfl, hw2⟩
  have s2 : w2.heap.size = w.heap.size + 2 := by rw [← hw2]; simp [S1.out]
  have C3 := always_any 2 w2
  have H2 := Lib.hid hw2
  have S2 := Lib.hid s2
  rw [s2] at C3
  clear hw2 s2
  go_wp2_with fail
  refine C3.mono ?_
  rintro e w3 ⟨rfl, hw3⟩
  have s3 : w3.heap.size = w.heap.size + 3 := by rw [← hw3]; simp [S2.out]
  have C4 := always_any 4 w3
  have H3 := Lib.hid hw3
  have S3 := Lib.hid s3
  rw [s3] at C4
  clear hw3 s3
  go_wp2_with fail
  refine C4.mono ?_
  rintro e w4 ⟨rfl, hw4⟩
  have s4 : w4.heap.size = w.heap.size + 4 := by rw [← hw4]; simp [S3.out]
  have H4 := Lib.hid hw4
  have S4 := Lib.hid s4
  clear hw4 s4
  go_wp2_with fail
  go_ret
  rw [S4.out]
  have e1 : w1 = w.alloc (.cells #[.int .i64 ((4 : Nat) : Int)] 3) := H1.out.symm
  have e2 : w2 = w1.alloc (.cells #[.int .i64 ((8 : Nat) : Int)] 3) := H2.out.symm
  have e3 : w3 = w2.alloc (.cells #[.int .i64 ((2 : Nat) : Int)] 3) := H3.out.symm
  have e4 : w4 = w3.alloc (.cells #[.int .i64 ((4 : Nat) : Int)] 3) := H4.out.symm
  have b0 : Boxed w1 w.heap.size 3 (.int .i64 ((4 : Nat) : Int)) := by rw [e1]; exact Boxed.new w _ _
  have b1 : Boxed w2 (w.heap.size + 1) 3 (.int .i64 ((8 : Nat) : Int)) := by rw [e2, ← S1.out]; exact Boxed.new w1 _ _
  have b2 : Boxed w3 (w.heap.size + 2) 3 (.int .i64 ((2 : Nat) : Int)) := by rw [e3, ← S2.out]; exact Boxed.new w2 _ _
  have b3 : Boxed w4 (w.heap.size + 3) 3 (.int .i64 ((4 : Nat) : Int)) := by rw [e4, ← S3.out]; exact Boxed.new w3 _ _
  have k1 : Below w.heap.size w w1 := by rw [e1]; exact below_alloc w _
  have k2 : Below w1.heap.size w1 w2 := by rw [e2]; exact below_alloc w1 _
  have k3 : Below w2.heap.size w2 w3 := by rw [e3]; exact below_alloc w2 _
  have k4 : Below w3.heap.size w3 w4 := by rw [e4]; exact below_alloc w3 _
  have k5 := below_alloc w4
  refine ⟨rfl, ⟨?_, boxed_below (boxed_below (boxed_below (boxed_below b0 k2) k3) k4) (k5 _), boxed_below (boxed_below (boxed_below b1 k3) k4) (k5 _), boxed_below (boxed_below b2 k4) (k5 _), boxed_below b3 (k5 _)⟩, below_on (below_on (below_on (below_on k1 (Nat.le_refl _) k2) (Nat.le_refl _) k3) (Nat.le_refl _) k4) (Nat.le_refl _) (k5 _)⟩
  rw [← S4.out]
  exact World.alloc_heap_new w4 _

end Go.Proofs.YthbgcijkpincfaaGreatDoor
