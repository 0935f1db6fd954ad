/-
  sums.numbersOf, sums.divided: both kept numbers as an array.
-/
import Derived.Test.YthbgcijkpincfaaGreatDoorAdler
import Derived.Test.YthbgcijkpincfaaGreatDoorLMem
import Derived.Deep.WholeRow
namespace Go.Proofs.YthbgcijkpincfaaGreatDoor
open Go.RowKit

/-- Both numbers as an array by value. -/
def pv (a b : Nat) : Value := .agg #[.int .u32 (a : Int), .int .u32 (b : Int)]
/-- Block g holds both numbers. -/
def Pair (w : World) (g : Nat) (a b : Nat) : Prop := w.heap[g]? = some (.cells #[.int .u32 (a : Int), .int .u32 (b : Int)] 324 (0, 0))

theorem info2 : (Tryz.prog.info? 324).map (fun i => (i.zero, i.size)) = some (some (.agg #[.int .u32 0, .int .u32 0]), 2) := by kernel_rfl

section
variable {w w' : World} {g a b : Nat}
theorem Pair.lt (h : Pair w g a b) : g < w.heap.size := (Array.getElem?_eq_some_iff.1 h).1
theorem Pair.low (h : Pair w g a b) : w.cell? ⟨g, 0, none⟩ = some (.int .u32 (a : Int)) := by rw [cell_of_row _ g 0 _ 324 (0, 0) h]; rfl
theorem Pair.high (h : Pair w g a b) : w.cell? ⟨g, 1, none⟩ = some (.int .u32 (b : Int)) := by rw [cell_of_row _ g 1 _ 324 (0, 0) h]; rfl
theorem Pair.free (h : Pair w g a b) (i : Nat) : w.frozen? ⟨g, i, none⟩ = false := frozen_of_row w g i _ 324 h
theorem Pair.setLow (h : Pair w g a b) (x : Nat) : Pair (w.setCell ⟨g, 0, none⟩ (.int .u32 (x : Int))) g x b := by
  unfold Pair
  rw [heap_setCell_same w g 0 _ 324 _ h]
  rfl
theorem Pair.setHigh (h : Pair w g a b) (x : Nat) : Pair (w.setCell ⟨g, 1, none⟩ (.int .u32 (x : Int))) g a x := by
  unfold Pair
  rw [heap_setCell_same w g 1 _ 324 _ h]
  rfl
theorem Pair.other (h : Pair w g a b) (p : Addr) (v : Value) (hne : g ≠ p.block) : Pair (w.setCell p v) g a b := by
  unfold Pair
  rw [heap_setCell_other _ _ _ _ hne]
  exact h
theorem Pair.below (h : Pair w g a b) (hb : Below w.heap.size w w') : Pair w' g a b := (hb.block g h.lt).trans h
theorem Pair.alloc (h : Pair w g a b) (o : Obj) : Pair (w.alloc o) g a b := h.below (below_alloc w o)
theorem Pair.new (w : World) (a b : Nat) : Pair (w.alloc (.cells #[.int .u32 (a : Int), .int .u32 (b : Int)] 324)) w.heap.size a b := World.alloc_heap_new w _
end
theorem size2 : (Tryz.prog.info? 324).map (·.size) = some 2 := by kernel_rfl

set_option maxRecDepth 100000 in
set_option maxHeartbeats 1000000 in
theorem numbersOf_any (s : Nat) (hs : s < 4294967296) (w : World) :
    Calls Tryz.prog 277 #[.int .u32 (s : Int)] w fun e w' => e = .returned (pv (s % 65536) (s / 65536)) ∧ Below w.heap.size w w' := by
  go_enter Tryz.func277, Tryz.ntmps277
  go_wp2
  have e1 : bits .and .u32 (s : Int) 65535 = ((s % 65536 : Nat) : Int) := by
    rw [show (65535 : Int) = ((65535 : Nat) : Int) from rfl, u32_and_nat _ _ hs (by decide), show 65535 = 2 ^ 16 - 1 by decide, Nat.and_two_pow_sub_one_eq_mod]
  have e2 : (s : Int) / 65536 = ((s / 65536 : Nat) : Int) := by omega
  rw [e1, e2]
  exact bodyPost_ret_by (results_cell_row (p := 2) (ty := 324) (by kernel_rfl) _ _ w.heap.size 324 _ (0, 0) _ rfl (Pair.new w _ _) Tryz.underlying324 rfl size2) rfl ⟨rfl, below_alloc w _⟩

set_option maxRecDepth 100000 in
set_option maxHeartbeats 1000000 in
theorem divided_any (a b : Nat) (ha : a < 4294967296) (hb : b < 4294967296) (w : World) :
    Calls Tryz.prog 276 #[pv a b] w fun e w' => e = .returned (pv (a % 65521) (b % 65521)) ∧ Below w.heap.size w w' := by
  unfold pv
  go_enter Tryz.func276, Tryz.ntmps276
  go_wp2
  have q1 := (Pair.new w a b).alloc (.cells #[.int .u32 0, .int .u32 0] 324)
  have q2 := Pair.new (w.alloc (.cells #[.int .u32 (a : Int), .int .u32 (b : Int)] 324)) 0 0
  rw [World.size_alloc] at q2
  have hb0 := (below_alloc w (.cells #[.int .u32 (a : Int), .int .u32 (b : Int)] 324)).alloc (by simp) (.cells #[.int .u32 0, .int .u32 0] 324)
  go_loopw [4] (fun i wr => ∃ (j x y : Nat), i = .int .i64 (j : Int) ∧ ((j = 0 ∧ x = a ∧ y = b) ∨ (j = 1 ∧ x = a % 65521 ∧ y = b) ∨ (j = 2 ∧ x = a % 65521 ∧ y = b % 65521)) ∧ Pair wr w.heap.size x y ∧ Pair wr (w.heap.size + 1) 0 0 ∧ Below w.heap.size w wr) (fun i _ => 2 - (intOf i).toNat)
  case atStart => exact ⟨0, a, b, rfl, .inl ⟨rfl, rfl, rfl⟩, q1, q2, hb0⟩
  case round =>
    obtain ⟨j, x, y, rfl, ⟨rfl, rfl, rfl⟩ | ⟨rfl, rfl, rfl⟩ | ⟨rfl, rfl, rfl⟩, p1, p2, bel⟩ := hrel
    · have c := p1.low
      have f := p1.free 0
      go_wp2
      have e : (x : Int) % 65521 = ((x % 65521 : Nat) : Int) := by omega
      rw [e]
      exact ⟨⟨1, _, _, rfl, .inr (.inl ⟨rfl, rfl, rfl⟩), p1.setLow _, p2.other _ _ (by show w.heap.size + 1 ≠ w.heap.size; omega), bel.setCell (by show w.heap.size ≤ w.heap.size; omega) _⟩, by simp [intOf]⟩
    · have c := p1.high
      have f := p1.free 1
      go_wp2
      have e : (y : Int) % 65521 = ((y % 65521 : Nat) : Int) := by omega
      rw [e]
      exact ⟨⟨2, _, _, rfl, .inr (.inr ⟨rfl, rfl, rfl⟩), p1.setHigh _, p2.other _ _ (by show w.heap.size + 1 ≠ w.heap.size; omega), bel.setCell (by show w.heap.size ≤ w.heap.size; omega) _⟩, by simp [intOf]⟩
    · have c0 := p1.low
      have c1 := p1.high
      have f0 := p2.free 0
      have f1 := p2.free 1
      have hx := p2.low
      have hy := p2.high
      go_wp2
      refine bodyPost_ret_by (results_cell_row (p := 2) (ty := 324) (by kernel_rfl) _ _ (w.heap.size + 1) 324 _ (0, 0) _ rfl ((p2.setLow _).setHigh _) Tryz.underlying324 rfl size2) rfl ⟨rfl, (bel.setCell (by show w.heap.size ≤ w.heap.size + 1; omega) _).setCell (by show w.heap.size ≤ w.heap.size + 1; omega) _⟩

end Go.Proofs.YthbgcijkpincfaaGreatDoor
