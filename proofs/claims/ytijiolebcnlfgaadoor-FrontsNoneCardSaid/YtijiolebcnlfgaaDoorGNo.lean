/-
  A front that is not there, or that no call made.
-/
import Derived.Test.YtijiolebcnlfgaaDoorGRoot
namespace Go.Proofs.YtijiolebcnlfgaaDoor
open Go.RowKit

def NoFront (W : World) (P : Option Addr) : Prop := P = none ∨ ∃ g, P = some ⟨g, 0, none⟩ ∧ W.cell? ⟨g, 0, none⟩ = some (.bool false)
theorem NoFront.below {W W' : World} {P : Option Addr} (h : NoFront W P) (hb : Below W.heap.size W W') : NoFront W' P := by
  rcases h with h | ⟨g, e, h⟩
  · exact .inl h
  · exact .inr ⟨g, e, (hb.cell (World.block_lt_of_cell? W _ h)).trans h⟩
theorem there_none {w : World} {P : Option Addr} (h : NoFront w P) : Calls Tryd.prog 15 #[.pointer P] w fun e w' => e = .returned (.bool false) ∧ w' = w := by
  rcases h with rfl | ⟨g, rfl, h⟩
  · exact there_nil w
  · exact there_no h

set_option maxRecDepth 100000 in
set_option maxHeartbeats 1000000 in
theorem size_no {w : World} {P : Option Addr} (h : NoFront w P) : Calls Tryd.prog 8 #[.pointer P] w fun e w' => e = .returned (.int .u64 0) ∧ Below w.heap.size w w' := by
  have C := Lib.hid (there_none h)
  clear h
  go_enter Tryd.func8, Tryd.ntmps8
  go_wp2_with fail
  refine C.out.mono ?_
  rintro e w' ⟨rfl, rfl⟩
  go_wp2_with fail
  go_ret
  exact ⟨rfl, Below.refl _ _⟩

set_option maxRecDepth 100000 in
set_option maxHeartbeats 1000000 in
theorem sums_no {w : World} {P : Option Addr} (h : NoFront w P) : Calls Tryd.prog 10 #[.pointer P] w fun e w' => e = .returned (.slice none 0 0) ∧ Below w.heap.size w w' := by
  have C := Lib.hid (there_none h)
  clear h
  go_enter Tryd.func10, Tryd.ntmps10
  go_wp2_with fail
  refine C.out.mono ?_
  rintro e w' ⟨rfl, rfl⟩
  go_wp2_with fail
  go_ret
  exact ⟨rfl, Below.refl _ _⟩

set_option maxRecDepth 100000 in
set_option maxHeartbeats 1000000 in
theorem add_no {w : World} {P : Option Addr} (s : List Nat) (h : NoFront w P) : Calls Tryd.prog 7 #[.pointer P, sv s] w fun e w' => e = .returned (.int .i64 2) ∧ Below w.heap.size w w' := by
  obtain ⟨w1, hw1⟩ : ∃ w1, w1 = w.alloc (.cells (bvs s).toArray 23) := ⟨_, rfl⟩
  have b1 : Below w.heap.size w w1 := by rw [hw1]; exact below_alloc _ _
  have C := Lib.hid (there_none (h.below b1))
  have HW := Lib.hid (And.intro hw1 b1)
  clear h hw1 b1
  unfold sv
  go_enter Tryd.func7, Tryd.ntmps7
  go_wp2_with fail
  rw [← HW.out.1]
  refine C.out.mono ?_
  rintro e w' ⟨rfl, e1⟩
  obtain rfl := e1.symm
  go_wp2_with fail
  go_ret
  exact ⟨rfl, HW.out.2⟩

set_option maxRecDepth 100000 in
set_option maxHeartbeats 1000000 in
theorem root_no {w : World} {P : Option Addr} (h : NoFront w P) : Calls Tryd.prog 9 #[.pointer P] w fun e w' => e = .returned (sv zero32) ∧ Below w.heap.size w w' := by
  have e0 : (bvs zero32).toArray = #[.int .u8 0, .int .u8 0, .int .u8 0, .int .u8 0, .int .u8 0, .int .u8 0, .int .u8 0, .int .u8 0, .int .u8 0, .int .u8 0, .int .u8 0, .int .u8 0, .int .u8 0, .int .u8 0, .int .u8 0, .int .u8 0, .int .u8 0, .int .u8 0, .int .u8 0, .int .u8 0, .int .u8 0, .int .u8 0, .int .u8 0, .int .u8 0, .int .u8 0, .int .u8 0, .int .u8 0, .int .u8 0, .int .u8 0, .int .u8 0, .int .u8 0, .int .u8 0] := rfl
  obtain ⟨w1, hw1⟩ : ∃ w1, w1 = w.alloc (.cells #[.int .u8 0, .int .u8 0, .int .u8 0, .int .u8 0, .int .u8 0, .int .u8 0, .int .u8 0, .int .u8 0, .int .u8 0, .int .u8 0, .int .u8 0, .int .u8 0, .int .u8 0, .int .u8 0, .int .u8 0, .int .u8 0, .int .u8 0, .int .u8 0, .int .u8 0, .int .u8 0, .int .u8 0, .int .u8 0, .int .u8 0, .int .u8 0, .int .u8 0, .int .u8 0, .int .u8 0, .int .u8 0, .int .u8 0, .int .u8 0, .int .u8 0, .int .u8 0] 23) := ⟨_, rfl⟩
  have b1 : Below w.heap.size w w1 := by rw [hw1]; exact below_alloc _ _
  have r1 : BArr w1 w.heap.size 23 zero32 := by rw [hw1, ← e0]; exact BArr.new _ _ _
  have g1 : w1.heap[w.heap.size]? = some (.cells #[.int .u8 0, .int .u8 0, .int .u8 0, .int .u8 0, .int .u8 0, .int .u8 0, .int .u8 0, .int .u8 0, .int .u8 0, .int .u8 0, .int .u8 0, .int .u8 0, .int .u8 0, .int .u8 0, .int .u8 0, .int .u8 0, .int .u8 0, .int .u8 0, .int .u8 0, .int .u8 0, .int .u8 0, .int .u8 0, .int .u8 0, .int .u8 0, .int .u8 0, .int .u8 0, .int .u8 0, .int .u8 0, .int .u8 0, .int .u8 0, .int .u8 0, .int .u8 0] 23 (0, 0)) := by rw [hw1]; exact World.alloc_heap_new w _
  have C := Lib.hid (there_none (h.below b1))
  have HW := Lib.hid hw1
  have H1 := Lib.hid (And.intro b1 (And.intro r1 g1))
  clear h hw1 b1 r1 e0 g1
  go_enter Tryd.func9, Tryd.ntmps9
  go_upto_region 1 with fail
  rw [← HW.out]
  go_wp2_with fail
  refine C.out.mono ?_
  rintro e w' ⟨rfl, e1⟩
  obtain rfl := e1.symm
  clear e1
  have HZ := Lib.hid (show zero32.length = 32 from rfl)
  go_wp2_with (with_reducible refine wpList_store_nought rfl (.tmp 2) (.tmp 8) rfl w.heap.size rfl H1.out.2.2 rfl ?_; intro w4 r4 o4)
  refine bodyPost_ret_by (results_cell_row (p := 2) (ty := 23) (by kernel_rfl) _ _ w.heap.size 23 (bvs zero32).toArray (0, 0) _ rfl r4 Tryd.underlying23 rfl sizeSum) rfl ?_
  exact ⟨rfl, Only.below H1.out.1 (Nat.le_refl _) (Nat.le_refl _) o4⟩

end Go.Proofs.YtijiolebcnlfgaaDoor
