/-
  A chain that is not there, or that no call made.
-/
import Derived.Test.YtllohbgejjbagaaDoorLOnly
import Derived.Test.YtllohbgejjbagaaDoorLSum
import Derived.StillTactics
import Derived.Deep.Cut
import Derived.Laws.Pointers
namespace Go.Proofs.YtllohbgejjbagaaDoor
open Go.RowKit

/-- 'p' is no chain: nil, or one that no call made. -/
def NoChain (w : World) (p : Option Addr) : Prop := p = none ∨ ∃ g, p = some ⟨g, 0, none⟩ ∧ w.cell? ⟨g, 0, none⟩ = some (.pointer none)
theorem NoChain.below {w w' : World} {p : Option Addr} (h : NoChain w p) (hb : Below w.heap.size w w') : NoChain w' p := by
  rcases h with rfl | ⟨g, rfl, hc⟩
  · exact .inl rfl
  · exact .inr ⟨g, rfl, (hb.cell (World.block_lt_of_cell? w _ hc)).trans hc⟩

set_option maxRecDepth 100000 in
theorem no_there (p : Option Addr) (w : World) (h : NoChain w p) : Calls Tryd.prog 23 #[.pointer p] w fun e w' => e = .returned (.bool false) ∧ w' = w := by
  rcases h with rfl | ⟨g, rfl, hc⟩
  · go_enter Tryd.func23, Tryd.ntmps23
    go_wp2
    go_ret
    exact ⟨rfl, rfl⟩
  · go_enter Tryd.func23, Tryd.ntmps23
    go_wp2
    go_ret
    exact ⟨rfl, rfl⟩

set_option maxRecDepth 100000 in
theorem no_size (p : Option Addr) (w : World) (h : NoChain w p) : Calls Tryd.prog 14 #[.pointer p] w fun e w' => e = .returned (.int .u64 0) ∧ Below w.heap.size w w' := by
  have C := Lib.hid (no_there p w h)
  clear h
  go_enter Tryd.func14, Tryd.ntmps14
  go_wp2_with fail
  refine C.out.mono ?_
  rintro e w' ⟨rfl, rfl⟩
  go_wp2
  go_ret
  exact ⟨rfl, Below.refl _ _⟩
set_option maxRecDepth 100000 in
theorem no_add (p : Option Addr) (b : Value) (w : World) (h : NoChain w p) : Calls Tryd.prog 13 #[.pointer p, b] w fun e w' => e = .returned (.int .i64 2) ∧ Below w.heap.size w w' := by
  have C := Lib.hid (no_there p w h)
  clear h
  go_enter Tryd.func13, Tryd.ntmps13
  go_wp2_with fail
  refine C.out.mono ?_
  rintro e w' ⟨rfl, rfl⟩
  go_wp2
  go_ret
  exact ⟨rfl, Below.refl _ _⟩
set_option maxRecDepth 100000 in
theorem no_entry (p : Option Addr) (n : Value) (w : World) (h : NoChain w p) : Calls Tryd.prog 8 #[.pointer p, n] w fun e w' => e = .returned (.tuple #[.slice none 0 0, .int .i64 2]) ∧ Below w.heap.size w w' := by
  have C := Lib.hid (no_there p w h)
  clear h
  go_enter Tryd.func8, Tryd.ntmps8
  go_wp2_with fail
  refine C.out.mono ?_
  rintro e w' ⟨rfl, rfl⟩
  go_wp2
  go_ret2
  exact ⟨rfl, Below.refl _ _⟩
set_option maxRecDepth 100000 in
theorem no_has (p : Option Addr) (n : Value) (w : World) (h : NoChain w p) : Calls Tryd.prog 25 #[.pointer p, n] w fun e w' => e = .returned (.int .i64 2) ∧ w' = w := by
  have C := Lib.hid (no_there p w h)
  clear h
  go_enter Tryd.func25, Tryd.ntmps25
  go_wp2_with fail
  refine C.out.mono ?_
  rintro e w' ⟨rfl, rfl⟩
  go_wp2
  go_ret
  exact ⟨rfl, rfl⟩
set_option maxRecDepth 100000 in
theorem no_path (p : Option Addr) (m n : Value) (w : World) (h : NoChain w p) : Calls Tryd.prog 11 #[.pointer p, m, n] w fun e w' => e = .returned (.tuple #[.slice none 0 0, .int .i64 2]) ∧ Below w.heap.size w w' := by
  have C := Lib.hid (no_has p n w h)
  clear h
  go_enter Tryd.func11, Tryd.ntmps11
  go_wp2_with fail
  refine C.out.mono ?_
  rintro e w' ⟨rfl, rfl⟩
  go_wp2
  go_ret2
  exact ⟨rfl, Below.refl _ _⟩
set_option maxRecDepth 100000 in
theorem no_link (p : Option Addr) (m n : Value) (w : World) (h : NoChain w p) : Calls Tryd.prog 12 #[.pointer p, m, n] w fun e w' => e = .returned (.tuple #[.slice none 0 0, .int .i64 2]) ∧ Below w.heap.size w w' := by
  have C := Lib.hid (no_has p n w h)
  clear h
  go_enter Tryd.func12, Tryd.ntmps12
  go_wp2_with fail
  refine C.out.mono ?_
  rintro e w' ⟨rfl, rfl⟩
  go_wp2
  go_ret2
  exact ⟨rfl, Below.refl _ _⟩
theorem no_res (w : World) : ∃ w1, w1 = w.alloc (.cells #[.int .u8 0, .int .u8 0, .int .u8 0, .int .u8 0, .int .u8 0, .int .u8 0, .int .u8 0, .int .u8 0, .int .u8 0, .int .u8 0, .int .u8 0, .int .u8 0, .int .u8 0, .int .u8 0, .int .u8 0, .int .u8 0, .int .u8 0, .int .u8 0, .int .u8 0, .int .u8 0, .int .u8 0, .int .u8 0, .int .u8 0, .int .u8 0, .int .u8 0, .int .u8 0, .int .u8 0, .int .u8 0, .int .u8 0, .int .u8 0, .int .u8 0, .int .u8 0] 34) ∧ Below w.heap.size w w1 ∧ w1.heap[w.heap.size]? = some (.cells #[.int .u8 0, .int .u8 0, .int .u8 0, .int .u8 0, .int .u8 0, .int .u8 0, .int .u8 0, .int .u8 0, .int .u8 0, .int .u8 0, .int .u8 0, .int .u8 0, .int .u8 0, .int .u8 0, .int .u8 0, .int .u8 0, .int .u8 0, .int .u8 0, .int .u8 0, .int .u8 0, .int .u8 0, .int .u8 0, .int .u8 0, .int .u8 0, .int .u8 0, .int .u8 0, .int .u8 0, .int .u8 0, .int .u8 0, .int .u8 0, .int .u8 0, .int .u8 0] 34 (0, 0)) :=
  ⟨_, rfl, below_alloc _ _, World.alloc_heap_new w _⟩
set_option maxRecDepth 100000 in
set_option maxHeartbeats 1000000 in
theorem no_mark (p : Option Addr) (n : Value) (w : World) (h : NoChain w p) : Calls Tryd.prog 9 #[.pointer p, n] w fun e w' => e = .returned (.tuple #[sv zero32, .int .i64 2]) ∧ Below w.heap.size w w' := by
  obtain ⟨w1, hw1, b1, g1⟩ := no_res w
  have C := Lib.hid (no_has p n w1 (h.below b1))
  have HW := Lib.hid hw1
  have H1 := Lib.hid (And.intro b1 g1)
  clear h hw1 b1 g1
  go_enter Tryd.func9, Tryd.ntmps9
  go_upto_region 1 with fail
  rw [← HW.out]
  go_wp2_with fail
  refine C.out.mono ?_
  rintro e w' ⟨rfl, e1⟩
  obtain rfl := e1.symm
  clear e1
  go_wp2_with (with_reducible refine wpList_store_nought rfl (.tmp 4) (.tmp 12) rfl w.heap.size rfl H1.out.2 rfl ?_; intro w4 r4 o4)
  refine bodyPost_ret_by (results_cell_tmp (p := 4) (q := 5) (ty := 34) (by kernel_rfl) _ _ ⟨w.heap.size, 0, none⟩ (sv zero32) rfl (run_load_sum _ _ zero32 rfl r4.at_)) rfl ?_
  exact ⟨rfl, Only.below H1.out.1 (Nat.le_refl _) (Nat.le_refl _) o4⟩
set_option maxRecDepth 100000 in
set_option maxHeartbeats 1000000 in
theorem no_root (p : Option Addr) (n : Value) (w : World) (h : NoChain w p) : Calls Tryd.prog 10 #[.pointer p, n] w fun e w' => e = .returned (.tuple #[sv zero32, .int .i64 2]) ∧ Below w.heap.size w w' := by
  obtain ⟨w1, hw1, b1, g1⟩ := no_res w
  have C := Lib.hid (no_has p n w1 (h.below b1))
  have HW := Lib.hid hw1
  have H1 := Lib.hid (And.intro b1 g1)
  clear h hw1 b1 g1
  go_enter Tryd.func10, Tryd.ntmps10
  go_upto_region 1 with fail
  rw [← HW.out]
  go_wp2_with fail
  refine C.out.mono ?_
  rintro e w' ⟨rfl, e1⟩
  obtain rfl := e1.symm
  clear e1
  go_wp2_with (with_reducible refine wpList_store_nought rfl (.tmp 4) (.tmp 13) rfl w.heap.size rfl H1.out.2 rfl ?_; intro w4 r4 o4)
  refine bodyPost_ret_by (results_cell_tmp (p := 4) (q := 5) (ty := 34) (by kernel_rfl) _ _ ⟨w.heap.size, 0, none⟩ (sv zero32) rfl (run_load_sum _ _ zero32 rfl r4.at_)) rfl ?_
  exact ⟨rfl, Only.below H1.out.1 (Nat.le_refl _) (Nat.le_refl _) o4⟩

end Go.Proofs.YtllohbgejjbagaaDoor
