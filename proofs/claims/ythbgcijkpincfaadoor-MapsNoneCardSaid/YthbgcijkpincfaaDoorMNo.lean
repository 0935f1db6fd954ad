/-
  A map that is not there, or that no call made.
-/
import Derived.Test.YthbgcijkpincfaaDoorLOnly
import Derived.Test.YthbgcijkpincfaaDoorLSum
import Derived.StillTactics
import Derived.Deep.Cut
import Derived.Laws.Pointers
import Derived.WalkSpells
namespace Go.Proofs.YthbgcijkpincfaaDoor
open Go.RowKit

/-- 'p' is no map: nil, or one that no call made. -/
def NoMap (w : World) (p : Option Addr) : Prop := p = none ∨ ∃ g, p = some ⟨g, 0, none⟩ ∧ w.cell? ⟨g, 0, none⟩ = some (.map none)
theorem NoMap.below {w w' : World} {p : Option Addr} (h : NoMap w p) (hb : Below w.heap.size w w') : NoMap w' p := by
  rcases h with rfl | ⟨g, rfl, hc⟩
  · exact .inl rfl
  · exact .inr ⟨g, rfl, (hb.cell (World.block_lt_of_cell? w _ hc)).trans hc⟩

set_option maxRecDepth 100000 in
theorem mno_there (p : Option Addr) (w : World) (h : NoMap w p) : Calls Tryd.prog 25 #[.pointer p] w fun e w' => e = .returned (.bool false) ∧ w' = w := by
  have qT : ∀ (W : World) (r : Option Nat), (binOp .neq 26 (.map r) (.map none)).run Tryd.prog W = .ok (.bool (!r.isNone)) W := fun W r => run_neq_map_nil W _ _ _ r Tryd.underlying26
  rcases h with rfl | ⟨g, rfl, hc⟩
  · go_enter Tryd.func25, Tryd.ntmps25
    go_wp2
    go_ret
    exact ⟨rfl, rfl⟩
  · go_enter Tryd.func25, Tryd.ntmps25
    go_wp2
    go_ret
    exact ⟨rfl, rfl⟩
set_option maxRecDepth 100000 in
set_option maxHeartbeats 2000000 in
theorem mno_copy (p : Option Addr) (w : World) (h : NoMap w p) : Calls Tryd.prog 9 #[.pointer p] w fun e w' => e = .returned (.tuple #[.pointer none, .int .i64 2]) ∧ Below w.heap.size w w' := by
  have C := Lib.hid (mno_there p w h)
  clear h
  go_enter Tryd.func9, Tryd.ntmps9
  go_wp2_with fail
  refine C.out.mono ?_
  rintro e w' ⟨rfl, rfl⟩
  go_wp2
  go_ret2
  exact ⟨rfl, Below.refl _ _⟩
set_option maxRecDepth 100000 in
set_option maxHeartbeats 2000000 in
theorem mno_get (p : Option Addr) (k : List Nat) (w : World) (h : NoMap w p) : Calls Tryd.prog 10 #[.pointer p, sv k] w fun e w' => e = .returned (.tuple #[.slice none 0 0, .int .i64 2]) ∧ Below w.heap.size w w' := by
  obtain ⟨w1, hw1⟩ : ∃ w1, w1 = w.alloc (.cells (bvs k).toArray 23) := ⟨_, rfl⟩
  have b1 : Below w.heap.size w w1 := by rw [hw1]; exact below_alloc w _
  have C := Lib.hid (mno_there p w1 (h.below b1))
  have HW := Lib.hid hw1
  have HB := Lib.hid b1
  clear h hw1 b1
  unfold sv
  go_enter Tryd.func10, Tryd.ntmps10
  go_upto_region 1 with fail
  rw [← HW.out]
  go_wp2_with fail
  refine C.out.mono ?_
  rintro e w' ⟨rfl, rfl⟩
  go_wp2
  go_ret2
  exact ⟨rfl, HB.out⟩
set_option maxRecDepth 100000 in
set_option maxHeartbeats 2000000 in
theorem mno_put (p : Option Addr) (k : List Nat) (v : Value) (w : World) (h : NoMap w p) : Calls Tryd.prog 11 #[.pointer p, sv k, v] w fun e w' => e = .returned (.int .i64 2) ∧ Below w.heap.size w w' := by
  obtain ⟨w1, hw1⟩ : ∃ w1, w1 = w.alloc (.cells (bvs k).toArray 23) := ⟨_, rfl⟩
  have b1 : Below w.heap.size w w1 := by rw [hw1]; exact below_alloc w _
  have C := Lib.hid (mno_there p w1 (h.below b1))
  have HW := Lib.hid hw1
  have HB := Lib.hid b1
  clear h hw1 b1
  unfold sv
  go_enter Tryd.func11, Tryd.ntmps11
  go_upto_region 2 with fail
  rw [← HW.out]
  go_wp2_with fail
  refine C.out.mono ?_
  rintro e w' ⟨rfl, rfl⟩
  go_wp2
  go_ret
  exact ⟨rfl, HB.out⟩
set_option maxRecDepth 100000 in
set_option maxHeartbeats 2000000 in
theorem mno_pairs (p : Option Addr) (w : World) (h : NoMap w p) : Calls Tryd.prog 13 #[.pointer p] w fun e w' => e = .returned (.slice none 0 0) ∧ Below w.heap.size w w' := by
  have C := Lib.hid (mno_there p w h)
  clear h
  go_enter Tryd.func13, Tryd.ntmps13
  go_wp2_with fail
  refine C.out.mono ?_
  rintro e w' ⟨rfl, rfl⟩
  go_wp2
  go_ret
  exact ⟨rfl, Below.refl _ _⟩
theorem mno_res (w : World) : ∃ w1, w1 = w.alloc (.cells #[.int .u8 0, .int .u8 0, .int .u8 0, .int .u8 0, .int .u8 0, .int .u8 0, .int .u8 0, .int .u8 0, .int .u8 0, .int .u8 0, .int .u8 0, .int .u8 0, .int .u8 0, .int .u8 0, .int .u8 0, .int .u8 0, .int .u8 0, .int .u8 0, .int .u8 0, .int .u8 0, .int .u8 0, .int .u8 0, .int .u8 0, .int .u8 0, .int .u8 0, .int .u8 0, .int .u8 0, .int .u8 0, .int .u8 0, .int .u8 0, .int .u8 0, .int .u8 0] 23) ∧ Below w.heap.size w w1 ∧ w1.heap[w.heap.size]? = some (.cells #[.int .u8 0, .int .u8 0, .int .u8 0, .int .u8 0, .int .u8 0, .int .u8 0, .int .u8 0, .int .u8 0, .int .u8 0, .int .u8 0, .int .u8 0, .int .u8 0, .int .u8 0, .int .u8 0, .int .u8 0, .int .u8 0, .int .u8 0, .int .u8 0, .int .u8 0, .int .u8 0, .int .u8 0, .int .u8 0, .int .u8 0, .int .u8 0, .int .u8 0, .int .u8 0, .int .u8 0, .int .u8 0, .int .u8 0, .int .u8 0, .int .u8 0, .int .u8 0] 23 (0, 0)) :=
  ⟨_, rfl, below_alloc _ _, World.alloc_heap_new w _⟩
set_option maxRecDepth 100000 in
set_option maxHeartbeats 2000000 in
theorem mno_root (p : Option Addr) (w : World) (h : NoMap w p) : Calls Tryd.prog 12 #[.pointer p] w fun e w' => e = .returned (sv zero32) ∧ Below w.heap.size w w' := by
  obtain ⟨w1, hw1, b1, g1⟩ := mno_res w
  have C := Lib.hid (mno_there p w1 (h.below b1))
  have HW := Lib.hid hw1
  have H1 := Lib.hid (And.intro b1 g1)
  clear h hw1 b1 g1
  go_enter Tryd.func12, Tryd.ntmps12
  go_upto_region 1 with fail
  rw [← HW.out]
  go_wp2_with fail
  refine C.out.mono ?_
  rintro e w' ⟨rfl, e1⟩
  obtain rfl := e1.symm
  clear e1
  go_wp2_with (with_reducible refine wpList_store_nought rfl (.tmp 2) (.tmp 6) rfl w.heap.size rfl H1.out.2 rfl ?_; intro w4 r4 o4)
  refine bodyPost_ret_by (results_cell_row (p := 2) (ty := 23) (by kernel_rfl) _ _ w.heap.size 23 (bvs zero32).toArray (0, 0) _ rfl r4 Tryd.underlying23 rfl (by rw [List.size_toArray, bvs_length]; exact sizeSum)) rfl ?_
  exact ⟨rfl, Only.below H1.out.1 (Nat.le_refl _) (Nat.le_refl _) o4⟩

end Go.Proofs.YthbgcijkpincfaaDoor
