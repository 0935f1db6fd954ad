/-
  A run that is not there, or that no call made: its sum; noughts.
-/
import Derived.Test.YtoojlpbfldnkpaaDoorShaSum
namespace Go.Proofs.YtoojlpbfldnkpaaDoor
open Go.RowKit

theorem lit32_zero : (Value.agg #[.int .u8 0, .int .u8 0, .int .u8 0, .int .u8 0, .int .u8 0, .int .u8 0, .int .u8 0, .int .u8 0, .int .u8 0, .int .u8 0, .int .u8 0, .int .u8 0, .int .u8 0, .int .u8 0, .int .u8 0, .int .u8 0, .int .u8 0, .int .u8 0, .int .u8 0, .int .u8 0, .int .u8 0, .int .u8 0, .int .u8 0, .int .u8 0, .int .u8 0, .int .u8 0, .int .u8 0, .int .u8 0, .int .u8 0, .int .u8 0, .int .u8 0, .int .u8 0]) = sv zero32 := rfl
/-- Noughts into a variable of noughts. -/
theorem wpList_store_nought {ops : Array Oper} {rest : List Oper} {o : Oper} {a : Act} {w : World} {Q : Exit → Act → World → Prop} (hgd : o.guard = none) (x y : Operand) (ho : o.op = .store 54 x y)
    (g : Nat) (hx : a.eval x = .pointer (some ⟨g, 0, none⟩)) (hg : w.heap[g]? = some (.cells #[.int .u8 0, .int .u8 0, .int .u8 0, .int .u8 0, .int .u8 0, .int .u8 0, .int .u8 0, .int .u8 0, .int .u8 0, .int .u8 0, .int .u8 0, .int .u8 0, .int .u8 0, .int .u8 0, .int .u8 0, .int .u8 0, .int .u8 0, .int .u8 0, .int .u8 0, .int .u8 0, .int .u8 0, .int .u8 0, .int .u8 0, .int .u8 0, .int .u8 0, .int .u8 0, .int .u8 0, .int .u8 0, .int .u8 0, .int .u8 0, .int .u8 0, .int .u8 0] 54 (0, 0))) (hy : a.eval y = .agg #[.int .u8 0, .int .u8 0, .int .u8 0, .int .u8 0, .int .u8 0, .int .u8 0, .int .u8 0, .int .u8 0, .int .u8 0, .int .u8 0, .int .u8 0, .int .u8 0, .int .u8 0, .int .u8 0, .int .u8 0, .int .u8 0, .int .u8 0, .int .u8 0, .int .u8 0, .int .u8 0, .int .u8 0, .int .u8 0, .int .u8 0, .int .u8 0, .int .u8 0, .int .u8 0, .int .u8 0, .int .u8 0, .int .u8 0, .int .u8 0, .int .u8 0, .int .u8 0])
    (h : ∀ w', BArr w' g 54 zero32 → Only g w w' → wpList Tryd.prog ops Q rest (a.put o.dst undef) w') : wpList Tryd.prog ops Q (o :: rest) a w :=
  wpList_store_row hgd 54 x y ho g (bvs zero32).toArray hx hy 54 (bvs zero32).toArray hg sizeSum rfl (all_oneCell_toArray (bvs_oneCell zero32)) (h _ (setRow_heap w g _ _ _ (0, 0) hg) ((Only.refl g w).setRow _))

set_option maxRecDepth 100000 in
set_option maxHeartbeats 1000000 in
theorem sum_nil (w : World) :
    Calls Tryd.prog 68 #[.pointer none] w fun e w' => e = .returned (sv zero32) ∧ Below w.heap.size w w' := by
  go_enter Tryd.func68, Tryd.ntmps68
  go_wp2_with fail
  refine (isThere_nil _).mono ?_
  rintro e w1 ⟨rfl, rfl⟩
  go_wp2_with (with_reducible refine wpList_store_nought rfl (.tmp 2) (.tmp 9) rfl w.heap.size rfl (World.alloc_heap_new w _) rfl ?_)
  intro w2 hb2 ho2
  go_wp2
  exact bodyPost_ret_by (results_cell_row (p := 2) (ty := 54) (by kernel_rfl) _ _ w.heap.size 54 (bvs zero32).toArray (0, 0) _ rfl hb2 Tryd.underlying54 rfl sizeSum) rfl ⟨rfl, Only.below (below_alloc w _) (Nat.le_refl _) (Nat.le_refl _) ho2⟩

set_option maxRecDepth 100000 in
set_option maxHeartbeats 1000000 in
theorem sum_not (g : Nat) (w : World) (hg : w.cell? ⟨g, 0, none⟩ = some (.bool false)) :
    Calls Tryd.prog 68 #[.pointer (some ⟨g, 0, none⟩)] w fun e w' => e = .returned (sv zero32) ∧ Below w.heap.size w w' := by
  have h2 : ∀ o, (w.alloc o).cell? ⟨g, 0, none⟩ = some (.bool false) := fun o => ((below_alloc w o).cell (World.block_lt_of_cell? w _ hg)).trans hg
  have H2 := Lib.hid h2
  clear h2 hg
  go_enter Tryd.func68, Tryd.ntmps68
  go_wp2_with fail
  refine (isThere_not g _ (H2.out _)).mono ?_
  rintro e w1 ⟨rfl, rfl⟩
  go_wp2_with (with_reducible refine wpList_store_nought rfl (.tmp 2) (.tmp 9) rfl w.heap.size rfl (World.alloc_heap_new w _) rfl ?_)
  intro w2 hb2 ho2
  go_wp2
  exact bodyPost_ret_by (results_cell_row (p := 2) (ty := 54) (by kernel_rfl) _ _ w.heap.size 54 (bvs zero32).toArray (0, 0) _ rfl hb2 Tryd.underlying54 rfl sizeSum) rfl ⟨rfl, Only.below (below_alloc w _) (Nat.le_refl _) (Nat.le_refl _) ho2⟩

theorem eql_nought (w : World) : (binOp .eql 54 (sv zero32) (.agg #[.int .u8 0, .int .u8 0, .int .u8 0, .int .u8 0, .int .u8 0, .int .u8 0, .int .u8 0, .int .u8 0, .int .u8 0, .int .u8 0, .int .u8 0, .int .u8 0, .int .u8 0, .int .u8 0, .int .u8 0, .int .u8 0, .int .u8 0, .int .u8 0, .int .u8 0, .int .u8 0, .int .u8 0, .int .u8 0, .int .u8 0, .int .u8 0, .int .u8 0, .int .u8 0, .int .u8 0, .int .u8 0, .int .u8 0, .int .u8 0, .int .u8 0, .int .u8 0])).run Tryd.prog w = .ok (.bool true) w := run_eql_sum zero32 zero32 rfl rfl w
theorem guard_nought (x y : Operand) (w : World) : (eqGuard .eql 54 x y (sv zero32) (.agg #[.int .u8 0, .int .u8 0, .int .u8 0, .int .u8 0, .int .u8 0, .int .u8 0, .int .u8 0, .int .u8 0, .int .u8 0, .int .u8 0, .int .u8 0, .int .u8 0, .int .u8 0, .int .u8 0, .int .u8 0, .int .u8 0, .int .u8 0, .int .u8 0, .int .u8 0, .int .u8 0, .int .u8 0, .int .u8 0, .int .u8 0, .int .u8 0, .int .u8 0, .int .u8 0, .int .u8 0, .int .u8 0, .int .u8 0, .int .u8 0, .int .u8 0, .int .u8 0])).run Tryd.prog w = .ok () w := run_guard_eql x y zero32 zero32 w

end Go.Proofs.YtoojlpbfldnkpaaDoor
