/-
  The mark of a number as a sum.
-/
import Derived.Test.YtoojlpbfldnkpaaDoorShaNul
namespace Go.Proofs.YtoojlpbfldnkpaaDoor
open Go.RowKit

/-- The bytes of a mark. -/
def mark32 (num : Nat) : List Nat := (num % 256) :: List.replicate 31 0
theorem mark32_length (num : Nat) : (mark32 num).length = 32 := rfl
theorem mark32_lt (num : Nat) : ∀ y ∈ mark32 num, y < 256 := by
  intro y hy
  rcases List.mem_cons.1 hy with rfl | hy
  · exact Nat.mod_lt _ (by decide)
  · rw [List.eq_of_mem_replicate hy]; decide
theorem mark_head (num : Nat) : Value.int .u8 ((num : Int) % 256) = bv (num % 256) := by
  show Value.int .u8 ((num : Int) % 256) = .int .u8 (((num % 256 : Nat)) : Int)
  rw [Int.natCast_emod]
  rfl
theorem lit32_tail (v : Value) : (#[v, .int .u8 0, .int .u8 0, .int .u8 0, .int .u8 0, .int .u8 0, .int .u8 0, .int .u8 0, .int .u8 0, .int .u8 0, .int .u8 0, .int .u8 0, .int .u8 0, .int .u8 0, .int .u8 0, .int .u8 0, .int .u8 0, .int .u8 0, .int .u8 0, .int .u8 0, .int .u8 0, .int .u8 0, .int .u8 0, .int .u8 0, .int .u8 0, .int .u8 0, .int .u8 0, .int .u8 0, .int .u8 0, .int .u8 0, .int .u8 0, .int .u8 0] : Array Value) = (v :: bvs (List.replicate 31 0)).toArray := rfl
theorem lit32_mark (num : Nat) : (Value.agg #[.int .u8 ((num : Int) % 256), .int .u8 0, .int .u8 0, .int .u8 0, .int .u8 0, .int .u8 0, .int .u8 0, .int .u8 0, .int .u8 0, .int .u8 0, .int .u8 0, .int .u8 0, .int .u8 0, .int .u8 0, .int .u8 0, .int .u8 0, .int .u8 0, .int .u8 0, .int .u8 0, .int .u8 0, .int .u8 0, .int .u8 0, .int .u8 0, .int .u8 0, .int .u8 0, .int .u8 0, .int .u8 0, .int .u8 0, .int .u8 0, .int .u8 0, .int .u8 0, .int .u8 0]) = sv (mark32 num) := by
  rw [lit32_tail, mark_head]
  rfl
/-- A mark into a variable of noughts. -/
theorem wpList_store_mark {ops : Array Oper} {rest : List Oper} {o : Oper} {a : Act} {w : World} {Q : Exit → Act → World → Prop} (num : Nat) (hgd : o.guard = none) (x y : Operand) (ho : o.op = .store 54 x y)
    (g : Nat) (hx : a.eval x = .pointer (some ⟨g, 0, none⟩)) (hg : w.heap[g]? = some (.cells #[.int .u8 0, .int .u8 0, .int .u8 0, .int .u8 0, .int .u8 0, .int .u8 0, .int .u8 0, .int .u8 0, .int .u8 0, .int .u8 0, .int .u8 0, .int .u8 0, .int .u8 0, .int .u8 0, .int .u8 0, .int .u8 0, .int .u8 0, .int .u8 0, .int .u8 0, .int .u8 0, .int .u8 0, .int .u8 0, .int .u8 0, .int .u8 0, .int .u8 0, .int .u8 0, .int .u8 0, .int .u8 0, .int .u8 0, .int .u8 0, .int .u8 0, .int .u8 0] 54 (0, 0))) (hy : a.eval y = .agg #[.int .u8 ((num : Int) % 256), .int .u8 0, .int .u8 0, .int .u8 0, .int .u8 0, .int .u8 0, .int .u8 0, .int .u8 0, .int .u8 0, .int .u8 0, .int .u8 0, .int .u8 0, .int .u8 0, .int .u8 0, .int .u8 0, .int .u8 0, .int .u8 0, .int .u8 0, .int .u8 0, .int .u8 0, .int .u8 0, .int .u8 0, .int .u8 0, .int .u8 0, .int .u8 0, .int .u8 0, .int .u8 0, .int .u8 0, .int .u8 0, .int .u8 0, .int .u8 0, .int .u8 0])
    (h : ∀ w', BArr w' g 54 (mark32 num) → Only g w w' → wpList Tryd.prog ops Q rest (a.put o.dst undef) w') : wpList Tryd.prog ops Q (o :: rest) a w := by
  rw [lit32_mark] at hy
  exact wpList_store_row hgd 54 x y ho g (bvs (mark32 num)).toArray hx hy 54 (bvs zero32).toArray hg sizeSum rfl (all_oneCell_toArray (bvs_oneCell (mark32 num))) (h _ (setRow_heap w g _ _ _ (0, 0) hg) ((Only.refl g w).setRow _))

set_option maxRecDepth 100000 in
set_option maxHeartbeats 1000000 in
theorem markSum_any (num : Nat) (w : World) :
    Calls Tryd.prog 73 #[.int .i64 (num : Int)] w fun e w' => e = .returned (sv (mark32 num)) ∧ Below w.heap.size w w' := by
  go_enter Tryd.func73, Tryd.ntmps73
  go_wp2_with (with_reducible refine wpList_store_mark num rfl (.tmp 2) (.tmp 5) rfl w.heap.size rfl (World.alloc_heap_new w _) rfl ?_)
  intro w2 hb2 ho2
  go_wp2
  exact bodyPost_ret_by (results_cell_row (p := 2) (ty := 54) (by kernel_rfl) _ _ w.heap.size 54 (bvs (mark32 num)).toArray (0, 0) _ rfl hb2 Tryd.underlying54 rfl sizeSum) rfl ⟨rfl, Only.below (below_alloc w _) (Nat.le_refl _) (Nat.le_refl _) ho2⟩

theorem eql_mark (num : Nat) (s : List Nat) (hs : s = mark32 num) (w : World) : (binOp .eql 54 (sv s) (.agg #[.int .u8 ((num : Int) % 256), .int .u8 0, .int .u8 0, .int .u8 0, .int .u8 0, .int .u8 0, .int .u8 0, .int .u8 0, .int .u8 0, .int .u8 0, .int .u8 0, .int .u8 0, .int .u8 0, .int .u8 0, .int .u8 0, .int .u8 0, .int .u8 0, .int .u8 0, .int .u8 0, .int .u8 0, .int .u8 0, .int .u8 0, .int .u8 0, .int .u8 0, .int .u8 0, .int .u8 0, .int .u8 0, .int .u8 0, .int .u8 0, .int .u8 0, .int .u8 0, .int .u8 0])).run Tryd.prog w = .ok (.bool true) w := by
  rw [lit32_mark, hs, run_eql_sum _ _ (mark32_length num) (mark32_length num) w, decide_eq_true rfl]
theorem guard_mark (num : Nat) (x y : Operand) (s : List Nat) (w : World) : (eqGuard .eql 54 x y (sv s) (.agg #[.int .u8 ((num : Int) % 256), .int .u8 0, .int .u8 0, .int .u8 0, .int .u8 0, .int .u8 0, .int .u8 0, .int .u8 0, .int .u8 0, .int .u8 0, .int .u8 0, .int .u8 0, .int .u8 0, .int .u8 0, .int .u8 0, .int .u8 0, .int .u8 0, .int .u8 0, .int .u8 0, .int .u8 0, .int .u8 0, .int .u8 0, .int .u8 0, .int .u8 0, .int .u8 0, .int .u8 0, .int .u8 0, .int .u8 0, .int .u8 0, .int .u8 0, .int .u8 0, .int .u8 0])).run Tryd.prog w = .ok () w := by
  rw [lit32_mark]
  exact run_guard_eql x y s (mark32 num) w

set_option maxRecDepth 100000 in
set_option maxHeartbeats 1000000 in
theorem isSum_any (num : Nat) (s : List Nat) (hs : s = mark32 num) (w : World) :
    Calls Tryd.prog 82 #[sv s, .int .i64 (num : Int)] w fun e w' => e = .returned (.bool true) ∧ Below w.heap.size w w' := by
  have q1 := eql_mark num s hs
  have q2 := fun x y => guard_mark num x y s
  have hl : s.length = 32 := by rw [hs]; rfl
  clear hs
  show Calls Tryd.prog 82 #[.agg (bvs s).toArray, .int .i64 (num : Int)] w _
  go_enter Tryd.func82, Tryd.ntmps82
  go_wp2_with (with_reducible refine wpList_load_sum rfl (.tmp 2) rfl ⟨w.heap.size, 0, none⟩ rfl s hl (BArr.new w 54 s).at_ ?_)
  go_ret
  exact ⟨rfl, below_alloc w _⟩

end Go.Proofs.YtoojlpbfldnkpaaDoor
