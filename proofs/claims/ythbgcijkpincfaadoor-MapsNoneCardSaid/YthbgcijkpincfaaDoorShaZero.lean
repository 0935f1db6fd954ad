/-
  Two zero values of many cells, for a seat of less than 80 functions (a greater one has these from its loader: there XShaZero.big serves).
-/
import Derived.Test.YthbgcijkpincfaaDoorShaArr
namespace Go.Proofs.YthbgcijkpincfaaDoor
open Go.RowKit

def zcRun : Array Value := (Value.bool false :: (List.replicate 8 (Value.int .u32 0) ++ (List.replicate 64 (Value.int .u8 0) ++ [Value.int .u64 0]))).toArray
def zc72 : Array Value := (List.replicate 72 (Value.int .u8 0)).toArray
theorem zeroRun_val (w : World) : (zeroValue 83).run Tryd.prog w = .ok (.agg zcRun) w := by kernel_rfl
theorem zero72_val (w : World) : (zeroValue 85).run Tryd.prog w = .ok (.agg zc72) w := by kernel_rfl
theorem zeroRun_cells : zcRun.size = 74 := by kernel_rfl
theorem zero72_cells : zc72.size = 72 := by kernel_rfl
theorem zeroRun_ne : zcRun ≠ #[] := fun h => by have := congrArg Array.size h; rw [zeroRun_cells] at this; cases this
theorem zero72_ne : zc72 ≠ #[] := fun h => by have := congrArg Array.size h; rw [zero72_cells] at this; cases this
attribute [go_sem] zeroRun_val zero72_val zeroRun_cells zero72_cells
attribute [simp] zeroRun_ne zero72_ne
attribute [irreducible] zcRun zc72

end Go.Proofs.YthbgcijkpincfaaDoor
