/-
  The type byte.
-/
import Derived.Test.YthbgcijkpincfaaDoorLPre
import Derived.Test.YthbgcijkpincfaaDoorRows
namespace Go.Proofs.YthbgcijkpincfaaDoor
open Go.RowKit

theorem infoByte : (Tryd.prog.info? 5).map (fun i => (i.zero, i.size, i.bytes)) = some (some (.int .u8 0), 1, 1) := by kernel_rfl

theorem sizeByte : (Tryd.prog.info? 5).map (·.size) = some 1 := by kernel_rfl

theorem cellsByte : Tryd.prog.cellsOf 5 = 1 := by kernel_rfl

end Go.Proofs.YthbgcijkpincfaaDoor
