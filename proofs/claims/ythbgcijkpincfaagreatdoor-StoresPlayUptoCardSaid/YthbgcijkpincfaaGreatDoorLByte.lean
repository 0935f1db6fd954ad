/-
  The type byte.
-/
import Derived.Test.YthbgcijkpincfaaGreatDoorLPre
import Derived.Test.YthbgcijkpincfaaGreatDoorRows
namespace Go.Proofs.YthbgcijkpincfaaGreatDoor
open Go.RowKit

theorem infoByte : (Tryz.prog.info? 5).map (fun i => (i.zero, i.size, i.bytes)) = some (some (.int .u8 0), 1, 1) := by kernel_rfl

theorem sizeByte : (Tryz.prog.info? 5).map (·.size) = some 1 := by kernel_rfl

theorem cellsByte : Tryz.prog.cellsOf 5 = 1 := by kernel_rfl

end Go.Proofs.YthbgcijkpincfaaGreatDoor
