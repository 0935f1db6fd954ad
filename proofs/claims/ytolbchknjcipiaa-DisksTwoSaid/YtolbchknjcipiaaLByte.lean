/-
  The type byte.
-/
import Derived.Test.YtolbchknjcipiaaLPre
import Derived.Test.YtolbchknjcipiaaRows
namespace Go.Proofs.Ytolbchknjcipiaa
open Go.RowKit

theorem infoByte : (Try.prog.info? 5).map (fun i => (i.zero, i.size, i.bytes)) = some (some (.int .u8 0), 1, 1) := by kernel_rfl

theorem sizeByte : (Try.prog.info? 5).map (·.size) = some 1 := by kernel_rfl

theorem cellsByte : Try.prog.cellsOf 5 = 1 := by kernel_rfl

end Go.Proofs.Ytolbchknjcipiaa
