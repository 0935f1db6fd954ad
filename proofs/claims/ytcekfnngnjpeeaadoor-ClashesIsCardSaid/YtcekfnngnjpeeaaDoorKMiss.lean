/-
  The sentinel of package links, and where it lies.
-/
import Derived.Test.YtcekfnngnjpeeaaDoorKIs
namespace Go.Proofs.YtcekfnngnjpeeaaDoor
open Go.RowKit

/-- The sentinel as a value: a pointer to E. -/
def missV (E : Addr) : Value := .iface 127 (.pointer (some E))
/-- The variable holds it. -/
def Miss (w : World) (E : Addr) : Prop := w.cell? ⟨0, 0, none⟩ = some (missV E)
theorem Miss.below {w w' : World} {E : Addr} (h : Miss w E) (hb : Below w.heap.size w w') : Miss w' E := (hb.cell (World.block_lt_of_cell? w _ h)).trans h
theorem Miss.lt {w : World} {E : Addr} (h : Miss w E) : 0 < w.heap.size := World.block_lt_of_cell? w _ h

end Go.Proofs.YtcekfnngnjpeeaaDoor
