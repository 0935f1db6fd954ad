/-
  DERIVED. GIVEN WITH THE SEED: THE CARDS: each row of YtfniddnfkciblaaGreatDoorRows.lean that lists a variable, with what it lists TIED to the program's text (the seventh form; the later family's looks); each row that meets fmt, with fmt's text TOLD by the authors' own Lean function (tested against real Go, not proved from fmt's source: count such statements apart). THE CARD IS WHAT COUNTS. Prove the row's statement (the work); the ties are given (YtfniddnfkciblaaGreatDoorTie.lean); close each card by the builder's one call (the guide's Derived/Test/ToyasCard.lean, 'card_holds'). Laid BY PROGRAM, IN A SANDBOX (cutbox-door.mjs). By AI agents, Wed Nov 11 2026. No macro, syntax, notation, axiom, sorry.
-/
import Derived.Test.YtfniddnfkciblaaGreatDoorRows
import GoSem.ClaimSeven
namespace Go.Proofs.YtfniddnfkciblaaGreatDoor
namespace Rows

/-- THE TIED CARD OF 'almonerlaw06.FramesOf'. -/
def framesOfCard : Claim7 := { stood := { row := framesOfRow, standIns := [], harness := (true, "fdfd82acfaa66ca16dd451985c4206f5c60ddf5bce27e910f5b143f926dc0c22"), looks := true }, kinds := [], alts := [], laidByText := true, laidKinds := [.data, .data, .data, .sentinel, .sentinel, .sentinel], laidTests := true, laidLooks := .later }
def FramesOfCardSaid : Prop := Claim7.holds Tryz.pinned (.plain (OpenSpec.ofChange framesOfSpec)) framesOfCard

/-- THE SECOND FORM's CARD OF 'almonerlaw06.FramesOf'. -/
def framesOfUptoCard : Claim7 := { stood := { row := framesOfUptoRow, standIns := [], harness := (true, "fdfd82acfaa66ca16dd451985c4206f5c60ddf5bce27e910f5b143f926dc0c22"), looks := true }, kinds := [], alts := [], laidByText := true, laidKinds := [.data, .data, .data, .sentinel, .sentinel, .sentinel], laidTests := true, laidLooks := .later }
def FramesOfUptoCardSaid : Prop := Claim7.holds Tryz.pinned (.plain (OpenSpec.upto framesOfSpec)) framesOfUptoCard
end Rows
end Go.Proofs.YtfniddnfkciblaaGreatDoor
