/-
  DERIVED. GIVEN WITH THE SEED: THE CARDS: each row of YtfniddnfkciblaaDoorRows.lean that lists a variable, with what it lists TIED to the program's text (the seventh form; the later family's looks); each row that meets fmt, with fmt's text TOLD by the authors' own Lean function (tested against real Go, not proved from fmt's source: count such statements apart). THE CARD IS WHAT COUNTS. Prove the row's statement (the work); the ties are given (YtfniddnfkciblaaDoorTie.lean); close each card by the builder's one call (the guide's Derived/Test/ToyasCard.lean, 'card_holds'). Laid BY PROGRAM, IN A SANDBOX (cutbox-door.mjs). By AI agents, Wed Nov 11 2026. No macro, syntax, notation, axiom, sorry.
-/
import Derived.Test.YtfniddnfkciblaaDoorRows
import GoSem.ClaimSeven
namespace Go.Proofs.YtfniddnfkciblaaDoor
namespace Rows

/-- THE TIED CARD OF 'almonerlaw06.FramesBack'. -/
def framesBackCard : Claim7 := { stood := { row := framesBackRow, standIns := [], harness := (true, "f20ba605bbccab27a6092499e8962053442e4ea4dead5c486c4cd469d0a4821d"), looks := true }, kinds := [], alts := [], laidByText := true, laidKinds := [.sentinel, .sentinel, .sentinel], laidTests := true, laidLooks := .later }
def FramesBackCardSaid : Prop := Claim7.holds Tryd.pinned (.plain (OpenSpec.ofChange framesBackSpec)) framesBackCard

/-- THE TIED CARD OF 'almonerlaw06.FramesAgain'. -/
def framesAgainCard : Claim7 := { stood := { row := framesAgainRow, standIns := [], harness := (true, "f20ba605bbccab27a6092499e8962053442e4ea4dead5c486c4cd469d0a4821d"), looks := true }, kinds := [], alts := [], laidByText := true, laidKinds := [.sentinel, .sentinel, .sentinel], laidTests := true, laidLooks := .later }
def FramesAgainCardSaid : Prop := Claim7.holds Tryd.pinned (.plain (OpenSpec.ofChange framesAgainSpec)) framesAgainCard

/-- THE TIED CARD OF 'almonerlaw06.FramesParts'. -/
def framesPartsCard : Claim7 := { stood := { row := framesPartsRow, standIns := [], harness := (true, "f20ba605bbccab27a6092499e8962053442e4ea4dead5c486c4cd469d0a4821d"), looks := true }, kinds := [], alts := [], laidByText := true, laidKinds := [.sentinel, .sentinel, .sentinel], laidTests := true, laidLooks := .later }
def FramesPartsCardSaid : Prop := Claim7.holds Tryd.pinned (.plain (OpenSpec.ofChange framesPartsSpec)) framesPartsCard

/-- THE TIED CARD OF 'almonerlaw06.FramesTurned'. -/
def framesTurnedCard : Claim7 := { stood := { row := framesTurnedRow, standIns := [], harness := (true, "f20ba605bbccab27a6092499e8962053442e4ea4dead5c486c4cd469d0a4821d"), looks := true }, kinds := [], alts := [], laidByText := true, laidKinds := [.sentinel, .sentinel, .sentinel], laidTests := true, laidLooks := .later }
def FramesTurnedCardSaid : Prop := Claim7.holds Tryd.pinned (.plain (OpenSpec.ofChange framesTurnedSpec)) framesTurnedCard

/-- THE SECOND FORM's CARD OF 'almonerlaw06.FramesBack'. -/
def framesBackUptoCard : Claim7 := { stood := { row := framesBackUptoRow, standIns := [], harness := (true, "f20ba605bbccab27a6092499e8962053442e4ea4dead5c486c4cd469d0a4821d"), looks := true }, kinds := [], alts := [], laidByText := true, laidKinds := [.sentinel, .sentinel, .sentinel], laidTests := true, laidLooks := .later }
def FramesBackUptoCardSaid : Prop := Claim7.holds Tryd.pinned (.plain (OpenSpec.upto framesBackSpec)) framesBackUptoCard

/-- THE SECOND FORM's CARD OF 'almonerlaw06.FramesAgain'. -/
def framesAgainUptoCard : Claim7 := { stood := { row := framesAgainUptoRow, standIns := [], harness := (true, "f20ba605bbccab27a6092499e8962053442e4ea4dead5c486c4cd469d0a4821d"), looks := true }, kinds := [], alts := [], laidByText := true, laidKinds := [.sentinel, .sentinel, .sentinel], laidTests := true, laidLooks := .later }
def FramesAgainUptoCardSaid : Prop := Claim7.holds Tryd.pinned (.plain (OpenSpec.upto framesAgainSpec)) framesAgainUptoCard

/-- THE SECOND FORM's CARD OF 'almonerlaw06.FramesParts'. -/
def framesPartsUptoCard : Claim7 := { stood := { row := framesPartsUptoRow, standIns := [], harness := (true, "f20ba605bbccab27a6092499e8962053442e4ea4dead5c486c4cd469d0a4821d"), looks := true }, kinds := [], alts := [], laidByText := true, laidKinds := [.sentinel, .sentinel, .sentinel], laidTests := true, laidLooks := .later }
def FramesPartsUptoCardSaid : Prop := Claim7.holds Tryd.pinned (.plain (OpenSpec.upto framesPartsSpec)) framesPartsUptoCard

/-- THE SECOND FORM's CARD OF 'almonerlaw06.FramesTurned'. -/
def framesTurnedUptoCard : Claim7 := { stood := { row := framesTurnedUptoRow, standIns := [], harness := (true, "f20ba605bbccab27a6092499e8962053442e4ea4dead5c486c4cd469d0a4821d"), looks := true }, kinds := [], alts := [], laidByText := true, laidKinds := [.sentinel, .sentinel, .sentinel], laidTests := true, laidLooks := .later }
def FramesTurnedUptoCardSaid : Prop := Claim7.holds Tryd.pinned (.plain (OpenSpec.upto framesTurnedSpec)) framesTurnedUptoCard
end Rows
end Go.Proofs.YtfniddnfkciblaaDoor
