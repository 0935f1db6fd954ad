/-
  DERIVED. GIVEN WITH THE SEED: THE CARDS: each row of YtnaebjdccngeoaaGreatDoorRows.lean that lists a variable, with what it lists TIED to the program's text (the seventh form; the later family's looks); each row that meets fmt, with fmt's text TOLD by the authors' own Lean function (tested against real Go, not proved from fmt's source: count such statements apart). THE CARD IS WHAT COUNTS. Prove the row's statement (the work); the ties are given (YtnaebjdccngeoaaGreatDoorTie.lean); close each card by the builder's one call (the guide's Derived/Test/ToyasCard.lean, 'card_holds'). Laid BY PROGRAM, IN A SANDBOX (cutbox-door.mjs). By AI agents, Wed Nov 11 2026. No macro, syntax, notation, axiom, sorry.
-/
import Derived.Test.YtnaebjdccngeoaaGreatDoorRows
import GoSem.ClaimSeven
namespace Go.Proofs.YtnaebjdccngeoaaGreatDoor
namespace Rows

/-- THE TIED CARD OF 'almonerlaw12.ChainsPlay'. -/
def chainsPlayCard : Claim7 := { stood := { row := chainsPlayRow, standIns := [], harness := (true, "8f0f8ad89b9f4e8e4fe730199c81ab8de6f63a32728d8a15292bfc321567284d"), looks := true }, kinds := [], alts := [], laidByText := true, laidKinds := [.data, .data, .data, .data, .data], laidTests := true, laidLooks := .later }
def ChainsPlayCardSaid : Prop := Claim7.holds Tryz.pinned (.plain (OpenSpec.ofChange chainsPlaySpec)) chainsPlayCard

/-- THE TIED CARD OF 'almonerlaw13.ClashesOf'. -/
def clashesOfCard : Claim7 := { stood := { row := clashesOfRow, standIns := [], harness := (true, "8f0f8ad89b9f4e8e4fe730199c81ab8de6f63a32728d8a15292bfc321567284d"), looks := true }, kinds := [], alts := [], laidByText := true, laidKinds := [.data, .data, .data, .data, .data, .sentinel], laidTests := true, laidLooks := .later }
def ClashesOfCardSaid : Prop := Claim7.holds Tryz.pinned (.plain (OpenSpec.ofChange clashesOfSpec)) clashesOfCard

/-- THE SECOND FORM's CARD OF 'almonerlaw12.ChainsPlay'. -/
def chainsPlayUptoCard : Claim7 := { stood := { row := chainsPlayUptoRow, standIns := [], harness := (true, "8f0f8ad89b9f4e8e4fe730199c81ab8de6f63a32728d8a15292bfc321567284d"), looks := true }, kinds := [], alts := [], laidByText := true, laidKinds := [.data, .data, .data, .data, .data], laidTests := true, laidLooks := .later }
def ChainsPlayUptoCardSaid : Prop := Claim7.holds Tryz.pinned (.plain (OpenSpec.upto chainsPlaySpec)) chainsPlayUptoCard

/-- THE SECOND FORM's CARD OF 'almonerlaw13.ClashesOf'. -/
def clashesOfUptoCard : Claim7 := { stood := { row := clashesOfUptoRow, standIns := [], harness := (true, "8f0f8ad89b9f4e8e4fe730199c81ab8de6f63a32728d8a15292bfc321567284d"), looks := true }, kinds := [], alts := [], laidByText := true, laidKinds := [.data, .data, .data, .data, .data, .sentinel], laidTests := true, laidLooks := .later }
def ClashesOfUptoCardSaid : Prop := Claim7.holds Tryz.pinned (.plain (OpenSpec.upto clashesOfSpec)) clashesOfUptoCard
end Rows
end Go.Proofs.YtnaebjdccngeoaaGreatDoor
