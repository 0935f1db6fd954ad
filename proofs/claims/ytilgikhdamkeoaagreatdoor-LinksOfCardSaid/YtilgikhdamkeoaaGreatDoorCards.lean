/-
  DERIVED. GIVEN WITH THE SEED: THE CARDS: each row of YtilgikhdamkeoaaGreatDoorRows.lean that lists a variable, with what it lists TIED to the program's text (the seventh form; the later family's looks); each row that meets fmt, with fmt's text TOLD by the authors' own Lean function (tested against real Go, not proved from fmt's source: count such statements apart). THE CARD IS WHAT COUNTS. Prove the row's statement (the work); the ties are given (YtilgikhdamkeoaaGreatDoorTie.lean); close each card by the builder's one call (the guide's Derived/Test/ToyasCard.lean, 'card_holds'). Laid BY PROGRAM, IN A SANDBOX (cutbox-door.mjs). By AI agents, Wed Nov 11 2026. No macro, syntax, notation, axiom, sorry.
-/
import Derived.Test.YtilgikhdamkeoaaGreatDoorRows
import GoSem.ClaimSeven
namespace Go.Proofs.YtilgikhdamkeoaaGreatDoor
namespace Rows

/-- THE TIED CARD OF 'almonerlaw11.LinksOf'. -/
def linksOfCard : Claim7 := { stood := { row := linksOfRow, standIns := [], harness := (true, "048239787c221e269bd536a30959755783b844f738c6a956f1d2a372f390c2c2"), looks := true }, kinds := [], alts := [], laidByText := true, laidKinds := [.data, .data, .data, .data, .data, .sentinel], laidTests := true, laidLooks := .later }
def LinksOfCardSaid : Prop := Claim7.holds Tryz.pinned (.plain (OpenSpec.ofChange linksOfSpec)) linksOfCard

/-- THE SECOND FORM's CARD OF 'almonerlaw11.LinksOf'. -/
def linksOfUptoCard : Claim7 := { stood := { row := linksOfUptoRow, standIns := [], harness := (true, "048239787c221e269bd536a30959755783b844f738c6a956f1d2a372f390c2c2"), looks := true }, kinds := [], alts := [], laidByText := true, laidKinds := [.data, .data, .data, .data, .data, .sentinel], laidTests := true, laidLooks := .later }
def LinksOfUptoCardSaid : Prop := Claim7.holds Tryz.pinned (.plain (OpenSpec.upto linksOfSpec)) linksOfUptoCard
end Rows
end Go.Proofs.YtilgikhdamkeoaaGreatDoor
