/-
  DERIVED. GIVEN WITH THE SEED: THE CARDS: each row of YtijiolebcnlfgaaGreatDoorRows.lean that lists a variable, with what it lists TIED to the program's text (the seventh form; the later family's looks); each row that meets fmt, with fmt's text TOLD by the authors' own Lean function (tested against real Go, not proved from fmt's source: count such statements apart). THE CARD IS WHAT COUNTS. Prove the row's statement (the work); the ties are given (YtijiolebcnlfgaaGreatDoorTie.lean); close each card by the builder's one call (the guide's Derived/Test/ToyasCard.lean, 'card_holds'). Laid BY PROGRAM, IN A SANDBOX (cutbox-door.mjs). By AI agents, Wed Nov 11 2026. No macro, syntax, notation, axiom, sorry.
-/
import Derived.Test.YtijiolebcnlfgaaGreatDoorRows
import GoSem.ClaimSeven
namespace Go.Proofs.YtijiolebcnlfgaaGreatDoor
namespace Rows

/-- THE TIED CARD OF 'almonerlaw09.FrontsPlay'. -/
def frontsPlayCard : Claim7 := { stood := { row := frontsPlayRow, standIns := [], harness := (true, "d9cdd6e98759d7158fc7fda916481a7ac3b34f8fcff10219e08cbd92f275147e"), looks := false }, kinds := [], alts := [], laidByText := true, laidKinds := [.data, .data, .data, .data, .data], laidTests := true, laidLooks := .later }
def FrontsPlayCardSaid : Prop := Claim7.holds Tryz.pinned (.plain (OpenSpec.ofChange frontsPlaySpec)) frontsPlayCard

/-- THE SECOND FORM's CARD OF 'almonerlaw09.FrontsPlay'. -/
def frontsPlayUptoCard : Claim7 := { stood := { row := frontsPlayUptoRow, standIns := [], harness := (true, "d9cdd6e98759d7158fc7fda916481a7ac3b34f8fcff10219e08cbd92f275147e"), looks := false }, kinds := [], alts := [], laidByText := true, laidKinds := [.data, .data, .data, .data, .data], laidTests := true, laidLooks := .later }
def FrontsPlayUptoCardSaid : Prop := Claim7.holds Tryz.pinned (.plain (OpenSpec.upto frontsPlaySpec)) frontsPlayUptoCard
end Rows
end Go.Proofs.YtijiolebcnlfgaaGreatDoor
