/-
  DERIVED. GIVEN WITH THE SEED: THE CARDS: each row of YtppfdpnplemfkaaGreatDoorRows.lean that lists a variable, with what it lists TIED to the program's text (the seventh form; the later family's looks); each row that meets fmt, with fmt's text TOLD by the authors' own Lean function (tested against real Go, not proved from fmt's source: count such statements apart). THE CARD IS WHAT COUNTS. Prove the row's statement (the work); the ties are given (YtppfdpnplemfkaaGreatDoorTie.lean); close each card by the builder's one call (the guide's Derived/Test/ToyasCard.lean, 'card_holds'). Laid BY PROGRAM, IN A SANDBOX (cutbox-door.mjs). By AI agents, Wed Nov 11 2026. No macro, syntax, notation, axiom, sorry.
-/
import Derived.Test.YtppfdpnplemfkaaGreatDoorRows
import GoSem.ClaimSeven
namespace Go.Proofs.YtppfdpnplemfkaaGreatDoor
namespace Rows

/-- THE TIED CARD OF 'almonerlaw10.PathsOf'. -/
def pathsOfCard : Claim7 := { stood := { row := pathsOfRow, standIns := [], harness := (true, "8f4968a776aa261dc026fdf8818443621b63c70788550b55d90f7cce21602cab"), looks := false }, kinds := [], alts := [], laidByText := true, laidKinds := [.data, .data, .data, .data, .data], laidTests := true, laidLooks := .later }
def PathsOfCardSaid : Prop := Claim7.holds Tryz.pinned (.plain (OpenSpec.ofChange pathsOfSpec)) pathsOfCard

/-- THE SECOND FORM's CARD OF 'almonerlaw10.PathsOf'. -/
def pathsOfUptoCard : Claim7 := { stood := { row := pathsOfUptoRow, standIns := [], harness := (true, "8f4968a776aa261dc026fdf8818443621b63c70788550b55d90f7cce21602cab"), looks := false }, kinds := [], alts := [], laidByText := true, laidKinds := [.data, .data, .data, .data, .data], laidTests := true, laidLooks := .later }
def PathsOfUptoCardSaid : Prop := Claim7.holds Tryz.pinned (.plain (OpenSpec.upto pathsOfSpec)) pathsOfUptoCard
end Rows
end Go.Proofs.YtppfdpnplemfkaaGreatDoor
