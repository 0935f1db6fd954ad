/-
  DERIVED. GIVEN WITH THE SEED: THE CARDS: each row of YtppfdpnplemfkaaDoorRows.lean that lists a variable, with what it lists TIED to the program's text (the seventh form; the later family's looks); each row that meets fmt, with fmt's text TOLD by the authors' own Lean function (tested against real Go, not proved from fmt's source: count such statements apart). THE CARD IS WHAT COUNTS. Prove the row's statement (the work); the ties are given (YtppfdpnplemfkaaDoorTie.lean); close each card by the builder's one call (the guide's Derived/Test/ToyasCard.lean, 'card_holds'). Laid BY PROGRAM, IN A SANDBOX (cutbox-door.mjs). By AI agents, Wed Nov 11 2026. No macro, syntax, notation, axiom, sorry.
-/
import Derived.Test.YtppfdpnplemfkaaDoorRows
import GoSem.ClaimSeven
namespace Go.Proofs.YtppfdpnplemfkaaDoor
namespace Rows

/-- THE TIED CARD OF 'almonerlaw10.PathsBack'. -/
def pathsBackCard : Claim7 := { stood := { row := pathsBackRow, standIns := [], harness := (true, "022c42fcc98a4f277f8bc5a9a601d02d28c0d0358cc9fc3938199f7d9c792f5b"), looks := false }, kinds := [], alts := [], laidByText := true, laidKinds := [.data, .data], laidTests := true, laidLooks := .later }
def PathsBackCardSaid : Prop := Claim7.holds Tryd.pinned (.plain (OpenSpec.ofChange pathsBackSpec)) pathsBackCard

/-- THE TIED CARD OF 'almonerlaw10.PathsEnds'. -/
def pathsEndsCard : Claim7 := { stood := { row := pathsEndsRow, standIns := [], harness := (true, "022c42fcc98a4f277f8bc5a9a601d02d28c0d0358cc9fc3938199f7d9c792f5b"), looks := false }, kinds := [], alts := [], laidByText := true, laidKinds := [.data, .data], laidTests := true, laidLooks := .later }
def PathsEndsCardSaid : Prop := Claim7.holds Tryd.pinned (.plain (OpenSpec.ofChange pathsEndsSpec)) pathsEndsCard

/-- THE TIED CARD OF 'almonerlaw10.PathsBoth'. -/
def pathsBothCard : Claim7 := { stood := { row := pathsBothRow, standIns := [], harness := (true, "022c42fcc98a4f277f8bc5a9a601d02d28c0d0358cc9fc3938199f7d9c792f5b"), looks := false }, kinds := [], alts := [], laidByText := true, laidKinds := [.data, .data], laidTests := true, laidLooks := .later }
def PathsBothCardSaid : Prop := Claim7.holds Tryd.pinned (.plain (OpenSpec.ofChange pathsBothSpec)) pathsBothCard

/-- THE SECOND FORM's CARD OF 'almonerlaw10.PathsBack'. -/
def pathsBackUptoCard : Claim7 := { stood := { row := pathsBackUptoRow, standIns := [], harness := (true, "022c42fcc98a4f277f8bc5a9a601d02d28c0d0358cc9fc3938199f7d9c792f5b"), looks := false }, kinds := [], alts := [], laidByText := true, laidKinds := [.data, .data], laidTests := true, laidLooks := .later }
def PathsBackUptoCardSaid : Prop := Claim7.holds Tryd.pinned (.plain (OpenSpec.upto pathsBackSpec)) pathsBackUptoCard

/-- THE SECOND FORM's CARD OF 'almonerlaw10.PathsEnds'. -/
def pathsEndsUptoCard : Claim7 := { stood := { row := pathsEndsUptoRow, standIns := [], harness := (true, "022c42fcc98a4f277f8bc5a9a601d02d28c0d0358cc9fc3938199f7d9c792f5b"), looks := false }, kinds := [], alts := [], laidByText := true, laidKinds := [.data, .data], laidTests := true, laidLooks := .later }
def PathsEndsUptoCardSaid : Prop := Claim7.holds Tryd.pinned (.plain (OpenSpec.upto pathsEndsSpec)) pathsEndsUptoCard

/-- THE SECOND FORM's CARD OF 'almonerlaw10.PathsBoth'. -/
def pathsBothUptoCard : Claim7 := { stood := { row := pathsBothUptoRow, standIns := [], harness := (true, "022c42fcc98a4f277f8bc5a9a601d02d28c0d0358cc9fc3938199f7d9c792f5b"), looks := false }, kinds := [], alts := [], laidByText := true, laidKinds := [.data, .data], laidTests := true, laidLooks := .later }
def PathsBothUptoCardSaid : Prop := Claim7.holds Tryd.pinned (.plain (OpenSpec.upto pathsBothSpec)) pathsBothUptoCard
end Rows
end Go.Proofs.YtppfdpnplemfkaaDoor
