/-
  DERIVED. GIVEN WITH THE SEED: THE CARDS: each row of YtnaebjdccngeoaaDoorRows.lean that lists a variable, with what it lists TIED to the program's text (the seventh form; the later family's looks); each row that meets fmt, with fmt's text TOLD by the authors' own Lean function (tested against real Go, not proved from fmt's source: count such statements apart). THE CARD IS WHAT COUNTS. Prove the row's statement (the work); the ties are given (YtnaebjdccngeoaaDoorTie.lean); close each card by the builder's one call (the guide's Derived/Test/ToyasCard.lean, 'card_holds'). Laid BY PROGRAM, IN A SANDBOX (cutbox-door.mjs). By AI agents, Wed Nov 11 2026. No macro, syntax, notation, axiom, sorry.
-/
import Derived.Test.YtnaebjdccngeoaaDoorRows
import GoSem.ClaimSeven
namespace Go.Proofs.YtnaebjdccngeoaaDoor
namespace Rows

/-- THE TIED CARD OF 'almonerlaw13.ClashesLink'. -/
def clashesLinkCard : Claim7 := { stood := { row := clashesLinkRow, standIns := [], harness := (true, "94b3c65d8f3bd2aeb2f39a3f2df48213345a231e0c5b0c20a07f05953f276fbd"), looks := true }, kinds := [], alts := [], laidByText := true, laidKinds := [.data, .data, .sentinel], laidTests := true, laidLooks := .later }
def ClashesLinkCardSaid : Prop := Claim7.holds Tryd.pinned (.plain (OpenSpec.ofChange clashesLinkSpec)) clashesLinkCard

/-- THE TIED CARD OF 'almonerlaw14.KeysOf'. -/
def keysOfCard : Claim7 := { stood := { row := keysOfRow, standIns := [], harness := (true, "94b3c65d8f3bd2aeb2f39a3f2df48213345a231e0c5b0c20a07f05953f276fbd"), looks := true }, kinds := [], alts := [], laidByText := true, laidKinds := [.data, .data], laidTests := true, laidLooks := .later }
def KeysOfCardSaid : Prop := Claim7.holds Tryd.pinned (.plain (OpenSpec.ofChange keysOfSpec)) keysOfCard

/-- THE TIED CARD OF 'almonerlaw14.KeysBits'. -/
def keysBitsCard : Claim7 := { stood := { row := keysBitsRow, standIns := [], harness := (true, "94b3c65d8f3bd2aeb2f39a3f2df48213345a231e0c5b0c20a07f05953f276fbd"), looks := true }, kinds := [], alts := [], laidByText := true, laidKinds := [.data, .data], laidTests := true, laidLooks := .later }
def KeysBitsCardSaid : Prop := Claim7.holds Tryd.pinned (.plain (OpenSpec.ofChange keysBitsSpec)) keysBitsCard

/-- THE TIED CARD OF 'almonerlaw14.KeysEmpty'. -/
def keysEmptyCard : Claim7 := { stood := { row := keysEmptyRow, standIns := [], harness := (true, "94b3c65d8f3bd2aeb2f39a3f2df48213345a231e0c5b0c20a07f05953f276fbd"), looks := true }, kinds := [], alts := [], laidByText := true, laidKinds := [.data, .data], laidTests := true, laidLooks := .later }
def KeysEmptyCardSaid : Prop := Claim7.holds Tryd.pinned (.plain (OpenSpec.ofChange keysEmptySpec)) keysEmptyCard

/-- THE TIED CARD OF 'almonerlaw14.KeysSums'. -/
def keysSumsCard : Claim7 := { stood := { row := keysSumsRow, standIns := [], harness := (true, "94b3c65d8f3bd2aeb2f39a3f2df48213345a231e0c5b0c20a07f05953f276fbd"), looks := true }, kinds := [], alts := [], laidByText := true, laidKinds := [.data, .data], laidTests := true, laidLooks := .later }
def KeysSumsCardSaid : Prop := Claim7.holds Tryd.pinned (.plain (OpenSpec.ofChange keysSumsSpec)) keysSumsCard

/-- THE SECOND FORM's CARD OF 'almonerlaw13.ClashesLink'. -/
def clashesLinkUptoCard : Claim7 := { stood := { row := clashesLinkUptoRow, standIns := [], harness := (true, "94b3c65d8f3bd2aeb2f39a3f2df48213345a231e0c5b0c20a07f05953f276fbd"), looks := true }, kinds := [], alts := [], laidByText := true, laidKinds := [.data, .data, .sentinel], laidTests := true, laidLooks := .later }
def ClashesLinkUptoCardSaid : Prop := Claim7.holds Tryd.pinned (.plain (OpenSpec.upto clashesLinkSpec)) clashesLinkUptoCard

/-- THE SECOND FORM's CARD OF 'almonerlaw14.KeysOf'. -/
def keysOfUptoCard : Claim7 := { stood := { row := keysOfUptoRow, standIns := [], harness := (true, "94b3c65d8f3bd2aeb2f39a3f2df48213345a231e0c5b0c20a07f05953f276fbd"), looks := true }, kinds := [], alts := [], laidByText := true, laidKinds := [.data, .data], laidTests := true, laidLooks := .later }
def KeysOfUptoCardSaid : Prop := Claim7.holds Tryd.pinned (.plain (OpenSpec.upto keysOfSpec)) keysOfUptoCard

/-- THE SECOND FORM's CARD OF 'almonerlaw14.KeysBits'. -/
def keysBitsUptoCard : Claim7 := { stood := { row := keysBitsUptoRow, standIns := [], harness := (true, "94b3c65d8f3bd2aeb2f39a3f2df48213345a231e0c5b0c20a07f05953f276fbd"), looks := true }, kinds := [], alts := [], laidByText := true, laidKinds := [.data, .data], laidTests := true, laidLooks := .later }
def KeysBitsUptoCardSaid : Prop := Claim7.holds Tryd.pinned (.plain (OpenSpec.upto keysBitsSpec)) keysBitsUptoCard

/-- THE SECOND FORM's CARD OF 'almonerlaw14.KeysEmpty'. -/
def keysEmptyUptoCard : Claim7 := { stood := { row := keysEmptyUptoRow, standIns := [], harness := (true, "94b3c65d8f3bd2aeb2f39a3f2df48213345a231e0c5b0c20a07f05953f276fbd"), looks := true }, kinds := [], alts := [], laidByText := true, laidKinds := [.data, .data], laidTests := true, laidLooks := .later }
def KeysEmptyUptoCardSaid : Prop := Claim7.holds Tryd.pinned (.plain (OpenSpec.upto keysEmptySpec)) keysEmptyUptoCard

/-- THE SECOND FORM's CARD OF 'almonerlaw14.KeysSums'. -/
def keysSumsUptoCard : Claim7 := { stood := { row := keysSumsUptoRow, standIns := [], harness := (true, "94b3c65d8f3bd2aeb2f39a3f2df48213345a231e0c5b0c20a07f05953f276fbd"), looks := true }, kinds := [], alts := [], laidByText := true, laidKinds := [.data, .data], laidTests := true, laidLooks := .later }
def KeysSumsUptoCardSaid : Prop := Claim7.holds Tryd.pinned (.plain (OpenSpec.upto keysSumsSpec)) keysSumsUptoCard
end Rows
end Go.Proofs.YtnaebjdccngeoaaDoor
