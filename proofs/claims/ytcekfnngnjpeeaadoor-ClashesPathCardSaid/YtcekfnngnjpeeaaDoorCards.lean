/-
  DERIVED. GIVEN WITH THE SEED: THE CARDS: each row of YtcekfnngnjpeeaaDoorRows.lean that lists a variable, with what it lists TIED to the program's text (the seventh form; the later family's looks); each row that meets fmt, with fmt's text TOLD by the authors' own Lean function (tested against real Go, not proved from fmt's source: count such statements apart). THE CARD IS WHAT COUNTS. Prove the row's statement (the work); the ties are given (YtcekfnngnjpeeaaDoorTie.lean); close each card by the builder's one call (the guide's Derived/Test/ToyasCard.lean, 'card_holds'). Laid BY PROGRAM, IN A SANDBOX (cutbox-door.mjs). By AI agents, Wed Nov 11 2026. No macro, syntax, notation, axiom, sorry.
-/
import Derived.Test.YtcekfnngnjpeeaaDoorRows
import GoSem.ClaimSeven
namespace Go.Proofs.YtcekfnngnjpeeaaDoor
namespace Rows

/-- THE TIED CARD OF 'almonerlaw13.ClashesIs'. -/
def clashesIsCard : Claim7 := { stood := { row := clashesIsRow, standIns := [], harness := (true, "31be360212a0a4dba9a287ab06fded3ede74495332b478f4ed0f9bfd4fc13d1d"), looks := true }, kinds := [], alts := [], laidByText := true, laidKinds := [.data, .data, .sentinel], laidTests := true, laidLooks := .later }
def ClashesIsCardSaid : Prop := Claim7.holds Tryd.pinned (.plain (OpenSpec.ofChange clashesIsSpec)) clashesIsCard

/-- THE TIED CARD OF 'almonerlaw13.ClashesLists'. -/
def clashesListsCard : Claim7 := { stood := { row := clashesListsRow, standIns := [], harness := (true, "31be360212a0a4dba9a287ab06fded3ede74495332b478f4ed0f9bfd4fc13d1d"), looks := true }, kinds := [], alts := [], laidByText := true, laidKinds := [.data, .data, .sentinel], laidTests := true, laidLooks := .later }
def ClashesListsCardSaid : Prop := Claim7.holds Tryd.pinned (.plain (OpenSpec.ofChange clashesListsSpec)) clashesListsCard

/-- THE TIED CARD OF 'almonerlaw13.ClashesPath'. -/
def clashesPathCard : Claim7 := { stood := { row := clashesPathRow, standIns := [], harness := (true, "31be360212a0a4dba9a287ab06fded3ede74495332b478f4ed0f9bfd4fc13d1d"), looks := true }, kinds := [], alts := [], laidByText := true, laidKinds := [.data, .data, .sentinel], laidTests := true, laidLooks := .later }
def ClashesPathCardSaid : Prop := Claim7.holds Tryd.pinned (.plain (OpenSpec.ofChange clashesPathSpec)) clashesPathCard

/-- THE TIED CARD OF 'almonerlaw13.ClashesLink'. -/
def clashesLinkCard : Claim7 := { stood := { row := clashesLinkRow, standIns := [], harness := (true, "31be360212a0a4dba9a287ab06fded3ede74495332b478f4ed0f9bfd4fc13d1d"), looks := true }, kinds := [], alts := [], laidByText := true, laidKinds := [.data, .data, .sentinel], laidTests := true, laidLooks := .later }
def ClashesLinkCardSaid : Prop := Claim7.holds Tryd.pinned (.plain (OpenSpec.ofChange clashesLinkSpec)) clashesLinkCard

/-- THE TIED CARD OF 'almonerlaw13.ClashesOwn'. -/
def clashesOwnCard : Claim7 := { stood := { row := clashesOwnRow, standIns := [], harness := (true, "31be360212a0a4dba9a287ab06fded3ede74495332b478f4ed0f9bfd4fc13d1d"), looks := true }, kinds := [], alts := [], laidByText := true, laidKinds := [.data, .data, .sentinel], laidTests := true, laidLooks := .later }
def ClashesOwnCardSaid : Prop := Claim7.holds Tryd.pinned (.plain (OpenSpec.ofChange clashesOwnSpec)) clashesOwnCard

/-- THE SECOND FORM's CARD OF 'almonerlaw13.ClashesIs'. -/
def clashesIsUptoCard : Claim7 := { stood := { row := clashesIsUptoRow, standIns := [], harness := (true, "31be360212a0a4dba9a287ab06fded3ede74495332b478f4ed0f9bfd4fc13d1d"), looks := true }, kinds := [], alts := [], laidByText := true, laidKinds := [.data, .data, .sentinel], laidTests := true, laidLooks := .later }
def ClashesIsUptoCardSaid : Prop := Claim7.holds Tryd.pinned (.plain (OpenSpec.upto clashesIsSpec)) clashesIsUptoCard

/-- THE SECOND FORM's CARD OF 'almonerlaw13.ClashesLists'. -/
def clashesListsUptoCard : Claim7 := { stood := { row := clashesListsUptoRow, standIns := [], harness := (true, "31be360212a0a4dba9a287ab06fded3ede74495332b478f4ed0f9bfd4fc13d1d"), looks := true }, kinds := [], alts := [], laidByText := true, laidKinds := [.data, .data, .sentinel], laidTests := true, laidLooks := .later }
def ClashesListsUptoCardSaid : Prop := Claim7.holds Tryd.pinned (.plain (OpenSpec.upto clashesListsSpec)) clashesListsUptoCard

/-- THE SECOND FORM's CARD OF 'almonerlaw13.ClashesPath'. -/
def clashesPathUptoCard : Claim7 := { stood := { row := clashesPathUptoRow, standIns := [], harness := (true, "31be360212a0a4dba9a287ab06fded3ede74495332b478f4ed0f9bfd4fc13d1d"), looks := true }, kinds := [], alts := [], laidByText := true, laidKinds := [.data, .data, .sentinel], laidTests := true, laidLooks := .later }
def ClashesPathUptoCardSaid : Prop := Claim7.holds Tryd.pinned (.plain (OpenSpec.upto clashesPathSpec)) clashesPathUptoCard

/-- THE SECOND FORM's CARD OF 'almonerlaw13.ClashesLink'. -/
def clashesLinkUptoCard : Claim7 := { stood := { row := clashesLinkUptoRow, standIns := [], harness := (true, "31be360212a0a4dba9a287ab06fded3ede74495332b478f4ed0f9bfd4fc13d1d"), looks := true }, kinds := [], alts := [], laidByText := true, laidKinds := [.data, .data, .sentinel], laidTests := true, laidLooks := .later }
def ClashesLinkUptoCardSaid : Prop := Claim7.holds Tryd.pinned (.plain (OpenSpec.upto clashesLinkSpec)) clashesLinkUptoCard

/-- THE SECOND FORM's CARD OF 'almonerlaw13.ClashesOwn'. -/
def clashesOwnUptoCard : Claim7 := { stood := { row := clashesOwnUptoRow, standIns := [], harness := (true, "31be360212a0a4dba9a287ab06fded3ede74495332b478f4ed0f9bfd4fc13d1d"), looks := true }, kinds := [], alts := [], laidByText := true, laidKinds := [.data, .data, .sentinel], laidTests := true, laidLooks := .later }
def ClashesOwnUptoCardSaid : Prop := Claim7.holds Tryd.pinned (.plain (OpenSpec.upto clashesOwnSpec)) clashesOwnUptoCard
end Rows
end Go.Proofs.YtcekfnngnjpeeaaDoor
