/-
  DERIVED. GIVEN WITH THE SEED: THE CARDS: each row of YtllohbgejjbagaaDoorRows.lean that lists a variable, with what it lists TIED to the program's text (the seventh form; the later family's looks); each row that meets fmt, with fmt's text TOLD by the authors' own Lean function (tested against real Go, not proved from fmt's source: count such statements apart). THE CARD IS WHAT COUNTS. Prove the row's statement (the work); the ties are given (YtllohbgejjbagaaDoorTie.lean); close each card by the builder's one call (the guide's Derived/Test/ToyasCard.lean, 'card_holds'). Laid BY PROGRAM, IN A SANDBOX (cutbox-door.mjs). By AI agents, Wed Nov 11 2026. No macro, syntax, notation, axiom, sorry.
-/
import Derived.Test.YtllohbgejjbagaaDoorRows
import GoSem.ClaimSeven
namespace Go.Proofs.YtllohbgejjbagaaDoor
namespace Rows

/-- THE TIED CARD OF 'almonerlaw12.ChainsNone'. -/
def chainsNoneCard : Claim7 := { stood := { row := chainsNoneRow, standIns := [], harness := (true, "78da0861ddcf666360b39fb4a4819626c5f6b26fd8ba6195b2b8c61b0d9156a8"), looks := true }, kinds := [], alts := [], laidByText := true, laidKinds := [.data, .data], laidTests := true, laidLooks := .later }
def ChainsNoneCardSaid : Prop := Claim7.holds Tryd.pinned (.plain (OpenSpec.ofChange chainsNoneSpec)) chainsNoneCard

/-- THE TIED CARD OF 'almonerlaw12.ChainsGrow'. -/
def chainsGrowCard : Claim7 := { stood := { row := chainsGrowRow, standIns := [], harness := (true, "78da0861ddcf666360b39fb4a4819626c5f6b26fd8ba6195b2b8c61b0d9156a8"), looks := true }, kinds := [], alts := [], laidByText := true, laidKinds := [.data, .data], laidTests := true, laidLooks := .later }
def ChainsGrowCardSaid : Prop := Claim7.holds Tryd.pinned (.plain (OpenSpec.ofChange chainsGrowSpec)) chainsGrowCard

/-- THE TIED CARD OF 'almonerlaw12.ChainsProved'. -/
def chainsProvedCard : Claim7 := { stood := { row := chainsProvedRow, standIns := [], harness := (true, "78da0861ddcf666360b39fb4a4819626c5f6b26fd8ba6195b2b8c61b0d9156a8"), looks := true }, kinds := [], alts := [], laidByText := true, laidKinds := [.data, .data, .sentinel], laidTests := true, laidLooks := .later }
def ChainsProvedCardSaid : Prop := Claim7.holds Tryd.pinned (.plain (OpenSpec.ofChange chainsProvedSpec)) chainsProvedCard

/-- THE TIED CARD OF 'almonerlaw12.ChainsMarks'. -/
def chainsMarksCard : Claim7 := { stood := { row := chainsMarksRow, standIns := [], harness := (true, "78da0861ddcf666360b39fb4a4819626c5f6b26fd8ba6195b2b8c61b0d9156a8"), looks := true }, kinds := [], alts := [], laidByText := true, laidKinds := [.data, .data], laidTests := true, laidLooks := .later }
def ChainsMarksCardSaid : Prop := Claim7.holds Tryd.pinned (.plain (OpenSpec.ofChange chainsMarksSpec)) chainsMarksCard

/-- THE TIED CARD OF 'almonerlaw12.ChainsTwo'. -/
def chainsTwoCard : Claim7 := { stood := { row := chainsTwoRow, standIns := [], harness := (true, "78da0861ddcf666360b39fb4a4819626c5f6b26fd8ba6195b2b8c61b0d9156a8"), looks := true }, kinds := [], alts := [], laidByText := true, laidKinds := [.data, .data, .sentinel], laidTests := true, laidLooks := .later }
def ChainsTwoCardSaid : Prop := Claim7.holds Tryd.pinned (.plain (OpenSpec.ofChange chainsTwoSpec)) chainsTwoCard

/-- THE SECOND FORM's CARD OF 'almonerlaw12.ChainsNone'. -/
def chainsNoneUptoCard : Claim7 := { stood := { row := chainsNoneUptoRow, standIns := [], harness := (true, "78da0861ddcf666360b39fb4a4819626c5f6b26fd8ba6195b2b8c61b0d9156a8"), looks := true }, kinds := [], alts := [], laidByText := true, laidKinds := [.data, .data], laidTests := true, laidLooks := .later }
def ChainsNoneUptoCardSaid : Prop := Claim7.holds Tryd.pinned (.plain (OpenSpec.upto chainsNoneSpec)) chainsNoneUptoCard

/-- THE SECOND FORM's CARD OF 'almonerlaw12.ChainsGrow'. -/
def chainsGrowUptoCard : Claim7 := { stood := { row := chainsGrowUptoRow, standIns := [], harness := (true, "78da0861ddcf666360b39fb4a4819626c5f6b26fd8ba6195b2b8c61b0d9156a8"), looks := true }, kinds := [], alts := [], laidByText := true, laidKinds := [.data, .data], laidTests := true, laidLooks := .later }
def ChainsGrowUptoCardSaid : Prop := Claim7.holds Tryd.pinned (.plain (OpenSpec.upto chainsGrowSpec)) chainsGrowUptoCard

/-- THE SECOND FORM's CARD OF 'almonerlaw12.ChainsProved'. -/
def chainsProvedUptoCard : Claim7 := { stood := { row := chainsProvedUptoRow, standIns := [], harness := (true, "78da0861ddcf666360b39fb4a4819626c5f6b26fd8ba6195b2b8c61b0d9156a8"), looks := true }, kinds := [], alts := [], laidByText := true, laidKinds := [.data, .data, .sentinel], laidTests := true, laidLooks := .later }
def ChainsProvedUptoCardSaid : Prop := Claim7.holds Tryd.pinned (.plain (OpenSpec.upto chainsProvedSpec)) chainsProvedUptoCard

/-- THE SECOND FORM's CARD OF 'almonerlaw12.ChainsMarks'. -/
def chainsMarksUptoCard : Claim7 := { stood := { row := chainsMarksUptoRow, standIns := [], harness := (true, "78da0861ddcf666360b39fb4a4819626c5f6b26fd8ba6195b2b8c61b0d9156a8"), looks := true }, kinds := [], alts := [], laidByText := true, laidKinds := [.data, .data], laidTests := true, laidLooks := .later }
def ChainsMarksUptoCardSaid : Prop := Claim7.holds Tryd.pinned (.plain (OpenSpec.upto chainsMarksSpec)) chainsMarksUptoCard

/-- THE SECOND FORM's CARD OF 'almonerlaw12.ChainsTwo'. -/
def chainsTwoUptoCard : Claim7 := { stood := { row := chainsTwoUptoRow, standIns := [], harness := (true, "78da0861ddcf666360b39fb4a4819626c5f6b26fd8ba6195b2b8c61b0d9156a8"), looks := true }, kinds := [], alts := [], laidByText := true, laidKinds := [.data, .data, .sentinel], laidTests := true, laidLooks := .later }
def ChainsTwoUptoCardSaid : Prop := Claim7.holds Tryd.pinned (.plain (OpenSpec.upto chainsTwoSpec)) chainsTwoUptoCard
end Rows
end Go.Proofs.YtllohbgejjbagaaDoor
