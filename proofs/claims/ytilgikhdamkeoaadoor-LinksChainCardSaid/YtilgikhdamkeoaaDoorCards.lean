/-
  DERIVED. GIVEN WITH THE SEED: THE CARDS: each row of YtilgikhdamkeoaaDoorRows.lean that lists a variable, with what it lists TIED to the program's text (the seventh form; the later family's looks); each row that meets fmt, with fmt's text TOLD by the authors' own Lean function (tested against real Go, not proved from fmt's source: count such statements apart). THE CARD IS WHAT COUNTS. Prove the row's statement (the work); the ties are given (YtilgikhdamkeoaaDoorTie.lean); close each card by the builder's one call (the guide's Derived/Test/ToyasCard.lean, 'card_holds'). Laid BY PROGRAM, IN A SANDBOX (cutbox-door.mjs). By AI agents, Wed Nov 11 2026. No macro, syntax, notation, axiom, sorry.
-/
import Derived.Test.YtilgikhdamkeoaaDoorRows
import GoSem.ClaimSeven
namespace Go.Proofs.YtilgikhdamkeoaaDoor
namespace Rows

/-- THE TIED CARD OF 'almonerlaw11.LinksBack'. -/
def linksBackCard : Claim7 := { stood := { row := linksBackRow, standIns := [], harness := (true, "8095475ac66940b58279b2cb51a027319fc72a3db193675d3b46942026492f25"), looks := true }, kinds := [], alts := [], laidByText := true, laidKinds := [.data, .data, .sentinel], laidTests := true, laidLooks := .later }
def LinksBackCardSaid : Prop := Claim7.holds Tryd.pinned (.plain (OpenSpec.ofChange linksBackSpec)) linksBackCard

/-- THE TIED CARD OF 'almonerlaw11.LinksChain'. -/
def linksChainCard : Claim7 := { stood := { row := linksChainRow, standIns := [], harness := (true, "8095475ac66940b58279b2cb51a027319fc72a3db193675d3b46942026492f25"), looks := true }, kinds := [], alts := [], laidByText := true, laidKinds := [.data, .data, .sentinel], laidTests := true, laidLooks := .later }
def LinksChainCardSaid : Prop := Claim7.holds Tryd.pinned (.plain (OpenSpec.ofChange linksChainSpec)) linksChainCard

/-- THE TIED CARD OF 'almonerlaw11.LinksEnds'. -/
def linksEndsCard : Claim7 := { stood := { row := linksEndsRow, standIns := [], harness := (true, "8095475ac66940b58279b2cb51a027319fc72a3db193675d3b46942026492f25"), looks := true }, kinds := [], alts := [], laidByText := true, laidKinds := [.data, .data, .sentinel], laidTests := true, laidLooks := .later }
def LinksEndsCardSaid : Prop := Claim7.holds Tryd.pinned (.plain (OpenSpec.ofChange linksEndsSpec)) linksEndsCard

/-- THE TIED CARD OF 'almonerlaw11.LinksPower'. -/
def linksPowerCard : Claim7 := { stood := { row := linksPowerRow, standIns := [], harness := (true, "8095475ac66940b58279b2cb51a027319fc72a3db193675d3b46942026492f25"), looks := true }, kinds := [], alts := [], laidByText := true, laidKinds := [.data, .data, .sentinel], laidTests := true, laidLooks := .later }
def LinksPowerCardSaid : Prop := Claim7.holds Tryd.pinned (.plain (OpenSpec.ofChange linksPowerSpec)) linksPowerCard

/-- THE SECOND FORM's CARD OF 'almonerlaw11.LinksBack'. -/
def linksBackUptoCard : Claim7 := { stood := { row := linksBackUptoRow, standIns := [], harness := (true, "8095475ac66940b58279b2cb51a027319fc72a3db193675d3b46942026492f25"), looks := true }, kinds := [], alts := [], laidByText := true, laidKinds := [.data, .data, .sentinel], laidTests := true, laidLooks := .later }
def LinksBackUptoCardSaid : Prop := Claim7.holds Tryd.pinned (.plain (OpenSpec.upto linksBackSpec)) linksBackUptoCard

/-- THE SECOND FORM's CARD OF 'almonerlaw11.LinksChain'. -/
def linksChainUptoCard : Claim7 := { stood := { row := linksChainUptoRow, standIns := [], harness := (true, "8095475ac66940b58279b2cb51a027319fc72a3db193675d3b46942026492f25"), looks := true }, kinds := [], alts := [], laidByText := true, laidKinds := [.data, .data, .sentinel], laidTests := true, laidLooks := .later }
def LinksChainUptoCardSaid : Prop := Claim7.holds Tryd.pinned (.plain (OpenSpec.upto linksChainSpec)) linksChainUptoCard

/-- THE SECOND FORM's CARD OF 'almonerlaw11.LinksEnds'. -/
def linksEndsUptoCard : Claim7 := { stood := { row := linksEndsUptoRow, standIns := [], harness := (true, "8095475ac66940b58279b2cb51a027319fc72a3db193675d3b46942026492f25"), looks := true }, kinds := [], alts := [], laidByText := true, laidKinds := [.data, .data, .sentinel], laidTests := true, laidLooks := .later }
def LinksEndsUptoCardSaid : Prop := Claim7.holds Tryd.pinned (.plain (OpenSpec.upto linksEndsSpec)) linksEndsUptoCard

/-- THE SECOND FORM's CARD OF 'almonerlaw11.LinksPower'. -/
def linksPowerUptoCard : Claim7 := { stood := { row := linksPowerUptoRow, standIns := [], harness := (true, "8095475ac66940b58279b2cb51a027319fc72a3db193675d3b46942026492f25"), looks := true }, kinds := [], alts := [], laidByText := true, laidKinds := [.data, .data, .sentinel], laidTests := true, laidLooks := .later }
def LinksPowerUptoCardSaid : Prop := Claim7.holds Tryd.pinned (.plain (OpenSpec.upto linksPowerSpec)) linksPowerUptoCard
end Rows
end Go.Proofs.YtilgikhdamkeoaaDoor
