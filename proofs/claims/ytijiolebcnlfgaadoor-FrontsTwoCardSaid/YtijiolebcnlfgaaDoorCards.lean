/-
  DERIVED. GIVEN WITH THE SEED: THE CARDS: each row of YtijiolebcnlfgaaDoorRows.lean that lists a variable, with what it lists TIED to the program's text (the seventh form; the later family's looks); each row that meets fmt, with fmt's text TOLD by the authors' own Lean function (tested against real Go, not proved from fmt's source: count such statements apart). THE CARD IS WHAT COUNTS. Prove the row's statement (the work); the ties are given (YtijiolebcnlfgaaDoorTie.lean); close each card by the builder's one call (the guide's Derived/Test/ToyasCard.lean, 'card_holds'). Laid BY PROGRAM, IN A SANDBOX (cutbox-door.mjs). By AI agents, Wed Nov 11 2026. No macro, syntax, notation, axiom, sorry.
-/
import Derived.Test.YtijiolebcnlfgaaDoorRows
import GoSem.ClaimSeven
namespace Go.Proofs.YtijiolebcnlfgaaDoor
namespace Rows

/-- THE TIED CARD OF 'almonerlaw09.FrontsNone'. -/
def frontsNoneCard : Claim7 := { stood := { row := frontsNoneRow, standIns := [], harness := (true, "9ee3169a0b66472c29f88059951690fe82371aabea4ccd833e84eb69885cdca0"), looks := false }, kinds := [], alts := [], laidByText := true, laidKinds := [.data, .data], laidTests := true, laidLooks := .later }
def FrontsNoneCardSaid : Prop := Claim7.holds Tryd.pinned (.plain (OpenSpec.ofChange frontsNoneSpec)) frontsNoneCard

/-- THE TIED CARD OF 'almonerlaw09.FrontsRoot'. -/
def frontsRootCard : Claim7 := { stood := { row := frontsRootRow, standIns := [], harness := (true, "9ee3169a0b66472c29f88059951690fe82371aabea4ccd833e84eb69885cdca0"), looks := false }, kinds := [], alts := [], laidByText := true, laidKinds := [.data, .data], laidTests := true, laidLooks := .later }
def FrontsRootCardSaid : Prop := Claim7.holds Tryd.pinned (.plain (OpenSpec.ofChange frontsRootSpec)) frontsRootCard

/-- THE TIED CARD OF 'almonerlaw09.FrontsBits'. -/
def frontsBitsCard : Claim7 := { stood := { row := frontsBitsRow, standIns := [], harness := (true, "9ee3169a0b66472c29f88059951690fe82371aabea4ccd833e84eb69885cdca0"), looks := false }, kinds := [], alts := [], laidByText := true, laidKinds := [.data, .data], laidTests := true, laidLooks := .later }
def FrontsBitsCardSaid : Prop := Claim7.holds Tryd.pinned (.plain (OpenSpec.ofChange frontsBitsSpec)) frontsBitsCard

/-- THE TIED CARD OF 'almonerlaw09.FrontsTwo'. -/
def frontsTwoCard : Claim7 := { stood := { row := frontsTwoRow, standIns := [], harness := (true, "9ee3169a0b66472c29f88059951690fe82371aabea4ccd833e84eb69885cdca0"), looks := false }, kinds := [], alts := [], laidByText := true, laidKinds := [.data, .data], laidTests := true, laidLooks := .later }
def FrontsTwoCardSaid : Prop := Claim7.holds Tryd.pinned (.plain (OpenSpec.ofChange frontsTwoSpec)) frontsTwoCard

/-- THE SECOND FORM's CARD OF 'almonerlaw09.FrontsNone'. -/
def frontsNoneUptoCard : Claim7 := { stood := { row := frontsNoneUptoRow, standIns := [], harness := (true, "9ee3169a0b66472c29f88059951690fe82371aabea4ccd833e84eb69885cdca0"), looks := false }, kinds := [], alts := [], laidByText := true, laidKinds := [.data, .data], laidTests := true, laidLooks := .later }
def FrontsNoneUptoCardSaid : Prop := Claim7.holds Tryd.pinned (.plain (OpenSpec.upto frontsNoneSpec)) frontsNoneUptoCard

/-- THE SECOND FORM's CARD OF 'almonerlaw09.FrontsRoot'. -/
def frontsRootUptoCard : Claim7 := { stood := { row := frontsRootUptoRow, standIns := [], harness := (true, "9ee3169a0b66472c29f88059951690fe82371aabea4ccd833e84eb69885cdca0"), looks := false }, kinds := [], alts := [], laidByText := true, laidKinds := [.data, .data], laidTests := true, laidLooks := .later }
def FrontsRootUptoCardSaid : Prop := Claim7.holds Tryd.pinned (.plain (OpenSpec.upto frontsRootSpec)) frontsRootUptoCard

/-- THE SECOND FORM's CARD OF 'almonerlaw09.FrontsBits'. -/
def frontsBitsUptoCard : Claim7 := { stood := { row := frontsBitsUptoRow, standIns := [], harness := (true, "9ee3169a0b66472c29f88059951690fe82371aabea4ccd833e84eb69885cdca0"), looks := false }, kinds := [], alts := [], laidByText := true, laidKinds := [.data, .data], laidTests := true, laidLooks := .later }
def FrontsBitsUptoCardSaid : Prop := Claim7.holds Tryd.pinned (.plain (OpenSpec.upto frontsBitsSpec)) frontsBitsUptoCard

/-- THE SECOND FORM's CARD OF 'almonerlaw09.FrontsTwo'. -/
def frontsTwoUptoCard : Claim7 := { stood := { row := frontsTwoUptoRow, standIns := [], harness := (true, "9ee3169a0b66472c29f88059951690fe82371aabea4ccd833e84eb69885cdca0"), looks := false }, kinds := [], alts := [], laidByText := true, laidKinds := [.data, .data], laidTests := true, laidLooks := .later }
def FrontsTwoUptoCardSaid : Prop := Claim7.holds Tryd.pinned (.plain (OpenSpec.upto frontsTwoSpec)) frontsTwoUptoCard
end Rows
end Go.Proofs.YtijiolebcnlfgaaDoor
