/-
  DERIVED. GIVEN WITH THE SEED: THE CARDS: each row of YtjkohceigdfmjaaDoorRows.lean that lists a variable, with what it lists TIED to the program's text (the seventh form; the later family's looks); each row that meets fmt, with fmt's text TOLD by the authors' own Lean function (tested against real Go, not proved from fmt's source: count such statements apart). THE CARD IS WHAT COUNTS. Prove the row's statement (the work); the ties are given (YtjkohceigdfmjaaDoorTie.lean); close each card by the builder's one call (the guide's Derived/Test/ToyasCard.lean, 'card_holds'). Laid BY PROGRAM, IN A SANDBOX (cutbox-door.mjs). By AI agents, Wed Nov 11 2026. No macro, syntax, notation, axiom, sorry.
-/
import Derived.Test.YtjkohceigdfmjaaDoorRows
import GoSem.ClaimSeven
namespace Go.Proofs.YtjkohceigdfmjaaDoor
namespace Rows

/-- THE TIED CARD OF 'almonerlaw07.StoresKept'. -/
def storesKeptCard : Claim7 := { stood := { row := storesKeptRow, standIns := [], harness := (true, "58dc09b252e9dc9993d77cd1fd30e27ac62c4d250e451c2f39397f44ee4dec11"), looks := true }, kinds := [], alts := [], laidByText := true, laidKinds := [.sentinel, .sentinel, .sentinel], laidTests := true, laidLooks := .later }
def StoresKeptCardSaid : Prop := Claim7.holds Tryd.pinned (.plain (OpenSpec.ofChange storesKeptSpec)) storesKeptCard

/-- THE TIED CARD OF 'almonerlaw07.StoresBlown'. -/
def storesBlownCard : Claim7 := { stood := { row := storesBlownRow, standIns := [], harness := (true, "58dc09b252e9dc9993d77cd1fd30e27ac62c4d250e451c2f39397f44ee4dec11"), looks := true }, kinds := [], alts := [], laidByText := true, laidKinds := [.sentinel, .sentinel, .sentinel], laidTests := true, laidLooks := .later }
def StoresBlownCardSaid : Prop := Claim7.holds Tryd.pinned (.plain (OpenSpec.ofChange storesBlownSpec)) storesBlownCard

/-- THE TIED CARD OF 'almonerlaw07.StoresApart'. -/
def storesApartCard : Claim7 := { stood := { row := storesApartRow, standIns := [], harness := (true, "58dc09b252e9dc9993d77cd1fd30e27ac62c4d250e451c2f39397f44ee4dec11"), looks := true }, kinds := [], alts := [], laidByText := true, laidKinds := [.sentinel, .sentinel, .sentinel], laidTests := true, laidLooks := .later }
def StoresApartCardSaid : Prop := Claim7.holds Tryd.pinned (.plain (OpenSpec.ofChange storesApartSpec)) storesApartCard

/-- THE TIED CARD OF 'almonerlaw07.StoresAnew'. -/
def storesAnewCard : Claim7 := { stood := { row := storesAnewRow, standIns := [], harness := (true, "58dc09b252e9dc9993d77cd1fd30e27ac62c4d250e451c2f39397f44ee4dec11"), looks := true }, kinds := [], alts := [], laidByText := true, laidKinds := [.sentinel, .sentinel, .sentinel], laidTests := true, laidLooks := .later }
def StoresAnewCardSaid : Prop := Claim7.holds Tryd.pinned (.plain (OpenSpec.ofChange storesAnewSpec)) storesAnewCard

/-- THE SECOND FORM's CARD OF 'almonerlaw07.StoresKept'. -/
def storesKeptUptoCard : Claim7 := { stood := { row := storesKeptUptoRow, standIns := [], harness := (true, "58dc09b252e9dc9993d77cd1fd30e27ac62c4d250e451c2f39397f44ee4dec11"), looks := true }, kinds := [], alts := [], laidByText := true, laidKinds := [.sentinel, .sentinel, .sentinel], laidTests := true, laidLooks := .later }
def StoresKeptUptoCardSaid : Prop := Claim7.holds Tryd.pinned (.plain (OpenSpec.upto storesKeptSpec)) storesKeptUptoCard

/-- THE SECOND FORM's CARD OF 'almonerlaw07.StoresBlown'. -/
def storesBlownUptoCard : Claim7 := { stood := { row := storesBlownUptoRow, standIns := [], harness := (true, "58dc09b252e9dc9993d77cd1fd30e27ac62c4d250e451c2f39397f44ee4dec11"), looks := true }, kinds := [], alts := [], laidByText := true, laidKinds := [.sentinel, .sentinel, .sentinel], laidTests := true, laidLooks := .later }
def StoresBlownUptoCardSaid : Prop := Claim7.holds Tryd.pinned (.plain (OpenSpec.upto storesBlownSpec)) storesBlownUptoCard

/-- THE SECOND FORM's CARD OF 'almonerlaw07.StoresApart'. -/
def storesApartUptoCard : Claim7 := { stood := { row := storesApartUptoRow, standIns := [], harness := (true, "58dc09b252e9dc9993d77cd1fd30e27ac62c4d250e451c2f39397f44ee4dec11"), looks := true }, kinds := [], alts := [], laidByText := true, laidKinds := [.sentinel, .sentinel, .sentinel], laidTests := true, laidLooks := .later }
def StoresApartUptoCardSaid : Prop := Claim7.holds Tryd.pinned (.plain (OpenSpec.upto storesApartSpec)) storesApartUptoCard

/-- THE SECOND FORM's CARD OF 'almonerlaw07.StoresAnew'. -/
def storesAnewUptoCard : Claim7 := { stood := { row := storesAnewUptoRow, standIns := [], harness := (true, "58dc09b252e9dc9993d77cd1fd30e27ac62c4d250e451c2f39397f44ee4dec11"), looks := true }, kinds := [], alts := [], laidByText := true, laidKinds := [.sentinel, .sentinel, .sentinel], laidTests := true, laidLooks := .later }
def StoresAnewUptoCardSaid : Prop := Claim7.holds Tryd.pinned (.plain (OpenSpec.upto storesAnewSpec)) storesAnewUptoCard
end Rows
end Go.Proofs.YtjkohceigdfmjaaDoor
