/-
  DERIVED. GIVEN WITH THE SEED: THE CARDS: each row of YthbgcijkpincfaaDoorRows.lean that lists a variable, with what it lists TIED to the program's text (the seventh form; the later family's looks); each row that meets fmt, with fmt's text TOLD by the authors' own Lean function (tested against real Go, not proved from fmt's source: count such statements apart). THE CARD IS WHAT COUNTS. Prove the row's statement (the work); the ties are given (YthbgcijkpincfaaDoorTie.lean); close each card by the builder's one call (the guide's Derived/Test/ToyasCard.lean, 'card_holds'). Laid BY PROGRAM, IN A SANDBOX (cutbox-door.mjs). By AI agents, Wed Nov 11 2026. No macro, syntax, notation, axiom, sorry.
-/
import Derived.Test.YthbgcijkpincfaaDoorRows
import GoSem.ClaimSeven
namespace Go.Proofs.YthbgcijkpincfaaDoor
namespace Rows

/-- THE TIED CARD OF 'almonerlaw15.MapsNone'. -/
def mapsNoneCard : Claim7 := { stood := { row := mapsNoneRow, standIns := [], harness := (true, "2715feaa398c957386a8b532c31b2c9e514c8ff76fdfd41d89bcd0a9e94f9a23"), looks := false }, kinds := [], alts := [], laidByText := true, laidKinds := [.data, .data], laidTests := true, laidLooks := .later }
def MapsNoneCardSaid : Prop := Claim7.holds Tryd.pinned (.plain (OpenSpec.ofChange mapsNoneSpec)) mapsNoneCard

/-- THE TIED CARD OF 'almonerlaw15.MapsOrder'. -/
def mapsOrderCard : Claim7 := { stood := { row := mapsOrderRow, standIns := [], harness := (true, "2715feaa398c957386a8b532c31b2c9e514c8ff76fdfd41d89bcd0a9e94f9a23"), looks := false }, kinds := [], alts := [], laidByText := true, laidKinds := [.data, .data], laidTests := true, laidLooks := .later }
def MapsOrderCardSaid : Prop := Claim7.holds Tryd.pinned (.plain (OpenSpec.ofChange mapsOrderSpec)) mapsOrderCard

/-- THE TIED CARD OF 'almonerlaw15.MapsGet'. -/
def mapsGetCard : Claim7 := { stood := { row := mapsGetRow, standIns := [], harness := (true, "2715feaa398c957386a8b532c31b2c9e514c8ff76fdfd41d89bcd0a9e94f9a23"), looks := false }, kinds := [], alts := [], laidByText := true, laidKinds := [.data, .data], laidTests := true, laidLooks := .later }
def MapsGetCardSaid : Prop := Claim7.holds Tryd.pinned (.plain (OpenSpec.ofChange mapsGetSpec)) mapsGetCard

/-- THE TIED CARD OF 'almonerlaw15.MapsOne'. -/
def mapsOneCard : Claim7 := { stood := { row := mapsOneRow, standIns := [], harness := (true, "2715feaa398c957386a8b532c31b2c9e514c8ff76fdfd41d89bcd0a9e94f9a23"), looks := false }, kinds := [], alts := [], laidByText := true, laidKinds := [.data, .data], laidTests := true, laidLooks := .later }
def MapsOneCardSaid : Prop := Claim7.holds Tryd.pinned (.plain (OpenSpec.ofChange mapsOneSpec)) mapsOneCard

/-- THE TIED CARD OF 'almonerlaw15.MapsHalves'. -/
def mapsHalvesCard : Claim7 := { stood := { row := mapsHalvesRow, standIns := [], harness := (true, "2715feaa398c957386a8b532c31b2c9e514c8ff76fdfd41d89bcd0a9e94f9a23"), looks := false }, kinds := [], alts := [], laidByText := true, laidKinds := [.data, .data], laidTests := true, laidLooks := .later }
def MapsHalvesCardSaid : Prop := Claim7.holds Tryd.pinned (.plain (OpenSpec.ofChange mapsHalvesSpec)) mapsHalvesCard

/-- THE TIED CARD OF 'almonerlaw15.MapsCopy'. -/
def mapsCopyCard : Claim7 := { stood := { row := mapsCopyRow, standIns := [], harness := (true, "2715feaa398c957386a8b532c31b2c9e514c8ff76fdfd41d89bcd0a9e94f9a23"), looks := false }, kinds := [], alts := [], laidByText := true, laidKinds := [.data, .data], laidTests := true, laidLooks := .later }
def MapsCopyCardSaid : Prop := Claim7.holds Tryd.pinned (.plain (OpenSpec.ofChange mapsCopySpec)) mapsCopyCard

/-- THE SECOND FORM's CARD OF 'almonerlaw15.MapsNone'. -/
def mapsNoneUptoCard : Claim7 := { stood := { row := mapsNoneUptoRow, standIns := [], harness := (true, "2715feaa398c957386a8b532c31b2c9e514c8ff76fdfd41d89bcd0a9e94f9a23"), looks := false }, kinds := [], alts := [], laidByText := true, laidKinds := [.data, .data], laidTests := true, laidLooks := .later }
def MapsNoneUptoCardSaid : Prop := Claim7.holds Tryd.pinned (.plain (OpenSpec.upto mapsNoneSpec)) mapsNoneUptoCard

/-- THE SECOND FORM's CARD OF 'almonerlaw15.MapsOrder'. -/
def mapsOrderUptoCard : Claim7 := { stood := { row := mapsOrderUptoRow, standIns := [], harness := (true, "2715feaa398c957386a8b532c31b2c9e514c8ff76fdfd41d89bcd0a9e94f9a23"), looks := false }, kinds := [], alts := [], laidByText := true, laidKinds := [.data, .data], laidTests := true, laidLooks := .later }
def MapsOrderUptoCardSaid : Prop := Claim7.holds Tryd.pinned (.plain (OpenSpec.upto mapsOrderSpec)) mapsOrderUptoCard

/-- THE SECOND FORM's CARD OF 'almonerlaw15.MapsGet'. -/
def mapsGetUptoCard : Claim7 := { stood := { row := mapsGetUptoRow, standIns := [], harness := (true, "2715feaa398c957386a8b532c31b2c9e514c8ff76fdfd41d89bcd0a9e94f9a23"), looks := false }, kinds := [], alts := [], laidByText := true, laidKinds := [.data, .data], laidTests := true, laidLooks := .later }
def MapsGetUptoCardSaid : Prop := Claim7.holds Tryd.pinned (.plain (OpenSpec.upto mapsGetSpec)) mapsGetUptoCard

/-- THE SECOND FORM's CARD OF 'almonerlaw15.MapsOne'. -/
def mapsOneUptoCard : Claim7 := { stood := { row := mapsOneUptoRow, standIns := [], harness := (true, "2715feaa398c957386a8b532c31b2c9e514c8ff76fdfd41d89bcd0a9e94f9a23"), looks := false }, kinds := [], alts := [], laidByText := true, laidKinds := [.data, .data], laidTests := true, laidLooks := .later }
def MapsOneUptoCardSaid : Prop := Claim7.holds Tryd.pinned (.plain (OpenSpec.upto mapsOneSpec)) mapsOneUptoCard

/-- THE SECOND FORM's CARD OF 'almonerlaw15.MapsHalves'. -/
def mapsHalvesUptoCard : Claim7 := { stood := { row := mapsHalvesUptoRow, standIns := [], harness := (true, "2715feaa398c957386a8b532c31b2c9e514c8ff76fdfd41d89bcd0a9e94f9a23"), looks := false }, kinds := [], alts := [], laidByText := true, laidKinds := [.data, .data], laidTests := true, laidLooks := .later }
def MapsHalvesUptoCardSaid : Prop := Claim7.holds Tryd.pinned (.plain (OpenSpec.upto mapsHalvesSpec)) mapsHalvesUptoCard

/-- THE SECOND FORM's CARD OF 'almonerlaw15.MapsCopy'. -/
def mapsCopyUptoCard : Claim7 := { stood := { row := mapsCopyUptoRow, standIns := [], harness := (true, "2715feaa398c957386a8b532c31b2c9e514c8ff76fdfd41d89bcd0a9e94f9a23"), looks := false }, kinds := [], alts := [], laidByText := true, laidKinds := [.data, .data], laidTests := true, laidLooks := .later }
def MapsCopyUptoCardSaid : Prop := Claim7.holds Tryd.pinned (.plain (OpenSpec.upto mapsCopySpec)) mapsCopyUptoCard
end Rows
end Go.Proofs.YthbgcijkpincfaaDoor
