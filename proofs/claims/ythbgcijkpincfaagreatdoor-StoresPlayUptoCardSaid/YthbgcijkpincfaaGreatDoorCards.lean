/-
  DERIVED. GIVEN WITH THE SEED: THE CARDS: each row of YthbgcijkpincfaaGreatDoorRows.lean that lists a variable, with what it lists TIED to the program's text (the seventh form; the later family's looks); each row that meets fmt, with fmt's text TOLD by the authors' own Lean function (tested against real Go, not proved from fmt's source: count such statements apart). THE CARD IS WHAT COUNTS. Prove the row's statement (the work); the ties are given (YthbgcijkpincfaaGreatDoorTie.lean); close each card by the builder's one call (the guide's Derived/Test/ToyasCard.lean, 'card_holds'). Laid BY PROGRAM, IN A SANDBOX (cutbox-door.mjs). By AI agents, Wed Nov 11 2026. No macro, syntax, notation, axiom, sorry.
-/
import Derived.Test.YthbgcijkpincfaaGreatDoorRows
import GoSem.ClaimSeven
namespace Go.Proofs.YthbgcijkpincfaaGreatDoor
namespace Rows

/-- THE TIED CARD OF 'almonerlaw07.StoresPlay'. -/
def storesPlayCard : Claim7 := { stood := { row := storesPlayRow, standIns := [], harness := (true, "b528a24a620cb053993ce6d19faf53d706ad3c76dd430e68d9808eaa06e7d134"), looks := true }, kinds := [], alts := [], laidByText := true, laidKinds := [.data, .data, .data, .sentinel, .sentinel, .sentinel], laidTests := true, laidLooks := .later }
def StoresPlayCardSaid : Prop := Claim7.holds Tryz.pinned (.plain (OpenSpec.ofChange storesPlaySpec)) storesPlayCard

/-- THE TIED CARD OF 'almonerlaw13.ClashesOf'. -/
def clashesOfCard : Claim7 := { stood := { row := clashesOfRow, standIns := [], harness := (true, "b528a24a620cb053993ce6d19faf53d706ad3c76dd430e68d9808eaa06e7d134"), looks := true }, kinds := [], alts := [], laidByText := true, laidKinds := [.data, .data, .data, .data, .data, .sentinel], laidTests := true, laidLooks := .later }
def ClashesOfCardSaid : Prop := Claim7.holds Tryz.pinned (.plain (OpenSpec.ofChange clashesOfSpec)) clashesOfCard

/-- THE TIED CARD OF 'almonerlaw15.MapsPlay'. -/
def mapsPlayCard : Claim7 := { stood := { row := mapsPlayRow, standIns := [], harness := (true, "b528a24a620cb053993ce6d19faf53d706ad3c76dd430e68d9808eaa06e7d134"), looks := true }, kinds := [], alts := [], laidByText := true, laidKinds := [.data, .data, .data, .data, .data], laidTests := true, laidLooks := .later }
def MapsPlayCardSaid : Prop := Claim7.holds Tryz.pinned (.plain (OpenSpec.ofChange mapsPlaySpec)) mapsPlayCard

/-- THE SECOND FORM's CARD OF 'almonerlaw07.StoresPlay'. -/
def storesPlayUptoCard : Claim7 := { stood := { row := storesPlayUptoRow, standIns := [], harness := (true, "b528a24a620cb053993ce6d19faf53d706ad3c76dd430e68d9808eaa06e7d134"), looks := true }, kinds := [], alts := [], laidByText := true, laidKinds := [.data, .data, .data, .sentinel, .sentinel, .sentinel], laidTests := true, laidLooks := .later }
def StoresPlayUptoCardSaid : Prop := Claim7.holds Tryz.pinned (.plain (OpenSpec.upto storesPlaySpec)) storesPlayUptoCard

/-- THE SECOND FORM's CARD OF 'almonerlaw13.ClashesOf'. -/
def clashesOfUptoCard : Claim7 := { stood := { row := clashesOfUptoRow, standIns := [], harness := (true, "b528a24a620cb053993ce6d19faf53d706ad3c76dd430e68d9808eaa06e7d134"), looks := true }, kinds := [], alts := [], laidByText := true, laidKinds := [.data, .data, .data, .data, .data, .sentinel], laidTests := true, laidLooks := .later }
def ClashesOfUptoCardSaid : Prop := Claim7.holds Tryz.pinned (.plain (OpenSpec.upto clashesOfSpec)) clashesOfUptoCard

/-- THE SECOND FORM's CARD OF 'almonerlaw15.MapsPlay'. -/
def mapsPlayUptoCard : Claim7 := { stood := { row := mapsPlayUptoRow, standIns := [], harness := (true, "b528a24a620cb053993ce6d19faf53d706ad3c76dd430e68d9808eaa06e7d134"), looks := true }, kinds := [], alts := [], laidByText := true, laidKinds := [.data, .data, .data, .data, .data], laidTests := true, laidLooks := .later }
def MapsPlayUptoCardSaid : Prop := Claim7.holds Tryz.pinned (.plain (OpenSpec.upto mapsPlaySpec)) mapsPlayUptoCard
end Rows
end Go.Proofs.YthbgcijkpincfaaGreatDoor
