/-
  DERIVED. GIVEN WITH THE SEED: THE CARDS: each row of YtoojlpbfldnkpaaDoorRows.lean that lists a variable, with what it lists TIED to the program's text (the seventh form; the later family's looks); each row that meets fmt, with fmt's text TOLD by the authors' own Lean function (tested against real Go, not proved from fmt's source: count such statements apart). THE CARD IS WHAT COUNTS. Prove the row's statement (the work); the ties are given (YtoojlpbfldnkpaaDoorTie.lean); close each card by the builder's one call (the guide's Derived/Test/ToyasCard.lean, 'card_holds'). Laid BY PROGRAM, IN A SANDBOX (cutbox-door.mjs). By AI agents, Wed Nov 11 2026. No macro, syntax, notation, axiom, sorry.
-/
import Derived.Test.YtoojlpbfldnkpaaDoorRows
import GoSem.ClaimSeven
namespace Go.Proofs.YtoojlpbfldnkpaaDoor
namespace Rows

/-- THE TIED CARD OF 'almonerlaw01.NumsRead'. -/
def numsReadCard : Claim7 := { stood := { row := numsReadRow, standIns := [], harness := (true, "dd1d2527f6c437a8a2b7867554aebbef81006ac98523e7a03e831dfbc1ca418f"), looks := false }, kinds := [], alts := [], laidByText := true, laidKinds := [.data, .data, .data], laidTests := true, laidLooks := .later }
def NumsReadCardSaid : Prop := Claim7.holds Tryd.pinned (.plain (OpenSpec.ofChange numsReadSpec)) numsReadCard

/-- THE TIED CARD OF 'almonerlaw03.MacsBlocks'. -/
def macsBlocksCard : Claim7 := { stood := { row := macsBlocksRow, standIns := [], harness := (true, "dd1d2527f6c437a8a2b7867554aebbef81006ac98523e7a03e831dfbc1ca418f"), looks := false }, kinds := [], alts := [], laidByText := true, laidKinds := [.data, .data], laidTests := true, laidLooks := .later }
def MacsBlocksCardSaid : Prop := Claim7.holds Tryd.pinned (.plain (OpenSpec.ofChange macsBlocksSpec)) macsBlocksCard

/-- THE TIED CARD OF 'almonerlaw03.MacsTurned'. -/
def macsTurnedCard : Claim7 := { stood := { row := macsTurnedRow, standIns := [], harness := (true, "dd1d2527f6c437a8a2b7867554aebbef81006ac98523e7a03e831dfbc1ca418f"), looks := false }, kinds := [], alts := [], laidByText := true, laidKinds := [.data, .data], laidTests := true, laidLooks := .later }
def MacsTurnedCardSaid : Prop := Claim7.holds Tryd.pinned (.plain (OpenSpec.ofChange macsTurnedSpec)) macsTurnedCard

/-- THE TIED CARD OF 'almonerlaw03.MacsLong'. -/
def macsLongCard : Claim7 := { stood := { row := macsLongRow, standIns := [], harness := (true, "dd1d2527f6c437a8a2b7867554aebbef81006ac98523e7a03e831dfbc1ca418f"), looks := false }, kinds := [], alts := [], laidByText := true, laidKinds := [.data, .data], laidTests := true, laidLooks := .later }
def MacsLongCardSaid : Prop := Claim7.holds Tryd.pinned (.plain (OpenSpec.ofChange macsLongSpec)) macsLongCard

/-- THE SECOND FORM's CARD OF 'almonerlaw01.NumsRead'. -/
def numsReadUptoCard : Claim7 := { stood := { row := numsReadUptoRow, standIns := [], harness := (true, "dd1d2527f6c437a8a2b7867554aebbef81006ac98523e7a03e831dfbc1ca418f"), looks := false }, kinds := [], alts := [], laidByText := true, laidKinds := [.data, .data, .data], laidTests := true, laidLooks := .later }
def NumsReadUptoCardSaid : Prop := Claim7.holds Tryd.pinned (.plain (OpenSpec.upto numsReadSpec)) numsReadUptoCard

/-- THE SECOND FORM's CARD OF 'almonerlaw03.MacsBlocks'. -/
def macsBlocksUptoCard : Claim7 := { stood := { row := macsBlocksUptoRow, standIns := [], harness := (true, "dd1d2527f6c437a8a2b7867554aebbef81006ac98523e7a03e831dfbc1ca418f"), looks := false }, kinds := [], alts := [], laidByText := true, laidKinds := [.data, .data], laidTests := true, laidLooks := .later }
def MacsBlocksUptoCardSaid : Prop := Claim7.holds Tryd.pinned (.plain (OpenSpec.upto macsBlocksSpec)) macsBlocksUptoCard

/-- THE SECOND FORM's CARD OF 'almonerlaw03.MacsTurned'. -/
def macsTurnedUptoCard : Claim7 := { stood := { row := macsTurnedUptoRow, standIns := [], harness := (true, "dd1d2527f6c437a8a2b7867554aebbef81006ac98523e7a03e831dfbc1ca418f"), looks := false }, kinds := [], alts := [], laidByText := true, laidKinds := [.data, .data], laidTests := true, laidLooks := .later }
def MacsTurnedUptoCardSaid : Prop := Claim7.holds Tryd.pinned (.plain (OpenSpec.upto macsTurnedSpec)) macsTurnedUptoCard

/-- THE SECOND FORM's CARD OF 'almonerlaw03.MacsLong'. -/
def macsLongUptoCard : Claim7 := { stood := { row := macsLongUptoRow, standIns := [], harness := (true, "dd1d2527f6c437a8a2b7867554aebbef81006ac98523e7a03e831dfbc1ca418f"), looks := false }, kinds := [], alts := [], laidByText := true, laidKinds := [.data, .data], laidTests := true, laidLooks := .later }
def MacsLongUptoCardSaid : Prop := Claim7.holds Tryd.pinned (.plain (OpenSpec.upto macsLongSpec)) macsLongUptoCard
end Rows
end Go.Proofs.YtoojlpbfldnkpaaDoor
