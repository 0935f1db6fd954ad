/-
  DERIVED. GIVEN WITH THE SEED: THE CARDS: each row of YtigmbiigaiajdaaDoorRows.lean that lists a variable, with what it lists TIED to the program's text (the seventh form; the later family's looks); each row that meets fmt, with fmt's text TOLD by the authors' own Lean function (tested against real Go, not proved from fmt's source: count such statements apart). THE CARD IS WHAT COUNTS. Prove the row's statement (the work); the ties are given (YtigmbiigaiajdaaDoorTie.lean); close each card by the builder's one call (the guide's Derived/Test/ToyasCard.lean, 'card_holds'). Laid BY PROGRAM, IN A SANDBOX (cutbox-door.mjs). By AI agents, Wed Nov 11 2026. No macro, syntax, notation, axiom, sorry.
-/
import Derived.Test.YtigmbiigaiajdaaDoorRows
import GoSem.ClaimSeven
namespace Go.Proofs.YtigmbiigaiajdaaDoor
namespace Rows

/-- THE TIED CARD OF 'almonerlaw08.LeavesOf'. -/
def leavesOfCard : Claim7 := { stood := { row := leavesOfRow, standIns := [], harness := (true, "bea76c5ff56f6573024346c05e37f349d85dc1559bfe8aa1ad06401eb20002ec"), looks := false }, kinds := [], alts := [], laidByText := true, laidKinds := [.data, .data], laidTests := true, laidLooks := .later }
def LeavesOfCardSaid : Prop := Claim7.holds Tryd.pinned (.plain (OpenSpec.ofChange leavesOfSpec)) leavesOfCard

/-- THE TIED CARD OF 'almonerlaw08.LeavesSums'. -/
def leavesSumsCard : Claim7 := { stood := { row := leavesSumsRow, standIns := [], harness := (true, "bea76c5ff56f6573024346c05e37f349d85dc1559bfe8aa1ad06401eb20002ec"), looks := false }, kinds := [], alts := [], laidByText := true, laidKinds := [.data, .data], laidTests := true, laidLooks := .later }
def LeavesSumsCardSaid : Prop := Claim7.holds Tryd.pinned (.plain (OpenSpec.ofChange leavesSumsSpec)) leavesSumsCard

/-- THE TIED CARD OF 'almonerlaw08.LeavesPairs'. -/
def leavesPairsCard : Claim7 := { stood := { row := leavesPairsRow, standIns := [], harness := (true, "bea76c5ff56f6573024346c05e37f349d85dc1559bfe8aa1ad06401eb20002ec"), looks := false }, kinds := [], alts := [], laidByText := true, laidKinds := [.data, .data], laidTests := true, laidLooks := .later }
def LeavesPairsCardSaid : Prop := Claim7.holds Tryd.pinned (.plain (OpenSpec.ofChange leavesPairsSpec)) leavesPairsCard

/-- THE TIED CARD OF 'almonerlaw08.LeavesMore'. -/
def leavesMoreCard : Claim7 := { stood := { row := leavesMoreRow, standIns := [], harness := (true, "bea76c5ff56f6573024346c05e37f349d85dc1559bfe8aa1ad06401eb20002ec"), looks := false }, kinds := [], alts := [], laidByText := true, laidKinds := [.data, .data], laidTests := true, laidLooks := .later }
def LeavesMoreCardSaid : Prop := Claim7.holds Tryd.pinned (.plain (OpenSpec.ofChange leavesMoreSpec)) leavesMoreCard

/-- THE TIED CARD OF 'almonerlaw08.LeavesCut'. -/
def leavesCutCard : Claim7 := { stood := { row := leavesCutRow, standIns := [], harness := (true, "bea76c5ff56f6573024346c05e37f349d85dc1559bfe8aa1ad06401eb20002ec"), looks := false }, kinds := [], alts := [], laidByText := true, laidKinds := [.data, .data], laidTests := true, laidLooks := .later }
def LeavesCutCardSaid : Prop := Claim7.holds Tryd.pinned (.plain (OpenSpec.ofChange leavesCutSpec)) leavesCutCard

/-- THE SECOND FORM's CARD OF 'almonerlaw08.LeavesOf'. -/
def leavesOfUptoCard : Claim7 := { stood := { row := leavesOfUptoRow, standIns := [], harness := (true, "bea76c5ff56f6573024346c05e37f349d85dc1559bfe8aa1ad06401eb20002ec"), looks := false }, kinds := [], alts := [], laidByText := true, laidKinds := [.data, .data], laidTests := true, laidLooks := .later }
def LeavesOfUptoCardSaid : Prop := Claim7.holds Tryd.pinned (.plain (OpenSpec.upto leavesOfSpec)) leavesOfUptoCard

/-- THE SECOND FORM's CARD OF 'almonerlaw08.LeavesSums'. -/
def leavesSumsUptoCard : Claim7 := { stood := { row := leavesSumsUptoRow, standIns := [], harness := (true, "bea76c5ff56f6573024346c05e37f349d85dc1559bfe8aa1ad06401eb20002ec"), looks := false }, kinds := [], alts := [], laidByText := true, laidKinds := [.data, .data], laidTests := true, laidLooks := .later }
def LeavesSumsUptoCardSaid : Prop := Claim7.holds Tryd.pinned (.plain (OpenSpec.upto leavesSumsSpec)) leavesSumsUptoCard

/-- THE SECOND FORM's CARD OF 'almonerlaw08.LeavesPairs'. -/
def leavesPairsUptoCard : Claim7 := { stood := { row := leavesPairsUptoRow, standIns := [], harness := (true, "bea76c5ff56f6573024346c05e37f349d85dc1559bfe8aa1ad06401eb20002ec"), looks := false }, kinds := [], alts := [], laidByText := true, laidKinds := [.data, .data], laidTests := true, laidLooks := .later }
def LeavesPairsUptoCardSaid : Prop := Claim7.holds Tryd.pinned (.plain (OpenSpec.upto leavesPairsSpec)) leavesPairsUptoCard

/-- THE SECOND FORM's CARD OF 'almonerlaw08.LeavesMore'. -/
def leavesMoreUptoCard : Claim7 := { stood := { row := leavesMoreUptoRow, standIns := [], harness := (true, "bea76c5ff56f6573024346c05e37f349d85dc1559bfe8aa1ad06401eb20002ec"), looks := false }, kinds := [], alts := [], laidByText := true, laidKinds := [.data, .data], laidTests := true, laidLooks := .later }
def LeavesMoreUptoCardSaid : Prop := Claim7.holds Tryd.pinned (.plain (OpenSpec.upto leavesMoreSpec)) leavesMoreUptoCard

/-- THE SECOND FORM's CARD OF 'almonerlaw08.LeavesCut'. -/
def leavesCutUptoCard : Claim7 := { stood := { row := leavesCutUptoRow, standIns := [], harness := (true, "bea76c5ff56f6573024346c05e37f349d85dc1559bfe8aa1ad06401eb20002ec"), looks := false }, kinds := [], alts := [], laidByText := true, laidKinds := [.data, .data], laidTests := true, laidLooks := .later }
def LeavesCutUptoCardSaid : Prop := Claim7.holds Tryd.pinned (.plain (OpenSpec.upto leavesCutSpec)) leavesCutUptoCard
end Rows
end Go.Proofs.YtigmbiigaiajdaaDoor
