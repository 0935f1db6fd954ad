/-
  DERIVED. GIVEN WITH THE SEED: THE CARDS: each row of YtineheaiphommaaDoorRows.lean that lists a variable, with what it lists TIED to the program's text (the seventh form; the later family's looks); each row that meets fmt, with fmt's text TOLD by the authors' own Lean function (tested against real Go, not proved from fmt's source: count such statements apart). THE CARD IS WHAT COUNTS. Prove the row's statement (the work); the ties are given (YtineheaiphommaaDoorTie.lean); close each card by the builder's one call (the guide's Derived/Test/ToyasCard.lean, 'card_holds'). Laid BY PROGRAM, IN A SANDBOX (cutbox-door.mjs). By AI agents, Wed Nov 11 2026. No macro, syntax, notation, axiom, sorry.
-/
import Derived.Test.YtineheaiphommaaDoorRows
import GoSem.ClaimSeven
namespace Go.Proofs.YtineheaiphommaaDoor
namespace Rows

/-- THE TIED CARD OF 'almonerlaw01.NumsRead'. -/
def numsReadCard : Claim7 := { stood := { row := numsReadRow, standIns := [], harness := (true, "3b9425b2ee8f08c648e8fbedb94f17e538a9eadca88d17f7148b07c3d39c1428"), looks := false }, kinds := [], alts := [], laidByText := true, laidKinds := [.data, .data, .data], laidTests := true, laidLooks := .later }
def NumsReadCardSaid : Prop := Claim7.holds Tryd.pinned (.plain (OpenSpec.ofChange numsReadSpec)) numsReadCard

/-- THE TIED CARD OF 'almonerlaw02.ShasTaken'. -/
def shasTakenCard : Claim7 := { stood := { row := shasTakenRow, standIns := [], harness := (true, "3b9425b2ee8f08c648e8fbedb94f17e538a9eadca88d17f7148b07c3d39c1428"), looks := false }, kinds := [], alts := [], laidByText := true, laidKinds := [.data, .data], laidTests := true, laidLooks := .later }
def ShasTakenCardSaid : Prop := Claim7.holds Tryd.pinned (.plain (OpenSpec.ofChange shasTakenSpec)) shasTakenCard

/-- THE TIED CARD OF 'almonerlaw02.ShasRun'. -/
def shasRunCard : Claim7 := { stood := { row := shasRunRow, standIns := [], harness := (true, "3b9425b2ee8f08c648e8fbedb94f17e538a9eadca88d17f7148b07c3d39c1428"), looks := false }, kinds := [], alts := [], laidByText := true, laidKinds := [.data, .data], laidTests := true, laidLooks := .later }
def ShasRunCardSaid : Prop := Claim7.holds Tryd.pinned (.plain (OpenSpec.ofChange shasRunSpec)) shasRunCard

/-- THE TIED CARD OF 'almonerlaw02.ShasNil'. -/
def shasNilCard : Claim7 := { stood := { row := shasNilRow, standIns := [], harness := (true, "3b9425b2ee8f08c648e8fbedb94f17e538a9eadca88d17f7148b07c3d39c1428"), looks := false }, kinds := [], alts := [], laidByText := true, laidKinds := [.data], laidTests := true, laidLooks := .later }
def ShasNilCardSaid : Prop := Claim7.holds Tryd.pinned (.plain (OpenSpec.ofChange shasNilSpec)) shasNilCard

/-- THE TIED CARD OF 'almonerlaw02.ShasGoOn'. -/
def shasGoOnCard : Claim7 := { stood := { row := shasGoOnRow, standIns := [], harness := (true, "3b9425b2ee8f08c648e8fbedb94f17e538a9eadca88d17f7148b07c3d39c1428"), looks := false }, kinds := [], alts := [], laidByText := true, laidKinds := [.data, .data], laidTests := true, laidLooks := .later }
def ShasGoOnCardSaid : Prop := Claim7.holds Tryd.pinned (.plain (OpenSpec.ofChange shasGoOnSpec)) shasGoOnCard

/-- THE TIED CARD OF 'almonerlaw02.ShasWritten'. -/
def shasWrittenCard : Claim7 := { stood := { row := shasWrittenRow, standIns := [], harness := (true, "3b9425b2ee8f08c648e8fbedb94f17e538a9eadca88d17f7148b07c3d39c1428"), looks := false }, kinds := [], alts := [], laidByText := true, laidKinds := [.data, .data], laidTests := true, laidLooks := .later }
def ShasWrittenCardSaid : Prop := Claim7.holds Tryd.pinned (.plain (OpenSpec.ofChange shasWrittenSpec)) shasWrittenCard

/-- THE SECOND FORM's CARD OF 'almonerlaw01.NumsRead'. -/
def numsReadUptoCard : Claim7 := { stood := { row := numsReadUptoRow, standIns := [], harness := (true, "3b9425b2ee8f08c648e8fbedb94f17e538a9eadca88d17f7148b07c3d39c1428"), looks := false }, kinds := [], alts := [], laidByText := true, laidKinds := [.data, .data, .data], laidTests := true, laidLooks := .later }
def NumsReadUptoCardSaid : Prop := Claim7.holds Tryd.pinned (.plain (OpenSpec.upto numsReadSpec)) numsReadUptoCard

/-- THE SECOND FORM's CARD OF 'almonerlaw02.ShasTaken'. -/
def shasTakenUptoCard : Claim7 := { stood := { row := shasTakenUptoRow, standIns := [], harness := (true, "3b9425b2ee8f08c648e8fbedb94f17e538a9eadca88d17f7148b07c3d39c1428"), looks := false }, kinds := [], alts := [], laidByText := true, laidKinds := [.data, .data], laidTests := true, laidLooks := .later }
def ShasTakenUptoCardSaid : Prop := Claim7.holds Tryd.pinned (.plain (OpenSpec.upto shasTakenSpec)) shasTakenUptoCard

/-- THE SECOND FORM's CARD OF 'almonerlaw02.ShasRun'. -/
def shasRunUptoCard : Claim7 := { stood := { row := shasRunUptoRow, standIns := [], harness := (true, "3b9425b2ee8f08c648e8fbedb94f17e538a9eadca88d17f7148b07c3d39c1428"), looks := false }, kinds := [], alts := [], laidByText := true, laidKinds := [.data, .data], laidTests := true, laidLooks := .later }
def ShasRunUptoCardSaid : Prop := Claim7.holds Tryd.pinned (.plain (OpenSpec.upto shasRunSpec)) shasRunUptoCard

/-- THE SECOND FORM's CARD OF 'almonerlaw02.ShasNil'. -/
def shasNilUptoCard : Claim7 := { stood := { row := shasNilUptoRow, standIns := [], harness := (true, "3b9425b2ee8f08c648e8fbedb94f17e538a9eadca88d17f7148b07c3d39c1428"), looks := false }, kinds := [], alts := [], laidByText := true, laidKinds := [.data], laidTests := true, laidLooks := .later }
def ShasNilUptoCardSaid : Prop := Claim7.holds Tryd.pinned (.plain (OpenSpec.upto shasNilSpec)) shasNilUptoCard

/-- THE SECOND FORM's CARD OF 'almonerlaw02.ShasGoOn'. -/
def shasGoOnUptoCard : Claim7 := { stood := { row := shasGoOnUptoRow, standIns := [], harness := (true, "3b9425b2ee8f08c648e8fbedb94f17e538a9eadca88d17f7148b07c3d39c1428"), looks := false }, kinds := [], alts := [], laidByText := true, laidKinds := [.data, .data], laidTests := true, laidLooks := .later }
def ShasGoOnUptoCardSaid : Prop := Claim7.holds Tryd.pinned (.plain (OpenSpec.upto shasGoOnSpec)) shasGoOnUptoCard

/-- THE SECOND FORM's CARD OF 'almonerlaw02.ShasWritten'. -/
def shasWrittenUptoCard : Claim7 := { stood := { row := shasWrittenUptoRow, standIns := [], harness := (true, "3b9425b2ee8f08c648e8fbedb94f17e538a9eadca88d17f7148b07c3d39c1428"), looks := false }, kinds := [], alts := [], laidByText := true, laidKinds := [.data, .data], laidTests := true, laidLooks := .later }
def ShasWrittenUptoCardSaid : Prop := Claim7.holds Tryd.pinned (.plain (OpenSpec.upto shasWrittenSpec)) shasWrittenUptoCard
end Rows
end Go.Proofs.YtineheaiphommaaDoor
