/-
  NARROWER THAN 'FOR EVERY INPUT', by the rows' own cells (each row's printed sentence says how): FramesBack: laid · FramesAgain: laid · FramesParts: laid · FramesTurned: laid.
  DERIVED. THE GIVEN ROWS OF THIS SEAT. 4 by the template 'for every input the law returns true; each argument reads behind the call as it read before'; 0 by the template 'total and deterministic' (their statements: YtfniddnfkciblaaDoorTotals.lean).
  GIVEN WITH THE SEED: the statements are not yours to turn. If you find one false, say at which input.
  Laid BY PROGRAM, IN A SANDBOX (cutbox-rows.mjs): the forced cells as the released guide's own fill.sh prints them over the translation 20aebcd8b06c02e0… (all of the seat's roots in one cut). By AI agents, Wed Nov 11 2026. No macro, syntax, notation, axiom, sorry.
-/
import Derived.Test.YtfniddnfkciblaaDoorChecked
import GoSem.Claim
import GoSem.ClaimJoined
import GoSem.ClaimMapViews
import Derived.JoinedTies
import Derived.KernelRfl
namespace Go.Proofs.YtfniddnfkciblaaDoor
/- THE CELL 'sum', in the pinned program and in every row, IS THE sha256 OF THE DUMP (.gsa) THAT YtfniddnfkciblaaDoorProg.lean LOADS. Nothing in Lean hashes anything: it is a label: what it is worth is what the hold of that sum in a sandbox is worth. -/
noncomputable def Tryd.pinned : Pinned := { name := "ytfniddnfkciblaadoor", sum := "20aebcd8b06c02e089fbacb0691d421bf6fe7c33d18b3b25051b1a3b9fc57109", checked := Tryd.checked }
namespace Rows
def none {H : Type} : Left H := { results := [], args := [] }

/- WHAT THE LISTED PACKAGE-LEVEL VARIABLES READ AS WHEN THE CALL BEGINS. Each datum BY PROGRAM (the guide's laid-datum.mjs) off the statement by which the dump's own 'gosem.cut.vars' lays the variable. In a bare row this is a premise. The card (YtfniddnfkciblaaDoorCards.lean) ties it to the program's text. -/
def laid_almoner_frames_errShort {H : Type} : DataW H := .iface "*errors.errorString" (.ptr (.agg [.lit (.string [102, 114, 97, 109, 101, 115, 58, 32, 116, 104, 101, 32, 98, 121, 116, 101, 115, 32, 101, 110, 100, 32, 116, 111, 111, 32, 101, 97, 114, 108, 121])]))
def laid_almoner_frames_errForm {H : Type} : DataW H := .iface "*errors.errorString" (.ptr (.agg [.lit (.string [102, 114, 97, 109, 101, 115, 58, 32, 116, 104, 101, 115, 101, 32, 97, 114, 101, 32, 110, 111, 32, 102, 114, 97, 109, 101, 39, 115, 32, 98, 121, 116, 101, 115])]))
def laid_almoner_frames_errSum {H : Type} : DataW H := .iface "*errors.errorString" (.ptr (.agg [.lit (.string [102, 114, 97, 109, 101, 115, 58, 32, 116, 104, 101, 32, 115, 117, 109, 32, 105, 115, 32, 97, 110, 111, 116, 104, 101, 114, 32, 111, 110, 101])]))

/-- 'almonerlaw06.FramesBack': WHATEVER THE INPUT: true; the input reads as it did. -/
def framesBackSpec : ChangeSpec := { name := "framesBack", fn := fun _ => fun
  | [d1, d2, d3] => { results := [.lit (.bool true)], args := [d1, d2, d3] }
  | _ => none }
def framesBackRow : OpenClaim := { program := "ytfniddnfkciblaadoor", sum := "20aebcd8b06c02e089fbacb0691d421bf6fe7c33d18b3b25051b1a3b9fc57109", func := "almoner/almonerlaw06.FramesBack", spec := "framesBack", inPlace := ["internal/reflectlite.TypeOf"], unfollowed := true, recurses := true, named := ["almoner/frames.errShort", "almoner/frames.errSum", "almoner/frames.errForm"], apart := false, laid := [("almoner/frames.errShort", laid_almoner_frames_errShort), ("almoner/frames.errForm", laid_almoner_frames_errForm), ("almoner/frames.errSum", laid_almoner_frames_errSum)] }
def FramesBackSaid : Prop := framesBackRow.holds Tryd.pinned (OpenSpec.ofChange framesBackSpec)

/-- ITS FALSE NEIGHBOUR: 'it returns false'. Refute it at one input. -/
def framesBackWrong : ChangeSpec := { name := "framesBack", fn := fun _ => fun
  | [d1, d2, d3] => { results := [.lit (.bool false)], args := [d1, d2, d3] }
  | _ => none }
def FramesBackWrongFalsely : Prop := framesBackRow.holds Tryd.pinned (OpenSpec.ofChange framesBackWrong)

/-- 'almonerlaw06.FramesAgain': WHATEVER THE INPUT: true; the input reads as it did. -/
def framesAgainSpec : ChangeSpec := { name := "framesAgain", fn := fun _ => fun
  | [d] => { results := [.lit (.bool true)], args := [d] }
  | _ => none }
def framesAgainRow : OpenClaim := { program := "ytfniddnfkciblaadoor", sum := "20aebcd8b06c02e089fbacb0691d421bf6fe7c33d18b3b25051b1a3b9fc57109", func := "almoner/almonerlaw06.FramesAgain", spec := "framesAgain", inPlace := ["internal/reflectlite.TypeOf"], unfollowed := true, recurses := true, named := ["almoner/frames.errShort", "almoner/frames.errSum", "almoner/frames.errForm"], apart := false, laid := [("almoner/frames.errShort", laid_almoner_frames_errShort), ("almoner/frames.errForm", laid_almoner_frames_errForm), ("almoner/frames.errSum", laid_almoner_frames_errSum)] }
def FramesAgainSaid : Prop := framesAgainRow.holds Tryd.pinned (OpenSpec.ofChange framesAgainSpec)

/-- ITS FALSE NEIGHBOUR: 'it returns false'. Refute it at one input. -/
def framesAgainWrong : ChangeSpec := { name := "framesAgain", fn := fun _ => fun
  | [d] => { results := [.lit (.bool false)], args := [d] }
  | _ => none }
def FramesAgainWrongFalsely : Prop := framesAgainRow.holds Tryd.pinned (OpenSpec.ofChange framesAgainWrong)

/-- 'almonerlaw06.FramesParts': WHATEVER THE INPUT: true; the input reads as it did. -/
def framesPartsSpec : ChangeSpec := { name := "framesParts", fn := fun _ => fun
  | [d1, d2] => { results := [.lit (.bool true)], args := [d1, d2] }
  | _ => none }
def framesPartsRow : OpenClaim := { program := "ytfniddnfkciblaadoor", sum := "20aebcd8b06c02e089fbacb0691d421bf6fe7c33d18b3b25051b1a3b9fc57109", func := "almoner/almonerlaw06.FramesParts", spec := "framesParts", inPlace := ["internal/reflectlite.TypeOf"], unfollowed := true, recurses := true, named := ["almoner/frames.errShort", "almoner/frames.errSum", "almoner/frames.errForm"], apart := false, laid := [("almoner/frames.errShort", laid_almoner_frames_errShort), ("almoner/frames.errForm", laid_almoner_frames_errForm), ("almoner/frames.errSum", laid_almoner_frames_errSum)] }
def FramesPartsSaid : Prop := framesPartsRow.holds Tryd.pinned (OpenSpec.ofChange framesPartsSpec)

/-- ITS FALSE NEIGHBOUR: 'it returns false'. Refute it at one input. -/
def framesPartsWrong : ChangeSpec := { name := "framesParts", fn := fun _ => fun
  | [d1, d2] => { results := [.lit (.bool false)], args := [d1, d2] }
  | _ => none }
def FramesPartsWrongFalsely : Prop := framesPartsRow.holds Tryd.pinned (OpenSpec.ofChange framesPartsWrong)

/-- 'almonerlaw06.FramesTurned': WHATEVER THE INPUT: true; the input reads as it did. -/
def framesTurnedSpec : ChangeSpec := { name := "framesTurned", fn := fun _ => fun
  | [d1, d2, d3] => { results := [.lit (.bool true)], args := [d1, d2, d3] }
  | _ => none }
def framesTurnedRow : OpenClaim := { program := "ytfniddnfkciblaadoor", sum := "20aebcd8b06c02e089fbacb0691d421bf6fe7c33d18b3b25051b1a3b9fc57109", func := "almoner/almonerlaw06.FramesTurned", spec := "framesTurned", inPlace := ["internal/reflectlite.TypeOf"], unfollowed := true, recurses := true, named := ["almoner/frames.errShort", "almoner/frames.errSum", "almoner/frames.errForm"], apart := false, laid := [("almoner/frames.errShort", laid_almoner_frames_errShort), ("almoner/frames.errForm", laid_almoner_frames_errForm), ("almoner/frames.errSum", laid_almoner_frames_errSum)] }
def FramesTurnedSaid : Prop := framesTurnedRow.holds Tryd.pinned (OpenSpec.ofChange framesTurnedSpec)

/-- ITS FALSE NEIGHBOUR: 'it returns false'. Refute it at one input. -/
def framesTurnedWrong : ChangeSpec := { name := "framesTurned", fn := fun _ => fun
  | [d1, d2, d3] => { results := [.lit (.bool false)], args := [d1, d2, d3] }
  | _ => none }
def FramesTurnedWrongFalsely : Prop := framesTurnedRow.holds Tryd.pinned (OpenSpec.ofChange framesTurnedWrong)

/- THE SECOND FORM. 'bulk': how many values and letters a reading holds, each counted each time it is reached (what is shared counts as often as it is met; a slice's spare places count too). A statement '..UptoSaid' is the law's where the arguments, and the package variables that the reading takes, are together of bulk at most 1048576: NARROWER than '..Said'. Prove '..Said' where nothing that the law and all that it calls make is longer than what came in: it says more and counts as full. Else prove '..UptoSaid'. A law counts once. -/
mutual
def uptoBulk {H : Type} : DataW H → Nat
  | .lit (.string bytes) => bytes.length + 1
  | .lit _ => 1
  | .nil => 1
  | .ptr d => uptoBulk d + 1
  | .slice elems spare => uptoBulkAll elems + uptoBulkAll spare + 1
  | .agg parts => uptoBulkAll parts + 1
  | .iface _ d => uptoBulk d + 1
  | .map entries => uptoBulkEntries entries + 1
  | .held _ => 1
def uptoBulkAll {H : Type} : List (DataW H) → Nat
  | [] => 0
  | d :: r => uptoBulk d + uptoBulkAll r
def uptoBulkEntries {H : Type} : List (Lit × DataW H) → Nat
  | [] => 0
  | x :: r => uptoBulkEntry x + uptoBulkEntries r
def uptoBulkEntry {H : Type} : Lit × DataW H → Nat
  | (.string bytes, d) => bytes.length + uptoBulk d + 1
  | (_, d) => uptoBulk d + 1
 end
def uptoSmall : (H : Type) → List (DataW H) → Bool := fun _ ds => decide (uptoBulkAll ds ≤ 1048576)
def OpenSpec.upto (s : _root_.Go.ChangeSpec) : _root_.Go.OpenSpec := { _root_.Go.OpenSpec.ofChange s with cond := some uptoSmall }

/-- 'almonerlaw06.FramesBack', WHERE WHAT IT READS IS OF BULK AT MOST 1048576: true; the input reads as it did. -/
def framesBackUptoRow : OpenClaim := { program := "ytfniddnfkciblaadoor", sum := "20aebcd8b06c02e089fbacb0691d421bf6fe7c33d18b3b25051b1a3b9fc57109", func := "almoner/almonerlaw06.FramesBack", spec := "framesBack", inPlace := ["internal/reflectlite.TypeOf"], unfollowed := true, recurses := true, named := ["almoner/frames.errShort", "almoner/frames.errSum", "almoner/frames.errForm"], apart := false, laid := [("almoner/frames.errShort", laid_almoner_frames_errShort), ("almoner/frames.errForm", laid_almoner_frames_errForm), ("almoner/frames.errSum", laid_almoner_frames_errSum)], narrowed := true }
def FramesBackUptoSaid : Prop := framesBackUptoRow.holds Tryd.pinned (OpenSpec.upto framesBackSpec)

/-- 'almonerlaw06.FramesAgain', WHERE WHAT IT READS IS OF BULK AT MOST 1048576: true; the input reads as it did. -/
def framesAgainUptoRow : OpenClaim := { program := "ytfniddnfkciblaadoor", sum := "20aebcd8b06c02e089fbacb0691d421bf6fe7c33d18b3b25051b1a3b9fc57109", func := "almoner/almonerlaw06.FramesAgain", spec := "framesAgain", inPlace := ["internal/reflectlite.TypeOf"], unfollowed := true, recurses := true, named := ["almoner/frames.errShort", "almoner/frames.errSum", "almoner/frames.errForm"], apart := false, laid := [("almoner/frames.errShort", laid_almoner_frames_errShort), ("almoner/frames.errForm", laid_almoner_frames_errForm), ("almoner/frames.errSum", laid_almoner_frames_errSum)], narrowed := true }
def FramesAgainUptoSaid : Prop := framesAgainUptoRow.holds Tryd.pinned (OpenSpec.upto framesAgainSpec)

/-- 'almonerlaw06.FramesParts', WHERE WHAT IT READS IS OF BULK AT MOST 1048576: true; the input reads as it did. -/
def framesPartsUptoRow : OpenClaim := { program := "ytfniddnfkciblaadoor", sum := "20aebcd8b06c02e089fbacb0691d421bf6fe7c33d18b3b25051b1a3b9fc57109", func := "almoner/almonerlaw06.FramesParts", spec := "framesParts", inPlace := ["internal/reflectlite.TypeOf"], unfollowed := true, recurses := true, named := ["almoner/frames.errShort", "almoner/frames.errSum", "almoner/frames.errForm"], apart := false, laid := [("almoner/frames.errShort", laid_almoner_frames_errShort), ("almoner/frames.errForm", laid_almoner_frames_errForm), ("almoner/frames.errSum", laid_almoner_frames_errSum)], narrowed := true }
def FramesPartsUptoSaid : Prop := framesPartsUptoRow.holds Tryd.pinned (OpenSpec.upto framesPartsSpec)

/-- 'almonerlaw06.FramesTurned', WHERE WHAT IT READS IS OF BULK AT MOST 1048576: true; the input reads as it did. -/
def framesTurnedUptoRow : OpenClaim := { program := "ytfniddnfkciblaadoor", sum := "20aebcd8b06c02e089fbacb0691d421bf6fe7c33d18b3b25051b1a3b9fc57109", func := "almoner/almonerlaw06.FramesTurned", spec := "framesTurned", inPlace := ["internal/reflectlite.TypeOf"], unfollowed := true, recurses := true, named := ["almoner/frames.errShort", "almoner/frames.errSum", "almoner/frames.errForm"], apart := false, laid := [("almoner/frames.errShort", laid_almoner_frames_errShort), ("almoner/frames.errForm", laid_almoner_frames_errForm), ("almoner/frames.errSum", laid_almoner_frames_errSum)], narrowed := true }
def FramesTurnedUptoSaid : Prop := framesTurnedUptoRow.holds Tryd.pinned (OpenSpec.upto framesTurnedSpec)

end Rows
end Go.Proofs.YtfniddnfkciblaaDoor
