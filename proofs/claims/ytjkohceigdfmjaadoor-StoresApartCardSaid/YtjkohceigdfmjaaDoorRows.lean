/-
  NARROWER THAN 'FOR EVERY INPUT', by the rows' own cells (each row's printed sentence says how): StoresKept: laid · StoresBlown: laid · StoresApart: laid · StoresAnew: laid.
  DERIVED. THE GIVEN ROWS OF THIS SEAT. 4 by the template 'for every input the law returns true; each argument reads behind the call as it read before'; 0 by the template 'total and deterministic' (their statements: YtjkohceigdfmjaaDoorTotals.lean).
  GIVEN WITH THE SEED: the statements are not yours to turn. If you find one false, say at which input.
  Laid BY PROGRAM, IN A SANDBOX (cutbox-rows.mjs): the forced cells as the released guide's own fill.sh prints them over the translation 07631e4d661ab3e7… (all of the seat's roots in one cut). By AI agents, Wed Nov 11 2026. No macro, syntax, notation, axiom, sorry.
-/
import Derived.Test.YtjkohceigdfmjaaDoorChecked
import GoSem.Claim
import GoSem.ClaimJoined
import GoSem.ClaimMapViews
import Derived.JoinedTies
import Derived.KernelRfl
namespace Go.Proofs.YtjkohceigdfmjaaDoor
/- THE CELL 'sum', in the pinned program and in every row, IS THE sha256 OF THE DUMP (.gsa) THAT YtjkohceigdfmjaaDoorProg.lean LOADS. Nothing in Lean hashes anything: it is a label: what it is worth is what the hold of that sum in a sandbox is worth. -/
noncomputable def Tryd.pinned : Pinned := { name := "ytjkohceigdfmjaadoor", sum := "07631e4d661ab3e777055b6df6973e3e0c37c2bb08fbb69fb69d328da3caa6fd", checked := Tryd.checked }
namespace Rows
def none {H : Type} : Left H := { results := [], args := [] }

/- WHAT THE LISTED PACKAGE-LEVEL VARIABLES READ AS WHEN THE CALL BEGINS. Each datum BY PROGRAM (the guide's laid-datum.mjs) off the statement by which the dump's own 'gosem.cut.vars' lays the variable. In a bare row this is a premise. The card (YtjkohceigdfmjaaDoorCards.lean) ties it to the program's text. -/
def laid_almoner_frames_errShort {H : Type} : DataW H := .iface "*errors.errorString" (.ptr (.agg [.lit (.string [102, 114, 97, 109, 101, 115, 58, 32, 116, 104, 101, 32, 98, 121, 116, 101, 115, 32, 101, 110, 100, 32, 116, 111, 111, 32, 101, 97, 114, 108, 121])]))
def laid_almoner_frames_errForm {H : Type} : DataW H := .iface "*errors.errorString" (.ptr (.agg [.lit (.string [102, 114, 97, 109, 101, 115, 58, 32, 116, 104, 101, 115, 101, 32, 97, 114, 101, 32, 110, 111, 32, 102, 114, 97, 109, 101, 39, 115, 32, 98, 121, 116, 101, 115])]))
def laid_almoner_frames_errSum {H : Type} : DataW H := .iface "*errors.errorString" (.ptr (.agg [.lit (.string [102, 114, 97, 109, 101, 115, 58, 32, 116, 104, 101, 32, 115, 117, 109, 32, 105, 115, 32, 97, 110, 111, 116, 104, 101, 114, 32, 111, 110, 101])]))

/-- 'almonerlaw07.StoresKept': WHATEVER THE INPUT: true; the input reads as it did. -/
def storesKeptSpec : ChangeSpec := { name := "storesKept", fn := fun _ => fun
  | [d1, d2, d3] => { results := [.lit (.bool true)], args := [d1, d2, d3] }
  | _ => none }
def storesKeptRow : OpenClaim := { program := "ytjkohceigdfmjaadoor", sum := "07631e4d661ab3e777055b6df6973e3e0c37c2bb08fbb69fb69d328da3caa6fd", func := "almoner/almonerlaw07.StoresKept", spec := "storesKept", inPlace := ["internal/reflectlite.TypeOf"], unfollowed := true, recurses := true, named := ["almoner/frames.errShort", "almoner/frames.errSum", "almoner/frames.errForm"], apart := false, laid := [("almoner/frames.errShort", laid_almoner_frames_errShort), ("almoner/frames.errForm", laid_almoner_frames_errForm), ("almoner/frames.errSum", laid_almoner_frames_errSum)] }
def StoresKeptSaid : Prop := storesKeptRow.holds Tryd.pinned (OpenSpec.ofChange storesKeptSpec)

/-- ITS FALSE NEIGHBOUR: 'it returns false'. Refute it at one input. -/
def storesKeptWrong : ChangeSpec := { name := "storesKept", fn := fun _ => fun
  | [d1, d2, d3] => { results := [.lit (.bool false)], args := [d1, d2, d3] }
  | _ => none }
def StoresKeptWrongFalsely : Prop := storesKeptRow.holds Tryd.pinned (OpenSpec.ofChange storesKeptWrong)

/-- 'almonerlaw07.StoresBlown': WHATEVER THE INPUT: true; the input reads as it did. -/
def storesBlownSpec : ChangeSpec := { name := "storesBlown", fn := fun _ => fun
  | [d1, d2] => { results := [.lit (.bool true)], args := [d1, d2] }
  | _ => none }
def storesBlownRow : OpenClaim := { program := "ytjkohceigdfmjaadoor", sum := "07631e4d661ab3e777055b6df6973e3e0c37c2bb08fbb69fb69d328da3caa6fd", func := "almoner/almonerlaw07.StoresBlown", spec := "storesBlown", inPlace := ["internal/reflectlite.TypeOf"], unfollowed := true, recurses := true, named := ["almoner/frames.errShort", "almoner/frames.errSum", "almoner/frames.errForm"], apart := false, laid := [("almoner/frames.errShort", laid_almoner_frames_errShort), ("almoner/frames.errForm", laid_almoner_frames_errForm), ("almoner/frames.errSum", laid_almoner_frames_errSum)] }
def StoresBlownSaid : Prop := storesBlownRow.holds Tryd.pinned (OpenSpec.ofChange storesBlownSpec)

/-- ITS FALSE NEIGHBOUR: 'it returns false'. Refute it at one input. -/
def storesBlownWrong : ChangeSpec := { name := "storesBlown", fn := fun _ => fun
  | [d1, d2] => { results := [.lit (.bool false)], args := [d1, d2] }
  | _ => none }
def StoresBlownWrongFalsely : Prop := storesBlownRow.holds Tryd.pinned (OpenSpec.ofChange storesBlownWrong)

/-- 'almonerlaw07.StoresApart': WHATEVER THE INPUT: true; the input reads as it did. -/
def storesApartSpec : ChangeSpec := { name := "storesApart", fn := fun _ => fun
  | [d1, d2] => { results := [.lit (.bool true)], args := [d1, d2] }
  | _ => none }
def storesApartRow : OpenClaim := { program := "ytjkohceigdfmjaadoor", sum := "07631e4d661ab3e777055b6df6973e3e0c37c2bb08fbb69fb69d328da3caa6fd", func := "almoner/almonerlaw07.StoresApart", spec := "storesApart", inPlace := ["internal/reflectlite.TypeOf"], unfollowed := true, recurses := true, named := ["almoner/frames.errShort", "almoner/frames.errSum", "almoner/frames.errForm"], apart := false, laid := [("almoner/frames.errShort", laid_almoner_frames_errShort), ("almoner/frames.errForm", laid_almoner_frames_errForm), ("almoner/frames.errSum", laid_almoner_frames_errSum)] }
def StoresApartSaid : Prop := storesApartRow.holds Tryd.pinned (OpenSpec.ofChange storesApartSpec)

/-- ITS FALSE NEIGHBOUR: 'it returns false'. Refute it at one input. -/
def storesApartWrong : ChangeSpec := { name := "storesApart", fn := fun _ => fun
  | [d1, d2] => { results := [.lit (.bool false)], args := [d1, d2] }
  | _ => none }
def StoresApartWrongFalsely : Prop := storesApartRow.holds Tryd.pinned (OpenSpec.ofChange storesApartWrong)

/-- 'almonerlaw07.StoresAnew': WHATEVER THE INPUT: true; the input reads as it did. -/
def storesAnewSpec : ChangeSpec := { name := "storesAnew", fn := fun _ => fun
  | [d1, d2, d3] => { results := [.lit (.bool true)], args := [d1, d2, d3] }
  | _ => none }
def storesAnewRow : OpenClaim := { program := "ytjkohceigdfmjaadoor", sum := "07631e4d661ab3e777055b6df6973e3e0c37c2bb08fbb69fb69d328da3caa6fd", func := "almoner/almonerlaw07.StoresAnew", spec := "storesAnew", inPlace := ["internal/reflectlite.TypeOf"], unfollowed := true, recurses := true, named := ["almoner/frames.errShort", "almoner/frames.errSum", "almoner/frames.errForm"], apart := false, laid := [("almoner/frames.errShort", laid_almoner_frames_errShort), ("almoner/frames.errForm", laid_almoner_frames_errForm), ("almoner/frames.errSum", laid_almoner_frames_errSum)] }
def StoresAnewSaid : Prop := storesAnewRow.holds Tryd.pinned (OpenSpec.ofChange storesAnewSpec)

/-- ITS FALSE NEIGHBOUR: 'it returns false'. Refute it at one input. -/
def storesAnewWrong : ChangeSpec := { name := "storesAnew", fn := fun _ => fun
  | [d1, d2, d3] => { results := [.lit (.bool false)], args := [d1, d2, d3] }
  | _ => none }
def StoresAnewWrongFalsely : Prop := storesAnewRow.holds Tryd.pinned (OpenSpec.ofChange storesAnewWrong)

/- THE SECOND FORM. 'bulk': how many values and letters a reading holds, each counted each time it is reached (what is shared counts as often as it is met; a slice's spare places count too). A statement '..UptoSaid' is the law's where the arguments, and the package variables that the reading takes, are together of bulk at most 1048576: NARROWER than '..Said'. Prove '..Said' where nothing that the law and all that it calls make is longer than what came in: it says more and counts as full. Else prove '..UptoSaid'. A law counts once. -/
mutual
def uptoBulk {H : Type} : DataW H → Nat
  | .lit (.string bytes) => bytes.length + 1
  | .lit _ => 1
  | .nil => 1
  | .ptr d => uptoBulk d + 1
  | .slice elems spare => uptoBulkAll elems + uptoBulkAll spare + 1
  | .agg parts => uptoBulkAll parts + 1
  | .iface _ d => uptoBulk d + 1
  | .map entries => uptoBulkEntries entries + 1
  | .held _ => 1
def uptoBulkAll {H : Type} : List (DataW H) → Nat
  | [] => 0
  | d :: r => uptoBulk d + uptoBulkAll r
def uptoBulkEntries {H : Type} : List (Lit × DataW H) → Nat
  | [] => 0
  | x :: r => uptoBulkEntry x + uptoBulkEntries r
def uptoBulkEntry {H : Type} : Lit × DataW H → Nat
  | (.string bytes, d) => bytes.length + uptoBulk d + 1
  | (_, d) => uptoBulk d + 1
 end
def uptoSmall : (H : Type) → List (DataW H) → Bool := fun _ ds => decide (uptoBulkAll ds ≤ 1048576)
def OpenSpec.upto (s : _root_.Go.ChangeSpec) : _root_.Go.OpenSpec := { _root_.Go.OpenSpec.ofChange s with cond := some uptoSmall }

/-- 'almonerlaw07.StoresKept', WHERE WHAT IT READS IS OF BULK AT MOST 1048576: true; the input reads as it did. -/
def storesKeptUptoRow : OpenClaim := { program := "ytjkohceigdfmjaadoor", sum := "07631e4d661ab3e777055b6df6973e3e0c37c2bb08fbb69fb69d328da3caa6fd", func := "almoner/almonerlaw07.StoresKept", spec := "storesKept", inPlace := ["internal/reflectlite.TypeOf"], unfollowed := true, recurses := true, named := ["almoner/frames.errShort", "almoner/frames.errSum", "almoner/frames.errForm"], apart := false, laid := [("almoner/frames.errShort", laid_almoner_frames_errShort), ("almoner/frames.errForm", laid_almoner_frames_errForm), ("almoner/frames.errSum", laid_almoner_frames_errSum)], narrowed := true }
def StoresKeptUptoSaid : Prop := storesKeptUptoRow.holds Tryd.pinned (OpenSpec.upto storesKeptSpec)

/-- 'almonerlaw07.StoresBlown', WHERE WHAT IT READS IS OF BULK AT MOST 1048576: true; the input reads as it did. -/
def storesBlownUptoRow : OpenClaim := { program := "ytjkohceigdfmjaadoor", sum := "07631e4d661ab3e777055b6df6973e3e0c37c2bb08fbb69fb69d328da3caa6fd", func := "almoner/almonerlaw07.StoresBlown", spec := "storesBlown", inPlace := ["internal/reflectlite.TypeOf"], unfollowed := true, recurses := true, named := ["almoner/frames.errShort", "almoner/frames.errSum", "almoner/frames.errForm"], apart := false, laid := [("almoner/frames.errShort", laid_almoner_frames_errShort), ("almoner/frames.errForm", laid_almoner_frames_errForm), ("almoner/frames.errSum", laid_almoner_frames_errSum)], narrowed := true }
def StoresBlownUptoSaid : Prop := storesBlownUptoRow.holds Tryd.pinned (OpenSpec.upto storesBlownSpec)

/-- 'almonerlaw07.StoresApart', WHERE WHAT IT READS IS OF BULK AT MOST 1048576: true; the input reads as it did. -/
def storesApartUptoRow : OpenClaim := { program := "ytjkohceigdfmjaadoor", sum := "07631e4d661ab3e777055b6df6973e3e0c37c2bb08fbb69fb69d328da3caa6fd", func := "almoner/almonerlaw07.StoresApart", spec := "storesApart", inPlace := ["internal/reflectlite.TypeOf"], unfollowed := true, recurses := true, named := ["almoner/frames.errShort", "almoner/frames.errSum", "almoner/frames.errForm"], apart := false, laid := [("almoner/frames.errShort", laid_almoner_frames_errShort), ("almoner/frames.errForm", laid_almoner_frames_errForm), ("almoner/frames.errSum", laid_almoner_frames_errSum)], narrowed := true }
def StoresApartUptoSaid : Prop := storesApartUptoRow.holds Tryd.pinned (OpenSpec.upto storesApartSpec)

/-- 'almonerlaw07.StoresAnew', WHERE WHAT IT READS IS OF BULK AT MOST 1048576: true; the input reads as it did. -/
def storesAnewUptoRow : OpenClaim := { program := "ytjkohceigdfmjaadoor", sum := "07631e4d661ab3e777055b6df6973e3e0c37c2bb08fbb69fb69d328da3caa6fd", func := "almoner/almonerlaw07.StoresAnew", spec := "storesAnew", inPlace := ["internal/reflectlite.TypeOf"], unfollowed := true, recurses := true, named := ["almoner/frames.errShort", "almoner/frames.errSum", "almoner/frames.errForm"], apart := false, laid := [("almoner/frames.errShort", laid_almoner_frames_errShort), ("almoner/frames.errForm", laid_almoner_frames_errForm), ("almoner/frames.errSum", laid_almoner_frames_errSum)], narrowed := true }
def StoresAnewUptoSaid : Prop := storesAnewUptoRow.holds Tryd.pinned (OpenSpec.upto storesAnewSpec)

end Rows
end Go.Proofs.YtjkohceigdfmjaaDoor
