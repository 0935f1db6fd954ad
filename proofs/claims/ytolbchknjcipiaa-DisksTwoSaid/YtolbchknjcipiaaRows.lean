/-
  No cell of these rows narrows 'for every input' (looked for: loops, veiled, ifaces, maps, wideKeys, modest, calm, conditions, laid).
  DERIVED. THE GIVEN ROWS OF THIS SEAT. 6 by the template 'for every input the law returns true; each argument reads behind the call as it read before'; 0 by the template 'total and deterministic' (their statements: YtolbchknjcipiaaTotals.lean).
  GIVEN WITH THE SEED: the statements are not yours to turn. If you find one false, say at which input.
  Laid BY PROGRAM, IN A SANDBOX (cutbox-rows.mjs): the forced cells as the released guide's own fill.sh prints them over the translation e0cd06ee65f5dec0… (all of the seat's roots in one cut). By AI agents, Wed Nov 11 2026. No macro, syntax, notation, axiom, sorry.
-/
import Derived.Test.YtolbchknjcipiaaChecked
import GoSem.Claim
import GoSem.ClaimJoined
import GoSem.ClaimMapViews
import Derived.JoinedTies
import Derived.KernelRfl
namespace Go.Proofs.Ytolbchknjcipiaa
/- THE CELL 'sum', in the pinned program and in every row, IS THE sha256 OF THE DUMP (.gsa) THAT YtolbchknjcipiaaProg.lean LOADS. Nothing in Lean hashes anything: it is a label: what it is worth is what the hold of that sum in a sandbox is worth. -/
noncomputable def Try.pinned : Pinned := { name := "ytolbchknjcipiaa", sum := "e0cd06ee65f5dec0b1d79110d665e8fe91d2d3e720d571421a9cddf9b870ef1a", checked := Try.checked }
namespace Rows
def none {H : Type} : Left H := { results := [], args := [] }

/-- 'almonerlaw05.DisksNone': WHATEVER THE INPUT: true; the input reads as it did. -/
def disksNoneSpec : ChangeSpec := { name := "disksNone", fn := fun _ => fun
  | [d1, d2, d3] => { results := [.lit (.bool true)], args := [d1, d2, d3] }
  | _ => none }
def disksNoneRow : OpenClaim := { program := "ytolbchknjcipiaa", sum := "e0cd06ee65f5dec0b1d79110d665e8fe91d2d3e720d571421a9cddf9b870ef1a", func := "almoner/almonerlaw05.DisksNone", spec := "disksNone", apart := false }
def DisksNoneSaid : Prop := disksNoneRow.holds Try.pinned (OpenSpec.ofChange disksNoneSpec)

/-- ITS FALSE NEIGHBOUR: 'it returns false'. Refute it at one input. -/
def disksNoneWrong : ChangeSpec := { name := "disksNone", fn := fun _ => fun
  | [d1, d2, d3] => { results := [.lit (.bool false)], args := [d1, d2, d3] }
  | _ => none }
def DisksNoneWrongFalsely : Prop := disksNoneRow.holds Try.pinned (OpenSpec.ofChange disksNoneWrong)

/-- 'almonerlaw05.DisksLeft': WHATEVER THE INPUT: true; the input reads as it did. -/
def disksLeftSpec : ChangeSpec := { name := "disksLeft", fn := fun _ => fun
  | [d1, d2, d3] => { results := [.lit (.bool true)], args := [d1, d2, d3] }
  | _ => none }
def disksLeftRow : OpenClaim := { program := "ytolbchknjcipiaa", sum := "e0cd06ee65f5dec0b1d79110d665e8fe91d2d3e720d571421a9cddf9b870ef1a", func := "almoner/almonerlaw05.DisksLeft", spec := "disksLeft", apart := false }
def DisksLeftSaid : Prop := disksLeftRow.holds Try.pinned (OpenSpec.ofChange disksLeftSpec)

/-- ITS FALSE NEIGHBOUR: 'it returns false'. Refute it at one input. -/
def disksLeftWrong : ChangeSpec := { name := "disksLeft", fn := fun _ => fun
  | [d1, d2, d3] => { results := [.lit (.bool false)], args := [d1, d2, d3] }
  | _ => none }
def DisksLeftWrongFalsely : Prop := disksLeftRow.holds Try.pinned (OpenSpec.ofChange disksLeftWrong)

/-- 'almonerlaw05.DisksSure': WHATEVER THE INPUT: true; the input reads as it did. -/
def disksSureSpec : ChangeSpec := { name := "disksSure", fn := fun _ => fun
  | [d1, d2, d3] => { results := [.lit (.bool true)], args := [d1, d2, d3] }
  | _ => none }
def disksSureRow : OpenClaim := { program := "ytolbchknjcipiaa", sum := "e0cd06ee65f5dec0b1d79110d665e8fe91d2d3e720d571421a9cddf9b870ef1a", func := "almoner/almonerlaw05.DisksSure", spec := "disksSure", apart := false }
def DisksSureSaid : Prop := disksSureRow.holds Try.pinned (OpenSpec.ofChange disksSureSpec)

/-- ITS FALSE NEIGHBOUR: 'it returns false'. Refute it at one input. -/
def disksSureWrong : ChangeSpec := { name := "disksSure", fn := fun _ => fun
  | [d1, d2, d3] => { results := [.lit (.bool false)], args := [d1, d2, d3] }
  | _ => none }
def DisksSureWrongFalsely : Prop := disksSureRow.holds Try.pinned (OpenSpec.ofChange disksSureWrong)

/-- 'almonerlaw05.DisksFirst': WHATEVER THE INPUT: true; the input reads as it did. -/
def disksFirstSpec : ChangeSpec := { name := "disksFirst", fn := fun _ => fun
  | [d1, d2] => { results := [.lit (.bool true)], args := [d1, d2] }
  | _ => none }
def disksFirstRow : OpenClaim := { program := "ytolbchknjcipiaa", sum := "e0cd06ee65f5dec0b1d79110d665e8fe91d2d3e720d571421a9cddf9b870ef1a", func := "almoner/almonerlaw05.DisksFirst", spec := "disksFirst", apart := false }
def DisksFirstSaid : Prop := disksFirstRow.holds Try.pinned (OpenSpec.ofChange disksFirstSpec)

/-- ITS FALSE NEIGHBOUR: 'it returns false'. Refute it at one input. -/
def disksFirstWrong : ChangeSpec := { name := "disksFirst", fn := fun _ => fun
  | [d1, d2] => { results := [.lit (.bool false)], args := [d1, d2] }
  | _ => none }
def DisksFirstWrongFalsely : Prop := disksFirstRow.holds Try.pinned (OpenSpec.ofChange disksFirstWrong)

/-- 'almonerlaw05.DisksTurn': WHATEVER THE INPUT: true; the input reads as it did. -/
def disksTurnSpec : ChangeSpec := { name := "disksTurn", fn := fun _ => fun
  | [d1, d2, d3] => { results := [.lit (.bool true)], args := [d1, d2, d3] }
  | _ => none }
def disksTurnRow : OpenClaim := { program := "ytolbchknjcipiaa", sum := "e0cd06ee65f5dec0b1d79110d665e8fe91d2d3e720d571421a9cddf9b870ef1a", func := "almoner/almonerlaw05.DisksTurn", spec := "disksTurn", apart := false }
def DisksTurnSaid : Prop := disksTurnRow.holds Try.pinned (OpenSpec.ofChange disksTurnSpec)

/-- ITS FALSE NEIGHBOUR: 'it returns false'. Refute it at one input. -/
def disksTurnWrong : ChangeSpec := { name := "disksTurn", fn := fun _ => fun
  | [d1, d2, d3] => { results := [.lit (.bool false)], args := [d1, d2, d3] }
  | _ => none }
def DisksTurnWrongFalsely : Prop := disksTurnRow.holds Try.pinned (OpenSpec.ofChange disksTurnWrong)

/-- 'almonerlaw05.DisksTwo': WHATEVER THE INPUT: true; the input reads as it did. -/
def disksTwoSpec : ChangeSpec := { name := "disksTwo", fn := fun _ => fun
  | [d1, d2, d3] => { results := [.lit (.bool true)], args := [d1, d2, d3] }
  | _ => none }
def disksTwoRow : OpenClaim := { program := "ytolbchknjcipiaa", sum := "e0cd06ee65f5dec0b1d79110d665e8fe91d2d3e720d571421a9cddf9b870ef1a", func := "almoner/almonerlaw05.DisksTwo", spec := "disksTwo", apart := false }
def DisksTwoSaid : Prop := disksTwoRow.holds Try.pinned (OpenSpec.ofChange disksTwoSpec)

/-- ITS FALSE NEIGHBOUR: 'it returns false'. Refute it at one input. -/
def disksTwoWrong : ChangeSpec := { name := "disksTwo", fn := fun _ => fun
  | [d1, d2, d3] => { results := [.lit (.bool false)], args := [d1, d2, d3] }
  | _ => none }
def DisksTwoWrongFalsely : Prop := disksTwoRow.holds Try.pinned (OpenSpec.ofChange disksTwoWrong)

/- THE SECOND FORM. 'bulk': how many values and letters a reading holds, each counted each time it is reached (what is shared counts as often as it is met; a slice's spare places count too). A statement '..UptoSaid' is the law's where the arguments, and the package variables that the reading takes, are together of bulk at most 1048576: NARROWER than '..Said'. Prove '..Said' where nothing that the law and all that it calls make is longer than what came in: it says more and counts as full. Else prove '..UptoSaid'. A law counts once. -/
mutual
def uptoBulk {H : Type} : DataW H → Nat
  | .lit (.string bytes) => bytes.length + 1
  | .lit _ => 1
  | .nil => 1
  | .ptr d => uptoBulk d + 1
  | .slice elems spare => uptoBulkAll elems + uptoBulkAll spare + 1
  | .agg parts => uptoBulkAll parts + 1
  | .iface _ d => uptoBulk d + 1
  | .map entries => uptoBulkEntries entries + 1
  | .held _ => 1
def uptoBulkAll {H : Type} : List (DataW H) → Nat
  | [] => 0
  | d :: r => uptoBulk d + uptoBulkAll r
def uptoBulkEntries {H : Type} : List (Lit × DataW H) → Nat
  | [] => 0
  | x :: r => uptoBulkEntry x + uptoBulkEntries r
def uptoBulkEntry {H : Type} : Lit × DataW H → Nat
  | (.string bytes, d) => bytes.length + uptoBulk d + 1
  | (_, d) => uptoBulk d + 1
 end
def uptoSmall : (H : Type) → List (DataW H) → Bool := fun _ ds => decide (uptoBulkAll ds ≤ 1048576)
def OpenSpec.upto (s : _root_.Go.ChangeSpec) : _root_.Go.OpenSpec := { _root_.Go.OpenSpec.ofChange s with cond := some uptoSmall }

/-- 'almonerlaw05.DisksNone', WHERE WHAT IT READS IS OF BULK AT MOST 1048576: true; the input reads as it did. -/
def disksNoneUptoRow : OpenClaim := { program := "ytolbchknjcipiaa", sum := "e0cd06ee65f5dec0b1d79110d665e8fe91d2d3e720d571421a9cddf9b870ef1a", func := "almoner/almonerlaw05.DisksNone", spec := "disksNone", apart := false, narrowed := true }
def DisksNoneUptoSaid : Prop := disksNoneUptoRow.holds Try.pinned (OpenSpec.upto disksNoneSpec)

/-- 'almonerlaw05.DisksLeft', WHERE WHAT IT READS IS OF BULK AT MOST 1048576: true; the input reads as it did. -/
def disksLeftUptoRow : OpenClaim := { program := "ytolbchknjcipiaa", sum := "e0cd06ee65f5dec0b1d79110d665e8fe91d2d3e720d571421a9cddf9b870ef1a", func := "almoner/almonerlaw05.DisksLeft", spec := "disksLeft", apart := false, narrowed := true }
def DisksLeftUptoSaid : Prop := disksLeftUptoRow.holds Try.pinned (OpenSpec.upto disksLeftSpec)

/-- 'almonerlaw05.DisksSure', WHERE WHAT IT READS IS OF BULK AT MOST 1048576: true; the input reads as it did. -/
def disksSureUptoRow : OpenClaim := { program := "ytolbchknjcipiaa", sum := "e0cd06ee65f5dec0b1d79110d665e8fe91d2d3e720d571421a9cddf9b870ef1a", func := "almoner/almonerlaw05.DisksSure", spec := "disksSure", apart := false, narrowed := true }
def DisksSureUptoSaid : Prop := disksSureUptoRow.holds Try.pinned (OpenSpec.upto disksSureSpec)

/-- 'almonerlaw05.DisksFirst', WHERE WHAT IT READS IS OF BULK AT MOST 1048576: true; the input reads as it did. -/
def disksFirstUptoRow : OpenClaim := { program := "ytolbchknjcipiaa", sum := "e0cd06ee65f5dec0b1d79110d665e8fe91d2d3e720d571421a9cddf9b870ef1a", func := "almoner/almonerlaw05.DisksFirst", spec := "disksFirst", apart := false, narrowed := true }
def DisksFirstUptoSaid : Prop := disksFirstUptoRow.holds Try.pinned (OpenSpec.upto disksFirstSpec)

/-- 'almonerlaw05.DisksTurn', WHERE WHAT IT READS IS OF BULK AT MOST 1048576: true; the input reads as it did. -/
def disksTurnUptoRow : OpenClaim := { program := "ytolbchknjcipiaa", sum := "e0cd06ee65f5dec0b1d79110d665e8fe91d2d3e720d571421a9cddf9b870ef1a", func := "almoner/almonerlaw05.DisksTurn", spec := "disksTurn", apart := false, narrowed := true }
def DisksTurnUptoSaid : Prop := disksTurnUptoRow.holds Try.pinned (OpenSpec.upto disksTurnSpec)

/-- 'almonerlaw05.DisksTwo', WHERE WHAT IT READS IS OF BULK AT MOST 1048576: true; the input reads as it did. -/
def disksTwoUptoRow : OpenClaim := { program := "ytolbchknjcipiaa", sum := "e0cd06ee65f5dec0b1d79110d665e8fe91d2d3e720d571421a9cddf9b870ef1a", func := "almoner/almonerlaw05.DisksTwo", spec := "disksTwo", apart := false, narrowed := true }
def DisksTwoUptoSaid : Prop := disksTwoUptoRow.holds Try.pinned (OpenSpec.upto disksTwoSpec)

end Rows
end Go.Proofs.Ytolbchknjcipiaa
