/-
  No cell of these rows narrows 'for every input' (looked for: loops, veiled, ifaces, maps, wideKeys, modest, calm, conditions, laid).
  DERIVED. THE GIVEN ROWS OF THIS SEAT. 6 by the template 'for every input the law returns true; each argument reads behind the call as it read before'; 0 by the template 'total and deterministic' (their statements: YtnfjmhoejmhbeaaTotals.lean).
  GIVEN WITH THE SEED: the statements are not yours to turn. If you find one false, say at which input.
  Laid BY PROGRAM, IN A SANDBOX (cutbox-rows.mjs): the forced cells as the released guide's own fill.sh prints them over the translation 59fafa942c220ff0… (all of the seat's roots in one cut). By AI agents, Wed Nov 11 2026. No macro, syntax, notation, axiom, sorry.
-/
import Derived.Test.YtnfjmhoejmhbeaaChecked
import GoSem.Claim
import GoSem.ClaimJoined
import GoSem.ClaimMapViews
import Derived.JoinedTies
import Derived.KernelRfl
namespace Go.Proofs.Ytnfjmhoejmhbeaa
/- THE CELL 'sum', in the pinned program and in every row, IS THE sha256 OF THE DUMP (.gsa) THAT YtnfjmhoejmhbeaaProg.lean LOADS. Nothing in Lean hashes anything: it is a label: what it is worth is what the hold of that sum in a sandbox is worth. -/
noncomputable def Try.pinned : Pinned := { name := "ytnfjmhoejmhbeaa", sum := "59fafa942c220ff034ee5ee4aab38c0553708af76eb2e5bdcbec8df7072d037a", checked := Try.checked }
namespace Rows
def none {H : Type} : Left H := { results := [], args := [] }

/-- 'almonerlaw04.SumsKept': WHATEVER THE INPUT: true; the input reads as it did. -/
def sumsKeptSpec : ChangeSpec := { name := "sumsKept", fn := fun _ => fun
  | [d1, d2] => { results := [.lit (.bool true)], args := [d1, d2] }
  | _ => none }
def sumsKeptRow : OpenClaim := { program := "ytnfjmhoejmhbeaa", sum := "59fafa942c220ff034ee5ee4aab38c0553708af76eb2e5bdcbec8df7072d037a", func := "almoner/almonerlaw04.SumsKept", spec := "sumsKept", unfollowed := true, recurses := true, apart := false }
def SumsKeptSaid : Prop := sumsKeptRow.holds Try.pinned (OpenSpec.ofChange sumsKeptSpec)

/-- ITS FALSE NEIGHBOUR: 'it returns false'. Refute it at one input. -/
def sumsKeptWrong : ChangeSpec := { name := "sumsKept", fn := fun _ => fun
  | [d1, d2] => { results := [.lit (.bool false)], args := [d1, d2] }
  | _ => none }
def SumsKeptWrongFalsely : Prop := sumsKeptRow.holds Try.pinned (OpenSpec.ofChange sumsKeptWrong)

/-- 'almonerlaw04.SumsHalves': WHATEVER THE INPUT: true; the input reads as it did. -/
def sumsHalvesSpec : ChangeSpec := { name := "sumsHalves", fn := fun _ => fun
  | [d] => { results := [.lit (.bool true)], args := [d] }
  | _ => none }
def sumsHalvesRow : OpenClaim := { program := "ytnfjmhoejmhbeaa", sum := "59fafa942c220ff034ee5ee4aab38c0553708af76eb2e5bdcbec8df7072d037a", func := "almoner/almonerlaw04.SumsHalves", spec := "sumsHalves", unfollowed := true, recurses := true, apart := false }
def SumsHalvesSaid : Prop := sumsHalvesRow.holds Try.pinned (OpenSpec.ofChange sumsHalvesSpec)

/-- ITS FALSE NEIGHBOUR: 'it returns false'. Refute it at one input. -/
def sumsHalvesWrong : ChangeSpec := { name := "sumsHalves", fn := fun _ => fun
  | [d] => { results := [.lit (.bool false)], args := [d] }
  | _ => none }
def SumsHalvesWrongFalsely : Prop := sumsHalvesRow.holds Try.pinned (OpenSpec.ofChange sumsHalvesWrong)

/-- 'almonerlaw04.SumsByte': WHATEVER THE INPUT: true; the input reads as it did. -/
def sumsByteSpec : ChangeSpec := { name := "sumsByte", fn := fun _ => fun
  | [d1, d2, d3] => { results := [.lit (.bool true)], args := [d1, d2, d3] }
  | _ => none }
def sumsByteRow : OpenClaim := { program := "ytnfjmhoejmhbeaa", sum := "59fafa942c220ff034ee5ee4aab38c0553708af76eb2e5bdcbec8df7072d037a", func := "almoner/almonerlaw04.SumsByte", spec := "sumsByte", unfollowed := true, recurses := true, apart := false }
def SumsByteSaid : Prop := sumsByteRow.holds Try.pinned (OpenSpec.ofChange sumsByteSpec)

/-- ITS FALSE NEIGHBOUR: 'it returns false'. Refute it at one input. -/
def sumsByteWrong : ChangeSpec := { name := "sumsByte", fn := fun _ => fun
  | [d1, d2, d3] => { results := [.lit (.bool false)], args := [d1, d2, d3] }
  | _ => none }
def SumsByteWrongFalsely : Prop := sumsByteRow.holds Try.pinned (OpenSpec.ofChange sumsByteWrong)

/-- 'almonerlaw04.SumsChange': WHATEVER THE INPUT: true; the input reads as it did. -/
def sumsChangeSpec : ChangeSpec := { name := "sumsChange", fn := fun _ => fun
  | [d1, d2] => { results := [.lit (.bool true)], args := [d1, d2] }
  | _ => none }
def sumsChangeRow : OpenClaim := { program := "ytnfjmhoejmhbeaa", sum := "59fafa942c220ff034ee5ee4aab38c0553708af76eb2e5bdcbec8df7072d037a", func := "almoner/almonerlaw04.SumsChange", spec := "sumsChange", unfollowed := true, recurses := true, apart := false }
def SumsChangeSaid : Prop := sumsChangeRow.holds Try.pinned (OpenSpec.ofChange sumsChangeSpec)

/-- ITS FALSE NEIGHBOUR: 'it returns false'. Refute it at one input. -/
def sumsChangeWrong : ChangeSpec := { name := "sumsChange", fn := fun _ => fun
  | [d1, d2] => { results := [.lit (.bool false)], args := [d1, d2] }
  | _ => none }
def SumsChangeWrongFalsely : Prop := sumsChangeRow.holds Try.pinned (OpenSpec.ofChange sumsChangeWrong)

/-- 'almonerlaw04.SumsNought': WHATEVER THE INPUT: true; the input reads as it did. -/
def sumsNoughtSpec : ChangeSpec := { name := "sumsNought", fn := fun _ => fun
  | [d1, d2] => { results := [.lit (.bool true)], args := [d1, d2] }
  | _ => none }
def sumsNoughtRow : OpenClaim := { program := "ytnfjmhoejmhbeaa", sum := "59fafa942c220ff034ee5ee4aab38c0553708af76eb2e5bdcbec8df7072d037a", func := "almoner/almonerlaw04.SumsNought", spec := "sumsNought", unfollowed := true, recurses := true, apart := false }
def SumsNoughtSaid : Prop := sumsNoughtRow.holds Try.pinned (OpenSpec.ofChange sumsNoughtSpec)

/-- ITS FALSE NEIGHBOUR: 'it returns false'. Refute it at one input. -/
def sumsNoughtWrong : ChangeSpec := { name := "sumsNought", fn := fun _ => fun
  | [d1, d2] => { results := [.lit (.bool false)], args := [d1, d2] }
  | _ => none }
def SumsNoughtWrongFalsely : Prop := sumsNoughtRow.holds Try.pinned (OpenSpec.ofChange sumsNoughtWrong)

/-- 'almonerlaw04.SumsJoin': WHATEVER THE INPUT: true; the input reads as it did. -/
def sumsJoinSpec : ChangeSpec := { name := "sumsJoin", fn := fun _ => fun
  | [d1, d2] => { results := [.lit (.bool true)], args := [d1, d2] }
  | _ => none }
def sumsJoinRow : OpenClaim := { program := "ytnfjmhoejmhbeaa", sum := "59fafa942c220ff034ee5ee4aab38c0553708af76eb2e5bdcbec8df7072d037a", func := "almoner/almonerlaw04.SumsJoin", spec := "sumsJoin", unfollowed := true, recurses := true, apart := false }
def SumsJoinSaid : Prop := sumsJoinRow.holds Try.pinned (OpenSpec.ofChange sumsJoinSpec)

/-- ITS FALSE NEIGHBOUR: 'it returns false'. Refute it at one input. -/
def sumsJoinWrong : ChangeSpec := { name := "sumsJoin", fn := fun _ => fun
  | [d1, d2] => { results := [.lit (.bool false)], args := [d1, d2] }
  | _ => none }
def SumsJoinWrongFalsely : Prop := sumsJoinRow.holds Try.pinned (OpenSpec.ofChange sumsJoinWrong)

/- THE SECOND FORM. 'bulk': how many values and letters a reading holds, each counted each time it is reached (what is shared counts as often as it is met; a slice's spare places count too). A statement '..UptoSaid' is the law's where the arguments, and the package variables that the reading takes, are together of bulk at most 1048576: NARROWER than '..Said'. Prove '..Said' where nothing that the law and all that it calls make is longer than what came in: it says more and counts as full. Else prove '..UptoSaid'. A law counts once. -/
mutual
def uptoBulk {H : Type} : DataW H → Nat
  | .lit (.string bytes) => bytes.length + 1
  | .lit _ => 1
  | .nil => 1
  | .ptr d => uptoBulk d + 1
  | .slice elems spare => uptoBulkAll elems + uptoBulkAll spare + 1
  | .agg parts => uptoBulkAll parts + 1
  | .iface _ d => uptoBulk d + 1
  | .map entries => uptoBulkEntries entries + 1
  | .held _ => 1
def uptoBulkAll {H : Type} : List (DataW H) → Nat
  | [] => 0
  | d :: r => uptoBulk d + uptoBulkAll r
def uptoBulkEntries {H : Type} : List (Lit × DataW H) → Nat
  | [] => 0
  | x :: r => uptoBulkEntry x + uptoBulkEntries r
def uptoBulkEntry {H : Type} : Lit × DataW H → Nat
  | (.string bytes, d) => bytes.length + uptoBulk d + 1
  | (_, d) => uptoBulk d + 1
 end
def uptoSmall : (H : Type) → List (DataW H) → Bool := fun _ ds => decide (uptoBulkAll ds ≤ 1048576)
def OpenSpec.upto (s : _root_.Go.ChangeSpec) : _root_.Go.OpenSpec := { _root_.Go.OpenSpec.ofChange s with cond := some uptoSmall }

/-- 'almonerlaw04.SumsKept', WHERE WHAT IT READS IS OF BULK AT MOST 1048576: true; the input reads as it did. -/
def sumsKeptUptoRow : OpenClaim := { program := "ytnfjmhoejmhbeaa", sum := "59fafa942c220ff034ee5ee4aab38c0553708af76eb2e5bdcbec8df7072d037a", func := "almoner/almonerlaw04.SumsKept", spec := "sumsKept", unfollowed := true, recurses := true, apart := false, narrowed := true }
def SumsKeptUptoSaid : Prop := sumsKeptUptoRow.holds Try.pinned (OpenSpec.upto sumsKeptSpec)

/-- 'almonerlaw04.SumsHalves', WHERE WHAT IT READS IS OF BULK AT MOST 1048576: true; the input reads as it did. -/
def sumsHalvesUptoRow : OpenClaim := { program := "ytnfjmhoejmhbeaa", sum := "59fafa942c220ff034ee5ee4aab38c0553708af76eb2e5bdcbec8df7072d037a", func := "almoner/almonerlaw04.SumsHalves", spec := "sumsHalves", unfollowed := true, recurses := true, apart := false, narrowed := true }
def SumsHalvesUptoSaid : Prop := sumsHalvesUptoRow.holds Try.pinned (OpenSpec.upto sumsHalvesSpec)

/-- 'almonerlaw04.SumsByte', WHERE WHAT IT READS IS OF BULK AT MOST 1048576: true; the input reads as it did. -/
def sumsByteUptoRow : OpenClaim := { program := "ytnfjmhoejmhbeaa", sum := "59fafa942c220ff034ee5ee4aab38c0553708af76eb2e5bdcbec8df7072d037a", func := "almoner/almonerlaw04.SumsByte", spec := "sumsByte", unfollowed := true, recurses := true, apart := false, narrowed := true }
def SumsByteUptoSaid : Prop := sumsByteUptoRow.holds Try.pinned (OpenSpec.upto sumsByteSpec)

/-- 'almonerlaw04.SumsChange', WHERE WHAT IT READS IS OF BULK AT MOST 1048576: true; the input reads as it did. -/
def sumsChangeUptoRow : OpenClaim := { program := "ytnfjmhoejmhbeaa", sum := "59fafa942c220ff034ee5ee4aab38c0553708af76eb2e5bdcbec8df7072d037a", func := "almoner/almonerlaw04.SumsChange", spec := "sumsChange", unfollowed := true, recurses := true, apart := false, narrowed := true }
def SumsChangeUptoSaid : Prop := sumsChangeUptoRow.holds Try.pinned (OpenSpec.upto sumsChangeSpec)

/-- 'almonerlaw04.SumsNought', WHERE WHAT IT READS IS OF BULK AT MOST 1048576: true; the input reads as it did. -/
def sumsNoughtUptoRow : OpenClaim := { program := "ytnfjmhoejmhbeaa", sum := "59fafa942c220ff034ee5ee4aab38c0553708af76eb2e5bdcbec8df7072d037a", func := "almoner/almonerlaw04.SumsNought", spec := "sumsNought", unfollowed := true, recurses := true, apart := false, narrowed := true }
def SumsNoughtUptoSaid : Prop := sumsNoughtUptoRow.holds Try.pinned (OpenSpec.upto sumsNoughtSpec)

/-- 'almonerlaw04.SumsJoin', WHERE WHAT IT READS IS OF BULK AT MOST 1048576: true; the input reads as it did. -/
def sumsJoinUptoRow : OpenClaim := { program := "ytnfjmhoejmhbeaa", sum := "59fafa942c220ff034ee5ee4aab38c0553708af76eb2e5bdcbec8df7072d037a", func := "almoner/almonerlaw04.SumsJoin", spec := "sumsJoin", unfollowed := true, recurses := true, apart := false, narrowed := true }
def SumsJoinUptoSaid : Prop := sumsJoinUptoRow.holds Try.pinned (OpenSpec.upto sumsJoinSpec)

end Rows
end Go.Proofs.Ytnfjmhoejmhbeaa
