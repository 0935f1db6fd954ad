/-
  No cell of these rows narrows 'for every input' (looked for: loops, veiled, ifaces, maps, wideKeys, modest, calm, conditions, laid).
  DERIVED. THE GIVEN ROWS OF THIS SEAT. 4 by the template 'for every input the law returns true; each argument reads behind the call as it read before'; 0 by the template 'total and deterministic' (their statements: YtfgjkddfomddlaaTotals.lean).
  GIVEN WITH THE SEED: the statements are not yours to turn. If you find one false, say at which input.
  Laid BY PROGRAM, IN A SANDBOX (cutbox-rows.mjs): the forced cells as the released guide's own fill.sh prints them over the translation bd4dfaed062cb7e4… (all of the seat's roots in one cut). By AI agents, Wed Nov 11 2026. No macro, syntax, notation, axiom, sorry.
-/
import Derived.Test.YtfgjkddfomddlaaChecked
import GoSem.Claim
import GoSem.ClaimJoined
import GoSem.ClaimMapViews
import Derived.JoinedTies
import Derived.KernelRfl
namespace Go.Proofs.Ytfgjkddfomddlaa
/- THE CELL 'sum', in the pinned program and in every row, IS THE sha256 OF THE DUMP (.gsa) THAT YtfgjkddfomddlaaProg.lean LOADS. Nothing in Lean hashes anything: it is a label: what it is worth is what the hold of that sum in a sandbox is worth. -/
noncomputable def Try.pinned : Pinned := { name := "ytfgjkddfomddlaa", sum := "bd4dfaed062cb7e44b8f477cfd5097273845f7fa32b529816b5b7a79d643d0f0", checked := Try.checked }
namespace Rows
def none {H : Type} : Left H := { results := [], args := [] }

/-- 'almonerlaw01.NumsNext': WHATEVER THE INPUT: true; the input reads as it did. -/
def numsNextSpec : ChangeSpec := { name := "numsNext", fn := fun _ => fun
  | [d1, d2] => { results := [.lit (.bool true)], args := [d1, d2] }
  | _ => none }
def numsNextRow : OpenClaim := { program := "ytfgjkddfomddlaa", sum := "bd4dfaed062cb7e44b8f477cfd5097273845f7fa32b529816b5b7a79d643d0f0", func := "almoner/almonerlaw01.NumsNext", spec := "numsNext", unfollowed := true, recurses := true, apart := false }
def NumsNextSaid : Prop := numsNextRow.holds Try.pinned (OpenSpec.ofChange numsNextSpec)

/-- ITS FALSE NEIGHBOUR: 'it returns false'. Refute it at one input. -/
def numsNextWrong : ChangeSpec := { name := "numsNext", fn := fun _ => fun
  | [d1, d2] => { results := [.lit (.bool false)], args := [d1, d2] }
  | _ => none }
def NumsNextWrongFalsely : Prop := numsNextRow.holds Try.pinned (OpenSpec.ofChange numsNextWrong)

/-- 'almonerlaw01.NumsHalves': WHATEVER THE INPUT: true; the input reads as it did. -/
def numsHalvesSpec : ChangeSpec := { name := "numsHalves", fn := fun _ => fun
  | [d1, d2, d3] => { results := [.lit (.bool true)], args := [d1, d2, d3] }
  | _ => none }
def numsHalvesRow : OpenClaim := { program := "ytfgjkddfomddlaa", sum := "bd4dfaed062cb7e44b8f477cfd5097273845f7fa32b529816b5b7a79d643d0f0", func := "almoner/almonerlaw01.NumsHalves", spec := "numsHalves", unfollowed := true, recurses := true, apart := false }
def NumsHalvesSaid : Prop := numsHalvesRow.holds Try.pinned (OpenSpec.ofChange numsHalvesSpec)

/-- ITS FALSE NEIGHBOUR: 'it returns false'. Refute it at one input. -/
def numsHalvesWrong : ChangeSpec := { name := "numsHalves", fn := fun _ => fun
  | [d1, d2, d3] => { results := [.lit (.bool false)], args := [d1, d2, d3] }
  | _ => none }
def NumsHalvesWrongFalsely : Prop := numsHalvesRow.holds Try.pinned (OpenSpec.ofChange numsHalvesWrong)

/-- 'almonerlaw01.NumsTold': WHATEVER THE INPUT: true; the input reads as it did. -/
def numsToldSpec : ChangeSpec := { name := "numsTold", fn := fun _ => fun
  | [d1, d2] => { results := [.lit (.bool true)], args := [d1, d2] }
  | _ => none }
def numsToldRow : OpenClaim := { program := "ytfgjkddfomddlaa", sum := "bd4dfaed062cb7e44b8f477cfd5097273845f7fa32b529816b5b7a79d643d0f0", func := "almoner/almonerlaw01.NumsTold", spec := "numsTold", unfollowed := true, recurses := true, apart := false }
def NumsToldSaid : Prop := numsToldRow.holds Try.pinned (OpenSpec.ofChange numsToldSpec)

/-- ITS FALSE NEIGHBOUR: 'it returns false'. Refute it at one input. -/
def numsToldWrong : ChangeSpec := { name := "numsTold", fn := fun _ => fun
  | [d1, d2] => { results := [.lit (.bool false)], args := [d1, d2] }
  | _ => none }
def NumsToldWrongFalsely : Prop := numsToldRow.holds Try.pinned (OpenSpec.ofChange numsToldWrong)

/-- 'almonerlaw01.NumsSums': WHATEVER THE INPUT: true; the input reads as it did. -/
def numsSumsSpec : ChangeSpec := { name := "numsSums", fn := fun _ => fun
  | [d1, d2, d3] => { results := [.lit (.bool true)], args := [d1, d2, d3] }
  | _ => none }
def numsSumsRow : OpenClaim := { program := "ytfgjkddfomddlaa", sum := "bd4dfaed062cb7e44b8f477cfd5097273845f7fa32b529816b5b7a79d643d0f0", func := "almoner/almonerlaw01.NumsSums", spec := "numsSums", unfollowed := true, recurses := true, apart := false }
def NumsSumsSaid : Prop := numsSumsRow.holds Try.pinned (OpenSpec.ofChange numsSumsSpec)

/-- ITS FALSE NEIGHBOUR: 'it returns false'. Refute it at one input. -/
def numsSumsWrong : ChangeSpec := { name := "numsSums", fn := fun _ => fun
  | [d1, d2, d3] => { results := [.lit (.bool false)], args := [d1, d2, d3] }
  | _ => none }
def NumsSumsWrongFalsely : Prop := numsSumsRow.holds Try.pinned (OpenSpec.ofChange numsSumsWrong)

/- THE SECOND FORM. 'bulk': how many values and letters a reading holds, each counted each time it is reached (what is shared counts as often as it is met; a slice's spare places count too). A statement '..UptoSaid' is the law's where the arguments, and the package variables that the reading takes, are together of bulk at most 1048576: NARROWER than '..Said'. Prove '..Said' where nothing that the law and all that it calls make is longer than what came in: it says more and counts as full. Else prove '..UptoSaid'. A law counts once. -/
mutual
def uptoBulk {H : Type} : DataW H → Nat
  | .lit (.string bytes) => bytes.length + 1
  | .lit _ => 1
  | .nil => 1
  | .ptr d => uptoBulk d + 1
  | .slice elems spare => uptoBulkAll elems + uptoBulkAll spare + 1
  | .agg parts => uptoBulkAll parts + 1
  | .iface _ d => uptoBulk d + 1
  | .map entries => uptoBulkEntries entries + 1
  | .held _ => 1
def uptoBulkAll {H : Type} : List (DataW H) → Nat
  | [] => 0
  | d :: r => uptoBulk d + uptoBulkAll r
def uptoBulkEntries {H : Type} : List (Lit × DataW H) → Nat
  | [] => 0
  | x :: r => uptoBulkEntry x + uptoBulkEntries r
def uptoBulkEntry {H : Type} : Lit × DataW H → Nat
  | (.string bytes, d) => bytes.length + uptoBulk d + 1
  | (_, d) => uptoBulk d + 1
 end
def uptoSmall : (H : Type) → List (DataW H) → Bool := fun _ ds => decide (uptoBulkAll ds ≤ 1048576)
def OpenSpec.upto (s : _root_.Go.ChangeSpec) : _root_.Go.OpenSpec := { _root_.Go.OpenSpec.ofChange s with cond := some uptoSmall }

/-- 'almonerlaw01.NumsNext', WHERE WHAT IT READS IS OF BULK AT MOST 1048576: true; the input reads as it did. -/
def numsNextUptoRow : OpenClaim := { program := "ytfgjkddfomddlaa", sum := "bd4dfaed062cb7e44b8f477cfd5097273845f7fa32b529816b5b7a79d643d0f0", func := "almoner/almonerlaw01.NumsNext", spec := "numsNext", unfollowed := true, recurses := true, apart := false, narrowed := true }
def NumsNextUptoSaid : Prop := numsNextUptoRow.holds Try.pinned (OpenSpec.upto numsNextSpec)

/-- 'almonerlaw01.NumsHalves', WHERE WHAT IT READS IS OF BULK AT MOST 1048576: true; the input reads as it did. -/
def numsHalvesUptoRow : OpenClaim := { program := "ytfgjkddfomddlaa", sum := "bd4dfaed062cb7e44b8f477cfd5097273845f7fa32b529816b5b7a79d643d0f0", func := "almoner/almonerlaw01.NumsHalves", spec := "numsHalves", unfollowed := true, recurses := true, apart := false, narrowed := true }
def NumsHalvesUptoSaid : Prop := numsHalvesUptoRow.holds Try.pinned (OpenSpec.upto numsHalvesSpec)

/-- 'almonerlaw01.NumsTold', WHERE WHAT IT READS IS OF BULK AT MOST 1048576: true; the input reads as it did. -/
def numsToldUptoRow : OpenClaim := { program := "ytfgjkddfomddlaa", sum := "bd4dfaed062cb7e44b8f477cfd5097273845f7fa32b529816b5b7a79d643d0f0", func := "almoner/almonerlaw01.NumsTold", spec := "numsTold", unfollowed := true, recurses := true, apart := false, narrowed := true }
def NumsToldUptoSaid : Prop := numsToldUptoRow.holds Try.pinned (OpenSpec.upto numsToldSpec)

/-- 'almonerlaw01.NumsSums', WHERE WHAT IT READS IS OF BULK AT MOST 1048576: true; the input reads as it did. -/
def numsSumsUptoRow : OpenClaim := { program := "ytfgjkddfomddlaa", sum := "bd4dfaed062cb7e44b8f477cfd5097273845f7fa32b529816b5b7a79d643d0f0", func := "almoner/almonerlaw01.NumsSums", spec := "numsSums", unfollowed := true, recurses := true, apart := false, narrowed := true }
def NumsSumsUptoSaid : Prop := numsSumsUptoRow.holds Try.pinned (OpenSpec.upto numsSumsSpec)

end Rows
end Go.Proofs.Ytfgjkddfomddlaa
