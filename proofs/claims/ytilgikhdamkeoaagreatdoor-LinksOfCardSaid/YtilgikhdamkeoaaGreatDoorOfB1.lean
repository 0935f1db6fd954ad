/-
  Several texts in one: LMark, LBut, LBookAt, LFill, LSumAt, LFillS, LGrowS, LGrow, LGrow2, LGrow2S, LLook, LLookS, LNil, LApart, LBookS, WOfMem, LArrArg, LListSum, LStoreSum, LVar, KPure, KIs, KMiss, KPair, KNext, KBuild, WPure, WLen64, KLeft, KLead.
-/
import Derived.Test.YtilgikhdamkeoaaGreatDoorLOnly
import Derived.Test.YtilgikhdamkeoaaGreatDoorLMem
import Derived.Deep.RegionHeld3
import Derived.Deep.AppendLies
import Derived.Laws.Pointers
import Derived.StillTactics
import Derived.Test.YtilgikhdamkeoaaGreatDoorLTot
import Derived.Laws.CopyRow
import Derived.Test.YtilgikhdamkeoaaGreatDoorLSums
import Derived.Test.YtilgikhdamkeoaaGreatDoorLQuietTail
import Derived.Test.YtilgikhdamkeoaaGreatDoorLApp2
import Derived.Great.BuildSlice
import Derived.Deep.QuietTactic
import Derived.BigQuiet
import Derived.Test.YtilgikhdamkeoaaGreatDoorVSApp
import Derived.Test.YtilgikhdamkeoaaGreatDoorLPre
import Derived.ProofKit
import Derived.OpenShut
import Derived.Test.YtilgikhdamkeoaaGreatDoorLRowS
import Derived.Test.YtilgikhdamkeoaaGreatDoorLSum
import Derived.Test.YtilgikhdamkeoaaGreatDoorLBArr
import Derived.Deep.MidRow
import Derived.Test.YtilgikhdamkeoaaGreatDoorVPure
import Derived.WalkKit
import Derived.LaidEql
import Derived.Stop.Asserts
import Derived.RowKitTokens
import Derived.Test.YtilgikhdamkeoaaGreatDoorVTools
import Derived.Test.YtilgikhdamkeoaaGreatDoorVList
import Derived.Laws.Tables
import Derived.Test.YtilgikhdamkeoaaGreatDoorVLen
import Derived.Test.YtilgikhdamkeoaaGreatDoorVNode
/-
  The mark of a number as a sum.
-/
namespace Go.Proofs.YtilgikhdamkeoaaGreatDoor
open Go.RowKit

/-- The bytes of a mark. -/
def mark32 (num : Nat) : List Nat := (num % 256) :: List.replicate 31 0
theorem mark32_length (num : Nat) : (mark32 num).length = 32 := rfl
theorem mark32_lt (num : Nat) : ∀ y ∈ mark32 num, y < 256 := by
  intro y hy
  rcases List.mem_cons.1 hy with rfl | hy
  · exact Nat.mod_lt _ (by decide)
  · rw [List.eq_of_mem_replicate hy]; decide
theorem mark_head (num : Nat) : Value.int .u8 ((num : Int) % 256) = bv (num % 256) := by
  show Value.int .u8 ((num : Int) % 256) = .int .u8 (((num % 256 : Nat)) : Int)
  rw [Int.natCast_emod]
  rfl
theorem lit32_tail (v : Value) : (#[v, .int .u8 0, .int .u8 0, .int .u8 0, .int .u8 0, .int .u8 0, .int .u8 0, .int .u8 0, .int .u8 0, .int .u8 0, .int .u8 0, .int .u8 0, .int .u8 0, .int .u8 0, .int .u8 0, .int .u8 0, .int .u8 0, .int .u8 0, .int .u8 0, .int .u8 0, .int .u8 0, .int .u8 0, .int .u8 0, .int .u8 0, .int .u8 0, .int .u8 0, .int .u8 0, .int .u8 0, .int .u8 0, .int .u8 0, .int .u8 0, .int .u8 0] : Array Value) = (v :: bvs (List.replicate 31 0)).toArray := rfl
theorem lit32_mark (num : Nat) : (Value.agg #[.int .u8 ((num : Int) % 256), .int .u8 0, .int .u8 0, .int .u8 0, .int .u8 0, .int .u8 0, .int .u8 0, .int .u8 0, .int .u8 0, .int .u8 0, .int .u8 0, .int .u8 0, .int .u8 0, .int .u8 0, .int .u8 0, .int .u8 0, .int .u8 0, .int .u8 0, .int .u8 0, .int .u8 0, .int .u8 0, .int .u8 0, .int .u8 0, .int .u8 0, .int .u8 0, .int .u8 0, .int .u8 0, .int .u8 0, .int .u8 0, .int .u8 0, .int .u8 0, .int .u8 0]) = sv (mark32 num) := by
  rw [lit32_tail, mark_head]
  rfl
/-- A mark into a variable of noughts. -/
theorem wpList_store_mark {ops : Array Oper} {rest : List Oper} {o : Oper} {a : Act} {w : World} {Q : Exit → Act → World → Prop} (num : Nat) (hgd : o.guard = none) (x y : Operand) (ho : o.op = .store 25 x y)
    (g : Nat) (hx : a.eval x = .pointer (some ⟨g, 0, none⟩)) (hg : w.heap[g]? = some (.cells #[.int .u8 0, .int .u8 0, .int .u8 0, .int .u8 0, .int .u8 0, .int .u8 0, .int .u8 0, .int .u8 0, .int .u8 0, .int .u8 0, .int .u8 0, .int .u8 0, .int .u8 0, .int .u8 0, .int .u8 0, .int .u8 0, .int .u8 0, .int .u8 0, .int .u8 0, .int .u8 0, .int .u8 0, .int .u8 0, .int .u8 0, .int .u8 0, .int .u8 0, .int .u8 0, .int .u8 0, .int .u8 0, .int .u8 0, .int .u8 0, .int .u8 0, .int .u8 0] 25 (0, 0))) (hy : a.eval y = .agg #[.int .u8 ((num : Int) % 256), .int .u8 0, .int .u8 0, .int .u8 0, .int .u8 0, .int .u8 0, .int .u8 0, .int .u8 0, .int .u8 0, .int .u8 0, .int .u8 0, .int .u8 0, .int .u8 0, .int .u8 0, .int .u8 0, .int .u8 0, .int .u8 0, .int .u8 0, .int .u8 0, .int .u8 0, .int .u8 0, .int .u8 0, .int .u8 0, .int .u8 0, .int .u8 0, .int .u8 0, .int .u8 0, .int .u8 0, .int .u8 0, .int .u8 0, .int .u8 0, .int .u8 0])
    (h : ∀ w', BArr w' g 25 (mark32 num) → Only g w w' → wpList Tryz.prog ops Q rest (a.put o.dst undef) w') : wpList Tryz.prog ops Q (o :: rest) a w := by
  rw [lit32_mark] at hy
  exact wpList_store_row hgd 25 x y ho g (bvs (mark32 num)).toArray hx hy 25 (bvs zero32).toArray hg sizeSum rfl (all_oneCell_toArray (bvs_oneCell (mark32 num))) (h _ (setRow_heap w g _ _ _ (0, 0) hg) ((Only.refl g w).setRow _))

set_option maxRecDepth 100000 in
set_option maxHeartbeats 1000000 in
theorem markSum_any (num : Nat) (w : World) :
    Calls Tryz.prog 60 #[.int .i64 (num : Int)] w fun e w' => e = .returned (sv (mark32 num)) ∧ Below w.heap.size w w' := by
  go_enter Tryz.func60, Tryz.ntmps60
  go_wp2_with (with_reducible refine wpList_store_mark num rfl (.tmp 2) (.tmp 5) rfl w.heap.size rfl (World.alloc_heap_new w _) rfl ?_)
  intro w2 hb2 ho2
  go_wp2
  exact bodyPost_ret_by (results_cell_row (p := 2) (ty := 25) (by kernel_rfl) _ _ w.heap.size 25 (bvs (mark32 num)).toArray (0, 0) _ rfl hb2 Tryz.underlying25 rfl sizeSum) rfl ⟨rfl, Only.below (below_alloc w _) (Nat.le_refl _) (Nat.le_refl _) ho2⟩

theorem eql_mark (num : Nat) (s : List Nat) (hs : s = mark32 num) (w : World) : (binOp .eql 25 (sv s) (.agg #[.int .u8 ((num : Int) % 256), .int .u8 0, .int .u8 0, .int .u8 0, .int .u8 0, .int .u8 0, .int .u8 0, .int .u8 0, .int .u8 0, .int .u8 0, .int .u8 0, .int .u8 0, .int .u8 0, .int .u8 0, .int .u8 0, .int .u8 0, .int .u8 0, .int .u8 0, .int .u8 0, .int .u8 0, .int .u8 0, .int .u8 0, .int .u8 0, .int .u8 0, .int .u8 0, .int .u8 0, .int .u8 0, .int .u8 0, .int .u8 0, .int .u8 0, .int .u8 0, .int .u8 0])).run Tryz.prog w = .ok (.bool true) w := by
  rw [lit32_mark, hs, run_eql_sum _ _ (mark32_length num) (mark32_length num) w, decide_eq_true rfl]
theorem guard_mark (num : Nat) (x y : Operand) (s : List Nat) (w : World) : (eqGuard .eql 25 x y (sv s) (.agg #[.int .u8 ((num : Int) % 256), .int .u8 0, .int .u8 0, .int .u8 0, .int .u8 0, .int .u8 0, .int .u8 0, .int .u8 0, .int .u8 0, .int .u8 0, .int .u8 0, .int .u8 0, .int .u8 0, .int .u8 0, .int .u8 0, .int .u8 0, .int .u8 0, .int .u8 0, .int .u8 0, .int .u8 0, .int .u8 0, .int .u8 0, .int .u8 0, .int .u8 0, .int .u8 0, .int .u8 0, .int .u8 0, .int .u8 0, .int .u8 0, .int .u8 0, .int .u8 0, .int .u8 0])).run Tryz.prog w = .ok () w := by
  rw [lit32_mark]
  exact run_guard_eql x y s (mark32 num) w

set_option maxRecDepth 100000 in
set_option maxHeartbeats 1000000 in
theorem isSum_any (num : Nat) (s : List Nat) (hs : s = mark32 num) (w : World) :
    Calls Tryz.prog 69 #[sv s, .int .i64 (num : Int)] w fun e w' => e = .returned (.bool true) ∧ Below w.heap.size w w' := by
  have q1 := eql_mark num s hs
  have q2 := fun x y => guard_mark num x y s
  have hl : s.length = 32 := by rw [hs]; rfl
  clear hs
  show Calls Tryz.prog 69 #[.agg (bvs s).toArray, .int .i64 (num : Int)] w _
  go_enter Tryz.func69, Tryz.ntmps69
  go_wp2_with (with_reducible refine wpList_load_sum rfl (.tmp 2) rfl ⟨w.heap.size, 0, none⟩ rfl s hl (BArr.new w 25 s).at_ ?_)
  go_ret
  exact ⟨rfl, below_alloc w _⟩

end Go.Proofs.YtilgikhdamkeoaaGreatDoor

/-
  A frame: every block but these is as it was.
-/
namespace Go.Proofs.YtilgikhdamkeoaaGreatDoor
open Go.RowKit

/-- Only blocks of S, and new ones, have turned. -/
structure But (S : Nat → Prop) (w w' : World) : Prop where
  os : w'.os = w.os
  tape : w'.tape = w.tape
  output : w'.output = w.output
  size : w.heap.size ≤ w'.heap.size
  block : ∀ b, b < w.heap.size → ¬ S b → w'.heap[b]? = w.heap[b]?

theorem But.refl (S : Nat → Prop) (w : World) : But S w w := ⟨rfl, rfl, rfl, Nat.le_refl _, fun _ _ _ => rfl⟩
theorem But.trans {S : Nat → Prop} {a b c : World} (h : But S a b) (k : But S b c) : But S a c :=
  ⟨k.os.trans h.os, k.tape.trans h.tape, k.output.trans h.output, Nat.le_trans h.size k.size, fun i hi hn => (k.block i (Nat.lt_of_lt_of_le hi h.size) hn).trans (h.block i hi hn)⟩
theorem But.mono {S T : Nat → Prop} {w w' : World} (h : But S w w') (hST : ∀ b, b < w.heap.size → S b → T b) : But T w w' := ⟨h.os, h.tape, h.output, h.size, fun b hb hn => h.block b hb (fun hs => hn (hST b hb hs))⟩
theorem But.of_below {S : Nat → Prop} {w w' : World} (h : Below w.heap.size w w') : But S w w' := ⟨h.os, h.tape, h.output, h.size, fun b hb _ => h.block b hb⟩
theorem But.below {S : Nat → Prop} {w w' : World} {base : Nat} (h : But S w w') (hb : base ≤ w.heap.size) (hS : ∀ b, S b → base ≤ b) : Below base w w' :=
  ⟨h.os, h.tape, h.output, h.size, fun k hk => h.block k (by omega) (fun hs => by have := hS k hs; omega)⟩
theorem But.grown {S : Nat → Prop} {a w w' : World} {row : Option Nat} (h : But S a w) (hg : w.grownBy w' row) (hr : ∀ k, row = some k → k < a.heap.size → S k) : But S a w' :=
  ⟨hg.os.trans h.os, hg.tape.trans h.tape, hg.output.trans h.output, Nat.le_trans h.size hg.size, fun b hb hn => (hg.block b (Nat.lt_of_lt_of_le hb h.size) (fun e => hn (hr b e.symm hb))).trans (h.block b hb hn)⟩
theorem But.alloc {S : Nat → Prop} {a w : World} (h : But S a w) (o : Obj) : But S a (w.alloc o) := h.grown (World.grownBy_alloc w o none) (fun _ e => by cases e)
theorem But.drew {S : Nat → Prop} {a w : World} (h : But S a w) : But S a w.drew := ⟨h.os, h.tape, h.output, h.size, h.block⟩
theorem But.set {S : Nat → Prop} {a w : World} (h : But S a w) {b : Nat} (i : Nat) (v : Value) (hb : b < a.heap.size → S b) : But S a (w.setCell ⟨b, i, none⟩ v) :=
  h.grown (row := some b) ⟨rfl, rfl, rfl, by simp [World.setCell], fun k _ hk => Below.heap_setCell _ _ _ k (fun e => hk (by rw [e]))⟩ (fun k e hk => by cases e; exact hb hk)

end Go.Proofs.YtilgikhdamkeoaaGreatDoor

/-
  The Book of the statements: what it is in memory.
-/
namespace Go.Proofs.YtilgikhdamkeoaaGreatDoor
open Go.RowKit

/-- Block kb is a Book that has counted N lists: bs is its row of lists of bytes, ss that of lists of sums; it has no other. -/
def BookAt (w : World) (kb N : Nat) (bs ss : Value) : Prop :=
  w.heap[kb]? = some (.cells #[.int .i64 (N : Int), bs, .slice none 0 0, .slice none 0 0, .slice none 0 0, ss, .slice none 0 0, .slice none 0 0, .slice none 0 0, .slice none 0 0] 44 (0, 0))

theorem BookAt.lt {w : World} {kb N : Nat} {bs ss : Value} (h : BookAt w kb N bs ss) : kb < w.heap.size := (Array.getElem?_eq_some_iff.1 h).1
theorem BookAt.n {w : World} {kb N : Nat} {bs ss : Value} (h : BookAt w kb N bs ss) : w.cell? ⟨kb, 0, none⟩ = some (.int .i64 (N : Int)) := by rw [cell_of_row _ kb 0 _ _ (0, 0) h]; rfl
theorem BookAt.b {w : World} {kb N : Nat} {bs ss : Value} (h : BookAt w kb N bs ss) : w.cell? ⟨kb, 1, none⟩ = some bs := by rw [cell_of_row _ kb 1 _ _ (0, 0) h]; rfl
theorem BookAt.s {w : World} {kb N : Nat} {bs ss : Value} (h : BookAt w kb N bs ss) : w.cell? ⟨kb, 5, none⟩ = some ss := by rw [cell_of_row _ kb 5 _ _ (0, 0) h]; rfl
theorem BookAt.fz {w : World} {kb N : Nat} {bs ss : Value} (h : BookAt w kb N bs ss) (i : Nat) : w.frozen? ⟨kb, i, none⟩ = false := frozen_of_row _ kb i _ _ h
theorem BookAt.other {w : World} {kb N : Nat} {bs ss : Value} (h : BookAt w kb N bs ss) {base : Nat} {e : TypeId} {size n : Nat} {v : Value} {xs : List Value} (he : e ≠ 44) (ho : w.ownsRow base e size v n xs) : v.ownBlock ≠ some kb := by
  rcases ho.2 with ⟨rfl, _⟩ | ⟨g, cap, cur, rfl, _, hg, _⟩
  · simp [Value.ownBlock]
  · intro e'
    obtain rfl : g = kb := by simpa [Value.ownBlock] using e'
    have := (show w.heap[g]? = _ from h).symm.trans hg
    simp at this
    exact he this.2.symm
theorem BookAt.grown {w w' : World} {kb N : Nat} {bs ss : Value} {row : Option Nat} (h : BookAt w kb N bs ss) (hg : w.grownBy w' row) (hne : row ≠ some kb) : BookAt w' kb N bs ss := (hg.block kb h.lt hne.symm).trans h
theorem BookAt.below {w w' : World} {kb N : Nat} {bs ss : Value} (h : BookAt w kb N bs ss) (hb : Below w.heap.size w w') : BookAt w' kb N bs ss := (hb.block kb h.lt).trans h

theorem BookAt.setN {w : World} {kb N : Nat} {bs ss : Value} (h : BookAt w kb N bs ss) (M : Nat) : BookAt (w.setCell ⟨kb, 0, none⟩ (.int .i64 (M : Int))) kb M bs ss := by
  have := heap_setCell_same w kb 0 _ _ (.int .i64 (M : Int)) h
  exact this
theorem BookAt.setB {w : World} {kb N : Nat} {bs ss : Value} (h : BookAt w kb N bs ss) (v : Value) : BookAt (w.setCell ⟨kb, 1, none⟩ v) kb N v ss := by
  have := heap_setCell_same w kb 1 _ _ v h
  exact this
theorem BookAt.setS {w : World} {kb N : Nat} {bs ss : Value} (h : BookAt w kb N bs ss) (v : Value) : BookAt (w.setCell ⟨kb, 5, none⟩ v) kb N bs v := by
  have := heap_setCell_same w kb 5 _ _ v h
  exact this
theorem grown_set (w : World) (b i : Nat) (v : Value) : w.grownBy (w.setCell ⟨b, i, none⟩ v) (some b) :=
  ⟨rfl, rfl, rfl, by simp [World.setCell], fun k _ hk => Below.heap_setCell _ _ _ k (fun e => hk (by rw [e]))⟩

theorem infoHeldByte : (Tryz.prog.info? 75).map (fun i => (i.zero, i.size, i.bytes)) = some (some (.agg #[.slice none 0 0, .slice none 0 0, .int .i64 0]), 3, 56) := by kernel_rfl

end Go.Proofs.YtilgikhdamkeoaaGreatDoor

/-
  The Book of the statements: marks are written into every list of bytes.
-/
namespace Go.Proofs.YtilgikhdamkeoaaGreatDoor
open Go.RowKit

/-- A list that is kept: its value, the longer one, how many elements it has, its number. -/
structure Held where
  A : Option Addr
  len : Nat
  c : Nat
  A2 : Option Addr
  len2 : Nat
  c2 : Nat
  num : Nat

def Held.v (h : Held) : Value := .slice h.A h.len h.c
def Held.long (h : Held) : Value := .slice h.A2 h.len2 h.c2

/-- The cells of a row of such. -/
def heldCells (hs : List Held) : List Value := hs.flatMap fun h => [h.v, h.long, .int .i64 (h.num : Int)]

theorem heldCells_cons (h : Held) (hs : List Held) : heldCells (h :: hs) = h.v :: h.long :: .int .i64 (h.num : Int) :: heldCells hs := rfl
theorem heldCells_append (hs ks : List Held) : heldCells (hs ++ ks) = heldCells hs ++ heldCells ks := by simp [heldCells]
theorem heldCells_length (hs : List Held) : (heldCells hs).length = hs.length * 3 := by
  induction hs with
  | nil => rfl
  | cons h hs ih => rw [heldCells_cons]; simp [ih]; omega
theorem heldCells_get {hs : List Held} {i : Nat} {h : Held} (hi : hs[i]? = some h) : (heldCells hs)[i * 3]? = some h.v ∧ (heldCells hs)[i * 3 + 1]? = some h.long ∧ (heldCells hs)[i * 3 + 2]? = some (.int .i64 (h.num : Int)) := by
  induction hs generalizing i with
  | nil => simp at hi
  | cons k hs ih =>
    cases i with
    | zero => simp at hi; subst hi; simp [heldCells_cons]
    | succ i =>
      have := ih (i := i) (by simpa using hi)
      rw [heldCells_cons, show (i + 1) * 3 = i * 3 + 1 + 1 + 1 by omega]
      exact this

/-- Rows of unlike element types lie in unlike blocks. -/
theorem rows_ne {w : World} {b1 b2 : Nat} {e1 e2 : TypeId} {s1 s2 n1 n2 : Nat} {v1 v2 : Value} {x1 x2 : List Value} (he : e1 ≠ e2) (h1 : w.ownsRow b1 e1 s1 v1 n1 x1) (h2 : w.ownsRow b2 e2 s2 v2 n2 x2) : v1.ownBlock = none ∨ v1.ownBlock ≠ v2.ownBlock := by
  rcases h1.2 with ⟨rfl, _⟩ | ⟨g, cap, cur, rfl, _, hg, _⟩
  · left; rfl
  · right
    rcases h2.2 with ⟨rfl, _⟩ | ⟨g2, cap2, cur2, rfl, _, hg2, _⟩
    · simp [Value.ownBlock]
    · simp only [Value.ownBlock]
      intro e
      injection e with e
      have e : g = g2 := e
      subst e
      rw [hg] at hg2
      simp at hg2
      exact he hg2.2

theorem own_kept_but {S : Nat → Prop} {w w' : World} {base : Nat} {e : TypeId} {size n : Nat} {v : Value} {xs : List Value} (h : w.ownsRow base e size v n xs) (hb : But S w w') (hn : ∀ b, v.ownBlock = some b → ¬ S b) : w'.ownsRow base e size v n xs := by
  refine ⟨h.1, ?_⟩
  rcases h.2 with hn' | ⟨g, cap, cur, rfl, hbb, hgg, rest⟩
  · exact .inl hn'
  · exact .inr ⟨g, cap, cur, rfl, hbb, (hb.block g (Array.getElem?_eq_some_iff.1 hgg).1 (hn g rfl)).trans hgg, rest⟩
theorem BookAt.but {S : Nat → Prop} {w w' : World} {kb N : Nat} {bs ss : Value} (h : BookAt w kb N bs ss) (hb : But S w w') (hn : ¬ S kb) : BookAt w' kb N bs ss := (hb.block kb h.lt hn).trans h

/-- The mark of a number. -/
def mk (num : Nat) : Value := .int .u8 ((num : Int) % 256)

set_option maxRecDepth 100000 in
set_option maxHeartbeats 400000 in
theorem markByte_any (num : Nat) (w : World) : Calls Tryz.prog 56 #[.int .i64 (num : Int)] w fun e w' => e = .returned (.int .u8 ((num : Int) % 256)) ∧ w = w' := by
  go_enter Tryz.func56, Tryz.ntmps56
  go_wp2
  go_ret
  exact ⟨rfl, rfl⟩

/-- One element more of an owned row of bytes is written. -/
theorem own_set {w : World} {base g len cap k : Nat} {xs : List Value} {u : Value} (h : w.ownsRow base 5 1 (.slice (some ⟨g, 0, none⟩) len cap) len xs) (hk : k < len) (ht : xs.take k = List.replicate k u) :
    ∃ ys, (w.setCell ⟨g, k, none⟩ u).ownsRow base 5 1 (.slice (some ⟨g, 0, none⟩) len cap) len ys ∧ ys.take (k + 1) = List.replicate (k + 1) u := by
  rcases h.2 with ⟨e, _⟩ | ⟨g', cap', cur, e, hb, hg, hle, hm, hs, htk⟩
  · cases e
  · cases e
    have hl := h.1
    refine ⟨xs.set k u, ⟨by simpa using hl, .inr ⟨g, cap, cur.setIfInBounds k u, rfl, hb, heap_setCell_same w g k cur _ u hg, hle, hm, by simp [hs], ?_⟩⟩, ?_⟩
    · rw [Array.toList_setIfInBounds, List.take_set, htk]
    · have e1 : (xs.set k u).take k = xs.take k := by rw [List.take_set, List.set_eq_of_length_le (by rw [List.length_take]; omega)]
      have e2 : (xs.set k u)[k]? = some u := by rw [List.getElem?_set_self]; omega
      rw [List.take_add_one, e1, e2, ht, List.replicate_succ']
      rfl
theorem own_cellAt {w : World} {base g len cap k : Nat} {xs : List Value} {e : TypeId} (h : w.ownsRow base e 1 (.slice (some ⟨g, 0, none⟩) len cap) len xs) (hk : k < len) : (∃ u, w.cell? ⟨g, k, none⟩ = some u) ∧ w.frozen? ⟨g, k, none⟩ = false := by
  rcases h.2 with ⟨e, _⟩ | ⟨g', cap', cur, e, hb, hg, hle, hm, hs, htk⟩
  · cases e
  · cases e
    exact ⟨⟨cur[k]'(by omega), by rw [cell_of_row _ g k _ _ (0, 0) hg]; exact Array.getElem?_eq_getElem (by omega)⟩, frozen_of_row _ g k _ _ hg⟩

/-- What is asked of the lists of bytes of a Book: each owns its row; no two the same block. -/
structure Lists (w : World) (base : Nat) (hs : List Held) : Prop where
  own : ∀ (i : Nat) (h : Held), hs[i]? = some h → ∃ xs, w.ownsRow base 5 1 h.v h.len xs
  apart : ∀ (i j : Nat) (h k : Held), hs[i]? = some h → hs[j]? = some k → i ≠ j → h.v.ownBlock = none ∨ h.v.ownBlock ≠ k.v.ownBlock

/-- The blocks of the lists. -/
def inLists (hs : List Held) (b : Nat) : Prop := ∃ (i : Nat) (h : Held), hs[i]? = some h ∧ h.v.ownBlock = some b

/-- The first i lists have their marks. -/
def Filled (w : World) (base : Nat) (hs : List Held) (i : Nat) : Prop :=
  ∀ (j : Nat) (h : Held), hs[j]? = some h → ∃ xs, w.ownsRow base 5 1 h.v h.len xs ∧ (j < i → xs = List.replicate h.len (mk h.num))

theorem own_form3 {w : World} {base : Nat} {e : TypeId} {size n : Nat} {v : Value} {xs : List Value} (h : w.ownsRow base e size v n xs) : ∃ A c, v = .slice A n c := by
  rcases h.2 with ⟨rfl, rfl⟩ | ⟨g, cap, cur, rfl, _⟩
  · exact ⟨_, _, rfl⟩
  · exact ⟨_, _, rfl⟩

set_option maxRecDepth 100000 in
set_option maxHeartbeats 2000000 in
theorem fillByte_any (kb N base K : Nat) (bs ss : Value) (hs : List Held) (w : World) (hbk : BookAt w kb N bs ss) (hown : w.ownsRow base 75 3 bs K (heldCells hs)) (hlist : Lists w base hs)
    (hK : K ≤ 1000000) (hlen : ∀ (i : Nat) (h : Held), hs[i]? = some h → h.len ≤ 1000000000) :
    Calls Tryz.prog 19 #[.pointer (some ⟨kb, 0, none⟩)] w fun e w' => e = .returned (.tuple #[]) ∧
      Filled w' base hs K ∧ But (inLists hs) w w' := by
  have hKl : hs.length = K := by have := hown.1; rw [heldCells_length] at this; omega
  have HKl := Lib.hid hKl
  clear hKl
  obtain ⟨Ab, cb, rfl⟩ := own_form3 hown
  have h1 := hbk.b
  go_enter Tryz.func19, Tryz.ntmps19
  go_wp2
  go_loopw [2] (fun i wr => ∃ j : Nat, j ≤ K ∧ i = .int .i64 (j : Int) ∧ Filled wr base hs j ∧ But (inLists hs) w wr) (fun i _ => K - (intOf i).toNat)
  case atStart => exact ⟨0, Nat.zero_le _, rfl, fun j h hj => by obtain ⟨xs, hx⟩ := hlist.own j h hj; exact ⟨xs, hx, fun h => by omega⟩, But.refl _ _⟩
  case round =>
    obtain ⟨j, hj, rfl, hfl, hbut⟩ := hrel
    obtain ⟨wo, rfl⟩ : ∃ wo : World, wo = wr := ⟨_, rfl⟩
    have nokb : ¬ inLists hs kb := by
      rintro ⟨i, h, hi, he⟩
      obtain ⟨xs, hx⟩ := hlist.own i h hi
      exact hbk.other (by decide) hx he
    have hbk2 := hbk.but hbut nokb
    have hown2 := own_kept_but hown hbut (by
      rintro b hb ⟨i, h, hi, he⟩
      obtain ⟨xs, hx⟩ := hlist.own i h hi
      rcases rows_ne (by decide) hx hown with h0 | h0
      · rw [h0] at he; cases he
      · exact h0 (he.trans hb.symm))
    have h2 := hbk2.b
    by_cases hlt : j < K
    · obtain ⟨h, hh⟩ : ∃ h, hs[j]? = some h := ⟨_, List.getElem?_eq_getElem (by rw [HKl.out]; exact hlt)⟩
      obtain ⟨g1, g2, g3⟩ := heldCells_get hh
      rcases hown2.2 with ⟨e, h0⟩ | ⟨gb, cap, cur, e, hbb, hgb, hle, hm, hsz, htk⟩
      · omega
      · cases e
        have p1 : wo.cell? ⟨gb, j * 3, none⟩ = some h.v := by
          have := hown2.cells (g := gb) rfl _ _ g1
          rwa [Addr.add_lit, Nat.zero_add] at this
        have p2 : wo.cell? ⟨gb, j * 3 + 1, none⟩ = some h.long := by
          have := hown2.cells (g := gb) rfl _ _ g2
          rwa [Addr.add_lit, Nat.zero_add] at this
        have p3 : wo.cell? ⟨gb, j * 3 + 2, none⟩ = some (.int .i64 (h.num : Int)) := by
          have := hown2.cells (g := gb) rfl _ _ g3
          rwa [Addr.add_lit, Nat.zero_add] at this
        have i1 : (j : Int) < (K : Int) := by omega
        obtain ⟨xs0, hx0, _⟩ := hfl j h hh
        have hl0 := hlen j h hh
        have hin0 : ∀ b, h.v.ownBlock = some b → inLists hs b := fun b hb => ⟨j, h, hh, hb⟩
        have hrest : ∀ wi, But (fun b => h.v.ownBlock = some b) wo wi → (∃ xs, wi.ownsRow base 5 1 h.v h.len xs ∧ xs = List.replicate h.len (mk h.num)) → Filled wi base hs (j + 1) := by
          intro wi hbi hrow j' h' hj'
          by_cases e : j' = j
          · subst e
            rw [hh] at hj'
            cases hj'
            obtain ⟨xs, r1, r2⟩ := hrow
            exact ⟨xs, r1, fun _ => r2⟩
          · obtain ⟨xs, r1, r2⟩ := hfl j' h' hj'
            refine ⟨xs, own_kept_but r1 hbi (fun b hb hb' => ?_), fun hlt' => r2 (by omega)⟩
            rcases hlist.apart j' j h' h hj' hh e with h0 | h0
            · rw [h0] at hb; cases hb
            · exact h0 (hb.trans hb'.symm)
        have HR := Lib.hid hrest
        have HI := Lib.hid hin0
        have HF := Lib.hid hfl
        clear hrest hin0 hfl g1 g2 g3 hh
        obtain ⟨A, n, c, A2, n2, c2, num⟩ := h
        simp only [Held.v, Held.long] at p1 p2 p3 hx0 hl0
        go_wp2
        have hx1 := hx0.alloc (.cells #[.slice A n c, .slice A2 n2 c2, .int .i64 (num : Int)] 75)
        have hlt0 := hx0.lt
        obtain ⟨wa, hwa⟩ : ∃ wa, wo.alloc (.cells #[.slice A n c, .slice A2 n2 c2, .int .i64 (num : Int)] 75) = wa := ⟨_, rfl⟩
        have hba : But (fun b => (Value.slice A n c).ownBlock = some b) wo wa := by rw [← hwa]; exact (But.refl _ _).alloc _
        have hha : wa.heap[wo.heap.size]? = some (.cells #[.slice A n c, .slice A2 n2 c2, .int .i64 (num : Int)] 75 (0, 0)) := by rw [← hwa]; exact World.alloc_heap_new wo _
        rw [hwa] at hx1 ⊢
        have HH := Lib.hid hha
        clear hwa hha
        go_loopw [4] (fun i wi => ∃ (k : Nat) (xs : List Value), k ≤ n ∧ i = .int .i64 (k : Int) ∧ wi.ownsRow base 5 1 (.slice A n c) n xs ∧ xs.take k = List.replicate k (mk num) ∧ But (fun b => (Value.slice A n c).ownBlock = some b) wa wi) (fun i _ => n - (intOf i).toNat)
        case atStart => exact ⟨0, xs0, Nat.zero_le _, rfl, hx1, by simp, But.refl _ _⟩
        case round =>
          obtain ⟨k, xs, hk, rfl, hox, htx, hbi⟩ := hrel
          have hhi : wr.heap[wo.heap.size]? = some (.cells #[.slice A n c, .slice A2 n2 c2, .int .i64 (num : Int)] 75 (0, 0)) :=
            (hbi.block _ (Array.getElem?_eq_some_iff.1 HH.out).1 (fun e => by have := (hlt0 _ e).2; omega)).trans HH.out
          have q0 : wr.cell? ⟨wo.heap.size, 0, none⟩ = some (.slice A n c) := by rw [cell_of_row _ _ 0 _ _ (0, 0) hhi]; rfl
          have q2 : wr.cell? ⟨wo.heap.size, 2, none⟩ = some (.int .i64 (num : Int)) := by rw [cell_of_row _ _ 2 _ _ (0, 0) hhi]; rfl
          clear hhi
          have HT := Lib.hid htx
          clear htx
          by_cases hlt2 : k < n
          · obtain ⟨g, rfl⟩ : ∃ g, A = some ⟨g, 0, none⟩ := by
              rcases hox.2 with ⟨e, h0⟩ | ⟨g, cap, cur, e, _⟩
              · omega
              · cases e; exact ⟨g, rfl⟩
            obtain ⟨⟨u, hcu⟩, hfu⟩ := own_cellAt hox hlt2
            obtain ⟨ys, hoy, hty⟩ := own_set hox hlt2 HT.out
            have HY := Lib.hid hty
            clear hty
            have i2 : (k : Int) < (n : Int) := by omega
            go_wp2
            go_region_law ((go_simp; go_at_call 56; refine (markByte_any num _).mono ?_; rintro e w' ⟨rfl, rfl⟩))
            all_goals
              go_wp2
              go_roundw
              case rel => exact ⟨k + 1, ys, by omega, by go_num, hoy.drew, HY.out, (hbi.set k _ (fun _ => rfl)).drew⟩
              case measure => simp [intOf]; omega
          · obtain rfl : k = n := by omega
            have hfin : Filled wr base hs (j + 1) := HR.out wr (hba.trans hbi) ⟨xs, hox, by
              have e := HT.out
              rwa [List.take_of_length_le (by have := hox.1; omega)] at e⟩
            have hbo : But (inLists hs) w wr := hbut.trans ((hba.trans hbi).mono (fun b _ hb => HI.out b hb))
            clear HR HI HF
            go_wp2
            go_roundw
            case rel => exact ⟨j + 1, by omega, by go_num, hfin, hbo⟩
            case measure => simp [intOf]; omega
    · obtain rfl : j = K := by omega
      go_wp2
      go_end0
      exact ⟨rfl, hfl, hbut⟩

end Go.Proofs.YtilgikhdamkeoaaGreatDoor

/-
  Rows of sums of the call's own: one sum is written; a sum is read; marks.
-/
namespace Go.Proofs.YtilgikhdamkeoaaGreatDoor
open Go.RowKit

theorem take_splice {α : Type} (l c : List α) (o n : Nat) (h : o + c.length ≤ n) (hn : n ≤ l.length) : (splice l o c).take n = splice (l.take n) o c := by
  unfold splice
  have h1 : (l.take o).length = o := by rw [List.length_take]; omega
  rw [List.take_append, List.take_append, h1, List.take_take, List.take_take, List.drop_take]
  rw [show min n o = o by omega, show min o n = o by omega, List.take_of_length_le (show c.length ≤ n - o by omega), show n - o - c.length = n - (o + c.length) by omega]

/-- n marks of a number, one behind the other. -/
def marks (n num : Nat) : List Value := bvs (List.replicate n (mark32 num)).flatten
theorem marks_length (n num : Nat) : (marks n num).length = n * 32 := by
  unfold marks
  rw [bvs_length, List.length_flatten, List.map_replicate, List.sum_replicate_nat, mark32_length]
theorem marks_snoc (n num : Nat) : marks (n + 1) num = marks n num ++ bvs (mark32 num) := by
  unfold marks
  rw [List.replicate_succ', List.flatten_append, bvs_append]
  simp
theorem marks_add (n m num : Nat) : marks (n + m) num = marks n num ++ marks m num := by
  unfold marks
  rw [← List.replicate_append_replicate, List.flatten_append, bvs_append]
theorem marks_oneCell (n num : Nat) : ∀ v ∈ marks n num, v.oneCell' = true := bvs_oneCell _
theorem marks_at (n num k : Nat) (hk : k < n) : ∀ j x, (mark32 num)[j]? = some x → (marks n num)[k * 32 + j]? = some (bv x) := by
  intro j x hx
  obtain ⟨m, rfl⟩ : ∃ m, n = k + (1 + m) := ⟨n - k - 1, by omega⟩
  have hj := (List.getElem?_eq_some_iff.1 hx).1
  rw [mark32_length] at hj
  rw [marks_add, List.getElem?_append_right (by rw [marks_length]; omega), marks_length, Nat.add_sub_cancel_left, marks_add, List.getElem?_append_left (by rw [marks_length]; omega)]
  have : marks 1 num = bvs (mark32 num) := by unfold marks; simp
  rw [this, bvs_get, hx]
  rfl

/-- A sum of a row of the call's own is written. -/
theorem own_put {w : World} {base g len cap k : Nat} {xs cs : List Value} {e : TypeId} (h : w.ownsRow base e 32 (.slice (some ⟨g, 0, none⟩) len cap) len xs) (hk : k < len) (hc : cs.length = 32) :
    ∃ cur : List Value, w.heap[g]? = some (.cells cur.toArray e (0, 0)) ∧ k * 32 + 32 ≤ cur.length ∧ (w.setRow g (splice cur (k * 32) cs).toArray).ownsRow base e 32 (.slice (some ⟨g, 0, none⟩) len cap) len (splice xs (k * 32) cs) := by
  rcases h.2 with ⟨e, _⟩ | ⟨g', cap', cur, e, hb, hg, hle, hm, hs, htk⟩
  · cases e
  · cases e
    have hl : cur.toList.length = cap * 32 := by rw [Array.length_toList, hs]
    have hxl := h.1
    refine ⟨cur.toList, by simpa using hg, by omega, ⟨by rw [length_splice _ _ _ (by omega)]; exact hxl, .inr ⟨g, cap, _, rfl, hb, setRow_heap w g cur _ _ (0, 0) hg, hle, hm, by rw [List.size_toArray, length_splice _ _ _ (by omega), hl], ?_⟩⟩⟩
    rw [List.toList_toArray, take_splice _ _ _ _ (by omega) (by omega), htk]

theorem But.setRow {S : Nat → Prop} {a w : World} (h : But S a w) {b : Nat} (cs : Array Value) (hb : b < a.heap.size → S b) : But S a (w.setRow b cs) :=
  h.grown (row := some b) ⟨rfl, rfl, rfl, by rw [size_setRow]; exact Nat.le_refl _, fun k _ hk => setRow_other w b k _ (fun e => hk (by rw [e]))⟩ (fun k e hk => by cases e; exact hb hk)

/-- A value of as many cells as its variable has goes into a block from an offset on. -/
theorem wpList_store_at {ops : Array Oper} {rest : List Oper} {o : Oper} {a : Act} {w : World} {Q : Exit → Act → World → Prop} (hgd : o.guard = none) (ty : TypeId) (x y : Operand) (ho : o.op = .store ty x y)
    (g off : Nat) (cs cur : List Value) (t : TypeId) (hx : a.eval x = .pointer (some ⟨g, off, none⟩)) (hy : a.eval y = .agg cs.toArray) (hg : w.heap[g]? = some (.cells cur.toArray t (0, 0)))
    (hi : (Tryz.prog.info? ty).map (·.size) = some cs.length) (hfit : off + cs.length ≤ cur.length) (h1 : ∀ v ∈ cs, v.oneCell' = true)
    (h : wpList Tryz.prog ops Q rest (a.put o.dst undef) (w.setRow g (splice cur off cs).toArray)) : wpList Tryz.prog ops Q (o :: rest) a w := by
  refine wpList_plain hgd fun K hK => ?_
  have hst := run_storeCells_at Tryz.prog g off t cs 0 cur.toArray w hg (by simpa using hfit) h1
  simp only [Nat.add_zero] at hst
  cases hq : Tryz.prog.info? ty with
  | none => simp [hq] at hi
  | some i =>
    have hs : cs.length = i.size := by simp [hq] at hi; omega
    have hrun : (storeVar ty ⟨g, off, none⟩ (.agg cs.toArray)).run Tryz.prog w = .ok () (w.setRow g (splice cur off cs).toArray) := by
      simp [storeVar, sizeOf, typeInfo, hq, Value.cells, hs, hst, splice]
    unfold Oper.wp execOp
    simp only [ho, hx, hy, Instr.storeAt, Instr.sureAddr, Sem.run_bind, Sem.run_pure, Result.andThen_ok, hrun]
    exact hK _ _ h

/-- One cell is read, in every world of a class. -/
theorem quiet_load_cell {ops : Array Oper} {o : Oper} {a : Act} {C : World → Prop} {K : Act → Prop} {E : Prop} (hw : Region.wanted o (yielded ops a.tmps) = true) (ty : TypeId) (hagg : ∀ w, (isAgg ty).run Tryz.prog w = .ok false w) (x : Operand) (ho : o.op = .load ty x)
    (ad : Addr) (hx : a.eval x = .pointer (some ad)) (v : Value) (hc : ∀ w, C w → w.cell? ad = some v) (h : K (a.put o.dst v)) :
    if Region.wanted o (yielded ops a.tmps) = true then o.quiet Tryz.prog a C K else E := by
  rw [if_pos hw]
  refine ⟨v, fun w hC => ?_, h⟩
  unfold Oper.quietAt execOp
  have hl : (loadVar ty ad).run Tryz.prog w = .ok v w := by simp [loadVar, Sem.run_bind, hagg, hc w hC]
  simp only [ho, hx, Instr.loadAt, Instr.sureAddr, Sem.run_bind, Sem.run_pure, Result.andThen_ok, hl]
  exact ⟨rfl, rfl⟩
theorem agg_sums (w : World) : (isAgg 22).run Tryz.prog w = .ok false w := by
  unfold isAgg
  rw [Sem.run_bind, run_underlying Tryz.underlying22 w]
  rfl
theorem agg_int (w : World) : (isAgg 3).run Tryz.prog w = .ok false w := by
  unfold isAgg
  rw [Sem.run_bind, run_underlying Tryz.underlying3 w]
  rfl

/-- One mark more of an owned row of sums. -/
theorem own_mark_put {w : World} {base g len cap k num : Nat} {xs : List Value} (h : w.ownsRow base 25 32 (.slice (some ⟨g, 0, none⟩) len cap) len xs) (hk : k < len) (ht : xs.take (k * 32) = marks k num) :
    ∃ cur : List Value, w.heap[g]? = some (.cells cur.toArray 25 (0, 0)) ∧ k * 32 + 32 ≤ cur.length ∧ ∃ ys, (w.setRow g (splice cur (k * 32) (bvs (mark32 num))).toArray).ownsRow base 25 32 (.slice (some ⟨g, 0, none⟩) len cap) len ys ∧ ys.take ((k + 1) * 32) = marks (k + 1) num := by
  obtain ⟨cur, h1, h2, h3⟩ := own_put (cs := bvs (mark32 num)) h hk (by rw [bvs_length, mark32_length])
  refine ⟨cur, h1, h2, _, h3, ?_⟩
  have hl := h.1
  have hm : (bvs (mark32 num)).length = 32 := by rw [bvs_length, mark32_length]
  unfold splice
  have e1 : (xs.take (k * 32)).length = k * 32 := by rw [List.length_take]; omega
  rw [← List.append_assoc, List.take_append_of_le_length (by rw [List.length_append, e1, hm]; omega), List.take_of_length_le (by rw [List.length_append, e1, hm]; omega), ht, ← marks_snoc]

end Go.Proofs.YtilgikhdamkeoaaGreatDoor

/-
  The Book of the statements: marks are written into every list of sums.
-/
namespace Go.Proofs.YtilgikhdamkeoaaGreatDoor
open Go.RowKit

/-- What is asked of the lists of sums of a Book: each owns its row; no two the same block. -/
structure ListsS (w : World) (base : Nat) (hs : List Held) : Prop where
  own : ∀ (i : Nat) (h : Held), hs[i]? = some h → ∃ xs, w.ownsRow base 25 32 h.v h.len xs
  apart : ∀ (i j : Nat) (h k : Held), hs[i]? = some h → hs[j]? = some k → i ≠ j → h.v.ownBlock = none ∨ h.v.ownBlock ≠ k.v.ownBlock

/-- The first i lists have their marks. -/
def FilledS (w : World) (base : Nat) (hs : List Held) (i : Nat) : Prop :=
  ∀ (j : Nat) (h : Held), hs[j]? = some h → ∃ xs, w.ownsRow base 25 32 h.v h.len xs ∧ (j < i → xs = marks h.len h.num)

set_option maxRecDepth 100000 in
set_option maxHeartbeats 2000000 in
theorem fillSum_any (kb N base K : Nat) (bs ss : Value) (hs : List Held) (w : World) (hbk : BookAt w kb N bs ss) (hown : w.ownsRow base 72 3 ss K (heldCells hs)) (hlist : ListsS w base hs)
    (hK : K ≤ 1000000) (hlen : ∀ (i : Nat) (h : Held), hs[i]? = some h → h.len ≤ 1000000000) :
    Calls Tryz.prog 23 #[.pointer (some ⟨kb, 0, none⟩)] w fun e w' => e = .returned (.tuple #[]) ∧
      FilledS w' base hs K ∧ But (inLists hs) w w' := by
  have hKl : hs.length = K := by have := hown.1; rw [heldCells_length] at this; omega
  have HKl := Lib.hid hKl
  clear hKl
  obtain ⟨Ab, cb, rfl⟩ := own_form3 hown
  have h1 := hbk.s
  go_enter Tryz.func23, Tryz.ntmps23
  go_wp2
  go_loopw [2] (fun i wr => ∃ j : Nat, j ≤ K ∧ i = .int .i64 (j : Int) ∧ FilledS wr base hs j ∧ But (inLists hs) w wr) (fun i _ => K - (intOf i).toNat)
  case atStart => exact ⟨0, Nat.zero_le _, rfl, fun j h hj => by obtain ⟨xs, hx⟩ := hlist.own j h hj; exact ⟨xs, hx, fun h => by omega⟩, But.refl _ _⟩
  case round =>
    obtain ⟨j, hj, rfl, hfl, hbut⟩ := hrel
    obtain ⟨wo, rfl⟩ : ∃ wo : World, wo = wr := ⟨_, rfl⟩
    have nokb : ¬ inLists hs kb := by
      rintro ⟨i, h, hi, he⟩
      obtain ⟨xs, hx⟩ := hlist.own i h hi
      exact hbk.other (by decide) hx he
    have hbk2 := hbk.but hbut nokb
    have hown2 := own_kept_but hown hbut (by
      rintro b hb ⟨i, h, hi, he⟩
      obtain ⟨xs, hx⟩ := hlist.own i h hi
      rcases rows_ne (by decide) hx hown with h0 | h0
      · rw [h0] at he; cases he
      · exact h0 (he.trans hb.symm))
    have h2 := hbk2.s
    by_cases hlt : j < K
    · obtain ⟨h, hh⟩ : ∃ h, hs[j]? = some h := ⟨_, List.getElem?_eq_getElem (by rw [HKl.out]; exact hlt)⟩
      obtain ⟨g1, g2, g3⟩ := heldCells_get hh
      rcases hown2.2 with ⟨e, h0⟩ | ⟨gb, cap, cur, e, hbb, hgb, hle, hm, hsz, htk⟩
      · omega
      · cases e
        have p1 : wo.cell? ⟨gb, j * 3, none⟩ = some h.v := by
          have := hown2.cells (g := gb) rfl _ _ g1
          rwa [Addr.add_lit, Nat.zero_add] at this
        have p2 : wo.cell? ⟨gb, j * 3 + 1, none⟩ = some h.long := by
          have := hown2.cells (g := gb) rfl _ _ g2
          rwa [Addr.add_lit, Nat.zero_add] at this
        have p3 : wo.cell? ⟨gb, j * 3 + 2, none⟩ = some (.int .i64 (h.num : Int)) := by
          have := hown2.cells (g := gb) rfl _ _ g3
          rwa [Addr.add_lit, Nat.zero_add] at this
        have i1 : (j : Int) < (K : Int) := by omega
        obtain ⟨xs0, hx0, _⟩ := hfl j h hh
        have hl0 := hlen j h hh
        have hin0 : ∀ b, h.v.ownBlock = some b → inLists hs b := fun b hb => ⟨j, h, hh, hb⟩
        have hrest : ∀ wi, But (fun b => h.v.ownBlock = some b) wo wi → (∃ xs, wi.ownsRow base 25 32 h.v h.len xs ∧ xs = marks h.len h.num) → FilledS wi base hs (j + 1) := by
          intro wi hbi hrow j' h' hj'
          by_cases e : j' = j
          · subst e
            rw [hh] at hj'
            cases hj'
            obtain ⟨xs, r1, r2⟩ := hrow
            exact ⟨xs, r1, fun _ => r2⟩
          · obtain ⟨xs, r1, r2⟩ := hfl j' h' hj'
            refine ⟨xs, own_kept_but r1 hbi (fun b hb hb' => ?_), fun hlt' => r2 (by omega)⟩
            rcases hlist.apart j' j h' h hj' hh e with h0 | h0
            · rw [h0] at hb; cases hb
            · exact h0 (hb.trans hb'.symm)
        have HR := Lib.hid hrest
        have HI := Lib.hid hin0
        have HF := Lib.hid hfl
        clear hrest hin0 hfl g1 g2 g3 hh
        obtain ⟨A, n, c, A2, n2, c2, num⟩ := h
        simp only [Held.v, Held.long] at p1 p2 p3 hx0 hl0
        go_wp2
        have hx1 := hx0.alloc (.cells #[.slice A n c, .slice A2 n2 c2, .int .i64 (num : Int)] 72)
        have hlt0 := hx0.lt
        obtain ⟨wa, hwa⟩ : ∃ wa, wo.alloc (.cells #[.slice A n c, .slice A2 n2 c2, .int .i64 (num : Int)] 72) = wa := ⟨_, rfl⟩
        have hba : But (fun b => (Value.slice A n c).ownBlock = some b) wo wa := by rw [← hwa]; exact (But.refl _ _).alloc _
        have hha : wa.heap[wo.heap.size]? = some (.cells #[.slice A n c, .slice A2 n2 c2, .int .i64 (num : Int)] 72 (0, 0)) := by rw [← hwa]; exact World.alloc_heap_new wo _
        rw [hwa] at hx1 ⊢
        have HH := Lib.hid hha
        clear hwa hha
        go_loopw [4] (fun i wi => ∃ (k : Nat) (xs : List Value), k ≤ n ∧ i = .int .i64 (k : Int) ∧ wi.ownsRow base 25 32 (.slice A n c) n xs ∧ xs.take (k * 32) = marks k num ∧ But (fun b => (Value.slice A n c).ownBlock = some b) wa wi) (fun i _ => n - (intOf i).toNat)
        case atStart => exact ⟨0, xs0, Nat.zero_le _, rfl, hx1, by simp [marks, bvs], But.refl _ _⟩
        case round =>
          obtain ⟨k, xs, hk, rfl, hox, htx, hbi⟩ := hrel
          have hhi : wr.heap[wo.heap.size]? = some (.cells #[.slice A n c, .slice A2 n2 c2, .int .i64 (num : Int)] 72 (0, 0)) :=
            (hbi.block _ (Array.getElem?_eq_some_iff.1 HH.out).1 (fun e => by have := (hlt0 _ e).2; omega)).trans HH.out
          have q0 : wr.cell? ⟨wo.heap.size, 0, none⟩ = some (.slice A n c) := by rw [cell_of_row _ _ 0 _ _ (0, 0) hhi]; rfl
          have q2 : wr.cell? ⟨wo.heap.size, 2, none⟩ = some (.int .i64 (num : Int)) := by rw [cell_of_row _ _ 2 _ _ (0, 0) hhi]; rfl
          clear hhi
          have HT := Lib.hid htx
          clear htx
          by_cases hlt2 : k < n
          · obtain ⟨g, rfl⟩ : ∃ g, A = some ⟨g, 0, none⟩ := by
              rcases hox.2 with ⟨e, h0⟩ | ⟨g, cap, cur, e, _⟩
              · omega
              · cases e; exact ⟨g, rfl⟩
            have HQ := Lib.hid (And.intro q0 q2)
            have HO := Lib.hid hox
            have CM := Lib.hid (fun (W : World) (_ : Below wr.heap.size wr W) => markSum_any num W)
            have i2 : (k : Int) < (n : Int) := by omega
            clear hox
            go_wp2
            refine wp_region_quiet_tail (C := fun w' => Below wr.heap.size wr w') 7 (by kernel_rfl) (by kernel_rfl) ((Below.refl _ _).drew) ?_
            simp only [List.take_succ_cons, List.take_zero, List.drop_succ_cons, List.drop_zero]
            refine wpQuiet_step (fun K hK => ?_)
            go_simp
            refine ⟨_, fun _ _ => rfl, hK _ ?_⟩
            clear hK K
            refine wpQuiet_step (fun K hK => ?_)
            refine quiet_load_cell (by rfl) 22 agg_sums (.tmp 28) rfl ⟨wo.heap.size, 0, none⟩ rfl (.slice (some ⟨g, 0, none⟩) n c) (fun W hC => (hC.cell (World.block_lt_of_cell? wr _ HQ.out.1)).trans HQ.out.1) (hK _ ?_)
            clear hK K
            iterate 2 (refine wpQuiet_step (fun K hK => ?_); go_simp; refine ⟨_, fun _ _ => rfl, hK _ ?_⟩; clear hK K)
            refine wpQuiet_step (fun K hK => ?_)
            refine quiet_load_cell (by rfl) 3 agg_int (.tmp 31) rfl ⟨wo.heap.size, 2, none⟩ rfl (.int .i64 (num : Int)) (fun W hC => (hC.cell (World.block_lt_of_cell? wr _ HQ.out.2)).trans HQ.out.2) (hK _ ?_)
            clear hK K
            refine wpQuiet_step (fun K hK => ?_)
            go_simp
            refine ⟨sv (mark32 num), fun W hC => (CM.out W hC).mono fun e w'' ⟨he, hb'⟩ => ⟨he, below_on hC (Nat.le_refl _) hb'⟩, hK _ ?_⟩
            clear hK K
            refine wpQuiet_step (fun K hK => ?_)
            go_simp
            refine ⟨_, fun _ _ => rfl, hK _ ?_⟩
            clear hK K
            refine wpQuiet_nil ?_
            intro w6 hb6
            obtain ⟨cur, hcur, hfit, ys, hoy, hty⟩ := own_mark_put (own_on HO.out hb6) hlt2 HT.out
            refine wpList_store_at rfl 25 (.tmp 34) (.tmp 33) rfl g (k * 32) (bvs (mark32 num)) cur 25 rfl rfl hcur (by rw [bvs_length, mark32_length]; exact sizeSum) (by rw [bvs_length, mark32_length]; exact hfit) (bvs_oneCell _) ?_
            have HY := Lib.hid (And.intro hoy hty)
            have HB := Lib.hid ((hbi.trans (But.of_below hb6)).setRow (b := g) (splice cur (k * 32) (bvs (mark32 num))).toArray (fun _ => rfl))
            clear hcur hfit hoy hty hbi
            go_wp2
            go_roundw
            case rel => exact ⟨k + 1, ys, by omega, by go_num, HY.out.1, HY.out.2, HB.out⟩
            case measure => simp [intOf]; omega
          · obtain rfl : k = n := by omega
            have hfin : FilledS wr base hs (j + 1) := HR.out wr (hba.trans hbi) ⟨xs, hox, by
              have e := HT.out
              rwa [List.take_of_length_le (by have := hox.1; omega)] at e⟩
            have hbo : But (inLists hs) w wr := hbut.trans ((hba.trans hbi).mono (fun b _ hb => HI.out b hb))
            clear HR HI HF
            go_wp2
            go_roundw
            case rel => exact ⟨j + 1, by omega, by go_num, hfin, hbo⟩
            case measure => simp [intOf]; omega
    · obtain rfl : j = K := by omega
      go_wp2
      go_end0
      exact ⟨rfl, hfl, hbut⟩

end Go.Proofs.YtilgikhdamkeoaaGreatDoor

/-
  The Book of the statements: each list of sums is made longer, mark by mark.
-/
namespace Go.Proofs.YtilgikhdamkeoaaGreatDoor
open Go.RowKit

/-- The beginning of an owned row of sums. -/
theorem sub_rowS {w : World} {base : Nat} {e : TypeId} {g n m c : Nat} {xs ys : List Value} (h : w.ownsRow base e 32 (.slice (some ⟨g, 0, none⟩) m c) m (xs ++ ys)) (hx : xs.length = n * 32) : w.ownsRow base e 32 (.slice (some ⟨g, 0, none⟩) n c) n xs := by
  rcases h.2 with ⟨e1, _⟩ | ⟨g', cap, cur, e1, hb, hg, hle, hm, hs, ht⟩
  · cases e1
  · cases e1
    have hl := h.1
    rw [List.length_append, hx] at hl
    refine ⟨hx, .inr ⟨g, c, cur, rfl, hb, hg, by omega, hm, hs, ?_⟩⟩
    have e2 := congrArg (List.take (n * 32)) ht
    have e3 : List.take (n * 32) (xs ++ ys) = xs := by
      rw [List.take_append_of_le_length (by omega), List.take_of_length_le (by omega)]
    have e4 : min (n * 32) (m * 32) = n * 32 := by omega
    rw [List.take_take, e4, e3] at e2
    exact e2

/-- One sum behind a full row: a new row. -/
theorem run_app_growS (w : World) (ty : TypeId) (base : Nat) (A : Option Addr) (m c : Nat) (xs news : List Value) (hown : w.ownsRow base 25 32 (.slice A m c) m xs) (hc : c < m + 1) (hm : m ≤ 2000000000)
    (a : Addr) (hnl : news.length = 32) (hnews : ∀ j v, news[j]? = some v → w.cell? (a.add j) = some v) (hbase : base ≤ w.heap.size) :
    ∃ c' w', (Builtin.append_ #[22, 22] ty #[.slice A m c, .slice (some a) 1 1]).run Tryz.prog w = .ok (.slice (some ⟨w.heap.size, 0, none⟩) (m + 1) c') w' ∧
      w'.ownsRow base 25 32 (.slice (some ⟨w.heap.size, 0, none⟩) (m + 1) c') (m + 1) (xs ++ news) ∧ Below w.heap.size w w' := by
  obtain ⟨i0, hi, hz0, hz1, hz2⟩ := info_parts infoSum
  have hzs : (Value.agg (Array.replicate 32 (.int .u8 0))).cells.size = 32 := rfl
  have key : ∀ old, old < m + 1 → (w.drew.alloc (.cells (xs.toArray ++ news.toArray ++ Builtin.zeroCells (Value.agg (Array.replicate 32 (.int .u8 0))).cells (grownCap w (m + 1) old 25 - (m + 1))) 25)).ownsRow base 25 32
      (.slice (some ⟨w.heap.size, 0, none⟩) (m + 1) (grownCap w (m + 1) old 25)) (m + 1) (xs ++ news) := by
    intro old ho
    have hge := grownCap_ge w (m + 1) old 25
    have hcm : grownCap w (m + 1) old 25 ≤ maxLen := grownCap_le_maxLen w (m + 1) old 25 (by unfold maxLen; omega)
    have hl := hown.1
    refine ⟨by rw [List.length_append, hl, hnl]; omega, .inr ⟨w.heap.size, _, _, rfl, hbase, heap_alloc_new w.drew _, hge, hcm, ?_, ?_⟩⟩
    · simp only [Array.size_append, List.size_toArray, size_zeroCells, hl, hnl, hzs]
      omega
    · simp only [Array.toList_append]
      rw [List.take_append_of_le_length (by simp [hl, hnl]; omega)]
      rw [List.take_of_length_le (by simp [hl, hnl]; omega)]
  have hb : ∀ o, Below w.heap.size w (w.drew.alloc o) := fun o => ((Below.refl _ w).drew).alloc (Nat.le_refl _) o
  rcases hown.2 with ⟨e1, h0⟩ | ⟨g, cap, cur, e1, _, _, hle, _, _, _⟩
  · cases e1
    have hx : xs = [] := List.eq_nil_of_length_eq_zero (by have := hown.1; omega)
    subst hx
    have hr := run_append_nil (P := Tryz.prog) w 22 ty 25 i0 _ Tryz.underlying22 hi hz0 a 1 1 news (by rw [hz1, hnl]) hnews (by omega) (by omega) (by rw [hz2]; omega)
    have hk := key 0 (by omega)
    simp only [Nat.zero_add, List.nil_append, Array.empty_append] at hk ⊢
    exact ⟨_, _, hr, hk, hb _⟩
  · cases e1
    have hr := run_append_grow (P := Tryz.prog) w 22 ty 25 i0 _ Tryz.underlying22 hi hz0 ⟨g, 0, none⟩ m c xs (by rw [hz1]; exact hown.1) (hown.cells (g := g) rfl) a 1 1 news (by rw [hz1, hnl]) hnews (by omega) (by omega)
      (by rw [hz2]; exact growslice_fits (by omega) (by omega))
    exact ⟨_, _, hr, key c (by omega), hb _⟩

/-- The state of a list of sums that is being made longer: v is as it was; the longer one lies in its block, or in a new one. -/
def LongerS (base : Nat) (A : Option Addr) (n c : Nat) (num k : Nat) (wa wi : World) (A2 : Option Addr) (c2 : Nat) : Prop :=
  wi.ownsRow base 25 32 (.slice A2 (n + k) c2) (n + k) (marks (n + k) num) ∧ wi.ownsRow base 25 32 (.slice A n c) n (marks n num) ∧
  But (fun b => (Value.slice A n c).ownBlock = some b) wa wi ∧ ((A2 = A ∧ c2 = c) ∨ ∃ g2, A2 = some ⟨g2, 0, none⟩ ∧ wa.heap.size ≤ g2)

/-- One mark more. -/
theorem run_longerS (base : Nat) (A : Option Addr) (n c num k : Nat) (wa w : World) (A2 : Option Addr) (c2 : Nat) (ty : TypeId) (h : LongerS base A n c num k wa w A2 c2) (hwa : ∀ b, (Value.slice A n c).ownBlock = some b → b < wa.heap.size) (hn : n + k ≤ 2000000000) (hbase : base ≤ wa.heap.size)
    (a : Addr) (hu : At w a (mark32 num)) :
    ∃ A3 c3 w', (Builtin.append_ #[22, 22] ty #[.slice A2 (n + k) c2, .slice (some a) 1 1]).run Tryz.prog w = .ok (.slice A3 (n + (k + 1)) c3) w' ∧ LongerS base A n c num (k + 1) wa w' A3 c3 := by
  obtain ⟨h1, h2, h3, h4⟩ := h
  obtain ⟨i0, hi, hz0, hz1, hz2⟩ := info_parts infoSum
  have hsz := h3.size
  have hml : (bvs (mark32 num)).length = 32 := by rw [bvs_length, mark32_length]
  have hrep : marks (n + k) num ++ bvs (mark32 num) = marks (n + (k + 1)) num := by rw [← Nat.add_assoc, marks_snoc]
  have hnews : ∀ j v, (bvs (mark32 num))[j]? = some v → w.cell? (a.add j) = some v := fun j v hv => by
    rw [bvs_get] at hv
    obtain ⟨y, hy, rfl⟩ := Option.map_eq_some_iff.1 hv
    exact hu j y hy
  by_cases hfit : n + k + 1 ≤ c2
  · rcases h1.2 with ⟨e1, h0⟩ | ⟨g, cap, cur, e1, _⟩
    · injection e1 with e1 e2 e3
      omega
    · cases e1
      obtain ⟨w', hr, r1, r2⟩ := run_append_fits (P := Tryz.prog) w base 22 ty 25 i0 32 Tryz.underlying22 hi hz1 g (n + k) c2 _ h1 a 1 1 (bvs (mark32 num)) (by rw [hml]) hnews (bvs_oneCell _) hfit
      rw [hrep] at r1
      refine ⟨_, _, w', hr, r1, ?_, ?_, ?_⟩
      · rcases h4 with ⟨e2, e3⟩ | ⟨g2, e2, hg2⟩
        · subst e3
          rw [← e2]
          refine sub_rowS (m := n + (k + 1)) (ys := marks (k + 1) num) ?_ (marks_length _ _)
          rw [marks_add] at r1
          exact r1
        · cases e2
          refine h2.kept r2 (.inr ?_)
          intro e5
          have := hwa _ e5
          omega
      · refine h3.grown r2 (fun b e5 hb => ?_)
        cases e5
        rcases h4 with ⟨e2, _⟩ | ⟨g2, e2, hg2⟩
        · rw [← e2]; rfl
        · cases e2; omega
      · rcases h4 with ⟨e2, e3⟩ | ⟨g2, e2, hg2⟩
        · exact .inl ⟨e2, e3⟩
        · exact .inr ⟨g2, e2, hg2⟩
  · obtain ⟨c', w', hr, r1, r2⟩ := run_app_growS w ty base A2 (n + k) c2 _ _ h1 (by omega) (by omega) a hml hnews (by omega)
    rw [hrep] at r1
    exact ⟨_, _, w', hr, r1, own_kept_but h2 (But.of_below (S := fun _ => False) r2) (fun _ _ h => h), h3.trans (But.of_below r2), .inr ⟨_, rfl, hsz⟩⟩

theorem wpList_longerS {ops : Array Oper} {rest : List Oper} {o : Oper} {a : Act} {Q : Exit → Act → World → Prop} (w : World) (hgd : o.guard = none) (s x : Operand)
    (ho : o.op = .call { callee := .builtin .append, args := #[s, x], argTypes := #[22, 22] })
    (base : Nat) (A : Option Addr) (n c num k : Nat) (wa : World) (A2 : Option Addr) (c2 : Nat) (hs : a.eval s = .slice A2 (n + k) c2) (h : LongerS base A n c num k wa w A2 c2)
    (hwa : ∀ b, (Value.slice A n c).ownBlock = some b → b < wa.heap.size) (hn : n + k ≤ 2000000000) (hbase : base ≤ wa.heap.size) (ad : Addr) (hx : a.eval x = .slice (some ad) 1 1) (hu : At w ad (mark32 num))
    (hK : ∀ A3 c3 w', LongerS base A n c num (k + 1) wa w' A3 c3 → wpList Tryz.prog ops Q rest (a.put o.dst (.slice A3 (n + (k + 1)) c3)) w') : wpList Tryz.prog ops Q (o :: rest) a w := by
  refine wpList_plain hgd fun K hK' => ?_
  obtain ⟨A3, c3, w', hr, h2⟩ := run_longerS base A n c num k wa w A2 c2 o.type h hwa hn hbase ad hu
  unfold Oper.wp execOp
  simp only [ho, resolve, invoke, builtin, Sem.run_bind, Sem.run_pure, Result.andThen_ok, List.map_toArray, List.map_cons, List.map_nil, hs, hx, hr]
  exact hK' _ _ (hK A3 c3 w' h2)

theorem LongerS.below {base : Nat} {A : Option Addr} {n c num k : Nat} {wa w w' : World} {A2 : Option Addr} {c2 : Nat} (h : LongerS base A n c num k wa w A2 c2) (hb : Below w.heap.size w w') : LongerS base A n c num k wa w' A2 c2 :=
  ⟨own_on h.1 hb, own_on h.2.1 hb, h.2.2.1.trans (But.of_below hb), h.2.2.2⟩

theorem fill_mark (num : Nat) : Instr.fill (fun i => some (i * 32, 32)) ((Array.range (1 * 32)).map ((Array.replicate 32 (Value.int .u8 0))[· % 32]!)) [(0, sv (mark32 num))] = some (bvs (mark32 num)).toArray := by kernel_rfl

end Go.Proofs.YtilgikhdamkeoaaGreatDoor

/-
  The Book of the statements: each list of bytes is made longer, mark by mark.
-/
namespace Go.Proofs.YtilgikhdamkeoaaGreatDoor
open Go.RowKit

/-- The beginning of an owned row. -/
theorem sub_row {w : World} {base : Nat} {e : TypeId} {g n m c : Nat} {xs ys : List Value} (h : w.ownsRow base e 1 (.slice (some ⟨g, 0, none⟩) m c) m (xs ++ ys)) (hx : xs.length = n) : w.ownsRow base e 1 (.slice (some ⟨g, 0, none⟩) n c) n xs := by
  rcases h.2 with ⟨e1, _⟩ | ⟨g', cap, cur, e1, hb, hg, hle, hm, hs, ht⟩
  · cases e1
  · cases e1
    have hl := h.1
    rw [List.length_append, hx] at hl
    refine ⟨by omega, .inr ⟨g, c, cur, rfl, hb, hg, by omega, hm, hs, ?_⟩⟩
    have e2 := congrArg (List.take n) ht
    have e3 : List.take n (xs ++ ys) = xs := by
      rw [List.take_append_of_le_length (by omega), List.take_of_length_le (by omega)]
    have e4 : min n (m * 1) = n := by omega
    rw [List.take_take, e4, e3] at e2
    rw [Nat.mul_one]
    exact e2

/-- One byte behind a full row: a new row. -/
theorem run_app_grow (w : World) (ty : TypeId) (base : Nat) (A : Option Addr) (m c : Nat) (xs : List Value) (hown : w.ownsRow base 5 1 (.slice A m c) m xs) (hc : c < m + 1) (hm : m ≤ 2000000000)
    (a : Addr) (u : Value) (hu : w.cell? a = some u) (hbase : base ≤ w.heap.size) :
    ∃ c' w', (Builtin.append_ #[73, 73] ty #[.slice A m c, .slice (some a) 1 1]).run Tryz.prog w = .ok (.slice (some ⟨w.heap.size, 0, none⟩) (m + 1) c') w' ∧
      w'.ownsRow base 5 1 (.slice (some ⟨w.heap.size, 0, none⟩) (m + 1) c') (m + 1) (xs ++ [u]) ∧ Below w.heap.size w w' := by
  obtain ⟨i0, hi, hz0, hz1, hz2⟩ := info_parts infoByte
  have hnews : ∀ j v, [u][j]? = some v → w.cell? (a.add j) = some v := by
    intro j v hv
    cases j with
    | zero => simp at hv; subst hv; simpa [Addr.add] using hu
    | succ j => simp at hv
  have key : ∀ old, old < m + 1 → (w.drew.alloc (.cells (xs.toArray ++ [u].toArray ++ Builtin.zeroCells (Value.int .u8 0).cells (grownCap w (m + 1) old 5 - (m + 1))) 5)).ownsRow base 5 1
      (.slice (some ⟨w.heap.size, 0, none⟩) (m + 1) (grownCap w (m + 1) old 5)) (m + 1) (xs ++ [u]) := by
    intro old ho
    have hge := grownCap_ge w (m + 1) old 5
    have hcm : grownCap w (m + 1) old 5 ≤ maxLen := grownCap_le_maxLen w (m + 1) old 5 (by unfold maxLen; omega)
    have hl := hown.1
    refine ⟨by rw [List.length_append, hl]; rfl, .inr ⟨w.heap.size, _, _, rfl, hbase, heap_alloc_new w.drew _, hge, hcm, ?_, ?_⟩⟩
    · simp only [Array.size_append, List.size_toArray, size_zeroCells, hl, List.length_singleton]
      simp [Value.cells]
      omega
    · simp only [Array.toList_append]
      rw [List.take_append_of_le_length (by simp [hl])]
      rw [List.take_of_length_le (by simp [hl])]
  have hb : ∀ o, Below w.heap.size w (w.drew.alloc o) := fun o => ((Below.refl _ w).drew).alloc (Nat.le_refl _) o
  rcases hown.2 with ⟨e1, h0⟩ | ⟨g, cap, cur, e1, _, _, hle, _, _, _⟩
  · cases e1
    have hx : xs = [] := List.eq_nil_of_length_eq_zero (by have := hown.1; omega)
    subst hx
    have hr := run_append_nil (P := Tryz.prog) w 73 ty 5 i0 _ Tryz.underlying73 hi hz0 a 1 1 [u] (by rw [hz1]; rfl) hnews (by omega) (by omega) (by rw [hz2]; omega)
    have hk := key 0 (by omega)
    simp only [Nat.zero_add, List.nil_append, Array.empty_append] at hk ⊢
    exact ⟨_, _, hr, hk, hb _⟩
  · cases e1
    have hr := run_append_grow (P := Tryz.prog) w 73 ty 5 i0 _ Tryz.underlying73 hi hz0 ⟨g, 0, none⟩ m c xs (by rw [hz1]; exact hown.1) (hown.cells (g := g) rfl) a 1 1 [u] (by rw [hz1]; rfl) hnews (by omega) (by omega)
      (by rw [hz2]; exact growslice_fits (by omega) (by omega))
    exact ⟨_, _, hr, key c (by omega), hb _⟩

/-- The state of a list that is being made longer: v is as it was; the longer one lies in its block, or in a new one. -/
def Longer (base : Nat) (A : Option Addr) (n c : Nat) (num k : Nat) (wa wi : World) (A2 : Option Addr) (c2 : Nat) : Prop :=
  wi.ownsRow base 5 1 (.slice A2 (n + k) c2) (n + k) (List.replicate (n + k) (mk num)) ∧ wi.ownsRow base 5 1 (.slice A n c) n (List.replicate n (mk num)) ∧
  But (fun b => (Value.slice A n c).ownBlock = some b) wa wi ∧ ((A2 = A ∧ c2 = c) ∨ ∃ g2, A2 = some ⟨g2, 0, none⟩ ∧ wa.heap.size ≤ g2)

/-- One mark more. -/
theorem run_longer (base : Nat) (A : Option Addr) (n c num k : Nat) (wa w : World) (A2 : Option Addr) (c2 : Nat) (ty : TypeId) (h : Longer base A n c num k wa w A2 c2) (hwa : ∀ b, (Value.slice A n c).ownBlock = some b → b < wa.heap.size) (hn : n + k ≤ 2000000000) (hbase : base ≤ wa.heap.size)
    (a : Addr) (hu : w.cell? a = some (mk num)) :
    ∃ A3 c3 w', (Builtin.append_ #[73, 73] ty #[.slice A2 (n + k) c2, .slice (some a) 1 1]).run Tryz.prog w = .ok (.slice A3 (n + (k + 1)) c3) w' ∧ Longer base A n c num (k + 1) wa w' A3 c3 := by
  obtain ⟨h1, h2, h3, h4⟩ := h
  obtain ⟨i0, hi, hz0, hz1, hz2⟩ := info_parts infoByte
  have hsz := h3.size
  have hrep : List.replicate (n + k) (mk num) ++ [mk num] = List.replicate (n + (k + 1)) (mk num) := by rw [← Nat.add_assoc, List.replicate_succ']
  by_cases hfit : n + k + 1 ≤ c2
  · rcases h1.2 with ⟨e1, h0⟩ | ⟨g, cap, cur, e1, _⟩
    · injection e1 with e1 e2 e3
      omega
    · cases e1
      obtain ⟨w', hr, r1, r2⟩ := run_append_fits (P := Tryz.prog) w base 73 ty 5 i0 1 Tryz.underlying73 hi hz1 g (n + k) c2 _ h1 a 1 1 [mk num] rfl (by
        intro j v hv
        cases j with
        | zero => simp at hv; subst hv; simpa [Addr.add] using hu
        | succ j => simp at hv) (by simp [mk, Value.oneCell']) hfit
      rw [hrep] at r1
      refine ⟨_, _, w', hr, r1, ?_, ?_, ?_⟩
      · rcases h4 with ⟨e2, e3⟩ | ⟨g2, e2, hg2⟩
        · subst e3
          rw [← e2]
          refine sub_row (m := n + (k + 1)) (ys := List.replicate (k + 1) (mk num)) ?_ (by simp)
          rw [← List.replicate_append_replicate] at r1
          exact r1
        · cases e2
          refine h2.kept r2 (.inr ?_)
          intro e5
          have := hwa _ e5
          omega
      · refine h3.grown r2 (fun b e5 hb => ?_)
        cases e5
        rcases h4 with ⟨e2, _⟩ | ⟨g2, e2, hg2⟩
        · rw [← e2]; rfl
        · cases e2; omega
      · rcases h4 with ⟨e2, e3⟩ | ⟨g2, e2, hg2⟩
        · exact .inl ⟨e2, e3⟩
        · exact .inr ⟨g2, e2, hg2⟩
  · obtain ⟨c', w', hr, r1, r2⟩ := run_app_grow w ty base A2 (n + k) c2 _ h1 (by omega) (by omega) a _ hu (by omega)
    rw [hrep] at r1
    exact ⟨_, _, w', hr, r1, own_kept_but h2 (But.of_below (S := fun _ => False) r2) (fun _ _ h => h), h3.trans (But.of_below r2), .inr ⟨_, rfl, hsz⟩⟩

theorem wpList_longer {ops : Array Oper} {rest : List Oper} {o : Oper} {a : Act} {Q : Exit → Act → World → Prop} (w : World) (hgd : o.guard = none) (s x : Operand)
    (ho : o.op = .call { callee := .builtin .append, args := #[s, x], argTypes := #[73, 73] })
    (base : Nat) (A : Option Addr) (n c num k : Nat) (wa : World) (A2 : Option Addr) (c2 : Nat) (hs : a.eval s = .slice A2 (n + k) c2) (h : Longer base A n c num k wa w A2 c2)
    (hwa : ∀ b, (Value.slice A n c).ownBlock = some b → b < wa.heap.size) (hn : n + k ≤ 2000000000) (hbase : base ≤ wa.heap.size) (ad : Addr) (hx : a.eval x = .slice (some ad) 1 1) (hu : w.cell? ad = some (mk num))
    (hK : ∀ A3 c3 w', Longer base A n c num (k + 1) wa w' A3 c3 → wpList Tryz.prog ops Q rest (a.put o.dst (.slice A3 (n + (k + 1)) c3)) w') : wpList Tryz.prog ops Q (o :: rest) a w := by
  refine wpList_plain hgd fun K hK' => ?_
  obtain ⟨A3, c3, w', hr, h2⟩ := run_longer base A n c num k wa w A2 c2 o.type h hwa hn hbase ad hu
  unfold Oper.wp execOp
  simp only [ho, resolve, invoke, builtin, Sem.run_bind, Sem.run_pure, Result.andThen_ok, List.map_toArray, List.map_cons, List.map_nil, hs, hx, hr]
  exact hK' _ _ (hK A3 c3 w' h2)

end Go.Proofs.YtilgikhdamkeoaaGreatDoor

/-
  The Book of the statements: growByte, whole.
-/
namespace Go.Proofs.YtilgikhdamkeoaaGreatDoor
open Go.RowKit

theorem Longer.alloc {base : Nat} {A : Option Addr} {n c num k : Nat} {wa w : World} {A2 : Option Addr} {c2 : Nat} (h : Longer base A n c num k wa w A2 c2) (o : Obj) : Longer base A n c num k wa (w.alloc o) A2 c2 :=
  ⟨h.1.alloc o, h.2.1.alloc o, h.2.2.1.alloc o, h.2.2.2⟩
theorem Longer.drew {base : Nat} {A : Option Addr} {n c num k : Nat} {wa w : World} {A2 : Option Addr} {c2 : Nat} (h : Longer base A n c num k wa w A2 c2) : Longer base A n c num k wa w.drew A2 c2 :=
  ⟨h.1.drew, h.2.1.drew, h.2.2.1.drew, h.2.2.2⟩

theorem step_longer {ops : Array Oper} {o : Oper} {a : Act} {w : World} {K : Act → World → Prop} {Q : Exit → Act → World → Prop} {E : Prop} (hgd : o.guard = none) (s x : Operand)
    (ho : o.op = .call { callee := .builtin .append, args := #[s, x], argTypes := #[73, 73] })
    (base : Nat) (A : Option Addr) (n c num k : Nat) (wa : World) (A2 : Option Addr) (c2 : Nat) (hs : a.eval s = .slice A2 (n + k) c2) (h : Longer base A n c num k wa w A2 c2)
    (hwa : ∀ b, (Value.slice A n c).ownBlock = some b → b < wa.heap.size) (hn : n + k ≤ 2000000000) (hbase : base ≤ wa.heap.size) (ad : Addr) (hx : a.eval x = .slice (some ad) 1 1) (hu : w.cell? ad = some (mk num))
    (hK : ∀ A3 c3 w', Longer base A n c num (k + 1) wa w' A3 c3 → K (a.put o.dst (.slice A3 (n + (k + 1)) c3)) w') :
    if Region.wanted o (yielded ops a.tmps) = true then Oper.wp Tryz.prog o a w K Q else E := by
  have hw : Region.wanted o (yielded ops a.tmps) = true := by simp [Region.wanted, hgd]
  rw [if_pos hw]
  obtain ⟨A3, c3, w', hr, h2⟩ := run_longer base A n c num k wa w A2 c2 o.type h hwa hn hbase ad hu
  unfold Oper.wp execOp
  simp only [ho, resolve, invoke, builtin, Sem.run_bind, Sem.run_pure, Result.andThen_ok, List.map_toArray, List.map_cons, List.map_nil, hs, hx, hr]
  exact hK A3 c3 w' h2

/-- One cell of an owned row is written. -/
theorem own_setAt {w : World} {base g n cap size k : Nat} {e : TypeId} {xs : List Value} (u : Value) (h : w.ownsRow base e size (.slice (some ⟨g, 0, none⟩) n cap) n xs) : (w.setCell ⟨g, k, none⟩ u).ownsRow base e size (.slice (some ⟨g, 0, none⟩) n cap) n (xs.set k u) := by
  rcases h.2 with ⟨e, _⟩ | ⟨g', cap', cur, e, hb, hg, hle, hm, hs, htk⟩
  · cases e
  · cases e
    refine ⟨by rw [List.length_set]; exact h.1, .inr ⟨g, cap, cur.setIfInBounds k u, rfl, hb, heap_setCell_same w g k cur _ u hg, hle, hm, by simp [hs], ?_⟩⟩
    rw [Array.toList_setIfInBounds, List.take_set, htk]

/-- The longer list of one that is kept is laid down. -/
def Held.lay (h : Held) (A : Option Addr) (n c : Nat) : Held := { h with A2 := A, len2 := n, c2 := c }

theorem heldCells_set {hs : List Held} {i : Nat} {h : Held} (hi : hs[i]? = some h) (A : Option Addr) (n c : Nat) : (heldCells hs).set (i * 3 + 1) (.slice A n c) = heldCells (hs.set i (h.lay A n c)) := by
  induction hs generalizing i with
  | nil => simp at hi
  | cons k hs ih =>
    cases i with
    | zero => simp at hi; subst hi; rfl
    | succ i =>
      have := ih (i := i) (by simpa using hi)
      rw [show (i + 1) * 3 + 1 = (i * 3 + 1) + 1 + 1 + 1 by omega, heldCells_cons, show (k :: hs).set (i + 1) (h.lay A n c) = k :: hs.set i (h.lay A n c) from rfl, heldCells_cons, ← this]
      rfl

/-- One list, before and behind: it has its marks; when done, so has the longer one. -/
structure GrowAt (w wr : World) (base : Nat) (h h' : Held) (done : Prop) : Prop where
  v : h'.v = h.v
  num : h'.num = h.num
  len : h'.len = h.len
  row : wr.ownsRow base 5 1 h.v h.len (List.replicate h.len (mk h.num))
  long : done → h'.len2 = h.len + 40 ∧ wr.ownsRow base 5 1 h'.long (h.len + 40) (List.replicate (h.len + 40) (mk h.num)) ∧ (h'.long.ownBlock = h.v.ownBlock ∨ ∀ b, h'.long.ownBlock = some b → w.heap.size ≤ b)

def GrownTo (w wr : World) (base : Nat) (hs hs' : List Held) (j : Nat) : Prop :=
  hs'.length = hs.length ∧ ∀ (i : Nat) (h : Held), hs[i]? = some h → ∃ h', hs'[i]? = some h' ∧ GrowAt w wr base h h' (i < j)

theorem GrownTo.step {w wo wf : World} {base : Nat} {hs hs' : List Held} {j : Nat} {h h' : Held} (hg : GrownTo w wo base hs hs' j) (hlist : Lists w base hs) (hh : hs[j]? = some h) (hh' : hs'[j]? = some h') (A3 : Option Addr) (c3 : Nat)
    (hkeep : ∀ v n xs, wo.ownsRow base 5 1 v n xs → (∀ b, v.ownBlock = some b → h.v.ownBlock ≠ some b) → wf.ownsRow base 5 1 v n xs)
    (r1 : wf.ownsRow base 5 1 (.slice A3 (h.len + 40) c3) (h.len + 40) (List.replicate (h.len + 40) (mk h.num))) (r2 : wf.ownsRow base 5 1 h.v h.len (List.replicate h.len (mk h.num)))
    (r3 : (Value.slice A3 (h.len + 40) c3).ownBlock = h.v.ownBlock ∨ ∀ b, (Value.slice A3 (h.len + 40) c3).ownBlock = some b → w.heap.size ≤ b) : GrownTo w wf base hs (hs'.set j (h'.lay A3 (h.len + 40) c3)) (j + 1) := by
  have hjl : j < hs'.length := (List.getElem?_eq_some_iff.1 hh').1
  refine ⟨by rw [List.length_set]; exact hg.1, fun i k hk => ?_⟩
  obtain ⟨k', hk', G⟩ := hg.2 i k hk
  by_cases e : i = j
  · subst e
    rw [hh] at hk
    cases hk
    rw [hh'] at hk'
    cases hk'
    exact ⟨h'.lay A3 (h.len + 40) c3, by rw [List.getElem?_set_self hjl], G.v, G.num, G.len, r2, fun _ => ⟨rfl, r1, r3⟩⟩
  · have hap : ∀ b, k.v.ownBlock = some b → h.v.ownBlock ≠ some b := by
      intro b hb hb'
      rcases hlist.apart i j k h hk hh e with h0 | h0
      · rw [h0] at hb; cases hb
      · exact h0 (hb.trans hb'.symm)
    refine ⟨k', by rw [List.getElem?_set_ne (Ne.symm e)]; exact hk', G.v, G.num, G.len, hkeep _ _ _ G.row hap, fun hlt => ?_⟩
    obtain ⟨l1, l2, l3⟩ := G.long (by omega)
    refine ⟨l1, hkeep _ _ _ l2 (fun b hb hb' => ?_), l3⟩
    rcases l3 with l3 | l3
    · exact hap b (l3.symm.trans hb) hb'
    · obtain ⟨xs, hx⟩ := hlist.own j h hh
      have h1 := (hx.lt _ hb').2
      have h2 := l3 b hb
      omega

set_option maxRecDepth 100000 in
set_option maxHeartbeats 2000000 in
theorem growByte_any (kb N base K : Nat) (bs ss : Value) (hs : List Held) (w : World) (hbk : BookAt w kb N bs ss) (hown : w.ownsRow base 75 3 bs K (heldCells hs)) (hlist : Lists w base hs) (hfill : Filled w base hs K)
    (hK : K ≤ 1000000) (hlen : ∀ (i : Nat) (h : Held), hs[i]? = some h → h.len ≤ 1000000000) (hbase : base ≤ w.heap.size) :
    Calls Tryz.prog 28 #[.pointer (some ⟨kb, 0, none⟩)] w fun e w' => e = .returned (.tuple #[]) ∧
      ∃ hs', w'.ownsRow base 75 3 bs K (heldCells hs') ∧ GrownTo w w' base hs hs' K ∧ But (fun b => inLists hs b ∨ bs.ownBlock = some b) w w' := by
  have hKl : hs.length = K := by have := hown.1; rw [heldCells_length] at this; omega
  have HKl := Lib.hid hKl
  clear hKl
  obtain ⟨Ab, cb, rfl⟩ := own_form3 hown
  have h1 := hbk.b
  have start : GrownTo w w base hs hs 0 := ⟨rfl, fun i h hi => ⟨h, hi, rfl, rfl, rfl, by
    obtain ⟨xs, r1, r2⟩ := hfill i h hi
    rw [← r2 (by have := (List.getElem?_eq_some_iff.1 hi).1; rw [HKl.out] at this; exact this)]
    exact r1, fun e => by omega⟩⟩
  have HS := Lib.hid start
  clear start hfill
  go_enter Tryz.func28, Tryz.ntmps28
  go_wp2
  go_loopw [2] (fun i wr => ∃ (j : Nat) (hs' : List Held), j ≤ K ∧ i = .int .i64 (j : Int) ∧ wr.ownsRow base 75 3 (.slice Ab K cb) K (heldCells hs') ∧ GrownTo w wr base hs hs' j ∧ But (fun b => inLists hs b ∨ (Value.slice Ab K cb).ownBlock = some b) w wr) (fun i _ => K - (intOf i).toNat)
  case atStart => exact ⟨0, hs, Nat.zero_le _, rfl, hown, HS.out, But.refl _ _⟩
  case round =>
    obtain ⟨j, hs', hj, rfl, hown2, hgr, hbut⟩ := hrel
    obtain ⟨wo, rfl⟩ : ∃ wo : World, wo = wr := ⟨_, rfl⟩
    have nokb : ¬ (inLists hs kb ∨ (Value.slice Ab K cb).ownBlock = some kb) := by
      rintro (⟨i, h, hi, he⟩ | he)
      · obtain ⟨xs, hx⟩ := hlist.own i h hi
        exact hbk.other (by decide) hx he
      · exact hbk.other (by decide) hown he
    have hbk2 := hbk.but hbut nokb
    have h2 := hbk2.b
    have HG := Lib.hid hgr
    clear hgr
    by_cases hlt : j < K
    · obtain ⟨h0, hh0⟩ : ∃ h, hs[j]? = some h := ⟨_, List.getElem?_eq_getElem (by rw [HKl.out]; exact hlt)⟩
      obtain ⟨h, hh, G⟩ := HG.out.2 j h0 hh0
      obtain ⟨g1, g2, g3⟩ := heldCells_get hh
      rcases hown2.2 with ⟨e, h0⟩ | ⟨gb, cap, cur, e, hbb, hgb, hle, hm, hsz, htk⟩
      · omega
      · cases e
        have p1 : wo.cell? ⟨gb, j * 3, none⟩ = some h.v := by
          have := hown2.cells (g := gb) rfl _ _ g1
          rwa [Addr.add_lit, Nat.zero_add] at this
        have p2 : wo.cell? ⟨gb, j * 3 + 1, none⟩ = some h.long := by
          have := hown2.cells (g := gb) rfl _ _ g2
          rwa [Addr.add_lit, Nat.zero_add] at this
        have p3 : wo.cell? ⟨gb, j * 3 + 2, none⟩ = some (.int .i64 (h.num : Int)) := by
          have := hown2.cells (g := gb) rfl _ _ g3
          rwa [Addr.add_lit, Nat.zero_add] at this
        have i1 : (j : Int) < (K : Int) := by omega
        have hx0 := G.row
        rw [← G.v, ← G.num, ← G.len] at hx0
        have hl0 := hlen j h0 hh0
        rw [← G.len] at hl0
        have hlow : ∀ b, h.v.ownBlock = some b → b < w.heap.size := by
          intro b hb
          rw [G.v] at hb
          obtain ⟨xs, hx⟩ := hlist.own j h0 hh0
          exact (hx.lt _ hb).2
        have HL := Lib.hid hlow
        clear hlow
        have hsz0 := hbut.size
        have hnext : ∀ wi A3 c3, But (fun b => h.v.ownBlock = some b) wo wi → wi.ownsRow base 5 1 (.slice A3 (h.len + 40) c3) (h.len + 40) (List.replicate (h.len + 40) (mk h.num)) → wi.ownsRow base 5 1 h.v h.len (List.replicate h.len (mk h.num)) →
            ((Value.slice A3 (h.len + 40) c3).ownBlock = h.v.ownBlock ∨ ∀ b, (Value.slice A3 (h.len + 40) c3).ownBlock = some b → w.heap.size ≤ b) →
            ∃ hs2, (wi.setCell ⟨gb, j * 3 + 1, none⟩ (.slice A3 (h.len + 40) c3)).ownsRow base 75 3 (.slice (some ⟨gb, 0, none⟩) K cb) K (heldCells hs2) ∧
              GrownTo w (wi.setCell ⟨gb, j * 3 + 1, none⟩ (.slice A3 (h.len + 40) c3)) base hs hs2 (j + 1) ∧ But (fun b => inLists hs b ∨ (Value.slice (some ⟨gb, 0, none⟩) K cb).ownBlock = some b) w (wi.setCell ⟨gb, j * 3 + 1, none⟩ (.slice A3 (h.len + 40) c3)) := by
          intro wi A3 c3 hbi r1 r2 r3
          have howni : wi.ownsRow base 75 3 (.slice (some ⟨gb, 0, none⟩) K cb) K (heldCells hs') := own_kept_but hown2 hbi (by
            intro b hb hb'
            rcases rows_ne (by decide) hx0 hown2 with e0 | e0
            · rw [e0] at hb'; cases hb'
            · exact e0 (hb'.trans hb.symm))
          have off : ∀ v n xs, wi.ownsRow base 5 1 v n xs → (wi.setCell ⟨gb, j * 3 + 1, none⟩ (.slice A3 (h.len + 40) c3)).ownsRow base 5 1 v n xs := by
            intro v n xs hv
            refine hv.kept (grown_set wi gb _ _) ?_
            rcases rows_ne (by decide) hv howni with e0 | e0
            · left; exact e0
            · right; exact e0
          refine ⟨hs'.set j (h.lay A3 (h0.len + 40) c3), ?_, ?_, ?_⟩
          · have := own_setAt (k := j * 3 + 1) (.slice A3 (h.len + 40) c3) howni
            rw [heldCells_set hh, G.len] at this
            rw [G.len]
            exact this
          · rw [G.len, G.num] at r1
            rw [G.v, G.len, G.num] at r2
            rw [G.len, G.v] at r3
            rw [G.len] at off ⊢
            refine HG.out.step hlist hh0 hh A3 c3 (fun v n xs hv hne => off _ _ _ (own_kept_but hv hbi (fun b hb hb' => ?_))) (off _ _ _ r1) (off _ _ _ r2) r3
            rw [G.v] at hb'
            exact hne b hb hb'
          · refine (hbut.trans (hbi.mono (fun b _ hb => .inl ⟨j, h0, hh0, ?_⟩))).set _ _ (fun _ => .inr rfl)
            rw [← G.v]
            exact hb
        have HN := Lib.hid hnext
        clear hnext G g1 g2 g3 hh hh0
        obtain ⟨A, n, c, A2, n2, c2, num⟩ := h
        simp only [Held.v, Held.long] at p1 p2 p3 hx0 hl0
        go_wp2
        have hx1 := hx0.alloc (.cells #[.slice A n c, .slice A2 n2 c2, .int .i64 (num : Int)] 75)
        have hlt0 := hx0.lt
        obtain ⟨wa, hwa⟩ : ∃ wa, wo.alloc (.cells #[.slice A n c, .slice A2 n2 c2, .int .i64 (num : Int)] 75) = wa := ⟨_, rfl⟩
        have hba : But (fun b => (Value.slice A n c).ownBlock = some b) wo wa := by rw [← hwa]; exact (But.refl _ _).alloc _
        have hha : wa.heap[wo.heap.size]? = some (.cells #[.slice A n c, .slice A2 n2 c2, .int .i64 (num : Int)] 75 (0, 0)) := by rw [← hwa]; exact World.alloc_heap_new wo _
        rw [hwa] at hx1 ⊢
        have HH := Lib.hid hha
        clear hwa hha
        have q0 : wa.cell? ⟨wo.heap.size, 0, none⟩ = some (.slice A n c) := by rw [cell_of_row _ _ 0 _ _ (0, 0) HH.out]; rfl
        have hsza := hba.size
        have hwa' : ∀ b, (Value.slice A n c).ownBlock = some b → b < wa.heap.size := fun b hb => by have := (hlt0 b hb).2; omega
        go_wp2
        go_loopw [4, 5] (fun L i wi => ∃ (k : Nat) (A3 : Option Addr) (c3 : Nat), k ≤ 40 ∧ i = .int .i64 (k : Int) ∧ L = .slice A3 (n + k) c3 ∧ Longer base A n c num k wa wi A3 c3) (fun _ i _ => 40 - (intOf i).toNat)
        case atStart => exact ⟨0, A, c, Nat.zero_le _, rfl, rfl, hx1, hx1, But.refl _ _, .inl ⟨rfl, rfl⟩⟩
        case round =>
          obtain ⟨k, A3, c3, hk, rfl, rfl, hlg⟩ := hrel
          have hbi := hlg.2.2.1
          have hhi : wr.heap[wo.heap.size]? = some (.cells #[.slice A n c, .slice A2 n2 c2, .int .i64 (num : Int)] 75 (0, 0)) :=
            (hbi.block _ (Array.getElem?_eq_some_iff.1 HH.out).1 (fun e => by have := (hlt0 _ e).2; omega)).trans HH.out
          have q2 : wr.cell? ⟨wo.heap.size, 2, none⟩ = some (.int .i64 (num : Int)) := by rw [cell_of_row _ _ 2 _ _ (0, 0) hhi]; rfl
          clear hhi
          by_cases hlt2 : k < 40
          · have i2 : (k : Int) < 40 := by omega
            go_wp2_with (first
              | (go_at_call 56; refine (markByte_any num _).mono ?_; rintro e w' ⟨rfl, rfl⟩)
              | (at_builtin; refine wpList_longer _ rfl (.tmp 28) (.tmp 32) rfl base A n c num k wa A3 c3 rfl (hlg.alloc _) hwa' (by omega) (by omega) ⟨wr.heap.size, 0, none⟩ rfl (by simp [mk]) ?_; intro A4 c4 w4 hl4))
            go_roundw
            case rel => exact ⟨k + 1, A4, c4, by omega, by go_num, rfl, hl4⟩
            case measure => simp [intOf]; omega
          · obtain rfl : k = 40 := by omega
            have hb2 := hba.trans hbi
            obtain ⟨hs2, n1, n2', n3⟩ := HN.out wr A3 c3 hb2 hlg.1 hlg.2.1 (by
              rcases hlg.2.2.2 with ⟨e2, _⟩ | ⟨g2, e2, hg2⟩
              · left; rw [e2]; cases A <;> rfl
              · right
                intro b hb
                rw [e2] at hb
                obtain rfl : g2 = b := by simpa [Value.ownBlock] using hb
                omega)
            have hbk3 := hbk2.but hb2 (fun e => hbk2.other (by decide) hx0 e)
            have h3 := hbk3.b
            have hgb3 := (hb2.block gb (Array.getElem?_eq_some_iff.1 hgb).1 (fun e => by
              rcases rows_ne (by decide) hx0 hown2 with e0 | e0
              · rw [e0] at e; cases e
              · exact e0 e)).trans hgb
            obtain ⟨u, hu3⟩ : ∃ u, wr.cell? ⟨gb, j * 3 + 1, none⟩ = some u := ⟨cur[j * 3 + 1]'(by omega), by rw [cell_of_row _ gb _ _ _ (0, 0) hgb3]; exact Array.getElem?_eq_getElem (by omega)⟩
            have hf3 : wr.frozen? ⟨gb, j * 3 + 1, none⟩ = false := frozen_of_row _ gb _ _ _ hgb3
            clear hgb3 hgb htk
            have HN1 := Lib.hid n1
            have HN2 := Lib.hid n2'
            have HN3 := Lib.hid n3
            clear n1 n2' n3 HN
            go_wp2
            go_roundw
            case rel => exact ⟨j + 1, hs2, by omega, by go_num, HN1.out, HN2.out, HN3.out⟩
            case measure => simp [intOf]; omega
    · obtain rfl : j = K := by omega
      go_wp2
      go_end0
      exact ⟨rfl, hs', hown2, HG.out, hbut⟩

end Go.Proofs.YtilgikhdamkeoaaGreatDoor

/-
  The Book of the statements: growSum, whole.
-/
namespace Go.Proofs.YtilgikhdamkeoaaGreatDoor
open Go.RowKit

theorem wpList_build_mark {ops : Array Oper} {rest : List Oper} {o : Oper} {a : Act} {w : World} {Q : Exit → Act → World → Prop} (hg : o.guard = none) (x : Operand) (ho : o.op = .buildSlice 22 1 #[(0, x)])
    (num : Nat) (hx : a.eval x = sv (mark32 num))
    (h : wpList Tryz.prog ops Q rest (a.put o.dst (.slice (some ⟨w.heap.size, 0, none⟩) 1 1)) (w.alloc (.cells (bvs (mark32 num)).toArray 25))) : wpList Tryz.prog ops Q (o :: rest) a w := by
  obtain ⟨i0, hi, hz0, hz1, hz2⟩ := info_parts infoSum
  refine wpList_buildSlice hg 22 25 1 #[(0, x)] ho (bvs (mark32 num)).toArray i0 _ Tryz.underlying22 hi hz0 (by rw [hz1]; decide) (by rw [hz1]; decide) ?_ h
  rw [hz1]
  have e : (#[(0, x)].map fun (i, x) => (i, a.eval x)).toList = [(0, sv (mark32 num))] := by simp [hx]
  rw [e]
  exact fill_mark num

/-- One list, before and behind: it has its marks; when done, so has the longer one. -/
structure GrowAtS (w wr : World) (base : Nat) (h h' : Held) (done : Prop) : Prop where
  v : h'.v = h.v
  num : h'.num = h.num
  len : h'.len = h.len
  row : wr.ownsRow base 25 32 h.v h.len (marks h.len h.num)
  long : done → h'.len2 = h.len + 40 ∧ wr.ownsRow base 25 32 h'.long (h.len + 40) (marks (h.len + 40) h.num) ∧ (h'.long.ownBlock = h.v.ownBlock ∨ ∀ b, h'.long.ownBlock = some b → w.heap.size ≤ b)

def GrownToS (w wr : World) (base : Nat) (hs hs' : List Held) (j : Nat) : Prop :=
  hs'.length = hs.length ∧ ∀ (i : Nat) (h : Held), hs[i]? = some h → ∃ h', hs'[i]? = some h' ∧ GrowAtS w wr base h h' (i < j)

theorem GrownToS.step {w wo wf : World} {base : Nat} {hs hs' : List Held} {j : Nat} {h h' : Held} (hg : GrownToS w wo base hs hs' j) (hlist : ListsS w base hs) (hh : hs[j]? = some h) (hh' : hs'[j]? = some h') (A3 : Option Addr) (c3 : Nat)
    (hkeep : ∀ v n xs, wo.ownsRow base 25 32 v n xs → (∀ b, v.ownBlock = some b → h.v.ownBlock ≠ some b) → wf.ownsRow base 25 32 v n xs)
    (r1 : wf.ownsRow base 25 32 (.slice A3 (h.len + 40) c3) (h.len + 40) (marks (h.len + 40) h.num)) (r2 : wf.ownsRow base 25 32 h.v h.len (marks h.len h.num))
    (r3 : (Value.slice A3 (h.len + 40) c3).ownBlock = h.v.ownBlock ∨ ∀ b, (Value.slice A3 (h.len + 40) c3).ownBlock = some b → w.heap.size ≤ b) : GrownToS w wf base hs (hs'.set j (h'.lay A3 (h.len + 40) c3)) (j + 1) := by
  have hjl : j < hs'.length := (List.getElem?_eq_some_iff.1 hh').1
  refine ⟨by rw [List.length_set]; exact hg.1, fun i k hk => ?_⟩
  obtain ⟨k', hk', G⟩ := hg.2 i k hk
  by_cases e : i = j
  · subst e
    rw [hh] at hk
    cases hk
    rw [hh'] at hk'
    cases hk'
    exact ⟨h'.lay A3 (h.len + 40) c3, by rw [List.getElem?_set_self hjl], G.v, G.num, G.len, r2, fun _ => ⟨rfl, r1, r3⟩⟩
  · have hap : ∀ b, k.v.ownBlock = some b → h.v.ownBlock ≠ some b := by
      intro b hb hb'
      rcases hlist.apart i j k h hk hh e with h0 | h0
      · rw [h0] at hb; cases hb
      · exact h0 (hb.trans hb'.symm)
    refine ⟨k', by rw [List.getElem?_set_ne (Ne.symm e)]; exact hk', G.v, G.num, G.len, hkeep _ _ _ G.row hap, fun hlt => ?_⟩
    obtain ⟨l1, l2, l3⟩ := G.long (by omega)
    refine ⟨l1, hkeep _ _ _ l2 (fun b hb hb' => ?_), l3⟩
    rcases l3 with l3 | l3
    · exact hap b (l3.symm.trans hb) hb'
    · obtain ⟨xs, hx⟩ := hlist.own j h hh
      have h1 := (hx.lt _ hb').2
      have h2 := l3 b hb
      omega

set_option maxRecDepth 100000 in
set_option maxHeartbeats 2000000 in
theorem growSum_any (kb N base K : Nat) (bs ss : Value) (hs : List Held) (w : World) (hbk : BookAt w kb N bs ss) (hown : w.ownsRow base 72 3 ss K (heldCells hs)) (hlist : ListsS w base hs) (hfill : FilledS w base hs K)
    (hK : K ≤ 1000000) (hlen : ∀ (i : Nat) (h : Held), hs[i]? = some h → h.len ≤ 1000000000) (hbase : base ≤ w.heap.size) :
    Calls Tryz.prog 32 #[.pointer (some ⟨kb, 0, none⟩)] w fun e w' => e = .returned (.tuple #[]) ∧
      ∃ hs', w'.ownsRow base 72 3 ss K (heldCells hs') ∧ GrownToS w w' base hs hs' K ∧ But (fun b => inLists hs b ∨ ss.ownBlock = some b) w w' := by
  have hKl : hs.length = K := by have := hown.1; rw [heldCells_length] at this; omega
  have HKl := Lib.hid hKl
  clear hKl
  obtain ⟨Ab, cb, rfl⟩ := own_form3 hown
  have h1 := hbk.s
  have start : GrownToS w w base hs hs 0 := ⟨rfl, fun i h hi => ⟨h, hi, rfl, rfl, rfl, by
    obtain ⟨xs, r1, r2⟩ := hfill i h hi
    rw [← r2 (by have := (List.getElem?_eq_some_iff.1 hi).1; rw [HKl.out] at this; exact this)]
    exact r1, fun e => by omega⟩⟩
  have HS := Lib.hid start
  clear start hfill
  go_enter Tryz.func32, Tryz.ntmps32
  go_wp2
  go_loopw [2] (fun i wr => ∃ (j : Nat) (hs' : List Held), j ≤ K ∧ i = .int .i64 (j : Int) ∧ wr.ownsRow base 72 3 (.slice Ab K cb) K (heldCells hs') ∧ GrownToS w wr base hs hs' j ∧ But (fun b => inLists hs b ∨ (Value.slice Ab K cb).ownBlock = some b) w wr) (fun i _ => K - (intOf i).toNat)
  case atStart => exact ⟨0, hs, Nat.zero_le _, rfl, hown, HS.out, But.refl _ _⟩
  case round =>
    obtain ⟨j, hs', hj, rfl, hown2, hgr, hbut⟩ := hrel
    obtain ⟨wo, rfl⟩ : ∃ wo : World, wo = wr := ⟨_, rfl⟩
    have nokb : ¬ (inLists hs kb ∨ (Value.slice Ab K cb).ownBlock = some kb) := by
      rintro (⟨i, h, hi, he⟩ | he)
      · obtain ⟨xs, hx⟩ := hlist.own i h hi
        exact hbk.other (by decide) hx he
      · exact hbk.other (by decide) hown he
    have hbk2 := hbk.but hbut nokb
    have h2 := hbk2.s
    have HG := Lib.hid hgr
    clear hgr
    by_cases hlt : j < K
    · obtain ⟨h0, hh0⟩ : ∃ h, hs[j]? = some h := ⟨_, List.getElem?_eq_getElem (by rw [HKl.out]; exact hlt)⟩
      obtain ⟨h, hh, G⟩ := HG.out.2 j h0 hh0
      obtain ⟨g1, g2, g3⟩ := heldCells_get hh
      rcases hown2.2 with ⟨e, h0⟩ | ⟨gb, cap, cur, e, hbb, hgb, hle, hm, hsz, htk⟩
      · omega
      · cases e
        have p1 : wo.cell? ⟨gb, j * 3, none⟩ = some h.v := by
          have := hown2.cells (g := gb) rfl _ _ g1
          rwa [Addr.add_lit, Nat.zero_add] at this
        have p2 : wo.cell? ⟨gb, j * 3 + 1, none⟩ = some h.long := by
          have := hown2.cells (g := gb) rfl _ _ g2
          rwa [Addr.add_lit, Nat.zero_add] at this
        have p3 : wo.cell? ⟨gb, j * 3 + 2, none⟩ = some (.int .i64 (h.num : Int)) := by
          have := hown2.cells (g := gb) rfl _ _ g3
          rwa [Addr.add_lit, Nat.zero_add] at this
        have i1 : (j : Int) < (K : Int) := by omega
        have hx0 := G.row
        rw [← G.v, ← G.num, ← G.len] at hx0
        have hl0 := hlen j h0 hh0
        rw [← G.len] at hl0
        have hlow : ∀ b, h.v.ownBlock = some b → b < w.heap.size := by
          intro b hb
          rw [G.v] at hb
          obtain ⟨xs, hx⟩ := hlist.own j h0 hh0
          exact (hx.lt _ hb).2
        have HL := Lib.hid hlow
        clear hlow
        have hsz0 := hbut.size
        have hnext : ∀ wi A3 c3, But (fun b => h.v.ownBlock = some b) wo wi → wi.ownsRow base 25 32 (.slice A3 (h.len + 40) c3) (h.len + 40) (marks (h.len + 40) h.num) → wi.ownsRow base 25 32 h.v h.len (marks h.len h.num) →
            ((Value.slice A3 (h.len + 40) c3).ownBlock = h.v.ownBlock ∨ ∀ b, (Value.slice A3 (h.len + 40) c3).ownBlock = some b → w.heap.size ≤ b) →
            ∃ hs2, (wi.setCell ⟨gb, j * 3 + 1, none⟩ (.slice A3 (h.len + 40) c3)).ownsRow base 72 3 (.slice (some ⟨gb, 0, none⟩) K cb) K (heldCells hs2) ∧
              GrownToS w (wi.setCell ⟨gb, j * 3 + 1, none⟩ (.slice A3 (h.len + 40) c3)) base hs hs2 (j + 1) ∧ But (fun b => inLists hs b ∨ (Value.slice (some ⟨gb, 0, none⟩) K cb).ownBlock = some b) w (wi.setCell ⟨gb, j * 3 + 1, none⟩ (.slice A3 (h.len + 40) c3)) := by
          intro wi A3 c3 hbi r1 r2 r3
          have howni : wi.ownsRow base 72 3 (.slice (some ⟨gb, 0, none⟩) K cb) K (heldCells hs') := own_kept_but hown2 hbi (by
            intro b hb hb'
            rcases rows_ne (by decide) hx0 hown2 with e0 | e0
            · rw [e0] at hb'; cases hb'
            · exact e0 (hb'.trans hb.symm))
          have off : ∀ v n xs, wi.ownsRow base 25 32 v n xs → (wi.setCell ⟨gb, j * 3 + 1, none⟩ (.slice A3 (h.len + 40) c3)).ownsRow base 25 32 v n xs := by
            intro v n xs hv
            refine hv.kept (grown_set wi gb _ _) ?_
            rcases rows_ne (by decide) hv howni with e0 | e0
            · left; exact e0
            · right; exact e0
          refine ⟨hs'.set j (h.lay A3 (h0.len + 40) c3), ?_, ?_, ?_⟩
          · have := own_setAt (k := j * 3 + 1) (.slice A3 (h.len + 40) c3) howni
            rw [heldCells_set hh, G.len] at this
            rw [G.len]
            exact this
          · rw [G.len, G.num] at r1
            rw [G.v, G.len, G.num] at r2
            rw [G.len, G.v] at r3
            rw [G.len] at off ⊢
            refine HG.out.step hlist hh0 hh A3 c3 (fun v n xs hv hne => off _ _ _ (own_kept_but hv hbi (fun b hb hb' => ?_))) (off _ _ _ r1) (off _ _ _ r2) r3
            rw [G.v] at hb'
            exact hne b hb hb'
          · refine (hbut.trans (hbi.mono (fun b _ hb => .inl ⟨j, h0, hh0, ?_⟩))).set _ _ (fun _ => .inr rfl)
            rw [← G.v]
            exact hb
        have HN := Lib.hid hnext
        clear hnext G g1 g2 g3 hh hh0
        obtain ⟨A, n, c, A2, n2, c2, num⟩ := h
        simp only [Held.v, Held.long] at p1 p2 p3 hx0 hl0
        go_wp2
        have hx1 := hx0.alloc (.cells #[.slice A n c, .slice A2 n2 c2, .int .i64 (num : Int)] 72)
        have hlt0 := hx0.lt
        obtain ⟨wa, hwa⟩ : ∃ wa, wo.alloc (.cells #[.slice A n c, .slice A2 n2 c2, .int .i64 (num : Int)] 72) = wa := ⟨_, rfl⟩
        have hba : But (fun b => (Value.slice A n c).ownBlock = some b) wo wa := by rw [← hwa]; exact (But.refl _ _).alloc _
        have hha : wa.heap[wo.heap.size]? = some (.cells #[.slice A n c, .slice A2 n2 c2, .int .i64 (num : Int)] 72 (0, 0)) := by rw [← hwa]; exact World.alloc_heap_new wo _
        rw [hwa] at hx1 ⊢
        have HH := Lib.hid hha
        clear hwa hha
        have q0 : wa.cell? ⟨wo.heap.size, 0, none⟩ = some (.slice A n c) := by rw [cell_of_row _ _ 0 _ _ (0, 0) HH.out]; rfl
        have hsza := hba.size
        have hwa' : ∀ b, (Value.slice A n c).ownBlock = some b → b < wa.heap.size := fun b hb => by have := (hlt0 b hb).2; omega
        go_wp2
        go_loopw [4, 5] (fun L i wi => ∃ (k : Nat) (A3 : Option Addr) (c3 : Nat), k ≤ 40 ∧ i = .int .i64 (k : Int) ∧ L = .slice A3 (n + k) c3 ∧ LongerS base A n c num k wa wi A3 c3) (fun _ i _ => 40 - (intOf i).toNat)
        case atStart => exact ⟨0, A, c, Nat.zero_le _, rfl, rfl, hx1, hx1, But.refl _ _, .inl ⟨rfl, rfl⟩⟩
        case round =>
          obtain ⟨k, A3, c3, hk, rfl, rfl, hlg⟩ := hrel
          have hbi := hlg.2.2.1
          have hhi : wr.heap[wo.heap.size]? = some (.cells #[.slice A n c, .slice A2 n2 c2, .int .i64 (num : Int)] 72 (0, 0)) :=
            (hbi.block _ (Array.getElem?_eq_some_iff.1 HH.out).1 (fun e => by have := (hlt0 _ e).2; omega)).trans HH.out
          have q2 : wr.cell? ⟨wo.heap.size, 2, none⟩ = some (.int .i64 (num : Int)) := by rw [cell_of_row _ _ 2 _ _ (0, 0) hhi]; rfl
          clear hhi
          by_cases hlt2 : k < 40
          · have i2 : (k : Int) < 40 := by omega
            have CM := Lib.hid (markSum_any num wr)
            have HG2 := Lib.hid hlg
            clear hlg hbi
            go_wp2_with fail
            refine CM.out.mono ?_
            rintro e w3 ⟨rfl, hbm⟩
            have HG3 := Lib.hid (HG2.out.below (below_on hbm (Nat.le_refl _) (below_alloc w3 (.cells (bvs (mark32 num)).toArray 25))))
            clear CM hbm
            go_wp2_with (first
              | (with_reducible refine wpList_build_mark rfl (.tmp 31) rfl num rfl ?_)
              | (at_builtin; refine wpList_longerS _ rfl (.tmp 28) (.tmp 32) rfl base A n c num k wa A3 c3 rfl HG3.out hwa' (by omega) (by omega) ⟨w3.heap.size, 0, none⟩ rfl (BArr.new w3 25 (mark32 num)).at_ ?_; intro A4 c4 w4 hl4))
            go_roundw
            case rel => exact ⟨k + 1, A4, c4, by omega, by go_num, rfl, hl4⟩
            case measure => simp [intOf]; omega
          · obtain rfl : k = 40 := by omega
            have hb2 := hba.trans hbi
            obtain ⟨hs2, n1, n2', n3⟩ := HN.out wr A3 c3 hb2 hlg.1 hlg.2.1 (by
              rcases hlg.2.2.2 with ⟨e2, _⟩ | ⟨g2, e2, hg2⟩
              · left; rw [e2]; cases A <;> rfl
              · right
                intro b hb
                rw [e2] at hb
                obtain rfl : g2 = b := by simpa [Value.ownBlock] using hb
                omega)
            have hbk3 := hbk2.but hb2 (fun e => hbk2.other (by decide) hx0 e)
            have h3 := hbk3.s
            have hgb3 := (hb2.block gb (Array.getElem?_eq_some_iff.1 hgb).1 (fun e => by
              rcases rows_ne (by decide) hx0 hown2 with e0 | e0
              · rw [e0] at e; cases e
              · exact e0 e)).trans hgb
            obtain ⟨u, hu3⟩ : ∃ u, wr.cell? ⟨gb, j * 3 + 1, none⟩ = some u := ⟨cur[j * 3 + 1]'(by omega), by rw [cell_of_row _ gb _ _ _ (0, 0) hgb3]; exact Array.getElem?_eq_getElem (by omega)⟩
            have hf3 : wr.frozen? ⟨gb, j * 3 + 1, none⟩ = false := frozen_of_row _ gb _ _ _ hgb3
            clear hgb3 hgb htk
            have HN1 := Lib.hid n1
            have HN2 := Lib.hid n2'
            have HN3 := Lib.hid n3
            clear n1 n2' n3 HN
            go_wp2
            go_roundw
            case rel => exact ⟨j + 1, hs2, by omega, by go_num, HN1.out, HN2.out, HN3.out⟩
            case measure => simp [intOf]; omega
    · obtain rfl : j = K := by omega
      go_wp2
      go_end0
      exact ⟨rfl, hs', hown2, HG.out, hbut⟩

end Go.Proofs.YtilgikhdamkeoaaGreatDoor

/-
  The Book of the statements: lookByte.
-/
namespace Go.Proofs.YtilgikhdamkeoaaGreatDoor
open Go.RowKit

/-- A callee that leaves the world alone, met in a region that only reads. -/
theorem quiet_first {P : Program} {f : FuncId} {args : Array Value} {w : World} {n : Nat} {v : Value} (h : Calls P f args (w.drewN n) fun e w' => e = .returned v ∧ w' = w.drewN n) :
    Calls P f args (w.drewN n) fun e w'' => e = .returned v ∧ ∃ m, w'' = w.drewN m := h.mono fun _ _ ⟨he, hm⟩ => ⟨he, n, hm⟩

theorem But.drewN {S : Nat → Prop} {a w : World} (h : But S a w) (n : Nat) : But S a (w.drewN n) := ⟨h.os, h.tape, h.output, h.size, h.block⟩

set_option maxRecDepth 100000 in
set_option maxHeartbeats 400000 in
theorem isByte_any (num : Nat) (w : World) : Calls Tryz.prog 65 #[mk num, .int .i64 (num : Int)] w fun e w' => e = .returned (.bool true) ∧ w' = w := by
  unfold mk
  go_enter Tryz.func65, Tryz.ntmps65
  go_wp2
  go_ret
  exact ⟨rfl, rfl⟩

theorem own_mark {w : World} {base n m c k : Nat} {A : Option Addr} {u : Value} (h : w.ownsRow base 5 1 (.slice A m c) n (List.replicate n u)) (hk : k < n) : ∃ g, A = some ⟨g, 0, none⟩ ∧ w.cell? ⟨g, k, none⟩ = some u := by
  rcases h.2 with ⟨e, h0⟩ | ⟨g, cap, cur, e, _⟩
  · omega
  · cases e
    refine ⟨g, rfl, ?_⟩
    have := h.cells (g := g) rfl k u (by rw [List.getElem?_replicate, if_pos hk])
    rwa [Addr.add_lit, Nat.zero_add] at this

/-- Each list that is kept, and the longer one, has its marks. -/
def Marked (w : World) (base : Nat) (hs : List Held) : Prop := ∀ (i : Nat) (h : Held), hs[i]? = some h →
  h.len2 = h.len + 40 ∧ w.ownsRow base 5 1 h.v h.len (List.replicate h.len (mk h.num)) ∧ w.ownsRow base 5 1 h.long (h.len + 40) (List.replicate (h.len + 40) (mk h.num)) ∧ h.len ≤ 1000000000

set_option maxRecDepth 100000 in
set_option maxHeartbeats 2000000 in
theorem lookByte_any (kb N base K : Nat) (bs ss : Value) (hs : List Held) (w : World) (hbk : BookAt w kb N bs ss) (hown : w.ownsRow base 75 3 bs K (heldCells hs)) (hmark : Marked w base hs) (hK : K ≤ 1000000) :
    Calls Tryz.prog 37 #[.pointer (some ⟨kb, 0, none⟩)] w fun e w' => e = .returned (.bool true) ∧ But (fun _ => False) w w' := by
  have hKl : hs.length = K := by have := hown.1; rw [heldCells_length] at this; omega
  have HKl := Lib.hid hKl
  have HM := Lib.hid hmark
  clear hKl hmark
  obtain ⟨Ab, cb, rfl⟩ := own_form3 hown
  have h1 := hbk.b
  go_enter Tryz.func37, Tryz.ntmps37
  go_wp2
  go_loopw [3] (fun i wr => ∃ j : Nat, j ≤ K ∧ i = .int .i64 (j : Int) ∧ But (fun _ => False) w wr) (fun i _ => K - (intOf i).toNat)
  case atStart => exact ⟨0, Nat.zero_le _, rfl, But.refl _ _⟩
  case round =>
    obtain ⟨j, hj, rfl, hbut⟩ := hrel
    obtain ⟨wo, rfl⟩ : ∃ wo : World, wo = wr := ⟨_, rfl⟩
    have hbk2 := hbk.but hbut (fun e => e)
    have hown2 := own_kept_but hown hbut (fun _ _ e => e)
    have h2 := hbk2.b
    by_cases hlt : j < K
    · obtain ⟨h, hh⟩ : ∃ h, hs[j]? = some h := ⟨_, List.getElem?_eq_getElem (by rw [HKl.out]; exact hlt)⟩
      obtain ⟨g1, g2, g3⟩ := heldCells_get hh
      obtain ⟨m1, m2, m3, m4⟩ := HM.out j h hh
      rcases hown2.2 with ⟨e, h0⟩ | ⟨gb, cap, cur, e, hbb, hgb, hle, hm, hsz, htk⟩
      · omega
      · cases e
        have p1 : wo.cell? ⟨gb, j * 3, none⟩ = some h.v := by
          have := hown2.cells (g := gb) rfl _ _ g1
          rwa [Addr.add_lit, Nat.zero_add] at this
        have p2 : wo.cell? ⟨gb, j * 3 + 1, none⟩ = some h.long := by
          have := hown2.cells (g := gb) rfl _ _ g2
          rwa [Addr.add_lit, Nat.zero_add] at this
        have p3 : wo.cell? ⟨gb, j * 3 + 2, none⟩ = some (.int .i64 (h.num : Int)) := by
          have := hown2.cells (g := gb) rfl _ _ g3
          rwa [Addr.add_lit, Nat.zero_add] at this
        have i1 : (j : Int) < (K : Int) := by omega
        have hx0 := own_kept_but m2 hbut (fun _ _ e => e)
        have hy0 := own_kept_but m3 hbut (fun _ _ e => e)
        clear m2 m3 g1 g2 g3 hh
        obtain ⟨A, n, c, A2, n2, c2, num⟩ := h
        simp only [Held.v, Held.long] at p1 p2 p3 hx0 hy0 m1 m4
        subst m1
        go_wp2
        obtain ⟨wa, hwa⟩ : ∃ wa, wo.alloc (.cells #[.slice A n c, .slice A2 (n + 40) c2, .int .i64 (num : Int)] 75) = wa := ⟨_, rfl⟩
        have hba : But (fun _ => False) wo wa := by rw [← hwa]; exact (But.refl _ _).alloc _
        have hha : wa.heap[wo.heap.size]? = some (.cells #[.slice A n c, .slice A2 (n + 40) c2, .int .i64 (num : Int)] 75 (0, 0)) := by rw [← hwa]; exact World.alloc_heap_new wo _
        rw [hwa]
        have hx1 := own_kept_but hx0 hba (fun _ _ e => e)
        have hy1 := own_kept_but hy0 hba (fun _ _ e => e)
        have HH := Lib.hid hha
        clear hwa hha
        have q0 : wa.cell? ⟨wo.heap.size, 0, none⟩ = some (.slice A n c) := by rw [cell_of_row _ _ 0 _ _ (0, 0) HH.out]; rfl
        have q1 : wa.cell? ⟨wo.heap.size, 1, none⟩ = some (.slice A2 (n + 40) c2) := by rw [cell_of_row _ _ 1 _ _ (0, 0) HH.out]; rfl
        have i3 : IntKind.i64.wrap ((n : Int) + 40) = (n : Int) + 40 := by rw [IntKind.wrap_i64]; omega
        go_wp2
        go_loopw [5] (fun i wi => ∃ k : Nat, k ≤ n + 40 ∧ i = .int .i64 (k : Int) ∧ But (fun _ => False) wa wi) (fun i _ => n + 40 - (intOf i).toNat)
        case atStart => exact ⟨0, Nat.zero_le _, rfl, But.refl _ _⟩
        case round =>
          obtain ⟨k, hk, rfl, hbi⟩ := hrel
          have hhi : wr.heap[wo.heap.size]? = some (.cells #[.slice A n c, .slice A2 (n + 40) c2, .int .i64 (num : Int)] 75 (0, 0)) :=
            (hbi.block _ (Array.getElem?_eq_some_iff.1 HH.out).1 (fun e => e)).trans HH.out
          have r0 : wr.cell? ⟨wo.heap.size, 0, none⟩ = some (.slice A n c) := by rw [cell_of_row _ _ 0 _ _ (0, 0) hhi]; rfl
          have r1 : wr.cell? ⟨wo.heap.size, 1, none⟩ = some (.slice A2 (n + 40) c2) := by rw [cell_of_row _ _ 1 _ _ (0, 0) hhi]; rfl
          have r2 : wr.cell? ⟨wo.heap.size, 2, none⟩ = some (.int .i64 (num : Int)) := by rw [cell_of_row _ _ 2 _ _ (0, 0) hhi]; rfl
          clear hhi
          have hx2 := own_kept_but hx1 hbi (fun _ _ e => e)
          have hy2 := own_kept_but hy1 hbi (fun _ _ e => e)
          by_cases hlt2 : k < n + 40
          · obtain ⟨gl, rfl, cl⟩ := own_mark hy2 hlt2
            have i2 : (k : Int) < ((n + 40 : Nat) : Int) := by omega
            have C1 := Lib.hid (fun W => isByte_any num W)
            by_cases hin : k < n
            · obtain ⟨gv, rfl, cv⟩ := own_mark hx2 hin
              have i4 : (k : Int) < (n : Int) := by omega
              have i5 : decide ((k : Int) < (n : Int)) = true := by simpa using i4
              go_wp2
              go_quiet ((go_at_call 65; exact quiet_first (C1.out _)))
              go_wp2
              go_roundw
              case rel => exact ⟨k + 1, by omega, by go_num, hbi.drewN _⟩
              case measure => simp [intOf]; omega
            · have i4 : ¬ (k : Int) < (n : Int) := by omega
              have i5 : decide ((k : Int) < (n : Int)) = false := by simpa using i4
              go_wp2
              go_quiet ((go_at_call 65; exact quiet_first (C1.out _)))
              go_wp2
              go_roundw
              case rel => exact ⟨k + 1, by omega, by go_num, hbi.drewN _⟩
              case measure => simp [intOf]; omega
          · obtain rfl : k = n + 40 := by omega
            go_wp2
            go_roundw
            case rel => exact ⟨j + 1, by omega, by go_num, hbut.trans (hba.trans hbi)⟩
            case measure => simp [intOf]; omega
    · obtain rfl : j = K := by omega
      go_wp2
      go_ret
      exact ⟨rfl, hbut⟩

end Go.Proofs.YtilgikhdamkeoaaGreatDoor

/-
  The Book of the statements: lookSum.
-/
namespace Go.Proofs.YtilgikhdamkeoaaGreatDoor
open Go.RowKit

theorem own_markS {w : World} {base n m c k num : Nat} {A : Option Addr} (h : w.ownsRow base 25 32 (.slice A m c) n (marks n num)) (hk : k < n) : ∃ g, A = some ⟨g, 0, none⟩ ∧ At w ⟨g, k * 32, none⟩ (mark32 num) := by
  rcases h.2 with ⟨e, h0⟩ | ⟨g, cap, cur, e, _⟩
  · omega
  · cases e
    refine ⟨g, rfl, fun j x hx => ?_⟩
    have := h.cells (g := g) rfl _ _ (marks_at n num k hk j x hx)
    rw [Addr.add_lit, Nat.zero_add] at this
    rw [Addr.add_mid]
    exact this

/-- Each list that is kept, and the longer one, has its marks. -/
def MarkedS (w : World) (base : Nat) (hs : List Held) : Prop := ∀ (i : Nat) (h : Held), hs[i]? = some h →
  h.len2 = h.len + 40 ∧ w.ownsRow base 25 32 h.v h.len (marks h.len h.num) ∧ w.ownsRow base 25 32 h.long (h.len + 40) (marks (h.len + 40) h.num) ∧ h.len ≤ 1000000000

set_option maxRecDepth 100000 in
set_option maxHeartbeats 8000000 in
theorem lookSum_any (kb N base K : Nat) (bs ss : Value) (hs : List Held) (w : World) (hbk : BookAt w kb N bs ss) (hown : w.ownsRow base 72 3 ss K (heldCells hs)) (hmark : MarkedS w base hs) (hK : K ≤ 1000000) :
    Calls Tryz.prog 41 #[.pointer (some ⟨kb, 0, none⟩)] w fun e w' => e = .returned (.bool true) ∧ But (fun _ => False) w w' := by
  have hKl : hs.length = K := by have := hown.1; rw [heldCells_length] at this; omega
  have HKl := Lib.hid hKl
  have HM := Lib.hid hmark
  clear hKl hmark
  obtain ⟨Ab, cb, rfl⟩ := own_form3 hown
  have h1 := hbk.s
  go_enter Tryz.func41, Tryz.ntmps41
  go_wp2
  go_loopw [3] (fun i wr => ∃ j : Nat, j ≤ K ∧ i = .int .i64 (j : Int) ∧ But (fun _ => False) w wr) (fun i _ => K - (intOf i).toNat)
  case atStart => exact ⟨0, Nat.zero_le _, rfl, But.refl _ _⟩
  case round =>
    obtain ⟨j, hj, rfl, hbut⟩ := hrel
    obtain ⟨wo, rfl⟩ : ∃ wo : World, wo = wr := ⟨_, rfl⟩
    have hbk2 := hbk.but hbut (fun e => e)
    have hown2 := own_kept_but hown hbut (fun _ _ e => e)
    have h2 := hbk2.s
    by_cases hlt : j < K
    · obtain ⟨h, hh⟩ : ∃ h, hs[j]? = some h := ⟨_, List.getElem?_eq_getElem (by rw [HKl.out]; exact hlt)⟩
      obtain ⟨g1, g2, g3⟩ := heldCells_get hh
      obtain ⟨m1, m2, m3, m4⟩ := HM.out j h hh
      rcases hown2.2 with ⟨e, h0⟩ | ⟨gb, cap, cur, e, hbb, hgb, hle, hm, hsz, htk⟩
      · omega
      · cases e
        have p1 : wo.cell? ⟨gb, j * 3, none⟩ = some h.v := by
          have := hown2.cells (g := gb) rfl _ _ g1
          rwa [Addr.add_lit, Nat.zero_add] at this
        have p2 : wo.cell? ⟨gb, j * 3 + 1, none⟩ = some h.long := by
          have := hown2.cells (g := gb) rfl _ _ g2
          rwa [Addr.add_lit, Nat.zero_add] at this
        have p3 : wo.cell? ⟨gb, j * 3 + 2, none⟩ = some (.int .i64 (h.num : Int)) := by
          have := hown2.cells (g := gb) rfl _ _ g3
          rwa [Addr.add_lit, Nat.zero_add] at this
        have i1 : (j : Int) < (K : Int) := by omega
        have hx0 := own_kept_but m2 hbut (fun _ _ e => e)
        have hy0 := own_kept_but m3 hbut (fun _ _ e => e)
        clear m2 m3 g1 g2 g3 hh
        obtain ⟨A, n, c, A2, n2, c2, num⟩ := h
        simp only [Held.v, Held.long] at p1 p2 p3 hx0 hy0 m1 m4
        subst m1
        go_wp2
        obtain ⟨wa, hwa⟩ : ∃ wa, wo.alloc (.cells #[.slice A n c, .slice A2 (n + 40) c2, .int .i64 (num : Int)] 72) = wa := ⟨_, rfl⟩
        have hba : But (fun _ => False) wo wa := by rw [← hwa]; exact (But.refl _ _).alloc _
        have hha : wa.heap[wo.heap.size]? = some (.cells #[.slice A n c, .slice A2 (n + 40) c2, .int .i64 (num : Int)] 72 (0, 0)) := by rw [← hwa]; exact World.alloc_heap_new wo _
        rw [hwa]
        have hx1 := own_kept_but hx0 hba (fun _ _ e => e)
        have hy1 := own_kept_but hy0 hba (fun _ _ e => e)
        have HH := Lib.hid hha
        clear hwa hha
        have q0 : wa.cell? ⟨wo.heap.size, 0, none⟩ = some (.slice A n c) := by rw [cell_of_row _ _ 0 _ _ (0, 0) HH.out]; rfl
        have q1 : wa.cell? ⟨wo.heap.size, 1, none⟩ = some (.slice A2 (n + 40) c2) := by rw [cell_of_row _ _ 1 _ _ (0, 0) HH.out]; rfl
        have i3 : IntKind.i64.wrap ((n : Int) + 40) = (n : Int) + 40 := by rw [IntKind.wrap_i64]; omega
        go_wp2
        go_loopw [5] (fun i wi => ∃ k : Nat, k ≤ n + 40 ∧ i = .int .i64 (k : Int) ∧ But (fun _ => False) wa wi) (fun i _ => n + 40 - (intOf i).toNat)
        case atStart => exact ⟨0, Nat.zero_le _, rfl, But.refl _ _⟩
        case round =>
          obtain ⟨k, hk, rfl, hbi⟩ := hrel
          have hhi : wr.heap[wo.heap.size]? = some (.cells #[.slice A n c, .slice A2 (n + 40) c2, .int .i64 (num : Int)] 72 (0, 0)) :=
            (hbi.block _ (Array.getElem?_eq_some_iff.1 HH.out).1 (fun e => e)).trans HH.out
          have r0 : wr.cell? ⟨wo.heap.size, 0, none⟩ = some (.slice A n c) := by rw [cell_of_row _ _ 0 _ _ (0, 0) hhi]; rfl
          have r1 : wr.cell? ⟨wo.heap.size, 1, none⟩ = some (.slice A2 (n + 40) c2) := by rw [cell_of_row _ _ 1 _ _ (0, 0) hhi]; rfl
          have r2 : wr.cell? ⟨wo.heap.size, 2, none⟩ = some (.int .i64 (num : Int)) := by rw [cell_of_row _ _ 2 _ _ (0, 0) hhi]; rfl
          clear hhi
          have hx2 := own_kept_but hx1 hbi (fun _ _ e => e)
          have hy2 := own_kept_but hy1 hbi (fun _ _ e => e)
          by_cases hlt2 : k < n + 40
          · obtain ⟨gl, rfl, cl⟩ := own_markS hy2 hlt2
            have i2 : (k : Int) < ((n + 40 : Nat) : Int) := by omega
            have CS := Lib.hid (fun (W : World) (_ : Below wr.heap.size wr W) => isSum_any num (mark32 num) rfl W)
            have HB := Lib.hid hbi
            by_cases hin : k < n
            · obtain ⟨gv, rfl, cv⟩ := own_markS hx2 hin
              have i4 : (k : Int) < (n : Int) := by omega
              have HQ := Lib.hid (And.intro r0 (And.intro r1 r2))
              have HA := Lib.hid (And.intro cl cv)
              clear cl cv hbi
              go_wp2
              refine wp_region_quiet (C := fun w' => Below wr.heap.size wr w') (by kernel_rfl) (by kernel_rfl) ((Below.refl _ _).drew) ?_
              with_reducible refine wpQuiet_step (fun K hK => ?_)
              go_simp
              with_reducible refine ⟨_, fun _ _ => rfl, hK _ ?_⟩
              clear hK K
              refine wpQuiet_step (fun K hK => ?_)
              refine quiet_load_cell (by rfl) 22 agg_sums (.tmp 37) rfl ⟨wo.heap.size, 1, none⟩ rfl (.slice (some ⟨gl, 0, none⟩) (n + 40) c2) (fun W hC => (hC.cell (World.block_lt_of_cell? wr _ HQ.out.2.1)).trans HQ.out.2.1) (hK _ ?_)
              clear hK K
              with_reducible refine wpQuiet_step (fun K hK => ?_)
              go_simp
              with_reducible refine ⟨_, fun _ _ => rfl, hK _ ?_⟩
              clear hK K
              with_reducible refine wpQuiet_step (fun K hK => ?_)
              go_simp
              with_reducible refine ⟨_, fun _ _ => rfl, hK _ ?_⟩
              clear hK K
              refine wpQuiet_step (fun K hK => ?_)
              refine quiet_load_sum' (by rfl) (.tmp 40) rfl ⟨gl, k * 32, none⟩ rfl (mark32 num) (mark32_length num) (fun W hC => HA.out.1.below hC) (hK _ ?_)
              clear hK K
              with_reducible refine wpQuiet_step (fun K hK => ?_)
              go_simp
              with_reducible refine ⟨_, fun _ _ => rfl, hK _ ?_⟩
              clear hK K
              refine wpQuiet_step (fun K hK => ?_)
              refine quiet_load_cell (by rfl) 3 agg_int (.tmp 42) rfl ⟨wo.heap.size, 2, none⟩ rfl (.int .i64 (num : Int)) (fun W hC => (hC.cell (World.block_lt_of_cell? wr _ HQ.out.2.2)).trans HQ.out.2.2) (hK _ ?_)
              clear hK K
              refine wpQuiet_step (fun K hK => ?_)
              go_simp
              refine ⟨.bool true, fun W hC => (CS.out W hC).mono fun e w'' ⟨he, hb'⟩ => ⟨he, below_on hC (Nat.le_refl _) hb'⟩, hK _ ?_⟩
              clear hK K
              with_reducible refine wpQuiet_step (fun K hK => ?_)
              go_simp
              with_reducible refine ⟨_, fun _ _ => rfl, hK _ ?_⟩
              clear hK K
              with_reducible refine wpQuiet_step (fun K hK => ?_)
              go_simp
              with_reducible refine ⟨_, fun _ _ => rfl, hK _ ?_⟩
              clear hK K
              with_reducible refine wpQuiet_step (fun K hK => ?_)
              go_simp
              with_reducible refine ⟨_, fun _ _ => rfl, hK _ ?_⟩
              clear hK K
              with_reducible refine wpQuiet_step (fun K hK => ?_)
              go_simp
              with_reducible refine ⟨_, fun _ _ => rfl, hK _ ?_⟩
              clear hK K
              refine wpQuiet_step (fun K hK => ?_)
              refine quiet_load_cell (by rfl) 22 agg_sums (.tmp 48) rfl ⟨wo.heap.size, 0, none⟩ rfl (.slice (some ⟨gv, 0, none⟩) n c) (fun W hC => (hC.cell (World.block_lt_of_cell? wr _ HQ.out.1)).trans HQ.out.1) (hK _ ?_)
              clear hK K
              with_reducible refine wpQuiet_step (fun K hK => ?_)
              go_simp
              with_reducible refine ⟨_, fun _ _ => rfl, hK _ ?_⟩
              clear hK K
              with_reducible refine wpQuiet_step (fun K hK => ?_)
              go_simp
              with_reducible refine ⟨_, fun _ _ => rfl, hK _ ?_⟩
              clear hK K
              with_reducible refine wpQuiet_step (fun K hK => ?_)
              go_simp
              with_reducible refine ⟨_, fun _ _ => rfl, hK _ ?_⟩
              clear hK K
              with_reducible refine wpQuiet_step (fun K hK => ?_)
              go_simp
              with_reducible refine ⟨_, fun _ _ => rfl, hK _ ?_⟩
              clear hK K
              refine wpQuiet_step (fun K hK => ?_)
              refine quiet_load_cell (by rfl) 22 agg_sums (.tmp 53) rfl ⟨wo.heap.size, 0, none⟩ rfl (.slice (some ⟨gv, 0, none⟩) n c) (fun W hC => (hC.cell (World.block_lt_of_cell? wr _ HQ.out.1)).trans HQ.out.1) (hK _ ?_)
              clear hK K
              with_reducible refine wpQuiet_step (fun K hK => ?_)
              go_simp
              with_reducible refine ⟨_, fun _ _ => rfl, hK _ ?_⟩
              clear hK K
              with_reducible refine wpQuiet_step (fun K hK => ?_)
              go_simp
              with_reducible refine ⟨_, fun _ _ => rfl, hK _ ?_⟩
              clear hK K
              refine wpQuiet_step (fun K hK => ?_)
              refine quiet_load_sum' (by rfl) (.tmp 56) rfl ⟨gv, k * 32, none⟩ rfl (mark32 num) (mark32_length num) (fun W hC => HA.out.2.below hC) (hK _ ?_)
              clear hK K
              with_reducible refine wpQuiet_step (fun K hK => ?_)
              go_simp
              with_reducible refine ⟨_, fun _ _ => rfl, hK _ ?_⟩
              clear hK K
              refine wpQuiet_step (fun K hK => ?_)
              refine quiet_load_cell (by rfl) 3 agg_int (.tmp 58) rfl ⟨wo.heap.size, 2, none⟩ rfl (.int .i64 (num : Int)) (fun W hC => (hC.cell (World.block_lt_of_cell? wr _ HQ.out.2.2)).trans HQ.out.2.2) (hK _ ?_)
              clear hK K
              refine wpQuiet_step (fun K hK => ?_)
              go_simp
              refine ⟨.bool true, fun W hC => (CS.out W hC).mono fun e w'' ⟨he, hb'⟩ => ⟨he, below_on hC (Nat.le_refl _) hb'⟩, hK _ ?_⟩
              clear hK K
              with_reducible refine wpQuiet_step (fun K hK => ?_)
              go_simp
              with_reducible refine ⟨_, fun _ _ => rfl, hK _ ?_⟩
              clear hK K
              with_reducible refine wpQuiet_step (fun K hK => ?_)
              go_simp
              with_reducible refine ⟨_, fun _ _ => rfl, hK _ ?_⟩
              clear hK K
              with_reducible refine wpQuiet_step (fun K hK => ?_)
              go_simp
              with_reducible refine ⟨_, fun _ _ => rfl, hK _ ?_⟩
              clear hK K
              with_reducible refine wpQuiet_nil ?_
              intro w6 hb6
              go_wp2
              go_roundw
              case rel => exact ⟨k + 1, by omega, by go_num, HB.out.trans (But.of_below hb6)⟩
              case measure => simp [intOf]; omega
            · have i3n : ¬ (k : Int) < (n : Int) := by omega
              have i4 : decide ((k : Int) < (n : Int)) = false := by simpa using i3n
              have HQ := Lib.hid (And.intro r0 (And.intro r1 r2))
              have HA := Lib.hid (And.intro cl True.intro)
              clear cl hbi
              go_wp2
              refine wp_region_quiet (C := fun w' => Below wr.heap.size wr w') (by kernel_rfl) (by kernel_rfl) ((Below.refl _ _).drew) ?_
              with_reducible refine wpQuiet_step (fun K hK => ?_)
              go_simp
              with_reducible refine ⟨_, fun _ _ => rfl, hK _ ?_⟩
              clear hK K
              refine wpQuiet_step (fun K hK => ?_)
              refine quiet_load_cell (by rfl) 22 agg_sums (.tmp 37) rfl ⟨wo.heap.size, 1, none⟩ rfl (.slice (some ⟨gl, 0, none⟩) (n + 40) c2) (fun W hC => (hC.cell (World.block_lt_of_cell? wr _ HQ.out.2.1)).trans HQ.out.2.1) (hK _ ?_)
              clear hK K
              with_reducible refine wpQuiet_step (fun K hK => ?_)
              go_simp
              with_reducible refine ⟨_, fun _ _ => rfl, hK _ ?_⟩
              clear hK K
              with_reducible refine wpQuiet_step (fun K hK => ?_)
              go_simp
              with_reducible refine ⟨_, fun _ _ => rfl, hK _ ?_⟩
              clear hK K
              refine wpQuiet_step (fun K hK => ?_)
              refine quiet_load_sum' (by rfl) (.tmp 40) rfl ⟨gl, k * 32, none⟩ rfl (mark32 num) (mark32_length num) (fun W hC => HA.out.1.below hC) (hK _ ?_)
              clear hK K
              with_reducible refine wpQuiet_step (fun K hK => ?_)
              go_simp
              with_reducible refine ⟨_, fun _ _ => rfl, hK _ ?_⟩
              clear hK K
              refine wpQuiet_step (fun K hK => ?_)
              refine quiet_load_cell (by rfl) 3 agg_int (.tmp 42) rfl ⟨wo.heap.size, 2, none⟩ rfl (.int .i64 (num : Int)) (fun W hC => (hC.cell (World.block_lt_of_cell? wr _ HQ.out.2.2)).trans HQ.out.2.2) (hK _ ?_)
              clear hK K
              refine wpQuiet_step (fun K hK => ?_)
              go_simp
              refine ⟨.bool true, fun W hC => (CS.out W hC).mono fun e w'' ⟨he, hb'⟩ => ⟨he, below_on hC (Nat.le_refl _) hb'⟩, hK _ ?_⟩
              clear hK K
              with_reducible refine wpQuiet_step (fun K hK => ?_)
              go_simp
              with_reducible refine ⟨_, fun _ _ => rfl, hK _ ?_⟩
              clear hK K
              with_reducible refine wpQuiet_step (fun K hK => ?_)
              go_simp
              with_reducible refine ⟨_, fun _ _ => rfl, hK _ ?_⟩
              clear hK K
              with_reducible refine wpQuiet_step (fun K hK => ?_)
              go_simp
              with_reducible refine ⟨_, fun _ _ => rfl, hK _ ?_⟩
              clear hK K
              with_reducible refine wpQuiet_step (fun K hK => ?_)
              go_simp
              with_reducible refine ⟨_, fun _ _ => rfl, hK _ ?_⟩
              clear hK K
              refine wpQuiet_step (fun K hK => ?_)
              refine quiet_load_cell (by rfl) 22 agg_sums (.tmp 48) rfl ⟨wo.heap.size, 0, none⟩ rfl (.slice A n c) (fun W hC => (hC.cell (World.block_lt_of_cell? wr _ HQ.out.1)).trans HQ.out.1) (hK _ ?_)
              clear hK K
              with_reducible refine wpQuiet_step (fun K hK => ?_)
              go_simp
              with_reducible refine ⟨_, fun _ _ => rfl, hK _ ?_⟩
              clear hK K
              with_reducible refine wpQuiet_step (fun K hK => ?_)
              go_simp
              with_reducible refine ⟨_, fun _ _ => rfl, hK _ ?_⟩
              clear hK K
              with_reducible refine wpQuiet_step (fun K hK => ?_)
              go_simp
              with_reducible refine ⟨_, fun _ _ => rfl, hK _ ?_⟩
              clear hK K
              with_reducible refine wpQuiet_step (fun K hK => ?_)
              go_simp
              with_reducible refine hK _ ?_
              clear hK K
              with_reducible refine wpQuiet_step (fun K hK => ?_)
              go_simp
              with_reducible refine hK _ ?_
              clear hK K
              with_reducible refine wpQuiet_step (fun K hK => ?_)
              go_simp
              with_reducible refine hK _ ?_
              clear hK K
              with_reducible refine wpQuiet_step (fun K hK => ?_)
              go_simp
              with_reducible refine hK _ ?_
              clear hK K
              with_reducible refine wpQuiet_step (fun K hK => ?_)
              go_simp
              with_reducible refine hK _ ?_
              clear hK K
              with_reducible refine wpQuiet_step (fun K hK => ?_)
              go_simp
              with_reducible refine hK _ ?_
              clear hK K
              with_reducible refine wpQuiet_step (fun K hK => ?_)
              go_simp
              with_reducible refine hK _ ?_
              clear hK K
              with_reducible refine wpQuiet_step (fun K hK => ?_)
              go_simp
              with_reducible refine hK _ ?_
              clear hK K
              with_reducible refine wpQuiet_step (fun K hK => ?_)
              go_simp
              with_reducible refine hK _ ?_
              clear hK K
              with_reducible refine wpQuiet_step (fun K hK => ?_)
              go_simp
              with_reducible refine ⟨_, fun _ _ => rfl, hK _ ?_⟩
              clear hK K
              with_reducible refine wpQuiet_step (fun K hK => ?_)
              go_simp
              with_reducible refine ⟨_, fun _ _ => rfl, hK _ ?_⟩
              clear hK K
              with_reducible refine wpQuiet_nil ?_
              intro w6 hb6
              go_wp2
              go_roundw
              case rel => exact ⟨k + 1, by omega, by go_num, HB.out.trans (But.of_below hb6)⟩
              case measure => simp [intOf]; omega
          · obtain rfl : k = n + 40 := by omega
            go_wp2
            go_roundw
            case rel => exact ⟨j + 1, by omega, by go_num, hbut.trans (hba.trans hbi)⟩
            case measure => simp [intOf]; omega
    · obtain rfl : j = K := by omega
      go_wp2
      go_ret
      exact ⟨rfl, hbut⟩

end Go.Proofs.YtilgikhdamkeoaaGreatDoor

/-
  The Book of the statements: the kinds of which it keeps no list.
-/
namespace Go.Proofs.YtilgikhdamkeoaaGreatDoor
open Go.RowKit

theorem BookAt.noneInt {w : World} {kb N : Nat} {bs ss : Value} (h : BookAt w kb N bs ss) : w.cell? ⟨kb, 2, none⟩ = some (.slice none 0 0) := by rw [cell_of_row _ kb 2 _ _ (0, 0) h]; rfl

theorem BookAt.noneText {w : World} {kb N : Nat} {bs ss : Value} (h : BookAt w kb N bs ss) : w.cell? ⟨kb, 3, none⟩ = some (.slice none 0 0) := by rw [cell_of_row _ kb 3 _ _ (0, 0) h]; rfl

theorem BookAt.noneByteList {w : World} {kb N : Nat} {bs ss : Value} (h : BookAt w kb N bs ss) : w.cell? ⟨kb, 4, none⟩ = some (.slice none 0 0) := by rw [cell_of_row _ kb 4 _ _ (0, 0) h]; rfl

theorem BookAt.nonePair {w : World} {kb N : Nat} {bs ss : Value} (h : BookAt w kb N bs ss) : w.cell? ⟨kb, 6, none⟩ = some (.slice none 0 0) := by rw [cell_of_row _ kb 6 _ _ (0, 0) h]; rfl

theorem BookAt.noneTenant {w : World} {kb N : Nat} {bs ss : Value} (h : BookAt w kb N bs ss) : w.cell? ⟨kb, 7, none⟩ = some (.slice none 0 0) := by rw [cell_of_row _ kb 7 _ _ (0, 0) h]; rfl

theorem BookAt.noneLease {w : World} {kb N : Nat} {bs ss : Value} (h : BookAt w kb N bs ss) : w.cell? ⟨kb, 8, none⟩ = some (.slice none 0 0) := by rw [cell_of_row _ kb 8 _ _ (0, 0) h]; rfl

theorem BookAt.noneEvent {w : World} {kb N : Nat} {bs ss : Value} (h : BookAt w kb N bs ss) : w.cell? ⟨kb, 9, none⟩ = some (.slice none 0 0) := by rw [cell_of_row _ kb 9 _ _ (0, 0) h]; rfl

set_option maxRecDepth 100000 in
set_option maxHeartbeats 400000 in
theorem fillInt_nil {kb N : Nat} {bs ss : Value} {w : World} (hbk : BookAt w kb N bs ss) : Calls Tryz.prog 20 #[.pointer (some ⟨kb, 0, none⟩)] w fun e w' => e = .returned (.tuple #[]) ∧ w' = w := by
  have hc := hbk.noneInt
  clear hbk
  go_enter Tryz.func20, Tryz.ntmps20
  go_wp2
  go_loopw [2] (fun i wr => i = .int .i64 0 ∧ wr = w) (fun _ _ => 0)
  case atStart => exact ⟨rfl, rfl⟩
  case round =>
    obtain ⟨rfl, rfl⟩ := hrel
    go_wp2
    go_end0
    exact ⟨rfl, rfl⟩

set_option maxRecDepth 100000 in
set_option maxHeartbeats 400000 in
theorem growInt_nil {kb N : Nat} {bs ss : Value} {w : World} (hbk : BookAt w kb N bs ss) : Calls Tryz.prog 29 #[.pointer (some ⟨kb, 0, none⟩)] w fun e w' => e = .returned (.tuple #[]) ∧ w' = w := by
  have hc := hbk.noneInt
  clear hbk
  go_enter Tryz.func29, Tryz.ntmps29
  go_wp2
  go_loopw [2] (fun i wr => i = .int .i64 0 ∧ wr = w) (fun _ _ => 0)
  case atStart => exact ⟨rfl, rfl⟩
  case round =>
    obtain ⟨rfl, rfl⟩ := hrel
    go_wp2
    go_end0
    exact ⟨rfl, rfl⟩

set_option maxRecDepth 100000 in
set_option maxHeartbeats 400000 in
theorem lookInt_nil {kb N : Nat} {bs ss : Value} {w : World} (hbk : BookAt w kb N bs ss) : Calls Tryz.prog 38 #[.pointer (some ⟨kb, 0, none⟩)] w fun e w' => e = .returned (.bool true) ∧ w' = w := by
  have hc := hbk.noneInt
  clear hbk
  go_enter Tryz.func38, Tryz.ntmps38
  go_wp2
  go_loopw [3] (fun i wr => i = .int .i64 0 ∧ wr = w) (fun _ _ => 0)
  case atStart => exact ⟨rfl, rfl⟩
  case round =>
    obtain ⟨rfl, rfl⟩ := hrel
    go_wp2
    go_ret
    exact ⟨rfl, rfl⟩

set_option maxRecDepth 100000 in
set_option maxHeartbeats 400000 in
theorem fillText_nil {kb N : Nat} {bs ss : Value} {w : World} (hbk : BookAt w kb N bs ss) : Calls Tryz.prog 21 #[.pointer (some ⟨kb, 0, none⟩)] w fun e w' => e = .returned (.tuple #[]) ∧ w' = w := by
  have hc := hbk.noneText
  clear hbk
  go_enter Tryz.func21, Tryz.ntmps21
  go_wp2
  go_loopw [2] (fun i wr => i = .int .i64 0 ∧ wr = w) (fun _ _ => 0)
  case atStart => exact ⟨rfl, rfl⟩
  case round =>
    obtain ⟨rfl, rfl⟩ := hrel
    go_wp2
    go_end0
    exact ⟨rfl, rfl⟩

set_option maxRecDepth 100000 in
set_option maxHeartbeats 400000 in
theorem growText_nil {kb N : Nat} {bs ss : Value} {w : World} (hbk : BookAt w kb N bs ss) : Calls Tryz.prog 30 #[.pointer (some ⟨kb, 0, none⟩)] w fun e w' => e = .returned (.tuple #[]) ∧ w' = w := by
  have hc := hbk.noneText
  clear hbk
  go_enter Tryz.func30, Tryz.ntmps30
  go_wp2
  go_loopw [2] (fun i wr => i = .int .i64 0 ∧ wr = w) (fun _ _ => 0)
  case atStart => exact ⟨rfl, rfl⟩
  case round =>
    obtain ⟨rfl, rfl⟩ := hrel
    go_wp2
    go_end0
    exact ⟨rfl, rfl⟩

set_option maxRecDepth 100000 in
set_option maxHeartbeats 400000 in
theorem lookText_nil {kb N : Nat} {bs ss : Value} {w : World} (hbk : BookAt w kb N bs ss) : Calls Tryz.prog 39 #[.pointer (some ⟨kb, 0, none⟩)] w fun e w' => e = .returned (.bool true) ∧ w' = w := by
  have hc := hbk.noneText
  clear hbk
  go_enter Tryz.func39, Tryz.ntmps39
  go_wp2
  go_loopw [3] (fun i wr => i = .int .i64 0 ∧ wr = w) (fun _ _ => 0)
  case atStart => exact ⟨rfl, rfl⟩
  case round =>
    obtain ⟨rfl, rfl⟩ := hrel
    go_wp2
    go_ret
    exact ⟨rfl, rfl⟩

set_option maxRecDepth 100000 in
set_option maxHeartbeats 400000 in
theorem fillByteList_nil {kb N : Nat} {bs ss : Value} {w : World} (hbk : BookAt w kb N bs ss) : Calls Tryz.prog 22 #[.pointer (some ⟨kb, 0, none⟩)] w fun e w' => e = .returned (.tuple #[]) ∧ w' = w := by
  have hc := hbk.noneByteList
  clear hbk
  go_enter Tryz.func22, Tryz.ntmps22
  go_wp2
  go_loopw [2] (fun i wr => i = .int .i64 0 ∧ wr = w) (fun _ _ => 0)
  case atStart => exact ⟨rfl, rfl⟩
  case round =>
    obtain ⟨rfl, rfl⟩ := hrel
    go_wp2
    go_end0
    exact ⟨rfl, rfl⟩

set_option maxRecDepth 100000 in
set_option maxHeartbeats 400000 in
theorem growByteList_nil {kb N : Nat} {bs ss : Value} {w : World} (hbk : BookAt w kb N bs ss) : Calls Tryz.prog 31 #[.pointer (some ⟨kb, 0, none⟩)] w fun e w' => e = .returned (.tuple #[]) ∧ w' = w := by
  have hc := hbk.noneByteList
  clear hbk
  go_enter Tryz.func31, Tryz.ntmps31
  go_wp2
  go_loopw [2] (fun i wr => i = .int .i64 0 ∧ wr = w) (fun _ _ => 0)
  case atStart => exact ⟨rfl, rfl⟩
  case round =>
    obtain ⟨rfl, rfl⟩ := hrel
    go_wp2
    go_end0
    exact ⟨rfl, rfl⟩

set_option maxRecDepth 100000 in
set_option maxHeartbeats 400000 in
theorem lookByteList_nil {kb N : Nat} {bs ss : Value} {w : World} (hbk : BookAt w kb N bs ss) : Calls Tryz.prog 40 #[.pointer (some ⟨kb, 0, none⟩)] w fun e w' => e = .returned (.bool true) ∧ w' = w := by
  have hc := hbk.noneByteList
  clear hbk
  go_enter Tryz.func40, Tryz.ntmps40
  go_wp2
  go_loopw [3] (fun i wr => i = .int .i64 0 ∧ wr = w) (fun _ _ => 0)
  case atStart => exact ⟨rfl, rfl⟩
  case round =>
    obtain ⟨rfl, rfl⟩ := hrel
    go_wp2
    go_ret
    exact ⟨rfl, rfl⟩

set_option maxRecDepth 100000 in
set_option maxHeartbeats 400000 in
theorem fillPair_nil {kb N : Nat} {bs ss : Value} {w : World} (hbk : BookAt w kb N bs ss) : Calls Tryz.prog 24 #[.pointer (some ⟨kb, 0, none⟩)] w fun e w' => e = .returned (.tuple #[]) ∧ w' = w := by
  have hc := hbk.nonePair
  clear hbk
  go_enter Tryz.func24, Tryz.ntmps24
  go_wp2
  go_loopw [2] (fun i wr => i = .int .i64 0 ∧ wr = w) (fun _ _ => 0)
  case atStart => exact ⟨rfl, rfl⟩
  case round =>
    obtain ⟨rfl, rfl⟩ := hrel
    go_wp2
    go_end0
    exact ⟨rfl, rfl⟩

set_option maxRecDepth 100000 in
set_option maxHeartbeats 400000 in
theorem growPair_nil {kb N : Nat} {bs ss : Value} {w : World} (hbk : BookAt w kb N bs ss) : Calls Tryz.prog 33 #[.pointer (some ⟨kb, 0, none⟩)] w fun e w' => e = .returned (.tuple #[]) ∧ w' = w := by
  have hc := hbk.nonePair
  clear hbk
  go_enter Tryz.func33, Tryz.ntmps33
  go_wp2
  go_loopw [2] (fun i wr => i = .int .i64 0 ∧ wr = w) (fun _ _ => 0)
  case atStart => exact ⟨rfl, rfl⟩
  case round =>
    obtain ⟨rfl, rfl⟩ := hrel
    go_wp2
    go_end0
    exact ⟨rfl, rfl⟩

set_option maxRecDepth 100000 in
set_option maxHeartbeats 400000 in
theorem lookPair_nil {kb N : Nat} {bs ss : Value} {w : World} (hbk : BookAt w kb N bs ss) : Calls Tryz.prog 42 #[.pointer (some ⟨kb, 0, none⟩)] w fun e w' => e = .returned (.bool true) ∧ w' = w := by
  have hc := hbk.nonePair
  clear hbk
  go_enter Tryz.func42, Tryz.ntmps42
  go_wp2
  go_loopw [3] (fun i wr => i = .int .i64 0 ∧ wr = w) (fun _ _ => 0)
  case atStart => exact ⟨rfl, rfl⟩
  case round =>
    obtain ⟨rfl, rfl⟩ := hrel
    go_wp2
    go_ret
    exact ⟨rfl, rfl⟩

set_option maxRecDepth 100000 in
set_option maxHeartbeats 400000 in
theorem fillTenant_nil {kb N : Nat} {bs ss : Value} {w : World} (hbk : BookAt w kb N bs ss) : Calls Tryz.prog 25 #[.pointer (some ⟨kb, 0, none⟩)] w fun e w' => e = .returned (.tuple #[]) ∧ w' = w := by
  have hc := hbk.noneTenant
  clear hbk
  go_enter Tryz.func25, Tryz.ntmps25
  go_wp2
  go_loopw [2] (fun i wr => i = .int .i64 0 ∧ wr = w) (fun _ _ => 0)
  case atStart => exact ⟨rfl, rfl⟩
  case round =>
    obtain ⟨rfl, rfl⟩ := hrel
    go_wp2
    go_end0
    exact ⟨rfl, rfl⟩

set_option maxRecDepth 100000 in
set_option maxHeartbeats 400000 in
theorem growTenant_nil {kb N : Nat} {bs ss : Value} {w : World} (hbk : BookAt w kb N bs ss) : Calls Tryz.prog 34 #[.pointer (some ⟨kb, 0, none⟩)] w fun e w' => e = .returned (.tuple #[]) ∧ w' = w := by
  have hc := hbk.noneTenant
  clear hbk
  go_enter Tryz.func34, Tryz.ntmps34
  go_wp2
  go_loopw [2] (fun i wr => i = .int .i64 0 ∧ wr = w) (fun _ _ => 0)
  case atStart => exact ⟨rfl, rfl⟩
  case round =>
    obtain ⟨rfl, rfl⟩ := hrel
    go_wp2
    go_end0
    exact ⟨rfl, rfl⟩

set_option maxRecDepth 100000 in
set_option maxHeartbeats 400000 in
theorem lookTenant_nil {kb N : Nat} {bs ss : Value} {w : World} (hbk : BookAt w kb N bs ss) : Calls Tryz.prog 43 #[.pointer (some ⟨kb, 0, none⟩)] w fun e w' => e = .returned (.bool true) ∧ w' = w := by
  have hc := hbk.noneTenant
  clear hbk
  go_enter Tryz.func43, Tryz.ntmps43
  go_wp2
  go_loopw [3] (fun i wr => i = .int .i64 0 ∧ wr = w) (fun _ _ => 0)
  case atStart => exact ⟨rfl, rfl⟩
  case round =>
    obtain ⟨rfl, rfl⟩ := hrel
    go_wp2
    go_ret
    exact ⟨rfl, rfl⟩

set_option maxRecDepth 100000 in
set_option maxHeartbeats 400000 in
theorem fillLease_nil {kb N : Nat} {bs ss : Value} {w : World} (hbk : BookAt w kb N bs ss) : Calls Tryz.prog 26 #[.pointer (some ⟨kb, 0, none⟩)] w fun e w' => e = .returned (.tuple #[]) ∧ w' = w := by
  have hc := hbk.noneLease
  clear hbk
  go_enter Tryz.func26, Tryz.ntmps26
  go_wp2
  go_loopw [2] (fun i wr => i = .int .i64 0 ∧ wr = w) (fun _ _ => 0)
  case atStart => exact ⟨rfl, rfl⟩
  case round =>
    obtain ⟨rfl, rfl⟩ := hrel
    go_wp2
    go_end0
    exact ⟨rfl, rfl⟩

set_option maxRecDepth 100000 in
set_option maxHeartbeats 400000 in
theorem growLease_nil {kb N : Nat} {bs ss : Value} {w : World} (hbk : BookAt w kb N bs ss) : Calls Tryz.prog 35 #[.pointer (some ⟨kb, 0, none⟩)] w fun e w' => e = .returned (.tuple #[]) ∧ w' = w := by
  have hc := hbk.noneLease
  clear hbk
  go_enter Tryz.func35, Tryz.ntmps35
  go_wp2
  go_loopw [2] (fun i wr => i = .int .i64 0 ∧ wr = w) (fun _ _ => 0)
  case atStart => exact ⟨rfl, rfl⟩
  case round =>
    obtain ⟨rfl, rfl⟩ := hrel
    go_wp2
    go_end0
    exact ⟨rfl, rfl⟩

set_option maxRecDepth 100000 in
set_option maxHeartbeats 400000 in
theorem lookLease_nil {kb N : Nat} {bs ss : Value} {w : World} (hbk : BookAt w kb N bs ss) : Calls Tryz.prog 44 #[.pointer (some ⟨kb, 0, none⟩)] w fun e w' => e = .returned (.bool true) ∧ w' = w := by
  have hc := hbk.noneLease
  clear hbk
  go_enter Tryz.func44, Tryz.ntmps44
  go_wp2
  go_loopw [3] (fun i wr => i = .int .i64 0 ∧ wr = w) (fun _ _ => 0)
  case atStart => exact ⟨rfl, rfl⟩
  case round =>
    obtain ⟨rfl, rfl⟩ := hrel
    go_wp2
    go_ret
    exact ⟨rfl, rfl⟩

set_option maxRecDepth 100000 in
set_option maxHeartbeats 400000 in
theorem fillEvent_nil {kb N : Nat} {bs ss : Value} {w : World} (hbk : BookAt w kb N bs ss) : Calls Tryz.prog 27 #[.pointer (some ⟨kb, 0, none⟩)] w fun e w' => e = .returned (.tuple #[]) ∧ w' = w := by
  have hc := hbk.noneEvent
  clear hbk
  go_enter Tryz.func27, Tryz.ntmps27
  go_wp2
  go_loopw [2] (fun i wr => i = .int .i64 0 ∧ wr = w) (fun _ _ => 0)
  case atStart => exact ⟨rfl, rfl⟩
  case round =>
    obtain ⟨rfl, rfl⟩ := hrel
    go_wp2
    go_end0
    exact ⟨rfl, rfl⟩

set_option maxRecDepth 100000 in
set_option maxHeartbeats 400000 in
theorem growEvent_nil {kb N : Nat} {bs ss : Value} {w : World} (hbk : BookAt w kb N bs ss) : Calls Tryz.prog 36 #[.pointer (some ⟨kb, 0, none⟩)] w fun e w' => e = .returned (.tuple #[]) ∧ w' = w := by
  have hc := hbk.noneEvent
  clear hbk
  go_enter Tryz.func36, Tryz.ntmps36
  go_wp2
  go_loopw [2] (fun i wr => i = .int .i64 0 ∧ wr = w) (fun _ _ => 0)
  case atStart => exact ⟨rfl, rfl⟩
  case round =>
    obtain ⟨rfl, rfl⟩ := hrel
    go_wp2
    go_end0
    exact ⟨rfl, rfl⟩

set_option maxRecDepth 100000 in
set_option maxHeartbeats 400000 in
theorem lookEvent_nil {kb N : Nat} {bs ss : Value} {w : World} (hbk : BookAt w kb N bs ss) : Calls Tryz.prog 45 #[.pointer (some ⟨kb, 0, none⟩)] w fun e w' => e = .returned (.bool true) ∧ w' = w := by
  have hc := hbk.noneEvent
  clear hbk
  go_enter Tryz.func45, Tryz.ntmps45
  go_wp2
  go_loopw [3] (fun i wr => i = .int .i64 0 ∧ wr = w) (fun _ _ => 0)
  case atStart => exact ⟨rfl, rfl⟩
  case round =>
    obtain ⟨rfl, rfl⟩ := hrel
    go_wp2
    go_ret
    exact ⟨rfl, rfl⟩

end Go.Proofs.YtilgikhdamkeoaaGreatDoor

/-
  The Book of the statements: Apart: no list shares memory with another one.
-/
namespace Go.Proofs.YtilgikhdamkeoaaGreatDoor
open Go.RowKit

theorem nil_same {P : Program} {f : FuncId} {args : Array Value} {w : World} {v : Value} (h : Calls P f args w fun e w' => e = .returned v ∧ w' = w) : Calls P f args w fun e w' => e = .returned v ∧ w = w' := h.mono fun _ _ ⟨h1, h2⟩ => ⟨h1, h2.symm⟩

/-- A Book whose lists are rows of the call's own, no two of which share a block. -/
structure Kept2 (w : World) (base kb N : Nat) (bs ss : Value) (K1 K2 : Nat) (h1 h2 : List Held) : Prop where
  book : BookAt w kb N bs ss
  own1 : w.ownsRow base 75 3 bs K1 (heldCells h1)
  own2 : w.ownsRow base 72 3 ss K2 (heldCells h2)
  lists1 : Lists w base h1
  lists2 : ListsS w base h2
  le1 : K1 ≤ 1000000
  le2 : K2 ≤ 1000000
  len1 : ∀ (i : Nat) (h : Held), h1[i]? = some h → h.len ≤ 1000000000
  len2 : ∀ (i : Nat) (h : Held), h2[i]? = some h → h.len ≤ 1000000000
  kb : base ≤ kb
  base : base ≤ w.heap.size

theorem inLists_ge {w : World} {base : Nat} {hs : List Held} (h : Lists w base hs) : ∀ b, inLists hs b → base ≤ b := by
  rintro b ⟨i, k, hk, hb⟩
  obtain ⟨xs, hx⟩ := h.own i k hk
  exact (hx.lt b hb).1
theorem inListsS_ge {w : World} {base : Nat} {hs : List Held} (h : ListsS w base hs) : ∀ b, inLists hs b → base ≤ b := by
  rintro b ⟨i, k, hk, hb⟩
  obtain ⟨xs, hx⟩ := h.own i k hk
  exact (hx.lt b hb).1

/-- A row of another element type than the lists' is no list's. -/
theorem not_in {w : World} {base b2 : Nat} {hs : List Held} {e : TypeId} {s n : Nat} {v : Value} {xs : List Value} (h : Lists w base hs) (he : 5 ≠ e) (hv : w.ownsRow b2 e s v n xs) : ∀ b, v.ownBlock = some b → ¬ inLists hs b := by
  rintro b hb ⟨i, k, hk, hb'⟩
  obtain ⟨ys, hy⟩ := h.own i k hk
  rcases rows_ne he hy hv with e0 | e0
  · rw [e0] at hb'; cases hb'
  · exact e0 (hb'.trans hb.symm)
theorem not_inS {w : World} {base b2 : Nat} {hs : List Held} {e : TypeId} {s n : Nat} {v : Value} {xs : List Value} (h : ListsS w base hs) (he : 25 ≠ e) (hv : w.ownsRow b2 e s v n xs) : ∀ b, v.ownBlock = some b → ¬ inLists hs b := by
  rintro b hb ⟨i, k, hk, hb'⟩
  obtain ⟨ys, hy⟩ := h.own i k hk
  rcases rows_ne he hy hv with e0 | e0
  · rw [e0] at hb'; cases hb'
  · exact e0 (hb'.trans hb.symm)
theorem book_not_in {w : World} {base kb N : Nat} {bs ss : Value} {hs : List Held} (h : Lists w base hs) (hb : BookAt w kb N bs ss) : ¬ inLists hs kb := by
  rintro ⟨i, k, hk, hb'⟩
  obtain ⟨ys, hy⟩ := h.own i k hk
  exact hb.other (by decide) hy hb'
theorem book_not_inS {w : World} {base kb N : Nat} {bs ss : Value} {hs : List Held} (h : ListsS w base hs) (hb : BookAt w kb N bs ss) : ¬ inLists hs kb := by
  rintro ⟨i, k, hk, hb'⟩
  obtain ⟨ys, hy⟩ := h.own i k hk
  exact hb.other (by decide) hy hb'
theorem not_row {w : World} {b1 b2 : Nat} {e1 e2 : TypeId} {s1 s2 n1 n2 : Nat} {v1 v2 : Value} {x1 x2 : List Value} (he : e1 ≠ e2) (h1 : w.ownsRow b1 e1 s1 v1 n1 x1) (h2 : w.ownsRow b2 e2 s2 v2 n2 x2) : ∀ b, v1.ownBlock = some b → v2.ownBlock ≠ some b := by
  intro b hb hb'
  rcases rows_ne he h1 h2 with e0 | e0
  · rw [e0] at hb; cases hb
  · exact e0 (hb.trans hb'.symm)

/-- What is left alone by writes to blocks of S stays. -/
theorem Kept2.but {S : Nat → Prop} {w w' : World} {base kb N : Nat} {bs ss : Value} {K1 K2 : Nat} {h1 h2 : List Held} (h : Kept2 w base kb N bs ss K1 K2 h1 h2) (hb : But S w w') (hkb : ¬ S kb) (hbs : ∀ b, bs.ownBlock = some b → ¬ S b) (hss : ∀ b, ss.ownBlock = some b → ¬ S b)
    (l1 : Lists w' base h1) (l2 : ListsS w' base h2) : Kept2 w' base kb N bs ss K1 K2 h1 h2 :=
  ⟨h.book.but hb hkb, own_kept_but h.own1 hb hbs, own_kept_but h.own2 hb hss, l1, l2, h.le1, h.le2, h.len1, h.len2, h.kb, Nat.le_trans h.base hb.size⟩
theorem Kept2.below {w w' : World} {base kb N : Nat} {bs ss : Value} {K1 K2 : Nat} {h1 h2 : List Held} (h : Kept2 w base kb N bs ss K1 K2 h1 h2) (hb : Below w.heap.size w w') : Kept2 w' base kb N bs ss K1 K2 h1 h2 :=
  h.but (S := fun _ => False) (But.of_below hb) (fun e => e) (fun _ _ e => e) (fun _ _ e => e)
    ⟨fun i k hk => by obtain ⟨xs, hx⟩ := h.lists1.own i k hk; exact ⟨xs, own_on hx hb⟩, h.lists1.apart⟩ ⟨fun i k hk => by obtain ⟨xs, hx⟩ := h.lists2.own i k hk; exact ⟨xs, own_on hx hb⟩, h.lists2.apart⟩

theorem Lists.of_filled {w w' : World} {base K : Nat} {hs : List Held} (h : Lists w base hs) (hf : Filled w' base hs K) : Lists w' base hs :=
  ⟨fun i k hk => by obtain ⟨xs, hx, _⟩ := hf i k hk; exact ⟨xs, hx⟩, h.apart⟩
theorem ListsS.of_filled {w w' : World} {base K : Nat} {hs : List Held} (h : ListsS w base hs) (hf : FilledS w' base hs K) : ListsS w' base hs :=
  ⟨fun i k hk => by obtain ⟨xs, hx, _⟩ := hf i k hk; exact ⟨xs, hx⟩, h.apart⟩
theorem Lists.but {S : Nat → Prop} {w w' : World} {base : Nat} {hs : List Held} (h : Lists w base hs) (hb : But S w w') (hn : ∀ b, inLists hs b → ¬ S b) : Lists w' base hs :=
  ⟨fun i k hk => by obtain ⟨xs, hx⟩ := h.own i k hk; exact ⟨xs, own_kept_but hx hb (fun b e => hn b ⟨i, k, hk, e⟩)⟩, h.apart⟩
theorem ListsS.but {S : Nat → Prop} {w w' : World} {base : Nat} {hs : List Held} (h : ListsS w base hs) (hb : But S w w') (hn : ∀ b, inLists hs b → ¬ S b) : ListsS w' base hs :=
  ⟨fun i k hk => by obtain ⟨xs, hx⟩ := h.own i k hk; exact ⟨xs, own_kept_but hx hb (fun b e => hn b ⟨i, k, hk, e⟩)⟩, h.apart⟩
theorem Filled.but {S : Nat → Prop} {w w' : World} {base K : Nat} {hs : List Held} (h : Filled w base hs K) (hb : But S w w') (hn : ∀ b, inLists hs b → ¬ S b) : Filled w' base hs K := fun i k hk => by
  obtain ⟨xs, hx, e⟩ := h i k hk
  exact ⟨xs, own_kept_but hx hb (fun b e => hn b ⟨i, k, hk, e⟩), e⟩
theorem FilledS.but {S : Nat → Prop} {w w' : World} {base K : Nat} {hs : List Held} (h : FilledS w base hs K) (hb : But S w w') (hn : ∀ b, inLists hs b → ¬ S b) : FilledS w' base hs K := fun i k hk => by
  obtain ⟨xs, hx, e⟩ := h i k hk
  exact ⟨xs, own_kept_but hx hb (fun b e => hn b ⟨i, k, hk, e⟩), e⟩
/-- Lists of unlike elements lie in unlike blocks. -/
theorem lists_off {w : World} {base : Nat} {h1 h2 : List Held} (l1 : Lists w base h1) (l2 : ListsS w base h2) : ∀ b, inLists h1 b → ¬ inLists h2 b := by
  rintro b ⟨i, k, hk, hb⟩ hin
  obtain ⟨xs, hx⟩ := l1.own i k hk
  exact not_inS l2 (by decide) hx b hb hin

theorem GrownTo.marked {w w' : World} {base K : Nat} {hs hs' : List Held} (h : GrownTo w w' base hs hs' K) (hK : hs.length = K) (hlen : ∀ (i : Nat) (h : Held), hs[i]? = some h → h.len ≤ 1000000000) : Marked w' base hs' := fun i k' hk' => by
  have hi := (List.getElem?_eq_some_iff.1 hk').1
  rw [h.1] at hi
  obtain ⟨k'', hk'', G⟩ := h.2 i _ (List.getElem?_eq_getElem hi)
  rw [hk'] at hk''
  cases hk''
  obtain ⟨l1, l2, _⟩ := G.long (by omega)
  have l3 := hlen i _ (List.getElem?_eq_getElem hi)
  rw [G.len, G.v, G.num]
  exact ⟨l1, G.row, l2, l3⟩
theorem GrownToS.marked {w w' : World} {base K : Nat} {hs hs' : List Held} (h : GrownToS w w' base hs hs' K) (hK : hs.length = K) (hlen : ∀ (i : Nat) (h : Held), hs[i]? = some h → h.len ≤ 1000000000) : MarkedS w' base hs' := fun i k' hk' => by
  have hi := (List.getElem?_eq_some_iff.1 hk').1
  rw [h.1] at hi
  obtain ⟨k'', hk'', G⟩ := h.2 i _ (List.getElem?_eq_getElem hi)
  rw [hk'] at hk''
  cases hk''
  obtain ⟨l1, l2, _⟩ := G.long (by omega)
  have l3 := hlen i _ (List.getElem?_eq_getElem hi)
  rw [G.len, G.v, G.num]
  exact ⟨l1, G.row, l2, l3⟩
theorem Marked.but {S : Nat → Prop} {w w' : World} {base : Nat} {hs : List Held} (h : Marked w base hs) (hb : But S w w') (hn : ∀ v n xs, w.ownsRow base 5 1 v n xs → ∀ b, v.ownBlock = some b → ¬ S b) : Marked w' base hs := fun i k hk => by
  obtain ⟨a, b, c, d⟩ := h i k hk
  exact ⟨a, own_kept_but b hb (hn _ _ _ b), own_kept_but c hb (hn _ _ _ c), d⟩
theorem MarkedS.but {S : Nat → Prop} {w w' : World} {base : Nat} {hs : List Held} (h : MarkedS w base hs) (hb : But S w w') (hn : ∀ v n xs, w.ownsRow base 25 32 v n xs → ∀ b, v.ownBlock = some b → ¬ S b) : MarkedS w' base hs := fun i k hk => by
  obtain ⟨a, b, c, d⟩ := h i k hk
  exact ⟨a, own_kept_but b hb (hn _ _ _ b), own_kept_but c hb (hn _ _ _ c), d⟩

set_option maxRecDepth 100000 in
set_option maxHeartbeats 4000000 in
theorem apart_any (kb N base K1 K2 : Nat) (bs ss : Value) (h1 h2 : List Held) (w : World) (H : Kept2 w base kb N bs ss K1 K2 h1 h2) :
    Calls Tryz.prog 12 #[.pointer (some ⟨kb, 0, none⟩)] w fun e w' => e = .returned (.bool true) ∧ Below base w w' := by
  have H0 := Lib.hid H
  clear H
  go_enter Tryz.func12, Tryz.ntmps12
  go_wp2_with fail
  refine (fillByte_any kb N base K1 bs ss h1 w H0.out.book H0.out.own1 H0.out.lists1 H0.out.le1 H0.out.len1).mono ?_
  rintro e w1 ⟨rfl, hf1, hb1⟩
  have H1 := Lib.hid (H0.out.but hb1 (book_not_in H0.out.lists1 H0.out.book) (not_in H0.out.lists1 (by decide) H0.out.own1) (not_in H0.out.lists1 (by decide) H0.out.own2) (H0.out.lists1.of_filled hf1) (H0.out.lists2.but hb1 (fun b hb hb' => lists_off H0.out.lists1 H0.out.lists2 b hb' hb)))
  have B1 := Lib.hid (hb1.below H0.out.base (inLists_ge H0.out.lists1))
  have F1 := Lib.hid hf1
  have K1b := Lib.hid H1.out.book
  clear hf1 hb1 H0
  go_wp2_with fail
  refine (nil_same (fillInt_nil K1b.out)).mono ?_
  rintro e _ ⟨rfl, rfl⟩
  go_wp2_with fail
  refine (nil_same (fillText_nil K1b.out)).mono ?_
  rintro e _ ⟨rfl, rfl⟩
  go_wp2_with fail
  refine (nil_same (fillByteList_nil K1b.out)).mono ?_
  rintro e _ ⟨rfl, rfl⟩
  go_wp2_with fail
  refine (fillSum_any kb N base K2 bs ss h2 w1 H1.out.book H1.out.own2 H1.out.lists2 H1.out.le2 H1.out.len2).mono ?_
  rintro e w2 ⟨rfl, hf2, hb2⟩
  have H2 := Lib.hid (H1.out.but hb2 (book_not_inS H1.out.lists2 H1.out.book) (not_inS H1.out.lists2 (by decide) H1.out.own1) (not_inS H1.out.lists2 (by decide) H1.out.own2) (H1.out.lists1.but hb2 (lists_off H1.out.lists1 H1.out.lists2)) (H1.out.lists2.of_filled hf2))
  have B2 := Lib.hid (B1.out.trans (hb2.below H1.out.base (inListsS_ge H1.out.lists2)))
  have F2 := Lib.hid (F1.out.but hb2 (lists_off H1.out.lists1 H1.out.lists2))
  have F2S := Lib.hid hf2
  have K2b := Lib.hid H2.out.book
  clear hf2 hb2 H1 B1 F1 K1b
  go_wp2_with fail
  refine (nil_same (fillPair_nil K2b.out)).mono ?_
  rintro e _ ⟨rfl, rfl⟩
  go_wp2_with fail
  refine (nil_same (fillTenant_nil K2b.out)).mono ?_
  rintro e _ ⟨rfl, rfl⟩
  go_wp2_with fail
  refine (nil_same (fillLease_nil K2b.out)).mono ?_
  rintro e _ ⟨rfl, rfl⟩
  go_wp2_with fail
  refine (nil_same (fillEvent_nil K2b.out)).mono ?_
  rintro e _ ⟨rfl, rfl⟩
  go_wp2_with fail
  refine (growByte_any kb N base K1 bs ss h1 w2 H2.out.book H2.out.own1 H2.out.lists1 F2.out H2.out.le1 H2.out.len1 H2.out.base).mono ?_
  rintro e w3 ⟨rfl, hs1, ho3, hg3, hb3⟩
  have M3 := Lib.hid (hg3.marked (by have := H2.out.own1.1; rw [heldCells_length] at this; omega) H2.out.len1)
  have bk3 := H2.out.book.but hb3 (fun h => h.elim (book_not_in H2.out.lists1 H2.out.book) (H2.out.book.other (by decide) H2.out.own1))
  have os3 := own_kept_but H2.out.own2 hb3 (fun b hb h => h.elim (not_in H2.out.lists1 (by decide) H2.out.own2 b hb) (not_row (by decide) H2.out.own2 H2.out.own1 b hb))
  have off3 : ∀ b, inLists h2 b → ¬ (inLists h1 b ∨ bs.ownBlock = some b) := fun b hb h => h.elim (fun h' => lists_off H2.out.lists1 H2.out.lists2 b h' hb) (fun h' => not_inS H2.out.lists2 (by decide) H2.out.own1 b h' hb)
  have L3 := H2.out.lists2.but hb3 off3
  have F3 := Lib.hid (F2S.out.but hb3 off3)
  have B3 := Lib.hid (B2.out.trans (hb3.below H2.out.base (fun b h => h.elim (inLists_ge H2.out.lists1 b) (fun h' => (H2.out.own1.lt b h').1))))
  have H3 := Lib.hid (And.intro bk3 (And.intro ho3 (And.intro os3 (And.intro L3 (And.intro H2.out.le1 (And.intro H2.out.le2 (And.intro H2.out.len2 (Nat.le_trans H2.out.base hb3.size))))))))
  have K3b := Lib.hid bk3
  clear hg3 hb3 bk3 os3 off3 L3 ho3 H2 B2 F2 F2S K2b
  go_wp2_with fail
  refine (nil_same (growInt_nil K3b.out)).mono ?_
  rintro e _ ⟨rfl, rfl⟩
  go_wp2_with fail
  refine (nil_same (growText_nil K3b.out)).mono ?_
  rintro e _ ⟨rfl, rfl⟩
  go_wp2_with fail
  refine (nil_same (growByteList_nil K3b.out)).mono ?_
  rintro e _ ⟨rfl, rfl⟩
  go_wp2_with fail
  refine (growSum_any kb N base K2 bs ss h2 w3 H3.out.1 H3.out.2.2.1 H3.out.2.2.2.1 F3.out H3.out.2.2.2.2.2.1 H3.out.2.2.2.2.2.2.1 H3.out.2.2.2.2.2.2.2).mono ?_
  rintro e w4 ⟨rfl, hs2, ho4, hg4, hb4⟩
  have M4S := Lib.hid (hg4.marked (by have := H3.out.2.2.1.1; rw [heldCells_length] at this; omega) H3.out.2.2.2.2.2.2.1)
  have M4 := Lib.hid (M3.out.but hb4 (fun v n xs hv b hb h => h.elim (not_inS H3.out.2.2.2.1 (by decide) hv b hb) (not_row (by decide) hv H3.out.2.2.1 b hb)))
  have bk4 := H3.out.1.but hb4 (fun h => h.elim (book_not_inS H3.out.2.2.2.1 H3.out.1) (H3.out.1.other (by decide) H3.out.2.2.1))
  have ob4 := own_kept_but H3.out.2.1 hb4 (fun b hb h => h.elim (not_inS H3.out.2.2.2.1 (by decide) H3.out.2.1 b hb) (not_row (by decide) H3.out.2.1 H3.out.2.2.1 b hb))
  have B4 := Lib.hid (B3.out.trans (hb4.below H3.out.2.2.2.2.2.2.2 (fun b h => h.elim (inListsS_ge H3.out.2.2.2.1 b) (fun h' => (H3.out.2.2.1.lt b h').1))))
  have H4 := Lib.hid (And.intro bk4 (And.intro ob4 (And.intro ho4 (And.intro H3.out.2.2.2.2.1 (And.intro H3.out.2.2.2.2.2.1 (Nat.le_trans H3.out.2.2.2.2.2.2.2 hb4.size))))))
  have K4b := Lib.hid bk4
  clear hg4 hb4 bk4 ob4 ho4 H3 B3 F3 M3 K3b
  go_wp2_with fail
  refine (nil_same (growPair_nil K4b.out)).mono ?_
  rintro e _ ⟨rfl, rfl⟩
  go_wp2_with fail
  refine (nil_same (growTenant_nil K4b.out)).mono ?_
  rintro e _ ⟨rfl, rfl⟩
  go_wp2_with fail
  refine (nil_same (growLease_nil K4b.out)).mono ?_
  rintro e _ ⟨rfl, rfl⟩
  go_wp2_with fail
  refine (nil_same (growEvent_nil K4b.out)).mono ?_
  rintro e _ ⟨rfl, rfl⟩
  go_wp2_with fail
  refine (lookByte_any kb N base K1 bs ss hs1 w4 H4.out.1 H4.out.2.1 M4.out H4.out.2.2.2.1).mono ?_
  rintro e w5 ⟨rfl, hb5⟩
  have bk5 := H4.out.1.but hb5 (fun e => e)
  have os5 := own_kept_but H4.out.2.2.1 hb5 (fun _ _ e => e)
  have M5S := Lib.hid (M4S.out.but hb5 (fun _ _ _ _ _ _ e => e))
  have B5 := Lib.hid (B4.out.trans (hb5.below H4.out.2.2.2.2.2 (fun _ e => e.elim)))
  have H5 := Lib.hid (And.intro bk5 (And.intro os5 (And.intro H4.out.2.2.2.2.1 (Nat.le_trans H4.out.2.2.2.2.2 hb5.size))))
  have K5b := Lib.hid bk5
  clear hb5 bk5 os5 H4 B4 M4 M4S K4b
  go_wp2_with fail
  refine (nil_same (lookInt_nil K5b.out)).mono ?_
  rintro e _ ⟨rfl, rfl⟩
  go_wp2_with fail
  refine (nil_same (lookText_nil K5b.out)).mono ?_
  rintro e _ ⟨rfl, rfl⟩
  go_wp2_with fail
  refine (nil_same (lookByteList_nil K5b.out)).mono ?_
  rintro e _ ⟨rfl, rfl⟩
  go_wp2_with fail
  refine (lookSum_any kb N base K2 bs ss hs2 w5 H5.out.1 H5.out.2.1 M5S.out H5.out.2.2.1).mono ?_
  rintro e w6 ⟨rfl, hb6⟩
  have bk6 := H5.out.1.but hb6 (fun e => e)
  have B6 := Lib.hid (B5.out.trans (hb6.below H5.out.2.2.2 (fun _ e => e.elim)))
  have K6b := Lib.hid bk6
  clear hb6 bk6 H5 B5 M5S K5b
  go_wp2_with fail
  refine (nil_same (lookPair_nil K6b.out)).mono ?_
  rintro e _ ⟨rfl, rfl⟩
  go_wp2_with fail
  refine (nil_same (lookTenant_nil K6b.out)).mono ?_
  rintro e _ ⟨rfl, rfl⟩
  go_wp2_with fail
  refine (nil_same (lookLease_nil K6b.out)).mono ?_
  rintro e _ ⟨rfl, rfl⟩
  go_wp2_with fail
  refine (nil_same (lookEvent_nil K6b.out)).mono ?_
  rintro e _ ⟨rfl, rfl⟩
  go_wp2
  go_ret
  exact ⟨rfl, B6.out⟩

end Go.Proofs.YtilgikhdamkeoaaGreatDoor

/-
  The Book of the statements: lists of sums.
-/
namespace Go.Proofs.YtilgikhdamkeoaaGreatDoor
open Go.RowKit

theorem infoHeldSum : (Tryz.prog.info? 72).map (fun i => (i.zero, i.size, i.bytes)) = some (some (.agg #[.slice none 0 0, .slice none 0 0, .int .i64 0]), 3, 56) := by kernel_rfl

set_option maxRecDepth 100000 in
set_option maxHeartbeats 1000000 in
theorem keepSum_at (kb N base k : Nat) (bs ss : Value) (es : List Value) (A : Option Addr) (n c : Nat) (w : World) (hbk : BookAt w kb N bs ss) (hbase : base ≤ w.heap.size)
    (hown : w.ownsRow base 72 3 ss k es) (hN : N ≤ 1000000) (hk : k ≤ 1000000) :
    Calls Tryz.prog 18 #[.pointer (some ⟨kb, 0, none⟩), .slice A n c] w fun e w' => e = .returned (.tuple #[]) ∧
      (∃ ss', BookAt w' kb (N + 1) bs ss' ∧ w'.ownsRow base 72 3 ss' (k + 1) (es ++ [.slice A n c, .slice none 0 0, .int .i64 ((N + 1 : Nat) : Int)]) ∧ ∀ b, ss'.ownBlock = some b → ss.ownBlock = some b ∨ w.heap.size ≤ b) ∧ But (fun b => b = kb ∨ ss.ownBlock = some b) w w' := by
  obtain ⟨i0, hi0, hz0, hz1, hz2⟩ := info_parts infoHeldSum
  have h0 := hbk.n
  have h1 := hbk.s
  have f0 := hbk.fz 0
  have f1 := hbk.fz 5
  go_enter Tryz.func18, Tryz.ntmps18
  go_wp2_with fail
  have hbk1 := hbk.setN (N + 1)
  have hown1 := hown.kept (grown_set w kb 0 (.int .i64 ((N + 1 : Nat) : Int))) (.inr (hbk.other (by decide) hown))
  have hB1 : But (fun b => b = kb ∨ ss.ownBlock = some b) w (w.setCell ⟨kb, 0, none⟩ (.int .i64 ((N + 1 : Nat) : Int))) := (But.refl _ w).set 0 _ (fun _ => .inl rfl)
  have hbase1 : base ≤ (w.setCell ⟨kb, 0, none⟩ (.int .i64 ((N + 1 : Nat) : Int))).heap.size := by simpa [World.setCell] using hbase
  have hsz1 : w.heap.size ≤ (w.setCell ⟨kb, 0, none⟩ (.int .i64 ((N + 1 : Nat) : Int))).heap.size := by simp [World.setCell]
  rw [show ((N + 1 : Nat) : Int) = (N : Int) + 1 by omega] at hbk1 hown1 hbase1 hB1 hsz1
  generalize w.setCell ⟨kb, 0, none⟩ (.int .i64 ((N : Int) + 1)) = w1 at *
  clear h0 h1 f0 f1 hbk hown hbase
  have h0 := hbk1.n
  have h1 := hbk1.s
  rw [show ((N + 1 : Nat) : Int) = (N : Int) + 1 by omega] at h0
  have lk := hbk1.lt
  have ag := hbk1.other (by decide) hown1
  go_region_law
    ((refine step_append_lies _ (by rfl) _ _ _ (by rfl) base 72 i0 _ 3 56 Tryz.underlying38 hi0 hz0 hz1 hz2 rfl (by omega) ss k es (by rfl) ((hown1.alloc _).drew)
        ⟨w1.heap.size, 0, none⟩ 1 1 [.slice A n c, .slice none 0 0, .int .i64 ((N : Int) + 1)] (by rfl) (by rfl) (World.news_of_block (cs := #[.slice A n c, .slice none 0 0, .int .i64 ((N : Int) + 1)]) (t := 72) (fr := (0, 0)) (heap_alloc_new w1 _)) (by simp [Value.oneCell'])
        (by omega) (by unfold maxLen; omega) (by omega) (by simp; omega) (w1.heap.size + 1) (by simp) ?_; intro gg cap w2 hown2 hgrow hat hlt; have hbk2 := BookAt.grown (hbk1.below (below_alloc w1 (.cells #[.slice A n c, .slice none 0 0, .int .i64 ((N : Int) + 1)] 72)).drew) hgrow ag; have hc2 := hbk2.s; have hf2 := hbk2.fz 5))
  all_goals
    have hown3 := hown2.kept (grown_set w2 kb 5 (.slice (some ⟨gg, 0, none⟩) (k + 1) cap)) (.inr (hbk2.other (by decide) hown2))
    have hB3 : But (fun b => b = kb ∨ ss.ownBlock = some b) w (w2.setCell ⟨kb, 5, none⟩ (.slice (some ⟨gg, 0, none⟩) (k + 1) cap)) :=
      (((hB1.alloc _).drew).grown hgrow (fun _ e _ => .inr e)).set 5 _ (fun _ => .inl rfl)
    go_end0
    exact ⟨rfl, ⟨_, hbk2.setS _, hown3, fun b hb => by
      have e : gg = b := by injection hb
      rcases hat with h | h
      · exact .inl (e ▸ h)
      · right; omega⟩, hB3⟩

theorem keepSum_any (kb N base k : Nat) (bs ss : Value) (es : List Value) (A : Option Addr) (n c : Nat) (w : World) (hbk : BookAt w kb N bs ss) (hbase : base ≤ w.heap.size)
    (hown : w.ownsRow base 72 3 ss k es) (hN : N ≤ 1000000) (hk : k ≤ 1000000) :
    Calls Tryz.prog 18 #[.pointer (some ⟨kb, 0, none⟩), .slice A n c] w fun e w' => e = .returned (.tuple #[]) ∧
      (∃ ss', BookAt w' kb (N + 1) bs ss' ∧ w'.ownsRow base 72 3 ss' (k + 1) (es ++ [.slice A n c, .slice none 0 0, .int .i64 ((N + 1 : Nat) : Int)])) ∧ But (fun b => b = kb ∨ ss.ownBlock = some b) w w' :=
  (keepSum_at kb N base k bs ss es A n c w hbk hbase hown hN hk).mono fun _ _ ⟨h1, ⟨ss', h2, h3, _⟩, h4⟩ => ⟨h1, ⟨ss', h2, h3⟩, h4⟩

set_option maxRecDepth 100000 in
set_option maxHeartbeats 400000 in
theorem bookSums_at (kb N base k : Nat) (bs ss : Value) (es : List Value) (A : Option Addr) (n c : Nat) (w : World) (hbk : BookAt w kb N bs ss) (hbase : base ≤ w.heap.size)
    (hown : w.ownsRow base 72 3 ss k es) (hN : N ≤ 1000000) (hk : k ≤ 1000000) :
    Calls Tryz.prog 11 #[.pointer (some ⟨kb, 0, none⟩), .slice A n c] w fun e w' => e = .returned (.tuple #[]) ∧
      (∃ ss', BookAt w' kb (N + 1) bs ss' ∧ w'.ownsRow base 72 3 ss' (k + 1) (es ++ [.slice A n c, .slice none 0 0, .int .i64 ((N + 1 : Nat) : Int)]) ∧ ∀ b, ss'.ownBlock = some b → ss.ownBlock = some b ∨ w.heap.size ≤ b) ∧ But (fun b => b = kb ∨ ss.ownBlock = some b) w w' := by
  go_enter Tryz.func11, Tryz.ntmps11
  go_wp2_with fail
  refine (keepSum_at kb N base k bs ss es A n c w hbk hbase hown hN hk).mono ?_
  rintro e w1 ⟨rfl, h1, h2⟩
  go_wp2_with fail
  go_end0
  exact ⟨rfl, h1, h2⟩

theorem bookSums_any (kb N base k : Nat) (bs ss : Value) (es : List Value) (A : Option Addr) (n c : Nat) (w : World) (hbk : BookAt w kb N bs ss) (hbase : base ≤ w.heap.size)
    (hown : w.ownsRow base 72 3 ss k es) (hN : N ≤ 1000000) (hk : k ≤ 1000000) :
    Calls Tryz.prog 11 #[.pointer (some ⟨kb, 0, none⟩), .slice A n c] w fun e w' => e = .returned (.tuple #[]) ∧
      (∃ ss', BookAt w' kb (N + 1) bs ss' ∧ w'.ownsRow base 72 3 ss' (k + 1) (es ++ [.slice A n c, .slice none 0 0, .int .i64 ((N + 1 : Nat) : Int)])) ∧ But (fun b => b = kb ∨ ss.ownBlock = some b) w w' :=
  (bookSums_at kb N base k bs ss es A n c w hbk hbase hown hN hk).mono fun _ _ ⟨h1, ⟨ss', h2, h3, _⟩, h4⟩ => ⟨h1, ⟨ss', h2, h3⟩, h4⟩

end Go.Proofs.YtilgikhdamkeoaaGreatDoor

/-
  A Book of lists of sums that calls have answered, and of copies.
-/
namespace Go.Proofs.YtilgikhdamkeoaaGreatDoor
open Go.RowKit

structure BookS (w W : World) (kb j : Nat) (hs : List Held) (ss : Value) : Prop where
  kept : Kept2 W w.heap.size kb j (.slice none 0 0) ss 0 j [] hs
  bel : Below w.heap.size w W
  ssge : ∀ b, ss.ownBlock = some b → kb ≤ b

theorem own_le2 {w : World} {base base' size n : Nat} {e : TypeId} {v : Value} {xs : List Value} (h : w.ownsRow base e size v n xs) (hb : base' ≤ base) : w.ownsRow base' e size v n xs :=
  ⟨h.1, h.2.elim Or.inl (fun ⟨g, cap, cur, hv, hg, r⟩ => Or.inr ⟨g, cap, cur, hv, Nat.le_trans hb hg, r⟩)⟩

/-- A Book that was made just now. -/
theorem book_new (w W : World) (hb : Below w.heap.size w W) : BookS w (W.alloc (.cells #[.int .i64 0, .slice none 0 0, .slice none 0 0, .slice none 0 0, .slice none 0 0, .slice none 0 0, .slice none 0 0, .slice none 0 0, .slice none 0 0, .slice none 0 0] 44)) W.heap.size 0 [] (.slice none 0 0) := by
  have b2 := hb.alloc hb.size (.cells #[.int .i64 0, .slice none 0 0, .slice none 0 0, .slice none 0 0, .slice none 0 0, .slice none 0 0, .slice none 0 0, .slice none 0 0, .slice none 0 0, .slice none 0 0] 44)
  exact ⟨⟨World.alloc_heap_new W _, own_none _ _ _ _, own_none _ _ _ _, ⟨fun i k hk => by simp at hk, fun i j h1 h2 hi => by simp at hi⟩, ⟨fun i k hk => by simp at hk, fun i j h1 h2 hi => by simp at hi⟩, by omega, by omega, fun i k hk => by simp at hk, fun i k hk => by simp at hk, hb.size, b2.size⟩, b2, fun b e => by cases e⟩

theorem held_far (hs : List Held) {A : Option Addr} {n c q N : Nat} (h0 : ∀ (i : Nat) (k : Held), hs[i]? = some k → ∀ b, k.v.ownBlock = some b → b < N) (h : ∀ b, (Value.slice A n c).ownBlock = some b → b < N) :
    ∀ (i : Nat) (k : Held), (hs ++ [(⟨A, n, c, none, 0, 0, q⟩ : Held)])[i]? = some k → ∀ b, k.v.ownBlock = some b → b < N := by
  intro i k hk b hb
  rw [List.getElem?_append] at hk
  split at hk
  · exact h0 i k hk b hb
  · have h2 := (List.getElem?_eq_some_iff.1 hk).1
    have h1 : i - hs.length = 0 := by simp at h2; omega
    rw [h1] at hk
    cases hk
    exact h b hb
theorem held_none (N : Nat) : ∀ (i : Nat) (k : Held), ([] : List Held)[i]? = some k → ∀ b, k.v.ownBlock = some b → b < N := fun i k hk => by simp at hk

section
variable {w W W' : World} {kb j : Nat} {hs : List Held} {ss : Value}
/-- One more in the Book. -/
theorem book_more (h : BookS w W kb j hs ss) {A : Option Addr} {n c bx : Nat} {xs : List Value} (hx : W.ownsRow bx 25 32 (.slice A n c) n xs) (hbx : w.heap.size ≤ bx)
    (hfar : ∀ (i : Nat) (k : Held), hs[i]? = some k → ∀ b, k.v.ownBlock = some b → b < bx) (hn : n ≤ 1000000000) (hj : j < 1000) :
    Calls Tryz.prog 11 #[.pointer (some ⟨kb, 0, none⟩), .slice A n c] W fun e W' => e = .returned (.tuple #[]) ∧ (∃ ss', BookS w W' kb (j + 1) (hs ++ [⟨A, n, c, none, 0, 0, j + 1⟩]) ss') ∧ But (fun b => kb ≤ b) W W' := by
  refine (bookSums_at kb j w.heap.size j (.slice none 0 0) ss (heldCells hs) A n c W h.kept.book h.kept.base h.kept.own2 (by omega) (by omega)).mono ?_
  rintro e W' ⟨he, ⟨ss', hbk, hown, hat⟩, hb⟩
  have hxo := own_le2 hx hbx
  have hnb : ∀ b, (Value.slice A n c).ownBlock = some b → ¬ (b = kb ∨ ss.ownBlock = some b) := by
    rintro b e1 (e2 | e2)
    · subst e2; exact h.kept.book.other (by decide) hxo e1
    · exact not_row (by decide) hxo h.kept.own2 b e1 e2
  have hls := h.kept.lists2.but hb fun b hin e => by
    rcases e with e | e
    · subst e; exact book_not_inS h.kept.lists2 h.kept.book hin
    · exact not_inS h.kept.lists2 (by decide) h.kept.own2 b e hin
  refine ⟨he, ⟨ss', ?_, ?_, ?_⟩, hb.mono (fun b _ e => e.elim (fun e => by omega) (fun e => h.ssge b e))⟩
  · refine ⟨hbk, own_none _ _ _ _, ?_, ⟨fun i k hk => by simp at hk, fun i j h1 h2 hi => by simp at hi⟩, ⟨fun i k hk => ?_, fun i i' k k' hk hk' hne => ?_⟩, by omega, by omega, fun i k hk => by simp at hk, fun i k hk => ?_, h.kept.kb, Nat.le_trans h.kept.base hb.size⟩
    · rw [heldCells_append]; exact hown
    · rw [List.getElem?_append] at hk
      split at hk
      · exact hls.own i k hk
      · have : k = ⟨A, n, c, none, 0, 0, j + 1⟩ := by
          have h0 := (List.getElem?_eq_some_iff.1 hk).1
          have h1 : i - hs.length = 0 := by simp at h0; omega
          rw [h1] at hk; cases hk; rfl
        subst this
        exact ⟨xs, own_kept_but hxo hb hnb⟩
    · have one : ∀ (i : Nat) (k : Held), (hs ++ [(⟨A, n, c, none, 0, 0, j + 1⟩ : Held)])[i]? = some k → (hs[i]? = some k ∧ i < hs.length) ∨ (i = hs.length ∧ k = ⟨A, n, c, none, 0, 0, j + 1⟩) := by
        intro i k hk
        have h0 := (List.getElem?_eq_some_iff.1 hk).1
        rw [List.length_append, List.length_singleton] at h0
        by_cases hi : i < hs.length
        · rw [List.getElem?_append_left hi] at hk; exact .inl ⟨hk, hi⟩
        · have hi2 : i = hs.length := by omega
          subst hi2
          rw [List.getElem?_append_right (Nat.le_refl _), Nat.sub_self] at hk
          cases hk
          exact .inr ⟨rfl, rfl⟩
      rcases one i k hk with ⟨h1, l1⟩ | ⟨h1, rfl⟩
      · rcases one i' k' hk' with ⟨h2, l2⟩ | ⟨h2, rfl⟩
        · exact hls.apart i i' k k' h1 h2 hne
        · cases hkb : k.v.ownBlock with
          | none => exact .inl rfl
          | some b =>
            right
            intro e2
            have := hfar i k h1 b hkb
            have := (hx.lt b e2.symm).1
            omega
      · rcases one i' k' hk' with ⟨h2, l2⟩ | ⟨h2, rfl⟩
        · cases hkb : (Held.v ⟨A, n, c, none, 0, 0, j + 1⟩).ownBlock with
          | none => exact .inl rfl
          | some b =>
            right
            intro e2
            have := hfar i' k' h2 b e2.symm
            have := (hx.lt b hkb).1
            omega
        · omega
    · rw [List.getElem?_append] at hk
      split at hk
      · exact h.kept.len2 i k hk
      · have : k = ⟨A, n, c, none, 0, 0, j + 1⟩ := by
          have h0 := (List.getElem?_eq_some_iff.1 hk).1
          have h1 : i - hs.length = 0 := by simp at h0; omega
          rw [h1] at hk; cases hk; rfl
        subst this
        exact hn
  · exact h.bel.trans (hb.below h.bel.size fun b e => by
      rcases e with e | e
      · rw [e]; exact h.kept.kb
      · exact (h.kept.own2.lt b e).1)
  · intro b e1
    rcases hat b e1 with e2 | e2
    · exact h.ssge b e2
    · have := h.kept.book.lt; omega
end

end Go.Proofs.YtilgikhdamkeoaaGreatDoor

/-
  An argument that is an array of bytes.
-/
namespace Go.Proofs.YtilgikhdamkeoaaGreatDoor
open Go.ChangeShapes Go.WideShapes Go.ChangeAt Go.RowKit

/-- A value as a byte. -/
def byteOf : Value → Nat
  | .int _ z => z.toNat
  | _ => 0

theorem came_arr {H : Type} {enc : TypeId × Value → H} {P : Program} {W : World} {base b0 n : Nat} {spare : Nat → Bool} {held : Bool} {r : Reach} {t e : TypeId} {v : Value} {d : DataW H} {ps : List MemPlace}
    (ht : P.underlying t = some (.array n e)) (he : P.underlying e = some (.int .u8)) (hc : P.cellsOf e = 1) (hct : P.cellsOf t = n)
    (hval : Value.okWide P W r b0 t v) (hd : DataW.Trod enc P W base spare held t v d ps) : ∃ xs : List Nat, v = .agg (bvs xs).toArray ∧ xs.length = n ∧ ∀ x ∈ xs, x < 256 := by
  simp only [Value.okWide, ht] at hval
  obtain ⟨cs, rfl, hsz, _⟩ := hval
  rw [hct] at hsz
  obtain ⟨fuel, hf⟩ := hd
  obtain ⟨xs, m, rfl, _, _, hlen, hp⟩ := DataW.trod_array ht hf
  have hx : ∀ i, i < n → ∃ z : Nat, z < 256 ∧ cs.toList[i]? = some (bv z) := fun i hi => by
    have h1 := hp i hi
    rw [List.getElem?_eq_getElem (by omega)] at h1
    obtain ⟨z, hz, _, hw⟩ := DataW.trod_int he h1
    rw [hc, Nat.mul_one] at hz
    have hb := bounds_u8 hw
    obtain ⟨z, rfl⟩ := Int.eq_ofNat_of_zero_le hb.1
    refine ⟨z, by omega, ?_⟩
    have : (List.take 1 (List.drop i cs.toList))[0]? = some (.int .u8 (z : Int)) := by simp only [Value.cells] at hz; rw [hz]; rfl
    rw [List.getElem?_take, if_pos (by omega), List.getElem?_drop, Nat.add_zero] at this
    exact this
  have hl : cs.toList.length = n := by simpa using hsz
  refine ⟨cs.toList.map byteOf, ?_, by rw [List.length_map, hl], fun x hxm => ?_⟩
  · congr 1
    apply Array.ext'
    rw [List.toList_toArray]
    apply List.ext_getElem?
    intro i
    rw [bvs_get, List.getElem?_map]
    by_cases hi : i < n
    · obtain ⟨z, _, hz⟩ := hx i hi
      rw [hz]; rfl
    · rw [List.getElem?_eq_none (by omega)]; rfl
  · obtain ⟨v, hv, rfl⟩ := List.mem_map.1 hxm
    obtain ⟨i, hi⟩ := List.mem_iff_getElem?.1 hv
    obtain ⟨z, hz, hz2⟩ := hx i (by rw [← hl]; exact (List.getElem?_eq_some_iff.1 hi).1)
    rw [hi] at hz2
    cases hz2
    exact hz

end Go.Proofs.YtilgikhdamkeoaaGreatDoor

/-
  The parts of a struct that came in: a sum, a number of 64 bits, a list of sums.
-/
namespace Go.Proofs.YtilgikhdamkeoaaGreatDoor
open Go.ChangeShapes Go.WideShapes Go.ChangeAt Go.RowKit Go.Deep

theorem list_sum {H : Type} {enc : TypeId × Value → H} {w : World} {base : Nat} {sp : Nat → Bool} {held : Bool} {fuel : Nat} {cs : List Value} {x : DataW H × List MemPlace}
    (h : DataW.trod enc Tryz.prog w base sp held fuel 25 cs = some x) : ∃ xs, cs = bvs xs ∧ xs.length = 32 ∧ ∀ x ∈ xs, x < 256 := by
  obtain ⟨hl, hx⟩ := cells_sum h
  refine ⟨cs.map byteOf, ?_, by rw [List.length_map, hl], fun x hxm => ?_⟩
  · apply List.ext_getElem?
    intro i
    rw [bvs_get, List.getElem?_map]
    by_cases hi : i < 32
    · obtain ⟨z, _, hz⟩ := hx i hi
      rw [hz]; rfl
    · rw [List.getElem?_eq_none (by omega)]; rfl
  · obtain ⟨v, hv, rfl⟩ := List.mem_map.1 hxm
    obtain ⟨i, hi⟩ := List.mem_iff_getElem?.1 hv
    obtain ⟨z, hz, hz2⟩ := hx i (by rw [← hl]; exact (List.getElem?_eq_some_iff.1 hi).1)
    rw [hi] at hz2
    cases hz2
    exact hz

theorem cellsS64 : Tryz.prog.cellsOf 23 = 1 := by kernel_rfl
theorem cellsSpath : Tryz.prog.cellsOf 22 = 1 := by kernel_rfl

theorem one_of (l : List Value) (h : l.length = 1) : ∃ a, l = [a] := by
  match l, h with
  | [a], _ => exact ⟨a, rfl⟩

theorem u64_one {H : Type} {enc : TypeId × Value → H} {W : World} {base fuel : Nat} {sp : Nat → Bool} {held : Bool} {l : List Value} {x : DataW H × List MemPlace} (h : DataW.trod enc Tryz.prog W base sp held fuel 23 l = some x) :
    ∃ q : Nat, l = [.int .u64 (q : Int)] ∧ q < 18446744073709551616 := by
  obtain ⟨z, ez, _, hw⟩ := DataW.trod_int Tryz.underlying23 h
  have hb := bounds_u64 hw
  obtain ⟨q, rfl⟩ := Int.eq_ofNat_of_zero_le hb.1
  exact ⟨q, ez, by omega⟩

end Go.Proofs.YtilgikhdamkeoaaGreatDoor

/-
  A sum stored in a variable, loaded, in a region that draws its order.
-/
namespace Go.Proofs.YtilgikhdamkeoaaGreatDoor
open Go.RowKit

theorem step_store_sum {o : Oper} {a : Act} {w : World} {K : Act → World → Prop} {Q : Exit → Act → World → Prop} (x y : Operand) (ho : o.op = .store 25 x y)
    (g : Nat) (hx : a.eval x = .pointer (some ⟨g, 0, none⟩)) {T : TypeId} (xs ys : List Nat) (hl : xs.length = 32) (hl' : ys.length = 32) (hc : BArr w g T xs) (hy : a.eval y = sv ys)
    (h : K (a.put o.dst undef) (w.setRow g (bvs ys).toArray)) : Oper.wp Tryz.prog o a w K Q := by
  have hr := run_storeVar_row (P := Tryz.prog) w g T 25 (bvs xs).toArray (bvs ys).toArray hc (by rw [List.size_toArray, bvs_length, hl']; exact sizeSum) (by rw [List.size_toArray, bvs_length, hl, List.size_toArray, bvs_length, hl']) (all_oneCell_toArray (bvs_oneCell ys))
  unfold Oper.wp execOp
  simp only [ho, hx, hy, sv, Instr.storeAt, Instr.sureAddr, Sem.run_bind, Sem.run_pure, Result.andThen_ok, hr]
  exact h

theorem run_at_sum {o : Oper} {a : Act} {w : World} (x : Operand) (ho : o.op = .load 25 x) (ad : Addr) (hx : a.eval x = .pointer (some ad)) (s : List Nat) (hl : s.length = 32) (hc : At w ad s) :
    (execOp a.eval o).run Tryz.prog w = .ok (.value (sv s)) w := by
  unfold execOp
  simp only [ho, hx, Instr.loadAt, Instr.sureAddr, Sem.run_bind, Sem.run_pure, Result.andThen_ok, run_load_sum w ad s hl hc]

end Go.Proofs.YtilgikhdamkeoaaGreatDoor

/-
  A variable of one cell, in a block of its own.
-/
namespace Go.Proofs.YtilgikhdamkeoaaGreatDoor
open Go.RowKit

/-- Block g is a variable of one cell. -/
def VarAt (w : World) (g : Nat) (T : TypeId) (v : Value) : Prop := w.heap[g]? = some (.cells #[v] T (0, 0))
section
variable {w w' : World} {g : Nat} {T : TypeId} {v : Value}
theorem VarAt.cell (h : VarAt w g T v) : w.cell? ⟨g, 0, none⟩ = some v := by rw [cell_of_row _ g 0 _ T (0, 0) h]; rfl
theorem VarAt.free (h : VarAt w g T v) : w.frozen? ⟨g, 0, none⟩ = false := frozen_of_row w g 0 _ T h
theorem VarAt.below (h : VarAt w g T v) (hb : Below w.heap.size w w') : VarAt w' g T v := (hb.block g (Array.getElem?_eq_some_iff.1 h).1).trans h
theorem VarAt.lt (h : VarAt w g T v) : g < w.heap.size := (Array.getElem?_eq_some_iff.1 h).1
theorem VarAt.new (w : World) (T : TypeId) (v : Value) : VarAt (w.alloc (.cells #[v] T)) w.heap.size T v := World.alloc_heap_new w _
theorem VarAt.set (h : VarAt w g T v) (u : Value) : VarAt (w.setCell ⟨g, 0, none⟩ u) g T u := by
  unfold VarAt
  rw [heap_setCell_same w g 0 _ T _ h]
  rfl
theorem VarAt.setRow_other (h : VarAt w g T v) (k : Nat) (hne : g ≠ k) (cs : Array Value) : VarAt (w.setRow k cs) g T v := by
  unfold VarAt
  rw [Go.setRow_other _ _ _ _ hne]
  exact h
end

theorem VarAt.but {S : Nat → Prop} {w w' : World} {g : Nat} {T : TypeId} {v : Value} (h : VarAt w g T v) (hb : But S w w') (hS : ¬ S g) : VarAt w' g T v := (hb.block g h.lt hS).trans h

end Go.Proofs.YtilgikhdamkeoaaGreatDoor

/-
  The link of a beginning, as plain functions: how many sums it has, which they are, and what a link leads to.
-/
namespace Go.Proofs.YtilgikhdamkeoaaGreatDoor
open Go.RowKit

theorem cutN_mid {n m : Nat} (h : cutN n < m) (hm : m ≤ n) : cutN m = cutN n := by
  have h2 : 2 ≤ n := by have := cutN_pos n; omega
  have := cutN_two h2
  exact cutN_of (e := Nat.log2 (n - 1)) h (by show m ≤ 2 * cutN n; omega)

/-- How many sums a link has. -/
def ldep (m n : Nat) (edge : Bool) : Nat := if _ : n < 2 ∨ m = n then (if edge then 0 else 1) else if m ≤ cutN n then ldep m (cutN n) edge + 1 else ldep (m - cutN n) (n - cutN n) false + 1
termination_by n
decreasing_by
  · exact cutN_lt (by omega)
  · have := cutN_pos n; omega
theorem ldep_all {n m : Nat} (h : n < 2 ∨ m = n) (edge : Bool) : ldep m n edge = if edge then 0 else 1 := by rw [ldep, dif_pos h]
theorem ldep_low {n m : Nat} (h : ¬(n < 2 ∨ m = n)) (ha : m ≤ cutN n) (edge : Bool) : ldep m n edge = ldep m (cutN n) edge + 1 := by rw [ldep, dif_neg h, if_pos ha]
theorem ldep_high {n m : Nat} (h : ¬(n < 2 ∨ m = n)) (ha : ¬ m ≤ cutN n) (edge : Bool) : ldep m n edge = ldep (m - cutN n) (n - cutN n) false + 1 := by rw [ldep, dif_neg h, if_neg ha]

/-- What the sums from number j on lead to: an old one and a new one. -/
def linkF (f : Nat → List Nat) (a : List Nat) (m n : Nat) (edge : Bool) (j : Nat) : List Nat × List Nat :=
  if _ : n < 2 ∨ m = n then (if edge then (a, a) else (f j, f j))
  else if m ≤ cutN n then ((linkF f a m (cutN n) edge j).1, nodeL (linkF f a m (cutN n) edge j).2 (f (j + ldep m (cutN n) edge)))
  else (nodeL (f (j + ldep (m - cutN n) (n - cutN n) false)) (linkF f a (m - cutN n) (n - cutN n) false j).1, nodeL (f (j + ldep (m - cutN n) (n - cutN n) false)) (linkF f a (m - cutN n) (n - cutN n) false j).2)
termination_by n
decreasing_by
  all_goals first | exact cutN_lt (by omega) | (have := cutN_pos n; omega)
theorem linkF_all (f : Nat → List Nat) (a : List Nat) {n m : Nat} (h : n < 2 ∨ m = n) (edge : Bool) (j : Nat) : linkF f a m n edge j = if edge then (a, a) else (f j, f j) := by rw [linkF, dif_pos h]
theorem linkF_low (f : Nat → List Nat) (a : List Nat) {n m : Nat} (h : ¬(n < 2 ∨ m = n)) (ha : m ≤ cutN n) (edge : Bool) (j : Nat) : linkF f a m n edge j = ((linkF f a m (cutN n) edge j).1, nodeL (linkF f a m (cutN n) edge j).2 (f (j + ldep m (cutN n) edge))) := by
  rw [linkF, dif_neg h, if_pos ha]
theorem linkF_high (f : Nat → List Nat) (a : List Nat) {n m : Nat} (h : ¬(n < 2 ∨ m = n)) (ha : ¬ m ≤ cutN n) (edge : Bool) (j : Nat) : linkF f a m n edge j = (nodeL (f (j + ldep (m - cutN n) (n - cutN n) false)) (linkF f a (m - cutN n) (n - cutN n) false j).1, nodeL (f (j + ldep (m - cutN n) (n - cutN n) false)) (linkF f a (m - cutN n) (n - cutN n) false j).2) := by
  rw [linkF, dif_neg h, if_neg ha]
/-- A law of sums that each of them keeps; of those that are taken it is asked alone. -/
theorem linkF_of {P : List Nat → Prop} (hs : ∀ xs, P (sha xs)) (f : Nat → List Nat) (a : List Nat) (hl : P a) : ∀ (n m : Nat) (edge : Bool) (j : Nat), (∀ k, k < ldep m n edge → P (f (j + k))) → P (linkF f a m n edge j).1 ∧ P (linkF f a m n edge j).2 := by
  intro n
  induction n using Nat.strongRecOn with
  | ind n ih =>
    intro m edge j h
    by_cases h2 : n < 2 ∨ m = n
    · rw [linkF_all f a h2]
      rw [ldep_all h2] at h
      cases edge with
      | true => exact ⟨hl, hl⟩
      | false => exact ⟨h 0 (by decide), h 0 (by decide)⟩
    · have hc := cutN_lt (m := n) (by omega)
      have hp := cutN_pos n
      by_cases ha : m ≤ cutN n
      · rw [ldep_low h2 ha] at h
        rw [linkF_low f a h2 ha]
        exact ⟨(ih _ hc m edge j (fun k hk => h k (by omega))).1, hs _⟩
      · rw [linkF_high f a h2 ha]
        exact ⟨hs _, hs _⟩
theorem linkF_congr (f g : Nat → List Nat) (a : List Nat) : ∀ (n m : Nat) (edge : Bool) (j : Nat), (∀ k, k < ldep m n edge → f (j + k) = g (j + k)) → linkF f a m n edge j = linkF g a m n edge j := by
  intro n
  induction n using Nat.strongRecOn with
  | ind n ih =>
    intro m edge j h
    by_cases h2 : n < 2 ∨ m = n
    · rw [linkF_all f a h2, linkF_all g a h2]
      rw [ldep_all h2] at h
      cases edge with
      | true => rfl
      | false => rw [show f j = g j from h 0 (by decide)]
    · have hc := cutN_lt (m := n) (by omega)
      have hp := cutN_pos n
      by_cases ha : m ≤ cutN n
      · rw [ldep_low h2 ha] at h
        rw [linkF_low f a h2 ha, linkF_low g a h2 ha, h _ (Nat.lt_succ_self _), ih _ hc m edge j (fun k hk => h k (by omega))]
      · rw [ldep_high h2 ha] at h
        rw [linkF_high f a h2 ha, linkF_high g a h2 ha, h _ (Nat.lt_succ_self _), ih _ (by omega) _ false j (fun k hk => h k (by omega))]

/-- The link of the first m of the n sums from i on. -/
def linkL (f : Nat → List Nat) (i n m : Nat) (edge : Bool) : List (List Nat) :=
  if _ : n < 2 ∨ m = n then (if edge then [] else [rt f i n])
  else if m ≤ cutN n then linkL f i (cutN n) m edge ++ [rt f (i + cutN n) (n - cutN n)]
  else linkL f (i + cutN n) (n - cutN n) (m - cutN n) false ++ [rt f i (cutN n)]
termination_by n
decreasing_by
  · exact cutN_lt (by omega)
  · have := cutN_pos n; omega
theorem linkL_all (f : Nat → List Nat) {n m : Nat} (h : n < 2 ∨ m = n) (i : Nat) (edge : Bool) : linkL f i n m edge = if edge then [] else [rt f i n] := by rw [linkL, dif_pos h]
theorem linkL_low (f : Nat → List Nat) {n m : Nat} (h : ¬(n < 2 ∨ m = n)) (ha : m ≤ cutN n) (i : Nat) (edge : Bool) : linkL f i n m edge = linkL f i (cutN n) m edge ++ [rt f (i + cutN n) (n - cutN n)] := by
  rw [linkL, dif_neg h, if_pos ha]
theorem linkL_high (f : Nat → List Nat) {n m : Nat} (h : ¬(n < 2 ∨ m = n)) (ha : ¬ m ≤ cutN n) (i : Nat) (edge : Bool) : linkL f i n m edge = linkL f (i + cutN n) (n - cutN n) (m - cutN n) false ++ [rt f i (cutN n)] := by
  rw [linkL, dif_neg h, if_neg ha]
theorem linkL_length (f : Nat → List Nat) : ∀ (n i m : Nat) (edge : Bool), (linkL f i n m edge).length = ldep m n edge := by
  intro n
  induction n using Nat.strongRecOn with
  | ind n ih =>
    intro i m edge
    by_cases h2 : n < 2 ∨ m = n
    · rw [linkL_all f h2, ldep_all h2]; cases edge <;> rfl
    · have hc := cutN_lt (m := n) (by omega)
      have hp := cutN_pos n
      by_cases ha : m ≤ cutN n
      · rw [linkL_low f h2 ha, ldep_low h2 ha, List.length_append, ih _ hc]; rfl
      · rw [linkL_high f h2 ha, ldep_high h2 ha, List.length_append, ih _ (by omega)]; rfl
theorem linkL_of {P : List Nat → Prop} (f : Nat → List Nat) : ∀ (n i m : Nat) (edge : Bool), (∀ i m, P (rt f i m)) → ∀ s ∈ linkL f i n m edge, P s := by
  intro n
  induction n using Nat.strongRecOn with
  | ind n ih =>
    intro i m edge h s hs
    by_cases h2 : n < 2 ∨ m = n
    · rw [linkL_all f h2] at hs
      cases edge with
      | true => cases hs
      | false => rw [List.mem_singleton.1 hs]; exact h _ _
    · have hc := cutN_lt (m := n) (by omega)
      have hp := cutN_pos n
      by_cases ha : m ≤ cutN n
      · rw [linkL_low f h2 ha] at hs
        rcases List.mem_append.1 hs with hs | hs
        · exact ih _ hc _ _ _ h s hs
        · rw [List.mem_singleton.1 hs]; exact h _ _
      · rw [linkL_high f h2 ha] at hs
        rcases List.mem_append.1 hs with hs | hs
        · exact ih _ (by omega) _ _ _ h s hs
        · rw [List.mem_singleton.1 hs]; exact h _ _
theorem linkL_len32 (f : Nat → List Nat) : ∀ (n i m : Nat) (edge : Bool), (∀ j, j < n → (f (i + j)).length = 32) → ∀ s ∈ linkL f i n m edge, s.length = 32 := by
  intro n
  induction n using Nat.strongRecOn with
  | ind n ih =>
    intro i m edge h s hs
    by_cases h2 : n < 2 ∨ m = n
    · rw [linkL_all f h2] at hs
      cases edge with
      | true => cases hs
      | false => rw [List.mem_singleton.1 hs]; exact rt_length f _ _ h
    · have hc := cutN_lt (m := n) (by omega)
      have hp := cutN_pos n
      by_cases ha : m ≤ cutN n
      · rw [linkL_low f h2 ha] at hs
        rcases List.mem_append.1 hs with hs | hs
        · exact ih _ hc _ _ _ (fun j hj => h j (by omega)) s hs
        · rw [List.mem_singleton.1 hs]; exact rt_length f _ _ fun j hj => by rw [Nat.add_assoc]; exact h _ (by omega)
      · rw [linkL_high f h2 ha] at hs
        rcases List.mem_append.1 hs with hs | hs
        · exact ih _ (by omega) _ _ _ (fun j hj => by rw [Nat.add_assoc]; exact h _ (by omega)) s hs
        · rw [List.mem_singleton.1 hs]; exact rt_length f _ _ fun j hj => h j (by omega)
theorem linkL_congr (f g : Nat → List Nat) : ∀ (n i i' m : Nat) (edge : Bool), (∀ j, j < n → f (i + j) = g (i' + j)) → linkL f i n m edge = linkL g i' n m edge := by
  intro n
  induction n using Nat.strongRecOn with
  | ind n ih =>
    intro i i' m edge h
    by_cases h2 : n < 2 ∨ m = n
    · rw [linkL_all f h2, linkL_all g h2, rt_congr f g _ i i' h]
    · have hc := cutN_lt (m := n) (by omega)
      have hp := cutN_pos n
      by_cases ha : m ≤ cutN n
      · rw [linkL_low f h2 ha, linkL_low g h2 ha, ih _ hc i i' m edge (fun j hj => h j (by omega)), rt_congr f g _ (i + cutN n) (i' + cutN n) (fun j hj => by rw [Nat.add_assoc, Nat.add_assoc]; exact h _ (by omega))]
      · rw [linkL_high f h2 ha, linkL_high g h2 ha, ih _ (by omega) (i + cutN n) (i' + cutN n) _ false (fun j hj => by rw [Nat.add_assoc, Nat.add_assoc]; exact h _ (by omega)), rt_congr f g _ i i' (fun j hj => h j (by omega))]

/-- The link of a beginning leads to both roots. -/
theorem link_back (f g : Nat → List Nat) (a : List Nat) : ∀ (n i m j : Nat) (edge : Bool), 1 ≤ m → m ≤ n → (edge = true → a = rt f i m) → (∀ k s, (linkL f i n m edge)[k]? = some s → g (j + k) = s) →
    linkF g a m n edge j = (rt f i m, rt f i n) := by
  intro n
  induction n using Nat.strongRecOn with
  | ind n ih =>
    intro i m j edge h1 hm ha h
    by_cases h2 : n < 2 ∨ m = n
    · obtain rfl : m = n := by omega
      rw [linkL_all f h2] at h
      rw [linkF_all g a h2]
      cases edge with
      | true => rw [ha rfl]; rfl
      | false =>
        have := h 0 _ rfl
        rw [Nat.add_zero] at this
        rw [this]; rfl
    · have hc := cutN_lt (m := n) (by omega)
      have hp := cutN_pos n
      by_cases hl : m ≤ cutN n
      · rw [linkL_low f h2 hl] at h
        rw [linkF_low g a h2 hl, ih _ hc i m j edge h1 hl ha (fun k s hk => h k s (by rw [List.getElem?_append_left (List.getElem?_eq_some_iff.1 hk).1]; exact hk)), rt_cut f i (m := n) (by omega),
          h (ldep m (cutN n) edge) _ (by rw [List.getElem?_append_right (by rw [linkL_length]; exact Nat.le_refl _), linkL_length, Nat.sub_self]; rfl)]
      · rw [linkL_high f h2 hl] at h
        rw [linkF_high g a h2 hl, ih _ (by omega) (i + cutN n) (m - cutN n) j false (by omega) (by omega) (fun e => by cases e) (fun k s hk => h k s (by rw [List.getElem?_append_left (List.getElem?_eq_some_iff.1 hk).1]; exact hk)),
          h (ldep (m - cutN n) (n - cutN n) false) _ (by rw [List.getElem?_append_right (by rw [linkL_length]; exact Nat.le_refl _), linkL_length, Nat.sub_self]; rfl),
          rt_cut f i (m := n) (by omega), rt_cut f i (m := m) (by omega), cutN_mid (by omega) hm]

/-- How many sums a link has at most. -/
theorem ldep_le : ∀ (n m e : Nat) (edge : Bool), n ≤ 2 ^ e → ldep m n edge ≤ e + 1 := by
  intro n
  induction n using Nat.strongRecOn with
  | ind n ih =>
    intro m e edge hn
    by_cases h2 : n < 2 ∨ m = n
    · rw [ldep_all h2]; split <;> omega
    · have hc := cutN_lt (m := n) (by omega)
      have hp := cutN_pos n
      have ht := cutN_two (m := n) (by omega)
      have he : ∃ d, e = d + 1 := by
        cases e with
        | zero => rw [Nat.pow_zero] at hn; omega
        | succ d => exact ⟨d, rfl⟩
      obtain ⟨d, rfl⟩ := he
      rw [Nat.pow_succ] at hn
      have hcd : cutN n ≤ 2 ^ d := by
        have hlt : cutN n < 2 ^ (d + 1) := by rw [Nat.pow_succ]; omega
        have : Nat.log2 (n - 1) < d + 1 := (Nat.pow_lt_pow_iff_right (by decide)).1 hlt
        exact Nat.pow_le_pow_right (by decide) (by omega)
      by_cases ha : m ≤ cutN n
      · rw [ldep_low h2 ha]
        have := ih _ hc m d edge hcd
        omega
      · rw [ldep_high h2 ha]
        have := ih _ (by omega) (m - cutN n) d false (show n - cutN n ≤ 2 ^ d by omega)
        omega
theorem ldep_64 {n : Nat} (hn : n ≤ 18446744073709551616) (m : Nat) (edge : Bool) : ldep m n edge ≤ 65 := ldep_le n m 64 edge (by omega)

/-- Of a power of two: what stands to its right, from the nearest one on. -/
theorem link_power (f : Nat → List Nat) (e : Nat) : ∀ (n i : Nat), 2 ^ e ≤ n → (linkL f i n (2 ^ e) true).foldl nodeL (rt f i (2 ^ e)) = rt f i n := by
  intro n
  induction n using Nat.strongRecOn with
  | ind n ih =>
    intro i hn
    by_cases h2 : n < 2 ∨ 2 ^ e = n
    · have h0 : 0 < 2 ^ e := Nat.two_pow_pos e
      obtain rfl : 2 ^ e = n := by omega
      rw [linkL_all f h2]; rfl
    · have hc := cutN_lt (m := n) (by omega)
      have hl : 2 ^ e ≤ cutN n := by
        have h1 : 2 ^ e ≤ n - 1 := by omega
        have : e ≤ Nat.log2 (n - 1) := (Nat.le_log2 (by omega)).2 h1
        exact Nat.pow_le_pow_right (by decide) this
      rw [linkL_low f h2 hl, List.foldl_append, ih _ hc i hl, rt_cut f i (m := n) (by omega)]; rfl

end Go.Proofs.YtilgikhdamkeoaaGreatDoor

/-
  errors.Is of a sentinel and itself, or of none and one.
-/
namespace Go.Proofs.YtilgikhdamkeoaaGreatDoor
open Go.RowKit Go.Extern.Stop Go.Stop Go.Extern

theorem isTypeOf (v : Value) (w : World) : (Extern.ReflectliteType.typeOf #[.iface 184 v]).run Tryz.prog w = .ok (.iface 135 (.agg #[.pointer (some ⟨6, 184, none⟩)])) w := by kernel_rfl
theorem isComparable (w : World) : (callFunc 138 #[.agg #[.pointer (some ⟨6, 184, none⟩)]]).run Tryz.prog w = .ok (.value (.bool true)) w := by
  rw [@run_callFunc_extern Tryz.prog 138 _ (Extern.ReflectliteType.method fun t => do Go.Extern.Rtype.noPackHeld "Comparable" t; pure (.bool (← typeInfo t).comparable)) Tryz.func138 (by kernel_rfl) (by kernel_rfl) (by kernel_rfl) (by kernel_rfl)]
  kernel_rfl
theorem isMethodComparable (n : Nat) (v : Value) (w : World) : (Go.method (n + 1) 135 v "Comparable").run Tryz.prog w = .ok (138, v) w := by kernel_rfl
theorem isComp : (Tryz.prog.info? 184).map (·.comparable) = some true := by kernel_rfl
theorem isSize : (Tryz.prog.info? 209).map (·.size) = some 1 := by kernel_rfl

set_option maxRecDepth 100000 in
theorem is1_same (a : Addr) (w : World) :
    Calls Tryz.prog 54 #[.iface 184 (.pointer (some a)), .iface 184 (.pointer (some a)), .bool true] w fun e w' => e = .returned (.bool true) ∧ w = w' := by
  obtain ⟨i, hi, hcmp⟩ := Option.map_eq_some_iff.1 isComp
  obtain ⟨j, hj, hjs⟩ := Option.map_eq_some_iff.1 isSize
  have heq := run_eql_iface_ptr_same (P := Tryz.prog) w a Tryz.underlying51 Tryz.underlying184 hi hcmp hj
  go_enter Tryz.func54, Tryz.ntmps54
  go_wp2
  refine wp_loop_rounds 1 ?_
  rw [rounds_succ]
  go_wp2
  go_ret
  exact ⟨rfl, rfl⟩

set_option maxRecDepth 100000 in
/-- errors.Is(x, x). -/
theorem is_same (a : Addr) (w : World) :
    Calls Tryz.prog 16 #[.iface 184 (.pointer (some a)), .iface 184 (.pointer (some a))] w fun e w' => e = .returned (.bool true) ∧ w = w' := by
  have h8 := @run_callFunc_extern Tryz.prog 53 _ Extern.ReflectliteType.typeOf Tryz.func53 (by kernel_rfl) (by kernel_rfl) (by kernel_rfl) (by kernel_rfl)
  have tT := isTypeOf
  have cT := isComparable
  have mR := isMethodComparable
  have h1 := is1_same a w
  go_enter Tryz.func16, Tryz.ntmps16
  go_wp2_with (go_at_call 54; refine h1.mono ?_; rintro e w' ⟨rfl, rfl⟩)
  go_ret
  exact ⟨rfl, rfl⟩

/-- errors.Is(nil, x). -/
theorem is_nil (b : Addr) (w : World) :
    Calls Tryz.prog 16 #[.nilIface, .iface 184 (.pointer (some b))] w fun e w' => e = .returned (.bool false) ∧ w = w' := by
  have hn := run_eql_iface_nil_left (P := Tryz.prog) w 184 (.pointer (some b)) Tryz.underlying51
  go_enter Tryz.func16, Tryz.ntmps16
  go_wp2
  go_ret
  exact ⟨rfl, rfl⟩

end Go.Proofs.YtilgikhdamkeoaaGreatDoor

/-
  The sentinel of package links, and where it lies.
-/
namespace Go.Proofs.YtilgikhdamkeoaaGreatDoor
open Go.RowKit

/-- The sentinel as a value: a pointer to E. -/
def missV (E : Addr) : Value := .iface 184 (.pointer (some E))
/-- The variable holds it. -/
def Miss (w : World) (E : Addr) : Prop := w.cell? ⟨0, 0, none⟩ = some (missV E)
theorem Miss.below {w w' : World} {E : Addr} (h : Miss w E) (hb : Below w.heap.size w w') : Miss w' E := (hb.cell (World.block_lt_of_cell? w _ h)).trans h
theorem Miss.lt {w : World} {E : Addr} (h : Miss w E) : 0 < w.heap.size := World.block_lt_of_cell? w _ h

end Go.Proofs.YtilgikhdamkeoaaGreatDoor

/-
  Two sums as one value: an array of them, loaded, stored, held against another one.
-/
namespace Go.Proofs.YtilgikhdamkeoaaGreatDoor
open Go.RowKit

theorem sizePair : (Tryz.prog.info? 49).map (·.size) = some 64 := by kernel_rfl
theorem cellsSumP : Tryz.prog.cellsOf 25 = 32 := by kernel_rfl

set_option maxRecDepth 100000 in
theorem run_part_sum (w : World) (l s : List Nat) (i : Nat) (h : (l.drop i).take 32 = s) : (part 25 (bvs l).toArray i).run Tryz.prog w = .ok (sv s) w := by
  have hagg : (isAgg 25).run Tryz.prog w = .ok true w := by
    unfold isAgg
    rw [Sem.run_bind, run_underlying Tryz.underlying25 w]
    rfl
  have hx : List.take 32 (List.drop i (bvs l)) = bvs s := by
    rw [← h]
    unfold bvs
    rw [List.map_take, List.map_drop]
  cases hq : Tryz.prog.info? 25 with
  | none => have := sizeSum; simp [hq] at this
  | some j =>
    have hs : j.size = 32 := by have := sizeSum; simpa [hq] using this
    simp [part, Sem.run_bind, hagg, sizeOf, typeInfo, hq, hs, hx, sv]

theorem run_items_cons {P : Program} {w : World} {d : Nat} {e : TypeId} {c i : Nat} {xs ys : Array Value} {is : List Nat} {x y : Value} {r : Bool} (h1 : (part e xs (i * c)).run P w = .ok x w) (h2 : (part e ys (i * c)).run P w = .ok y w)
    (h3 : (Op.equalIn d e x y).run P w = .ok r w) : (Op.eqItems d e c xs ys (i :: is)).run P w = if r = true then (Op.eqItems d e c xs ys is).run P w else .ok false w := by
  simp only [Op.eqItems, Sem.run_bind, h1, h2, h3, Result.andThen_ok]
  cases r <;> rfl

set_option maxRecDepth 100000 in
theorem run_eq_pair (w : World) (d : Nat) (x y x' y' : List Nat) (hx : x.length = 32) (hy : y.length = 32) (hx' : x'.length = 32) (hy' : y'.length = 32) :
    (Op.equalIn (d + 3) 49 (sv (x ++ y)) (sv (x' ++ y'))).run Tryz.prog w = .ok (decide (x = x') && decide (y = y')) w := by
  obtain ⟨i0, hi⟩ : ∃ i0, Tryz.prog.info? 25 = some i0 := by
    cases hq : Tryz.prog.info? 25 with
    | none => have := sizeSum; simp [hq] at this
    | some j => exact ⟨j, rfl⟩
  have p1 := run_part_sum w (x ++ y) x (0 * 32) (by rw [Nat.zero_mul, List.drop_zero, ← hx, List.take_left])
  have p2 := run_part_sum w (x ++ y) y (1 * 32) (by rw [Nat.one_mul, ← hx, List.drop_left, hx, ← hy, List.take_length])
  have p3 := run_part_sum w (x' ++ y') x' (0 * 32) (by rw [Nat.zero_mul, List.drop_zero, ← hx', List.take_left])
  have p4 := run_part_sum w (x' ++ y') y' (1 * 32) (by rw [Nat.one_mul, ← hx', List.drop_left, hx', ← hy', List.take_length])
  have q1 := run_eq_sum w d x x' hx hx'
  have q2 := run_eq_sum w d y y' hy hy'
  generalize hc : (32 : Nat) = c at p1 p2 p3 p4
  have hce : Tryz.prog.cellsOf 25 = c := by rw [← hc]; exact cellsSumP
  have e1 : sv (x ++ y) = .agg (bvs (x ++ y)).toArray := rfl
  have e2 : sv (x' ++ y') = .agg (bvs (x' ++ y')).toArray := rfl
  rw [e1, e2, run_equalIn_array w (d + 2) _ _ Tryz.underlying49 hi, hce, show List.range 2 = [0, 1] from rfl, run_items_cons p1 p3 q1, run_items_cons p2 p4 q2]
  have hnil : (Op.eqItems (d + 2) 25 c (bvs (x ++ y)).toArray (bvs (x' ++ y')).toArray []).run Tryz.prog w = .ok true w := by simp only [Op.eqItems, Sem.run_pure]
  rw [hnil]
  cases decide (x = x') <;> cases decide (y = y') <;> rfl

set_option maxRecDepth 100000 in
theorem run_eql_pair (x y x' y' : List Nat) (hx : x.length = 32) (hy : y.length = 32) (hx' : x'.length = 32) (hy' : y'.length = 32) (w : World) :
    (binOp .eql 49 (sv (x ++ y)) (sv (x' ++ y'))).run Tryz.prog w = .ok (.bool (decide (x = x') && decide (y = y'))) w := by
  have h := run_eq_pair w 9997 x y x' y' hx hy hx' hy'
  unfold sv at h ⊢
  rw [run_eql_struct, h]
  rfl
theorem run_guard_pair (x y : Operand) (s t : List Nat) (w : World) : (eqGuard .eql 49 x y (sv s) (sv t)).run Tryz.prog w = .ok () w := by
  simp [eqGuard, sv]

set_option maxRecDepth 100000 in
theorem run_load_pair (w : World) (ad : Addr) (s : List Nat) (hl : s.length = 64) (hc : At w ad s) : (loadVar 49 ad).run Tryz.prog w = .ok (sv s) w := by
  have hl' : (bvs s).length = 64 := by rw [bvs_length, hl]
  have h1 : (loadCells ad (bvs s).length).run Tryz.prog w = .ok (bvs s).toArray w :=
    run_loadCells_list (P := Tryz.prog) w ad (bvs s) (fun j v hv => by
      rw [bvs_get] at hv
      obtain ⟨y, hy, rfl⟩ := Option.map_eq_some_iff.1 hv
      exact hc j y hy)
  rw [hl'] at h1
  have hagg : (isAgg 49).run Tryz.prog w = .ok true w := by
    unfold isAgg
    rw [Sem.run_bind, run_underlying Tryz.underlying49 w]
    rfl
  cases hq : Tryz.prog.info? 49 with
  | none => have := sizePair; simp [hq] at this
  | some i =>
    have hs : i.size = 64 := by have := sizePair; simpa [hq] using this
    simp [loadVar, Sem.run_bind, hagg, sizeOf, typeInfo, hq, hs, h1, sv]

theorem wpList_load_pair {ops : Array Oper} {rest : List Oper} {o : Oper} {a : Act} {w : World} {Q : Exit → Act → World → Prop} (hgd : o.guard = none) (x : Operand) (ho : o.op = .load 49 x)
    (ad : Addr) (hx : a.eval x = .pointer (some ad)) (s : List Nat) (hl : s.length = 64) (hc : At w ad s)
    (h : wpList Tryz.prog ops Q rest (a.put o.dst (sv s)) w) : wpList Tryz.prog ops Q (o :: rest) a w := by
  refine wpList_plain hgd fun K hK => ?_
  unfold Oper.wp execOp
  simp only [ho, hx, Instr.loadAt, Instr.sureAddr, Sem.run_bind, Sem.run_pure, Result.andThen_ok, run_load_pair w ad s hl hc]
  exact hK _ _ h

/-- A pair into the variable that was made last. -/
theorem wpList_store_newP {ops : Array Oper} {rest : List Oper} {o : Oper} {a : Act} {Q : Exit → Act → World → Prop} (w : World) (Z : Array Value) (hZ : Z.size = 64) (hgd : o.guard = none) (x y : Operand) (ho : o.op = .store 49 x y)
    (hx : a.eval x = .pointer (some ⟨w.heap.size, 0, none⟩)) (s : List Nat) (hl : s.length = 64) (hy : a.eval y = sv s)
    (h : wpList Tryz.prog ops Q rest (a.put o.dst undef) (w.alloc (.cells (bvs s).toArray 49))) : wpList Tryz.prog ops Q (o :: rest) a (w.alloc (.cells Z 49)) := by
  have hs : (bvs s).toArray.size = 64 := by rw [List.size_toArray, bvs_length, hl]
  refine wpList_store_row hgd 49 x y ho w.heap.size (bvs s).toArray hx hy 49 Z (World.alloc_heap_new w _) (by rw [hs]; exact sizePair) (by rw [hZ, hs]) ?_ ?_
  · exact Array.all_eq_true_iff_forall_mem.2 (fun v hv => bvs_oneCell s v (by simpa using hv))
  · rw [World.setRow_alloc_new]
    exact h

theorem wpList_store_pair {ops : Array Oper} {rest : List Oper} {o : Oper} {a : Act} {w : World} {Q : Exit → Act → World → Prop} (hgd : o.guard = none) (x y : Operand) (ho : o.op = .store 49 x y)
    (g : Nat) (hx : a.eval x = .pointer (some ⟨g, 0, none⟩)) {T : TypeId} (xs ys : List Nat) (hl : xs.length = 64) (hl' : ys.length = 64) (hc : BArr w g T xs) (hy : a.eval y = sv ys)
    (h : wpList Tryz.prog ops Q rest (a.put o.dst undef) (w.setRow g (bvs ys).toArray)) : wpList Tryz.prog ops Q (o :: rest) a w := by
  refine wpList_store_row hgd 49 x y ho g (bvs ys).toArray hx hy T (bvs xs).toArray hc (by rw [List.size_toArray, bvs_length, hl']; exact sizePair) (by rw [List.size_toArray, List.size_toArray, bvs_length, bvs_length, hl, hl']) ?_ h
  exact Array.all_eq_true_iff_forall_mem.2 (fun v hv => bvs_oneCell ys v (by simpa using hv))

end Go.Proofs.YtilgikhdamkeoaaGreatDoor

/-
  links.ends' closure that takes the next sum out of a variable: it answers an error where there is none.
-/
namespace Go.Proofs.YtilgikhdamkeoaaGreatDoor
open Go.RowKit

/-- The closure that takes the next one, and the one that leads. -/
def takesK (lb : Nat) : Value := .func (.func 50) #[] #[.pointer (some ⟨lb, 0, none⟩)]
def leadsK (ab nb gb : Nat) : Value := .func (.func 51) #[] #[.pointer (some ⟨ab, 0, none⟩), .pointer (some ⟨nb, 0, none⟩), .pointer (some ⟨gb, 0, none⟩)]

/-- The link stands in variable lb, from number j on; the first sum in ab, both closures in nb and gb; everything else is as it was when the call began (B). -/
structure KIn (B w : World) (ab lb nb gb n j : Nat) (A : Option Addr) (c : Nat) (ys a : List Nat) : Prop where
  var : VarAt w lb 22 (.slice A (n - j) c)
  in_ : InS B A (n - j) (ys.drop (32 * j))
  cap : n - j ≤ c
  le : j ≤ n
  sum : BArr w ab 25 a
  nxt : VarAt w nb 62 (takesK lb)
  led : VarAt w gb 63 (leadsK ab nb gb)
  below : Below B.heap.size B w
  pos : B.heap.size ≤ lb
  ne : ab ≠ lb ∧ nb ≠ lb ∧ gb ≠ lb
section
variable {B w w' : World} {ab lb nb gb n j c : Nat} {A : Option Addr} {ys a : List Nat}
theorem KIn.below_ (h : KIn B w ab lb nb gb n j A c ys a) (hb : Below w.heap.size w w') : KIn B w' ab lb nb gb n j A c ys a :=
  ⟨h.var.below hb, h.in_, h.cap, h.le, h.sum.below hb, h.nxt.below hb, h.led.below hb, below_on h.below (Nat.le_refl _) hb, h.pos, h.ne⟩
theorem KIn.lt (h : KIn B w ab lb nb gb n j A c ys a) : lb < w.heap.size ∧ ab < w.heap.size ∧ nb < w.heap.size ∧ gb < w.heap.size := ⟨h.var.lt, (Array.getElem?_eq_some_iff.1 h.sum).1, h.nxt.lt, h.led.lt⟩
/-- A row that was laid later is written into. -/
theorem KIn.setRow (h : KIn B w ab lb nb gb n j A c ys a) {k : Nat} (hk : B.heap.size ≤ k) (hne : lb ≠ k ∧ ab ≠ k ∧ nb ≠ k ∧ gb ≠ k) (cs : Array Value) : KIn B (w.setRow k cs) ab lb nb gb n j A c ys a :=
  ⟨h.var.setRow_other k hne.1 cs, h.in_, h.cap, h.le, (Go.setRow_other _ _ _ _ hne.2.1).trans h.sum, h.nxt.setRow_other k hne.2.2.1 cs, h.led.setRow_other k hne.2.2.2 cs, below_setRow h.below hk cs, h.pos, h.ne⟩
end

/-- What the closure answers, and how many are taken then. -/
def nxS (ys : List Nat) (n j : Nat) : List Nat := if j < n then nth ys j else zero32
def nxV (E : Addr) (n j : Nat) : Value := if j < n then .nilIface else missV E
def nxJ (n j : Nat) : Nat := if j < n then j + 1 else j
theorem nxS_length {ys : List Nat} {n : Nat} (hlen : ys.length = 32 * n) (j : Nat) : (nxS ys n j).length = 32 := by
  unfold nxS
  split
  · rename_i h; exact nth_length hlen h
  · rfl
theorem nxS_lt {ys : List Nat} (hy : ∀ x ∈ ys, x < 256) (n j : Nat) : ∀ x ∈ nxS ys n j, x < 256 := by
  unfold nxS
  split
  · exact nth_lt hy j
  · decide

section
variable {B w : World} {ab lb nb gb n j c : Nat} {A : Option Addr} {ys a : List Nat} {E : Addr}

set_option maxRecDepth 100000 in
set_option maxHeartbeats 2000000 in
theorem knext_none (h : KIn B w ab lb nb gb n j A c ys a) (hj : j = n) (hm : Miss B E) :
    Calls Tryz.prog 50 #[.pointer (some ⟨lb, 0, none⟩)] w fun e w' => e = .returned (.tuple #[sv zero32, missV E]) ∧ Below w.heap.size w w' := by
  subst hj
  have hc := h.var.cell
  rw [Nat.sub_self] at hc
  have e0 : (bvs zero32).toArray = #[.int .u8 0, .int .u8 0, .int .u8 0, .int .u8 0, .int .u8 0, .int .u8 0, .int .u8 0, .int .u8 0, .int .u8 0, .int .u8 0, .int .u8 0, .int .u8 0, .int .u8 0, .int .u8 0, .int .u8 0, .int .u8 0, .int .u8 0, .int .u8 0, .int .u8 0, .int .u8 0, .int .u8 0, .int .u8 0, .int .u8 0, .int .u8 0, .int .u8 0, .int .u8 0, .int .u8 0, .int .u8 0, .int .u8 0, .int .u8 0, .int .u8 0, .int .u8 0] := rfl
  have b1 := below_alloc w (.cells (bvs zero32).toArray 25)
  have f1 := BArr.new w 25 zero32
  rw [e0] at b1 f1
  clear e0
  have hc1 := (b1.cell h.var.lt).trans hc
  have m1 := (hm.below h.below).below b1
  have HM := Lib.hid m1
  have HB := Lib.hid (And.intro b1 f1)
  have HL := Lib.hid (show 0 ≠ w.heap.size from Nat.ne_of_lt (hm.below h.below).lt)
  clear b1 f1 h hm m1
  go_enter Tryz.func50, Tryz.ntmps50
  go_upto_region 1 with fail
  obtain ⟨w1, hw1⟩ : ∃ w1, w1 = w.alloc (.cells #[.int .u8 0, .int .u8 0, .int .u8 0, .int .u8 0, .int .u8 0, .int .u8 0, .int .u8 0, .int .u8 0, .int .u8 0, .int .u8 0, .int .u8 0, .int .u8 0, .int .u8 0, .int .u8 0, .int .u8 0, .int .u8 0, .int .u8 0, .int .u8 0, .int .u8 0, .int .u8 0, .int .u8 0, .int .u8 0, .int .u8 0, .int .u8 0, .int .u8 0, .int .u8 0, .int .u8 0, .int .u8 0, .int .u8 0, .int .u8 0, .int .u8 0, .int .u8 0] 25) := ⟨_, rfl⟩
  rw [← hw1] at HB HM hc1 ⊢
  clear hw1
  go_upto_region 2 with fail
  have hS : Miss w1.drew E := HM.out
  refine wp_region_held (S := fun W => Miss W E) (by kernel_rfl) ?_
  change wpAnyH _ _ _ _ _ _ _ _ w1.drew
  refine' wpAnyH_take (i := 0) (oi := _) (v := sv zero32) ?hi0 (by kernel_rfl) ?hf0 ?hr0 ?hQ0 ?hy0 hS ?rest0
  case hi0 => (simp only [List.getElem?_toArray, List.getElem?_cons_zero]; rfl)
  case hf0 => kernel_rfl
  case hr0 => kernel_rfl
  case hQ0 => exact fun _ _ _ h => h
  case hy0 =>
    refine Or.inl ⟨by rfl, ?_⟩
    intro W hSw
    go_simp
    rfl
  simp only [Act.put, List.setIfInBounds_toArray, List.set_cons_zero, List.set_cons_succ]
  refine' wpAnyH_take (i := 1) (oi := _) (v := missV E) ?hi1 (by kernel_rfl) ?hf1 ?hr1 ?hQ1 ?hy1 hS ?rest1
  case hi1 => (simp only [List.getElem?_toArray, List.getElem?_cons_zero, List.getElem?_cons_succ]; rfl)
  case hf1 => kernel_rfl
  case hr1 => kernel_rfl
  case hQ1 => exact fun _ _ _ h => h
  case hy1 =>
    refine Or.inl ⟨by rfl, ?_⟩
    intro W hSw
    unfold Miss at hSw
    go_simp
    try with_reducible rfl
  simp only [Act.put, List.setIfInBounds_toArray, List.set_cons_zero, List.set_cons_succ]
  refine wpAnyH_ready (rs := [2]) (by kernel_rfl) (by simp) ?_
  refine' AllReadyH.cons (o := _) ?hin (fun K1 hK1 => ?_) AllReadyH.nil
  case hin => (simp only [List.getElem?_toArray, List.getElem?_cons_zero, List.getElem?_cons_succ]; rfl)
  rw [if_pos (by rfl)]
  refine step_store_sum (.tmp 1) (.tmp 7) rfl w.heap.size rfl zero32 zero32 rfl rfl HB.out.2 rfl ?_
  have r1 : BArr (w1.drew.setRow w.heap.size (bvs zero32).toArray) w.heap.size 25 zero32 := (show BArr w1.drew w.heap.size 25 zero32 from HB.out.2).setRow zero32
  have b1 : Below w.heap.size w (w1.drew.setRow w.heap.size (bvs zero32).toArray) := below_setRow HB.out.1.drew (Nat.le_refl _) _
  have hS1 : Miss (w1.drew.setRow w.heap.size (bvs zero32).toArray) E := by
    have e := HL.out
    unfold Miss World.cell? at hS ⊢
    rw [Go.setRow_other _ _ _ _ e]
    exact hS
  obtain ⟨w2, hw2⟩ : ∃ w2, w2 = w1.drew.setRow w.heap.size (bvs zero32).toArray := ⟨_, rfl⟩
  rw [← hw2] at r1 b1 hS1 ⊢
  clear hw2
  refine hK1.out _ _ hS1 (fun _ => ?_)
  clear hK1 K1
  refine' wpAnyH_take (i := 3) (oi := _) (v := _) ?hi3 (by kernel_rfl) ?hf3 ?hr3 ?hQ3 ?hy3 hS1 ?rest3
  case hi3 => (simp only [List.getElem?_toArray, List.getElem?_cons_zero, List.getElem?_cons_succ]; rfl)
  case hf3 => kernel_rfl
  case hr3 => kernel_rfl
  case hQ3 => exact fun _ _ _ h => h
  case hy3 =>
    refine Or.inl ⟨by rfl, ?_⟩
    intro W hSw
    go_simp
    try with_reducible rfl
  simp only [Act.put, List.setIfInBounds_toArray, List.set_cons_zero, List.set_cons_succ]
  refine wpAnyH_done (by kernel_rfl) ?_ _
  go_wp2
  refine bodyPost_ret_by (results_cell_tmp (p := 1) (q := 2) (ty := 25) (by kernel_rfl) _ _ ⟨w.heap.size, 0, none⟩ (sv zero32) rfl (run_load_sum w2 _ zero32 rfl r1.at_)) rfl ?_
  exact ⟨rfl, b1⟩

set_option maxRecDepth 100000 in
set_option maxHeartbeats 2000000 in
theorem knext_some (h : KIn B w ab lb nb gb n j A c ys a) (hj : j < n) (hn : n ≤ 1000000) :
    Calls Tryz.prog 50 #[.pointer (some ⟨lb, 0, none⟩)] w fun e w' => e = .returned (.tuple #[sv (nth ys j), .nilIface]) ∧ (∃ A' c', KIn B w' ab lb nb gb n (j + 1) A' c' ys a) ∧ But (· = lb) w w' := by
  obtain ⟨p, hp⟩ : ∃ p, n - j = p := ⟨_, rfl⟩
  have hp0 : 0 < p := by omega
  have hin := h.in_
  rw [hp] at hin
  obtain ⟨ad, hA, hl, hat⟩ := hin.at_ hp0
  subst hA
  rw [Nat.zero_mul, add_zero', nth_drop, Nat.add_zero] at hat
  rw [nth_drop, Nat.add_zero] at hl
  obtain ⟨s, hs⟩ : ∃ s, nth ys j = s := ⟨_, rfl⟩
  rw [hs] at hat hl ⊢
  have hcap := h.cap
  rw [hp] at hcap
  obtain ⟨A', hcut, hA'⟩ := cut_nameS (A := some ad) (n := p) (c := c) (k := 1) (by omega)
  have hcut1 : ∀ W : World, (Instr.slice 22 (.slice (some ad) p c) (some (.int .i64 1)) none none).run Tryz.prog W = .ok (.slice A' (p - 1) (c - 1)) W := hcut
  have hin' : InS B A' (p - 1) (ys.drop (32 * (j + 1))) := by
    rw [hA', show 32 * (j + 1) = 32 * j + 32 * 1 by omega, ← List.drop_drop]
    split
    · rename_i e
      obtain rfl : p = 1 := by omega
      have := hin.drop_ 1 (Nat.le_refl _)
      rw [Nat.sub_self] at this ⊢
      exact ⟨this.len, by rw [List.eq_nil_of_length_eq_zero (l := List.drop (32 * 1) (ys.drop (32 * j))) (by rw [this.len])]; exact Rd.nil _ _⟩
    · exact hin.drop_ 1 (by omega)
  have hc := h.var.cell
  rw [hp] at hc
  have e0 : (bvs zero32).toArray = #[.int .u8 0, .int .u8 0, .int .u8 0, .int .u8 0, .int .u8 0, .int .u8 0, .int .u8 0, .int .u8 0, .int .u8 0, .int .u8 0, .int .u8 0, .int .u8 0, .int .u8 0, .int .u8 0, .int .u8 0, .int .u8 0, .int .u8 0, .int .u8 0, .int .u8 0, .int .u8 0, .int .u8 0, .int .u8 0, .int .u8 0, .int .u8 0, .int .u8 0, .int .u8 0, .int .u8 0, .int .u8 0, .int .u8 0, .int .u8 0, .int .u8 0, .int .u8 0] := rfl
  have f1 := BArr.new w 25 zero32
  have b1 := below_alloc w (.cells (bvs zero32).toArray 25)
  have s1 : (w.alloc (.cells (bvs zero32).toArray 25)).heap.size = w.heap.size + 1 := by simp
  rw [e0] at f1 b1 s1
  clear e0
  have hc1 := (b1.cell h.var.lt).trans hc
  have hp1 : ((p : Int) == 0) = false := by simp; omega
  have hp2 : (0 : Int) < (p : Int) := by omega
  have HAt := Lib.hid ((hat.below h.below).below b1)
  have HF := Lib.hid (And.intro f1 (And.intro b1 s1))
  have HV := Lib.hid (h.var.below b1)
  have HH := Lib.hid (And.intro h (And.intro hin' hs))
  have HN := Lib.hid (And.intro hp (And.intro hj (And.intro hcap hn)))
  clear f1 b1 s1 hat hcut hA' hin' hin h hs hp hj hcap hn hc
  go_enter Tryz.func50, Tryz.ntmps50
  go_upto_region 1 with fail
  obtain ⟨w1, hw1⟩ : ∃ w1, w1 = w.alloc (.cells #[.int .u8 0, .int .u8 0, .int .u8 0, .int .u8 0, .int .u8 0, .int .u8 0, .int .u8 0, .int .u8 0, .int .u8 0, .int .u8 0, .int .u8 0, .int .u8 0, .int .u8 0, .int .u8 0, .int .u8 0, .int .u8 0, .int .u8 0, .int .u8 0, .int .u8 0, .int .u8 0, .int .u8 0, .int .u8 0, .int .u8 0, .int .u8 0, .int .u8 0, .int .u8 0, .int .u8 0, .int .u8 0, .int .u8 0, .int .u8 0, .int .u8 0, .int .u8 0] 25) := ⟨_, rfl⟩
  rw [← hw1] at HF HAt HV hc1 ⊢
  clear hw1
  have HZ32 := Lib.hid (show zero32.length = 32 from rfl)
  go_upto_region 4 with (first | with_reducible refine wpList_load_sum rfl (.tmp 10) rfl ad rfl s hl HAt.out ?_ | with_reducible refine wpList_store_new w1 _ rfl rfl (.tmp 3) (.tmp 11) rfl rfl s hl rfl ?_)
  have b2 := below_alloc w1 (.cells (bvs s).toArray 25)
  have g2 := BArr.new w1 25 s
  have V2 := HV.out.below b2
  have F2 := HF.out.1.below b2
  have s2 : (w1.alloc (.cells (bvs s).toArray 25)).heap.size = w1.heap.size + 1 := by simp
  have hc2 := (b2.cell HV.out.lt).trans hc1
  have hf2 := V2.free
  obtain ⟨w2, hw2⟩ : ∃ w2, w2 = w1.alloc (.cells (bvs s).toArray 25) := ⟨_, rfl⟩
  rw [← hw2] at b2 g2 V2 F2 s2 hc2 hf2 ⊢
  clear hw2
  have HG := Lib.hid (And.intro b2 (And.intro g2 (And.intro V2 (And.intro F2 s2))))
  clear b2 g2 V2 F2 s2
  go_upto_region 5 with fail
  obtain ⟨w3, hw3⟩ : ∃ w3, w3 = w2.setCell ⟨lb, 0, none⟩ (.slice A' (p - 1) (c - 1)) := ⟨_, rfl⟩
  rw [← hw3]
  have hpb : lb < w.heap.size := HH.out.1.var.lt
  have g3 : BArr w3 w1.heap.size 25 s := by rw [hw3]; exact HG.out.2.1.other _ _ (by have := HF.out.2.2; simp only; omega)
  have f3 : BArr w3 w.heap.size 25 zero32 := by rw [hw3]; exact HG.out.2.2.2.1.other _ _ (by simp only; omega)
  have v3 : VarAt w3 lb 22 (.slice A' (p - 1) (c - 1)) := by rw [hw3]; exact HG.out.2.2.1.set _
  have HK := Lib.hid (And.intro v3 hw3)
  have g3' := Lib.hid g3.at_
  clear v3 hw3 g3
  go_wp2_with (first | with_reducible refine wpList_load_sum rfl (.tmp 3) rfl ⟨w1.heap.size, 0, none⟩ rfl s hl g3'.out ?_ | with_reducible refine wpList_store_sum rfl (.tmp 1) (.tmp 14) rfl w.heap.size rfl zero32 s HZ32 hl f3 rfl ?_)
  have r4 : BArr (w3.setRow w.heap.size (bvs s).toArray) w.heap.size 25 s := f3.setRow s
  refine bodyPost_ret_by (results_cell_tmp (p := 1) (q := 2) (ty := 25) (by kernel_rfl) _ _ ⟨w.heap.size, 0, none⟩ (sv s) rfl (run_load_sum _ _ s hl r4.at_)) rfl ?_
  have bu : But (· = lb) w w3 := by rw [HK.out.2]; exact ((But.of_below HF.out.2.1).trans (But.of_below HG.out.1)).set 0 _ (fun _ => rfl)
  have HB := HH.out.1
  have hlts := HB.lt
  have hne := HB.ne
  have bu4 : But (· = lb) w (w3.setRow w.heap.size (bvs s).toArray) := ⟨bu.os, bu.tape, bu.output, by rw [setRow_size]; exact bu.size, fun b hb hne => (Go.setRow_other _ _ _ _ (by omega)).trans (bu.block b hb hne)⟩
  refine ⟨rfl, ⟨A', c - 1, ?_⟩, bu4⟩
  · have hpos := HB.pos
    have hnn := HN.out
    refine ⟨?_, ?_, ?_, by omega, ?_, ?_, ?_, ?_, hpos, hne⟩
    · rw [show n - (j + 1) = p - 1 by omega]
      exact HK.out.1.setRow_other _ (by omega) _
    · rw [show n - (j + 1) = p - 1 by omega]; exact HH.out.2.1
    · omega
    · exact (bu4.block _ hlts.2.1 hne.1).trans HB.sum
    · exact HB.nxt.but bu4 hne.2.1
    · exact HB.led.but bu4 hne.2.2
    · exact below_setRow (HB.below.trans (bu.below HB.below.size (fun b e => by rw [e]; exact hpos))) (by have := HB.below.size; omega) _

/-- Both ways in one. -/
theorem knext_any (h : KIn B w ab lb nb gb n j A c ys a) (hn : n ≤ 1000000) (hm : Miss B E) :
    Calls Tryz.prog 50 #[.pointer (some ⟨lb, 0, none⟩)] w fun e w' => e = .returned (.tuple #[sv (nxS ys n j), nxV E n j]) ∧ (∃ A' c', KIn B w' ab lb nb gb n (nxJ n j) A' c' ys a) ∧ But (· = lb) w w' := by
  unfold nxS nxV nxJ
  by_cases hj : j < n
  · rw [if_pos hj, if_pos hj, if_pos hj]
    exact knext_some h hj hn
  · rw [if_neg hj, if_neg hj, if_neg hj]
    exact (knext_none h (by have := h.le; omega) hm).mono fun e w' ⟨he, hb⟩ => ⟨he, ⟨A, c, h.below_ hb⟩, But.of_below hb⟩

end

end Go.Proofs.YtilgikhdamkeoaaGreatDoor

/-
  '[2]api.Sum{x, y}', and what is done with such a variable.
-/
namespace Go.Proofs.YtilgikhdamkeoaaGreatDoor
open Go.RowKit

theorem infoPair : (Tryz.prog.info? 49).map (fun i => (i.zero, i.size, i.bytes)) = some (some (.agg (Array.replicate 64 (.int .u8 0))), 64, 64) := by kernel_rfl

set_option maxRecDepth 100000 in
theorem run_build_pair (x y : List Nat) (hx : x.length = 32) (hy : y.length = 32) (w : World) : (Instr.build 49 #[(0, sv x), (1, sv y)]).run Tryz.prog w = .ok (sv (x ++ y)) w := by
  obtain ⟨i0, hi, hz0, hz1, _⟩ := info_parts infoSum
  obtain ⟨j0, hj, hy0, hy1, _⟩ := info_parts infoPair
  refine run_build w _ _ _ ?_
  unfold Program.built
  simp only [hj, Tryz.underlying49, hy0, hi, hz1]
  have := fill_all [x, y] [] (List.replicate 64 (.int .u8 0)) 0 (by intro s hs; simp at hs; rcases hs with rfl | rfl; exact hx; exact hy) (by simp) rfl
  rw [List.nil_append, List.nil_append, show [x, y].flatten = x ++ y by simp, List.toArray_replicate] at this
  exact this

theorem run_build_op {o : Oper} {a : Act} (u v : Operand) (ho : o.op = .build 49 #[(0, u), (1, v)]) (x y : List Nat) (hu : a.eval u = sv x) (hv : a.eval v = sv y) (hx : x.length = 32) (hy : y.length = 32) (w : World) :
    (execOp a.eval o).run Tryz.prog w = .ok (.value (sv (x ++ y))) w := by
  have hp : (#[((0 : Nat), u), (1, v)].map fun ((i, x) : Nat × Operand) => (i, a.eval x)) = #[(0, sv x), (1, sv y)] := by simp [hu, hv]
  unfold execOp
  simp only [ho, hp, Sem.run_bind, Sem.run_pure, Result.andThen_ok, run_build_pair x y hx hy w]

theorem wpList_build_pair {ops : Array Oper} {rest : List Oper} {o : Oper} {a : Act} {w : World} {Q : Exit → Act → World → Prop} (hgd : o.guard = none) (u v : Operand) (ho : o.op = .build 49 #[(0, u), (1, v)])
    (x y : List Nat) (hu : a.eval u = sv x) (hv : a.eval v = sv y) (hx : x.length = 32) (hy : y.length = 32)
    (h : wpList Tryz.prog ops Q rest (a.put o.dst (sv (x ++ y))) w) : wpList Tryz.prog ops Q (o :: rest) a w := by
  refine wpList_plain hgd fun K hK => ?_
  unfold Oper.wp
  rw [run_build_op u v ho x y hu hv hx hy]
  exact hK _ _ h

theorem yields_build_pair {ops : Array Oper} {S : World → Prop} {o : Oper} {a : Act} (hw : Region.wanted o (yielded ops a.tmps) = true) (u v : Operand) (ho : o.op = .build 49 #[(0, u), (1, v)])
    (x y : List Nat) (hu : a.eval u = sv x) (hv : a.eval v = sv y) (hx : x.length = 32) (hy : y.length = 32) : YieldsIf Tryz.prog ops S o (sv (x ++ y)) a :=
  Or.inl ⟨hw, fun w _ => run_build_op u v ho x y hu hv hx hy w⟩

theorem yields_pair {ops : Array Oper} {S : World → Prop} {o : Oper} {a : Act} (hw : Region.wanted o (yielded ops a.tmps) = true) (x : Operand) (ho : o.op = .load 49 x)
    (ad : Addr) (hx : a.eval x = .pointer (some ad)) (s : List Nat) (hl : s.length = 64) (hc : ∀ w, S w → At w ad s) : YieldsIf Tryz.prog ops S o (sv s) a := by
  refine Or.inl ⟨hw, fun w hS => ?_⟩
  unfold execOp
  simp only [ho, hx, Instr.loadAt, Instr.sureAddr, Sem.run_bind, Sem.run_pure, Result.andThen_ok, run_load_pair w ad s hl (hc w hS)]

theorem step_store_pair {o : Oper} {a : Act} {w : World} {K : Act → World → Prop} {Q : Exit → Act → World → Prop} (x y : Operand) (ho : o.op = .store 49 x y)
    (g : Nat) (hx : a.eval x = .pointer (some ⟨g, 0, none⟩)) {T : TypeId} (xs ys : List Nat) (hl : xs.length = 64) (hl' : ys.length = 64) (hc : BArr w g T xs) (hy : a.eval y = sv ys)
    (h : K (a.put o.dst undef) (w.setRow g (bvs ys).toArray)) : Oper.wp Tryz.prog o a w K Q := by
  have hr := run_storeVar_row (P := Tryz.prog) w g T 49 (bvs xs).toArray (bvs ys).toArray hc (by rw [List.size_toArray, bvs_length, hl']; exact sizePair) (by rw [List.size_toArray, bvs_length, hl, List.size_toArray, bvs_length, hl']) (all_oneCell_toArray (bvs_oneCell ys))
  unfold Oper.wp execOp
  simp only [ho, hx, hy, sv, Instr.storeAt, Instr.sureAddr, Sem.run_bind, Sem.run_pure, Result.andThen_ok, hr]
  exact h

/-- The two halves of such a variable. -/
theorem BArr.first {w : World} {g : Nat} {T : TypeId} {x y : List Nat} (h : BArr w g T (x ++ y)) : At w ⟨g, 0, none⟩ x := fun j v hv => h.at_ j v (by rw [List.getElem?_append_left (List.getElem?_eq_some_iff.1 hv).1]; exact hv)
theorem BArr.second {w : World} {g : Nat} {T : TypeId} {x y : List Nat} (h : BArr w g T (x ++ y)) (hx : x.length = 32) : At w ⟨g, 32, none⟩ y := fun j v hv => by
  have := h.at_ (32 + j) v (by rw [List.getElem?_append_right (by omega), hx, show 32 + j - 32 = j by omega]; exact hv)
  have ha : ∀ o k : Nat, (⟨g, o, none⟩ : Addr).add k = ⟨g, o + k, none⟩ := fun o k => by unfold Addr.add; split <;> simp_all
  rw [ha] at this ⊢
  rw [Nat.zero_add] at this
  exact this

end Go.Proofs.YtilgikhdamkeoaaGreatDoor

/-
  The path of a leaf, as plain functions: how many sums it has, which they are, and what a path leads to.
-/
namespace Go.Proofs.YtilgikhdamkeoaaGreatDoor
open Go.RowKit

/-- How many trees stand beside a leaf. -/
def dep (at_ n : Nat) : Nat := if _ : n < 2 then 0 else if at_ < cutN n then dep at_ (cutN n) + 1 else dep (at_ - cutN n) (n - cutN n) + 1
termination_by n
decreasing_by
  · exact cutN_lt (by omega)
  · have := cutN_pos n; omega
theorem dep_one {n : Nat} (h : n < 2) (at_ : Nat) : dep at_ n = 0 := by rw [dep, dif_pos h]
theorem dep_low {n at_ : Nat} (h : 2 ≤ n) (ha : at_ < cutN n) : dep at_ n = dep at_ (cutN n) + 1 := by rw [dep, dif_neg (by omega), if_pos ha]
theorem dep_high {n at_ : Nat} (h : 2 ≤ n) (ha : ¬ at_ < cutN n) : dep at_ n = dep (at_ - cutN n) (n - cutN n) + 1 := by rw [dep, dif_neg (by omega), if_neg ha]

/-- What the sums from number j on lead to, the lower ones first. -/
def leadF (f : Nat → List Nat) (leaf : List Nat) (at_ n j : Nat) : List Nat :=
  if _ : n < 2 then leaf
  else if at_ < cutN n then nodeL (leadF f leaf at_ (cutN n) j) (f (j + dep at_ (cutN n)))
  else nodeL (f (j + dep (at_ - cutN n) (n - cutN n))) (leadF f leaf (at_ - cutN n) (n - cutN n) j)
termination_by n
decreasing_by
  · exact cutN_lt (by omega)
  · have := cutN_pos n; omega
theorem leadF_one (f : Nat → List Nat) (leaf : List Nat) {n : Nat} (h : n < 2) (at_ j : Nat) : leadF f leaf at_ n j = leaf := by rw [leadF, dif_pos h]
theorem leadF_low (f : Nat → List Nat) (leaf : List Nat) {n at_ : Nat} (h : 2 ≤ n) (ha : at_ < cutN n) (j : Nat) : leadF f leaf at_ n j = nodeL (leadF f leaf at_ (cutN n) j) (f (j + dep at_ (cutN n))) := by
  rw [leadF, dif_neg (by omega), if_pos ha]
theorem leadF_high (f : Nat → List Nat) (leaf : List Nat) {n at_ : Nat} (h : 2 ≤ n) (ha : ¬ at_ < cutN n) (j : Nat) : leadF f leaf at_ n j = nodeL (f (j + dep (at_ - cutN n) (n - cutN n))) (leadF f leaf (at_ - cutN n) (n - cutN n) j) := by
  rw [leadF, dif_neg (by omega), if_neg ha]
theorem leadF_of {P : List Nat → Prop} (hs : ∀ xs, P (sha xs)) (f : Nat → List Nat) (leaf : List Nat) (hl : P leaf) (at_ n j : Nat) : P (leadF f leaf at_ n j) := by
  by_cases h : n < 2
  · rw [leadF_one f leaf h]; exact hl
  · by_cases ha : at_ < cutN n
    · rw [leadF_low f leaf (by omega) ha]; exact hs _
    · rw [leadF_high f leaf (by omega) ha]; exact hs _
theorem leadF_length (f : Nat → List Nat) (leaf : List Nat) (hl : leaf.length = 32) (at_ n j : Nat) : (leadF f leaf at_ n j).length = 32 := leadF_of (P := fun l => l.length = 32) sha_length f leaf hl at_ n j
theorem leadF_lt (f : Nat → List Nat) (leaf : List Nat) (hl : ∀ x ∈ leaf, x < 256) (at_ n j : Nat) : ∀ x ∈ leadF f leaf at_ n j, x < 256 := leadF_of (P := fun l => ∀ x ∈ l, x < 256) sha_lt f leaf hl at_ n j
theorem leadF_congr (f g : Nat → List Nat) (leaf : List Nat) : ∀ (n at_ j : Nat), (∀ k, k < dep at_ n → f (j + k) = g (j + k)) → leadF f leaf at_ n j = leadF g leaf at_ n j := by
  intro n
  induction n using Nat.strongRecOn with
  | ind n ih =>
    intro at_ j h
    by_cases h2 : n < 2
    · rw [leadF_one f leaf h2, leadF_one g leaf h2]
    · have a := cutN_lt (m := n) (by omega)
      have b := cutN_pos n
      by_cases ha : at_ < cutN n
      · rw [dep_low (by omega) ha] at h
        rw [leadF_low f leaf (by omega) ha, leadF_low g leaf (by omega) ha, h _ (by omega), ih _ a _ _ (fun k hk => h k (by omega))]
      · rw [dep_high (by omega) ha] at h
        rw [leadF_high f leaf (by omega) ha, leadF_high g leaf (by omega) ha, h _ (by omega), ih _ (by omega) _ _ (fun k hk => h k (by omega))]

/-- The path of the leaf at a place, of the n sums from i on. -/
def pathL (f : Nat → List Nat) (i n at_ : Nat) : List (List Nat) :=
  if _ : n < 2 then []
  else if at_ < cutN n then pathL f i (cutN n) at_ ++ [rt f (i + cutN n) (n - cutN n)]
  else pathL f (i + cutN n) (n - cutN n) (at_ - cutN n) ++ [rt f i (cutN n)]
termination_by n
decreasing_by
  · exact cutN_lt (by omega)
  · have := cutN_pos n; omega
theorem pathL_one (f : Nat → List Nat) {n : Nat} (h : n < 2) (i at_ : Nat) : pathL f i n at_ = [] := by rw [pathL, dif_pos h]
theorem pathL_low (f : Nat → List Nat) {n at_ : Nat} (h : 2 ≤ n) (ha : at_ < cutN n) (i : Nat) : pathL f i n at_ = pathL f i (cutN n) at_ ++ [rt f (i + cutN n) (n - cutN n)] := by
  rw [pathL, dif_neg (by omega), if_pos ha]
theorem pathL_high (f : Nat → List Nat) {n at_ : Nat} (h : 2 ≤ n) (ha : ¬ at_ < cutN n) (i : Nat) : pathL f i n at_ = pathL f (i + cutN n) (n - cutN n) (at_ - cutN n) ++ [rt f i (cutN n)] := by
  rw [pathL, dif_neg (by omega), if_neg ha]
theorem pathL_length (f : Nat → List Nat) : ∀ (n i at_ : Nat), (pathL f i n at_).length = dep at_ n := by
  intro n
  induction n using Nat.strongRecOn with
  | ind n ih =>
    intro i at_
    by_cases h2 : n < 2
    · rw [pathL_one f h2, dep_one h2]; rfl
    · have a := cutN_lt (m := n) (by omega)
      have b := cutN_pos n
      by_cases ha : at_ < cutN n
      · rw [pathL_low f (by omega) ha, dep_low (by omega) ha, List.length_append, ih _ a]; rfl
      · rw [pathL_high f (by omega) ha, dep_high (by omega) ha, List.length_append, ih _ (by omega)]; rfl
theorem pathL_of {P : List Nat → Prop} (f : Nat → List Nat) : ∀ (n i at_ : Nat), (∀ i m, P (rt f i m)) → ∀ s ∈ pathL f i n at_, P s := by
  intro n
  induction n using Nat.strongRecOn with
  | ind n ih =>
    intro i at_ h s hs
    by_cases h2 : n < 2
    · rw [pathL_one f h2] at hs; cases hs
    · have a := cutN_lt (m := n) (by omega)
      have b := cutN_pos n
      by_cases ha : at_ < cutN n
      · rw [pathL_low f (by omega) ha] at hs
        rcases List.mem_append.1 hs with hs | hs
        · exact ih _ a _ _ h s hs
        · rw [List.mem_singleton.1 hs]; exact h _ _
      · rw [pathL_high f (by omega) ha] at hs
        rcases List.mem_append.1 hs with hs | hs
        · exact ih _ (by omega) _ _ h s hs
        · rw [List.mem_singleton.1 hs]; exact h _ _
theorem pathL_len32 (f : Nat → List Nat) : ∀ (n i at_ : Nat), (∀ j, j < n → (f (i + j)).length = 32) → ∀ s ∈ pathL f i n at_, s.length = 32 := by
  intro n
  induction n using Nat.strongRecOn with
  | ind n ih =>
    intro i at_ h s hs
    by_cases h2 : n < 2
    · rw [pathL_one f h2] at hs; cases hs
    · have a := cutN_lt (m := n) (by omega)
      have b := cutN_pos n
      by_cases ha : at_ < cutN n
      · rw [pathL_low f (by omega) ha] at hs
        rcases List.mem_append.1 hs with hs | hs
        · exact ih _ a _ _ (fun j hj => h j (by omega)) s hs
        · rw [List.mem_singleton.1 hs]; exact rt_length f _ _ fun j hj => by rw [Nat.add_assoc]; exact h _ (by omega)
      · rw [pathL_high f (by omega) ha] at hs
        rcases List.mem_append.1 hs with hs | hs
        · exact ih _ (by omega) _ _ (fun j hj => by rw [Nat.add_assoc]; exact h _ (by omega)) s hs
        · rw [List.mem_singleton.1 hs]; exact rt_length f _ _ fun j hj => h j (by omega)
theorem pathL_congr (f g : Nat → List Nat) : ∀ (n i i' at_ : Nat), (∀ j, j < n → f (i + j) = g (i' + j)) → pathL f i n at_ = pathL g i' n at_ := by
  intro n
  induction n using Nat.strongRecOn with
  | ind n ih =>
    intro i i' at_ h
    by_cases h2 : n < 2
    · rw [pathL_one f h2, pathL_one g h2]
    · have a := cutN_lt (m := n) (by omega)
      have b := cutN_pos n
      by_cases ha : at_ < cutN n
      · rw [pathL_low f (by omega) ha, pathL_low g (by omega) ha, ih _ a i i' at_ (fun j hj => h j (by omega)), rt_congr f g _ (i + cutN n) (i' + cutN n) (fun j hj => by rw [Nat.add_assoc, Nat.add_assoc]; exact h _ (by omega))]
      · rw [pathL_high f (by omega) ha, pathL_high g (by omega) ha, ih _ (by omega) (i + cutN n) (i' + cutN n) _ (fun j hj => by rw [Nat.add_assoc, Nat.add_assoc]; exact h _ (by omega)), rt_congr f g _ i i' (fun j hj => h j (by omega))]

/-- The path of a leaf leads to the root. -/
theorem lead_path (f g : Nat → List Nat) : ∀ (n i at_ j : Nat), 1 ≤ n → at_ < n → (∀ k s, (pathL f i n at_)[k]? = some s → g (j + k) = s) → leadF g (f (i + at_)) at_ n j = rt f i n := by
  intro n
  induction n using Nat.strongRecOn with
  | ind n ih =>
    intro i at_ j h1 hat h
    by_cases h2 : n < 2
    · obtain rfl : n = 1 := by omega
      obtain rfl : at_ = 0 := by omega
      rw [leadF_one g _ h2, rt_one]; rfl
    · have a := cutN_lt (m := n) (by omega)
      have b := cutN_pos n
      by_cases ha : at_ < cutN n
      · rw [pathL_low f (by omega) ha] at h
        rw [leadF_low g _ (by omega) ha, rt_cut f i (by omega), ih _ a i at_ j b ha (fun k s hk => h k s (by rw [List.getElem?_append_left (List.getElem?_eq_some_iff.1 hk).1]; exact hk)),
          h (dep at_ (cutN n)) _ (by rw [List.getElem?_append_right (by rw [pathL_length]; exact Nat.le_refl _), pathL_length, Nat.sub_self]; rfl)]
      · rw [pathL_high f (by omega) ha] at h
        rw [leadF_high g _ (by omega) ha, rt_cut f i (by omega), show i + at_ = i + cutN n + (at_ - cutN n) by omega,
          ih _ (by omega) (i + cutN n) (at_ - cutN n) j (by omega) (by omega) (fun k s hk => h k s (by rw [List.getElem?_append_left (List.getElem?_eq_some_iff.1 hk).1]; exact hk)),
          h (dep (at_ - cutN n) (n - cutN n)) _ (by rw [List.getElem?_append_right (by rw [pathL_length]; exact Nat.le_refl _), pathL_length, Nat.sub_self]; rfl)]

/-- How many bits a number has. -/
def bl (x : Nat) : Nat := if x = 0 then 0 else Nat.log2 x + 1
theorem bl_le {x e : Nat} (h : x < 2 ^ e) : bl x ≤ e := by
  unfold bl
  split
  · omega
  · have := (Nat.log2_lt (by omega)).2 h; omega
theorem bl_half {x : Nat} (h : 0 < x) : bl x = bl (x / 2) + 1 := by
  unfold bl
  rw [if_neg (by omega)]
  by_cases h1 : x = 1
  · subst h1; decide
  · rw [if_neg (by omega)]
    have a : Nat.log2 x = Nat.log2 (x / 2) + 1 := by
      rw [Nat.log2_def, if_pos (by omega)]
    rw [a]
theorem bl_zero : bl 0 = 0 := rfl
theorem dep_le : ∀ (n at_ : Nat), at_ < n → dep at_ n ≤ bl (n - 1) := by
  intro n
  induction n using Nat.strongRecOn with
  | ind n ih =>
    intro at_ hat
    by_cases h2 : n < 2
    · rw [dep_one h2]; omega
    · have a := cutN_lt (m := n) (by omega)
      have b := cutN_pos n
      have c := cutN_two (m := n) (by omega)
      have hb : bl (n - 1) = Nat.log2 (n - 1) + 1 := by unfold bl; rw [if_neg (by omega)]
      have hc : cutN n = 2 ^ Nat.log2 (n - 1) := rfl
      rw [hb]
      by_cases ha : at_ < cutN n
      · rw [dep_low (by omega) ha]
        have := ih _ a at_ ha
        have := bl_le (x := cutN n - 1) (e := Nat.log2 (n - 1)) (by omega)
        omega
      · rw [dep_high (by omega) ha]
        have := ih _ (by omega) (at_ - cutN n) (show at_ - cutN n < n - cutN n by omega)
        have := bl_le (x := n - cutN n - 1) (e := Nat.log2 (n - 1)) (by omega)
        omega
theorem dep_64 {n at_ : Nat} (h : at_ < n) (hn : n ≤ 18446744073709551616) : dep at_ n ≤ 64 := Nat.le_trans (dep_le n at_ h) (bl_le (by omega))

end Go.Proofs.YtilgikhdamkeoaaGreatDoor

/-
  How many bits a number of 64 bits has; how many leaves a left side has.
-/
namespace Go.Proofs.YtilgikhdamkeoaaGreatDoor
open Go.RowKit

set_option maxRecDepth 100000 in
set_option maxHeartbeats 1000000 in
theorem len64_010 (x : Nat) (w : World) (hx : x < 18446744073709551616) (hA : x < 4294967296) (hB : 65536 ≤ x) (hC : x / 65536 < 256) :
    Calls Tryz.prog 78 #[.int .u64 (x : Int)] w fun e w' => e = .returned (.int .i64 (Lib.bitLen x)) ∧ w' = w := by
  have h1 : decide (4294967296 ≤ (x : Int)) = false := by simp; omega
  have h2 : decide (65536 ≤ (x : Int)) = true := by simp; omega
  have h3 : decide (256 ≤ (x : Int) / 65536) = false := by simp; omega
  have hq : x / 65536 < 256 := by omega
  have hv := tab_len ⟨x / 65536, hq⟩
  have hle := Lib.bitLen_le8 ⟨x / 65536, hq⟩
  have HS := Lib.hid (show Lib.bitLen x = 16 + Lib.bitLen (x / 65536) from by rw [Lib.bitLen_shift16 (x) hB (by omega)])
  dsimp only at hv hle
  have HV := Lib.hid (And.intro hv hle)
  clear hv hle
  go_enter Tryz.func78, Tryz.ntmps78
  go_wp2
  · go_ret
    refine ⟨congrArg Ending.returned (congrArg (Value.int IntKind.i64) ?_), rfl⟩
    have hv := HV.out.1
    have hle := HV.out.2
    rw [hv, HS.out]
    have _u := hC
    clear _u
    revert hle
    generalize Lib.bitLen (x / 65536) = q
    clear h1 h2 h3 hq hv HS HV hA hB hC hx
    intro hle
    simp only [wrap64]
    omega
  · exfalso
    rename_i hh
    have := Lib.len8tab_size
    omega

set_option maxRecDepth 100000 in
set_option maxHeartbeats 1000000 in
theorem len64_011 (x : Nat) (w : World) (hx : x < 18446744073709551616) (hA : x < 4294967296) (hB : 65536 ≤ x) (hC : 256 ≤ x / 65536) :
    Calls Tryz.prog 78 #[.int .u64 (x : Int)] w fun e w' => e = .returned (.int .i64 (Lib.bitLen x)) ∧ w' = w := by
  have h1 : decide (4294967296 ≤ (x : Int)) = false := by simp; omega
  have h2 : decide (65536 ≤ (x : Int)) = true := by simp; omega
  have h3 : decide (256 ≤ (x : Int) / 65536) = true := by simp; omega
  have hq : x / 65536 / 256 < 256 := by omega
  have hv := tab_len ⟨x / 65536 / 256, hq⟩
  have hle := Lib.bitLen_le8 ⟨x / 65536 / 256, hq⟩
  have HS := Lib.hid (show Lib.bitLen x = 24 + Lib.bitLen (x / 65536 / 256) from by rw [Lib.bitLen_shift16 (x) hB (by omega), Lib.bitLen_shift8 (x / 65536) hC (by omega)]; omega)
  dsimp only at hv hle
  have HV := Lib.hid (And.intro hv hle)
  clear hv hle
  go_enter Tryz.func78, Tryz.ntmps78
  go_wp2
  · go_ret
    refine ⟨congrArg Ending.returned (congrArg (Value.int IntKind.i64) ?_), rfl⟩
    have hv := HV.out.1
    have hle := HV.out.2
    rw [hv, HS.out]
    have _u := hC
    clear _u
    revert hle
    generalize Lib.bitLen (x / 65536 / 256) = q
    clear h1 h2 h3 hq hv HS HV hA hB hC hx
    intro hle
    simp only [wrap64]
    omega
  · exfalso
    rename_i hh
    have := Lib.len8tab_size
    omega

set_option maxRecDepth 100000 in
set_option maxHeartbeats 1000000 in
theorem len64_100 (x : Nat) (w : World) (hx : x < 18446744073709551616) (hA : 4294967296 ≤ x) (hB : x / 4294967296 < 65536) (hC : x / 4294967296 < 256) :
    Calls Tryz.prog 78 #[.int .u64 (x : Int)] w fun e w' => e = .returned (.int .i64 (Lib.bitLen x)) ∧ w' = w := by
  have h1 : decide (4294967296 ≤ (x : Int)) = true := by simp; omega
  have h2 : decide (65536 ≤ (x : Int) / 4294967296) = false := by simp; omega
  have h3 : decide (256 ≤ (x : Int) / 4294967296) = false := by simp; omega
  have hq : x / 4294967296 < 256 := by omega
  have hv := tab_len ⟨x / 4294967296, hq⟩
  have hle := Lib.bitLen_le8 ⟨x / 4294967296, hq⟩
  have HS := Lib.hid (show Lib.bitLen x = 32 + Lib.bitLen (x / 4294967296) from by rw [Lib.bitLen_shift32 x hA hx])
  dsimp only at hv hle
  have HV := Lib.hid (And.intro hv hle)
  clear hv hle
  go_enter Tryz.func78, Tryz.ntmps78
  go_wp2
  · go_ret
    refine ⟨congrArg Ending.returned (congrArg (Value.int IntKind.i64) ?_), rfl⟩
    have hv := HV.out.1
    have hle := HV.out.2
    rw [hv, HS.out]
    have _u := hB
    clear _u
    revert hle
    generalize Lib.bitLen (x / 4294967296) = q
    clear h1 h2 h3 hq hv HS HV hA hB hC hx
    intro hle
    simp only [wrap64]
    omega
  · exfalso
    rename_i hh
    have := Lib.len8tab_size
    omega

set_option maxRecDepth 100000 in
set_option maxHeartbeats 1000000 in
theorem len64_101 (x : Nat) (w : World) (hx : x < 18446744073709551616) (hA : 4294967296 ≤ x) (hB : x / 4294967296 < 65536) (hC : 256 ≤ x / 4294967296) :
    Calls Tryz.prog 78 #[.int .u64 (x : Int)] w fun e w' => e = .returned (.int .i64 (Lib.bitLen x)) ∧ w' = w := by
  have h1 : decide (4294967296 ≤ (x : Int)) = true := by simp; omega
  have h2 : decide (65536 ≤ (x : Int) / 4294967296) = false := by simp; omega
  have h3 : decide (256 ≤ (x : Int) / 4294967296) = true := by simp; omega
  have hq : x / 4294967296 / 256 < 256 := by omega
  have hv := tab_len ⟨x / 4294967296 / 256, hq⟩
  have hle := Lib.bitLen_le8 ⟨x / 4294967296 / 256, hq⟩
  have HS := Lib.hid (show Lib.bitLen x = 40 + Lib.bitLen (x / 4294967296 / 256) from by rw [Lib.bitLen_shift32 x hA hx, Lib.bitLen_shift8 (x / 4294967296) hC (by omega)]; omega)
  dsimp only at hv hle
  have HV := Lib.hid (And.intro hv hle)
  clear hv hle
  go_enter Tryz.func78, Tryz.ntmps78
  go_wp2
  · go_ret
    refine ⟨congrArg Ending.returned (congrArg (Value.int IntKind.i64) ?_), rfl⟩
    have hv := HV.out.1
    have hle := HV.out.2
    rw [hv, HS.out]
    have _u := hC
    clear _u
    revert hle
    generalize Lib.bitLen (x / 4294967296 / 256) = q
    clear h1 h2 h3 hq hv HS HV hA hB hC hx
    intro hle
    simp only [wrap64]
    omega
  · exfalso
    rename_i hh
    have := Lib.len8tab_size
    omega

set_option maxRecDepth 100000 in
set_option maxHeartbeats 1000000 in
theorem len64_110 (x : Nat) (w : World) (hx : x < 18446744073709551616) (hA : 4294967296 ≤ x) (hB : 65536 ≤ x / 4294967296) (hC : x / 4294967296 / 65536 < 256) :
    Calls Tryz.prog 78 #[.int .u64 (x : Int)] w fun e w' => e = .returned (.int .i64 (Lib.bitLen x)) ∧ w' = w := by
  have h1 : decide (4294967296 ≤ (x : Int)) = true := by simp; omega
  have h2 : decide (65536 ≤ (x : Int) / 4294967296) = true := by simp; omega
  have h3 : decide (256 ≤ (x : Int) / 4294967296 / 65536) = false := by simp; omega
  have hq : x / 4294967296 / 65536 < 256 := by omega
  have hv := tab_len ⟨x / 4294967296 / 65536, hq⟩
  have hle := Lib.bitLen_le8 ⟨x / 4294967296 / 65536, hq⟩
  have HS := Lib.hid (show Lib.bitLen x = 48 + Lib.bitLen (x / 4294967296 / 65536) from by rw [Lib.bitLen_shift32 x hA hx, Lib.bitLen_shift16 (x / 4294967296) hB (by omega)]; omega)
  dsimp only at hv hle
  have HV := Lib.hid (And.intro hv hle)
  clear hv hle
  go_enter Tryz.func78, Tryz.ntmps78
  go_wp2
  · go_ret
    refine ⟨congrArg Ending.returned (congrArg (Value.int IntKind.i64) ?_), rfl⟩
    have hv := HV.out.1
    have hle := HV.out.2
    rw [hv, HS.out]
    have _u := hC
    clear _u
    revert hle
    generalize Lib.bitLen (x / 4294967296 / 65536) = q
    clear h1 h2 h3 hq hv HS HV hA hB hC hx
    intro hle
    simp only [wrap64]
    omega
  · exfalso
    rename_i hh
    have := Lib.len8tab_size
    omega

set_option maxRecDepth 100000 in
set_option maxHeartbeats 1000000 in
theorem len64_111 (x : Nat) (w : World) (hx : x < 18446744073709551616) (hA : 4294967296 ≤ x) (hB : 65536 ≤ x / 4294967296) (hC : 256 ≤ x / 4294967296 / 65536) :
    Calls Tryz.prog 78 #[.int .u64 (x : Int)] w fun e w' => e = .returned (.int .i64 (Lib.bitLen x)) ∧ w' = w := by
  have h1 : decide (4294967296 ≤ (x : Int)) = true := by simp; omega
  have h2 : decide (65536 ≤ (x : Int) / 4294967296) = true := by simp; omega
  have h3 : decide (256 ≤ (x : Int) / 4294967296 / 65536) = true := by simp; omega
  have hq : x / 4294967296 / 65536 / 256 < 256 := by omega
  have hv := tab_len ⟨x / 4294967296 / 65536 / 256, hq⟩
  have hle := Lib.bitLen_le8 ⟨x / 4294967296 / 65536 / 256, hq⟩
  have HS := Lib.hid (show Lib.bitLen x = 56 + Lib.bitLen (x / 4294967296 / 65536 / 256) from by rw [Lib.bitLen_shift32 x hA hx, Lib.bitLen_shift16 (x / 4294967296) hB (by omega), Lib.bitLen_shift8 (x / 4294967296 / 65536) hC (by omega)]; omega)
  dsimp only at hv hle
  have HV := Lib.hid (And.intro hv hle)
  clear hv hle
  go_enter Tryz.func78, Tryz.ntmps78
  go_wp2
  · go_ret
    refine ⟨congrArg Ending.returned (congrArg (Value.int IntKind.i64) ?_), rfl⟩
    have hv := HV.out.1
    have hle := HV.out.2
    rw [hv, HS.out]
    have _u := hC
    clear _u
    revert hle
    generalize Lib.bitLen (x / 4294967296 / 65536 / 256) = q
    clear h1 h2 h3 hq hv HS HV hA hB hC hx
    intro hle
    simp only [wrap64]
    omega
  · exfalso
    rename_i hh
    have := Lib.len8tab_size
    omega

theorem len64_all (x : Nat) (w : World) (hx : x < 18446744073709551616) :
    Calls Tryz.prog 78 #[.int .u64 (x : Int)] w fun e w' => e = .returned (.int .i64 (Lib.bitLen x)) ∧ w' = w := by
  by_cases h0 : x < 65536
  · exact len64_any x w h0
  · by_cases hA : x < 4294967296
    · by_cases hC : x / 65536 < 256
      · exact len64_010 x w hx hA (by omega) hC
      · exact len64_011 x w hx hA (by omega) (by omega)
    · by_cases hB : x / 4294967296 < 65536
      · by_cases hC : x / 4294967296 < 256
        · exact len64_100 x w hx (by omega) hB hC
        · exact len64_101 x w hx (by omega) hB (by omega)
      · by_cases hC : x / 4294967296 / 65536 < 256
        · exact len64_110 x w hx (by omega) (by omega) hC
        · exact len64_111 x w hx (by omega) (by omega) (by omega)

theorem wrapU_pow {b : Nat} (h : 2 ^ b < 18446744073709551616) : IntKind.u64.wrap ((2 : Int) ^ b) = ((2 ^ b : Nat) : Int) := by
  have e : (2 : Int) ^ b = ((2 ^ b : Nat) : Int) := by simp
  rw [e]
  generalize 2 ^ b = q at h
  rw [IntKind.wrap_u64]
  omega

end Go.Proofs.YtilgikhdamkeoaaGreatDoor

/-
  links.left: how many leaves a left side has.
-/
namespace Go.Proofs.YtilgikhdamkeoaaGreatDoor
open Go.RowKit

set_option maxRecDepth 100000 in
set_option maxHeartbeats 1000000 in
theorem kleft_any (m : Nat) (w : World) (h2 : 2 ≤ m) (hm : m < 18446744073709551616) :
    Calls Tryz.prog 47 #[.int .u64 (m : Int)] w fun e w' => e = .returned (.int .u64 (cutN m : Int)) ∧ w' = w := by
  have C := Lib.hid (len64_all (m - 1) w (by omega))
  obtain ⟨b, hb0⟩ : ∃ b, Nat.log2 (m - 1) = b := ⟨_, rfl⟩
  have hb : Lib.bitLen (m - 1) = b + 1 := by rw [bitLen_log (by omega) (by omega), hb0]
  have hb64 : b < 64 := by rw [← hb0]; exact (Nat.log2_lt (by omega)).2 (by omega)
  rw [hb] at C
  have hcut : cutN m = 2 ^ b := by rw [cutN, hb0]
  have hm1 : (m : Int) - 1 = ((m - 1 : Nat) : Int) := by omega
  have hlt : 2 ^ b < 18446744073709551616 := Nat.lt_of_lt_of_le (Nat.pow_lt_pow_right (by omega) hb64) (Nat.le_refl (2 ^ 64))
  have HC := Lib.hid (And.intro hcut hlt)
  have HL := Lib.hid hb64
  clear hcut hb hb0 hlt
  go_enter Tryz.func47, Tryz.ntmps47
  go_wp2_with fail
  refine C.out.mono ?_
  rintro e w1 ⟨rfl, rfl⟩
  have hb64' : b < 64 := HL.out
  go_wp2_with fail
  go_ret
  exact ⟨by rw [HC.out.1, wrapU_pow HC.out.2]; rfl, rfl⟩

end Go.Proofs.YtilgikhdamkeoaaGreatDoor

/-
  links.ends' closure that calls itself: what the sums of a link lead to, and whether one is missing.
-/
namespace Go.Proofs.YtilgikhdamkeoaaGreatDoor
open Go.RowKit

/-- The world in which lead begins. -/
structure KLeadIn (w w1 : World) : Prop where
  res : BArr w1 w.heap.size 49 zero64
  below : Below w.heap.size w w1
  size : w1.heap.size = w.heap.size + 1
theorem kleadIn_of (w : World) : KLeadIn w (w.alloc (.cells (bvs zero64).toArray 49)) := ⟨BArr.new _ _ _, below_alloc w _, by simp⟩

/-- What lead answers: two sums and an error; and how many are taken then. -/
def Led (B w : World) (ab lb nb gb n : Nat) (ys a P Q : List Nat) (ev : Value) (j : Nat) (e : Ending) (w' : World) : Prop :=
  e = .returned (.tuple #[sv (P ++ Q), ev]) ∧ (∃ A' c', KIn B w' ab lb nb gb n j A' c' ys a) ∧ But (· = lb) w w'

section
variable {B w : World} {ab lb nb gb n j c : Nat} {A : Option Addr} {ys a : List Nat} {E : Addr} {from_ size : Nat} {edge : Bool}

set_option maxRecDepth 100000 in
set_option maxHeartbeats 4000000 in
theorem klead_edge (h : KIn B w ab lb nb gb n j A c ys a) (hl : a.length = 32) (hfs : from_ = size) :
    Calls Tryz.prog 51 #[.int .u64 (from_ : Int), .int .u64 (size : Int), .bool true, .pointer (some ⟨ab, 0, none⟩), .pointer (some ⟨nb, 0, none⟩), .pointer (some ⟨gb, 0, none⟩)] w (Led B w ab lb nb gb n ys a a a .nilIface j) := by
  subst hfs
  have e0 : (bvs zero64).toArray = #[.int .u8 0, .int .u8 0, .int .u8 0, .int .u8 0, .int .u8 0, .int .u8 0, .int .u8 0, .int .u8 0, .int .u8 0, .int .u8 0, .int .u8 0, .int .u8 0, .int .u8 0, .int .u8 0, .int .u8 0, .int .u8 0, .int .u8 0, .int .u8 0, .int .u8 0, .int .u8 0, .int .u8 0, .int .u8 0, .int .u8 0, .int .u8 0, .int .u8 0, .int .u8 0, .int .u8 0, .int .u8 0, .int .u8 0, .int .u8 0, .int .u8 0, .int .u8 0, .int .u8 0, .int .u8 0, .int .u8 0, .int .u8 0, .int .u8 0, .int .u8 0, .int .u8 0, .int .u8 0, .int .u8 0, .int .u8 0, .int .u8 0, .int .u8 0, .int .u8 0, .int .u8 0, .int .u8 0, .int .u8 0, .int .u8 0, .int .u8 0, .int .u8 0, .int .u8 0, .int .u8 0, .int .u8 0, .int .u8 0, .int .u8 0, .int .u8 0, .int .u8 0, .int .u8 0, .int .u8 0, .int .u8 0, .int .u8 0, .int .u8 0, .int .u8 0] := rfl
  have h1 := kleadIn_of w
  rw [e0] at h1
  clear e0
  obtain ⟨w1, hw1⟩ : ∃ w1, w1 = w.alloc (.cells #[.int .u8 0, .int .u8 0, .int .u8 0, .int .u8 0, .int .u8 0, .int .u8 0, .int .u8 0, .int .u8 0, .int .u8 0, .int .u8 0, .int .u8 0, .int .u8 0, .int .u8 0, .int .u8 0, .int .u8 0, .int .u8 0, .int .u8 0, .int .u8 0, .int .u8 0, .int .u8 0, .int .u8 0, .int .u8 0, .int .u8 0, .int .u8 0, .int .u8 0, .int .u8 0, .int .u8 0, .int .u8 0, .int .u8 0, .int .u8 0, .int .u8 0, .int .u8 0, .int .u8 0, .int .u8 0, .int .u8 0, .int .u8 0, .int .u8 0, .int .u8 0, .int .u8 0, .int .u8 0, .int .u8 0, .int .u8 0, .int .u8 0, .int .u8 0, .int .u8 0, .int .u8 0, .int .u8 0, .int .u8 0, .int .u8 0, .int .u8 0, .int .u8 0, .int .u8 0, .int .u8 0, .int .u8 0, .int .u8 0, .int .u8 0, .int .u8 0, .int .u8 0, .int .u8 0, .int .u8 0, .int .u8 0, .int .u8 0, .int .u8 0, .int .u8 0] 49) := ⟨_, rfl⟩
  rw [← hw1] at h1
  have H1 := Lib.hid h1
  have HW := Lib.hid hw1
  have HP := Lib.hid h
  have HLT := Lib.hid (And.intro h.lt (And.intro h1.size h1.below.size))
  have HZ := Lib.hid (show zero64.length = 64 from rfl)
  have hA := Lib.hid (h.below_ h1.below).sum.at_
  have hf : ((from_ : Int) == (from_ : Int)) = true := by simp
  have R1 := h1.res
  clear h h1 hw1
  go_enter Tryz.func51, Tryz.ntmps51
  go_upto_region 1 with fail
  rw [← HW.out]
  have haa : (a ++ a).length = 64 := by rw [List.length_append]; omega
  go_upto_region 3 with fail
  refine wp_region_lit ?_
  refine wpList_load_sum rfl (.tmp 3) rfl ⟨ab, 0, none⟩ rfl a hl hA.out ?_
  refine wpList_load_sum rfl (.tmp 3) rfl ⟨ab, 0, none⟩ rfl a hl hA.out ?_
  refine wpList_build_pair rfl (.tmp 24) (.tmp 25) rfl a a rfl rfl hl hl ?_
  refine wpList_store_pair rfl (.tmp 9) (.tmp 26) rfl w.heap.size rfl zero64 (a ++ a) HZ.out haa R1 rfl ?_
  simp only [Act.put, List.setIfInBounds_toArray, List.set_cons_zero, List.set_cons_succ]
  go_wp2_with fail
  have r4 : BArr (w1.setRow w.heap.size (bvs (a ++ a)).toArray) w.heap.size 49 (a ++ a) := R1.setRow _
  refine bodyPost_ret_by (results_cell_tmp (p := 9) (q := 10) (ty := 49) (by kernel_rfl) _ _ ⟨w.heap.size, 0, none⟩ (sv (a ++ a)) rfl (run_load_pair _ _ _ haa r4.at_)) rfl ?_
  have hlt := HLT.out
  have hb0 := HP.out.below.size
  exact ⟨rfl, ⟨A, c, (HP.out.below_ H1.out.below).setRow (by omega) ⟨by omega, by omega, by omega, by omega⟩ _⟩, But.of_below (below_setRow H1.out.below (Nat.le_refl _) _)⟩

set_option maxRecDepth 100000 in
set_option maxHeartbeats 4000000 in
theorem klead_root {s : List Nat} {ev : Value} {j' : Nat} (h : KIn B w ab lb nb gb n j A c ys a) (hsl : s.length = 32) (hfs : from_ = size)
    (cn : ∀ w' : World, KIn B w' ab lb nb gb n j A c ys a → Calls Tryz.prog 50 #[.pointer (some ⟨lb, 0, none⟩)] w' fun e w'' => e = .returned (.tuple #[sv s, ev]) ∧ (∃ A' c', KIn B w'' ab lb nb gb n j' A' c' ys a) ∧ But (· = lb) w' w'') :
    Calls Tryz.prog 51 #[.int .u64 (from_ : Int), .int .u64 (size : Int), .bool false, .pointer (some ⟨ab, 0, none⟩), .pointer (some ⟨nb, 0, none⟩), .pointer (some ⟨gb, 0, none⟩)] w (Led B w ab lb nb gb n ys a s s ev j') := by
  subst hfs
  have e0 : (bvs zero64).toArray = #[.int .u8 0, .int .u8 0, .int .u8 0, .int .u8 0, .int .u8 0, .int .u8 0, .int .u8 0, .int .u8 0, .int .u8 0, .int .u8 0, .int .u8 0, .int .u8 0, .int .u8 0, .int .u8 0, .int .u8 0, .int .u8 0, .int .u8 0, .int .u8 0, .int .u8 0, .int .u8 0, .int .u8 0, .int .u8 0, .int .u8 0, .int .u8 0, .int .u8 0, .int .u8 0, .int .u8 0, .int .u8 0, .int .u8 0, .int .u8 0, .int .u8 0, .int .u8 0, .int .u8 0, .int .u8 0, .int .u8 0, .int .u8 0, .int .u8 0, .int .u8 0, .int .u8 0, .int .u8 0, .int .u8 0, .int .u8 0, .int .u8 0, .int .u8 0, .int .u8 0, .int .u8 0, .int .u8 0, .int .u8 0, .int .u8 0, .int .u8 0, .int .u8 0, .int .u8 0, .int .u8 0, .int .u8 0, .int .u8 0, .int .u8 0, .int .u8 0, .int .u8 0, .int .u8 0, .int .u8 0, .int .u8 0, .int .u8 0, .int .u8 0, .int .u8 0] := rfl
  have h1 := kleadIn_of w
  rw [e0] at h1
  clear e0
  obtain ⟨w1, hw1⟩ : ∃ w1, w1 = w.alloc (.cells #[.int .u8 0, .int .u8 0, .int .u8 0, .int .u8 0, .int .u8 0, .int .u8 0, .int .u8 0, .int .u8 0, .int .u8 0, .int .u8 0, .int .u8 0, .int .u8 0, .int .u8 0, .int .u8 0, .int .u8 0, .int .u8 0, .int .u8 0, .int .u8 0, .int .u8 0, .int .u8 0, .int .u8 0, .int .u8 0, .int .u8 0, .int .u8 0, .int .u8 0, .int .u8 0, .int .u8 0, .int .u8 0, .int .u8 0, .int .u8 0, .int .u8 0, .int .u8 0, .int .u8 0, .int .u8 0, .int .u8 0, .int .u8 0, .int .u8 0, .int .u8 0, .int .u8 0, .int .u8 0, .int .u8 0, .int .u8 0, .int .u8 0, .int .u8 0, .int .u8 0, .int .u8 0, .int .u8 0, .int .u8 0, .int .u8 0, .int .u8 0, .int .u8 0, .int .u8 0, .int .u8 0, .int .u8 0, .int .u8 0, .int .u8 0, .int .u8 0, .int .u8 0, .int .u8 0, .int .u8 0, .int .u8 0, .int .u8 0, .int .u8 0, .int .u8 0] 49) := ⟨_, rfl⟩
  rw [← hw1] at h1
  have H1 := Lib.hid h1
  have HW := Lib.hid hw1
  have HP := Lib.hid h
  have HLT := Lib.hid (And.intro h.lt (And.intro h1.size h1.below.size))
  have HZ := Lib.hid (show zero64.length = 64 from rfl)
  have n1 := (h.below_ h1.below).nxt.cell
  have HC := Lib.hid (cn w1 (h.below_ h1.below))
  have hf : ((from_ : Int) == (from_ : Int)) = true := by simp
  clear h h1 hw1 cn
  unfold takesK at n1
  go_enter Tryz.func51, Tryz.ntmps51
  go_upto_region 1 with fail
  rw [← HW.out]
  go_wp2_with fail
  refine HC.out.mono ?_
  rintro e w2 ⟨rfl, hk2, hb2⟩
  have HK2 := Lib.hid (And.intro hk2 hb2)
  clear hk2 hb2
  go_upto_region 5 with (with_reducible refine wpList_store_new w2 _ rfl rfl (.tmp 11) (.tmp 30) rfl rfl s hsl rfl ?_)
  have b3 := below_alloc w2 (.cells (bvs s).toArray 25)
  have g3 := BArr.new w2 25 s
  have r2 : BArr w2 w.heap.size 49 zero64 := (HK2.out.2.block _ H1.out.res.lt (by have := HLT.out; omega)).trans H1.out.res
  obtain ⟨w3, hw3⟩ : ∃ w3, w3 = w2.alloc (.cells (bvs s).toArray 25) := ⟨_, rfl⟩
  rw [← hw3] at b3 g3 ⊢
  have R3 := r2.below b3
  have G3 := Lib.hid g3.at_
  have B3 := Lib.hid b3
  have hss : (s ++ s).length = 64 := by rw [List.length_append]; omega
  clear b3 g3 r2 hw3
  refine wp_region_lit ?_
  refine wpList_load_sum rfl (.tmp 11) rfl ⟨w2.heap.size, 0, none⟩ rfl s hsl G3.out ?_
  refine wpList_load_sum rfl (.tmp 11) rfl ⟨w2.heap.size, 0, none⟩ rfl s hsl G3.out ?_
  refine wpList_build_pair rfl (.tmp 32) (.tmp 33) rfl s s rfl rfl hsl hsl ?_
  refine wpList_plain rfl fun K hK => ?_
  go_simp
  refine hK _ _ ?_
  clear hK K
  refine wpList_store_pair rfl (.tmp 9) (.tmp 34) rfl w.heap.size rfl zero64 (s ++ s) HZ.out hss R3 rfl ?_
  simp only [Act.put]
  go_wp2_with fail
  have r4 : BArr (w3.setRow w.heap.size (bvs (s ++ s)).toArray) w.heap.size 49 (s ++ s) := R3.setRow _
  refine bodyPost_ret_by (results_cell_tmp (p := 9) (q := 10) (ty := 49) (by kernel_rfl) _ _ ⟨w.heap.size, 0, none⟩ (sv (s ++ s)) rfl (run_load_pair _ _ _ hss r4.at_)) rfl ?_
  have hlt := HLT.out
  have hb0 := HP.out.below.size
  obtain ⟨A', c', hk2⟩ := HK2.out.1
  have bu : But (· = lb) w w3 := ((But.of_below H1.out.below).trans HK2.out.2).trans (But.of_below B3.out)
  exact ⟨rfl, ⟨A', c', (hk2.below_ B3.out).setRow (by omega) ⟨by omega, by omega, by omega, by omega⟩ _⟩, ⟨bu.os, bu.tape, bu.output, by rw [setRow_size]; exact bu.size, fun b hb hne => (Go.setRow_other _ _ _ _ (by omega)).trans (bu.block b hb hne)⟩⟩

set_option maxRecDepth 100000 in
set_option maxHeartbeats 4000000 in
theorem klead_low_fall {P Q : List Nat} {j' : Nat} (h : KIn B w ab lb nb gb n j A c ys a) (hPl : P.length = 32) (hQl : Q.length = 32) (h2 : 2 ≤ size) (hz : size < 18446744073709551616) (hfs : from_ < size) (ha : from_ ≤ cutN size)
    (ih : ∀ w' : World, KIn B w' ab lb nb gb n j A c ys a → Calls Tryz.prog 51 #[.int .u64 (from_ : Nat), .int .u64 ((cutN size) : Nat), .bool edge, .pointer (some ⟨ab, 0, none⟩), .pointer (some ⟨nb, 0, none⟩), .pointer (some ⟨gb, 0, none⟩)] w' (Led B w' ab lb nb gb n ys a P Q (missV E) j'))
 :
    Calls Tryz.prog 51 #[.int .u64 (from_ : Int), .int .u64 (size : Int), .bool edge, .pointer (some ⟨ab, 0, none⟩), .pointer (some ⟨nb, 0, none⟩), .pointer (some ⟨gb, 0, none⟩)] w (Led B w ab lb nb gb n ys a P Q (missV E) j') := by
  have e0 : (bvs zero64).toArray = #[.int .u8 0, .int .u8 0, .int .u8 0, .int .u8 0, .int .u8 0, .int .u8 0, .int .u8 0, .int .u8 0, .int .u8 0, .int .u8 0, .int .u8 0, .int .u8 0, .int .u8 0, .int .u8 0, .int .u8 0, .int .u8 0, .int .u8 0, .int .u8 0, .int .u8 0, .int .u8 0, .int .u8 0, .int .u8 0, .int .u8 0, .int .u8 0, .int .u8 0, .int .u8 0, .int .u8 0, .int .u8 0, .int .u8 0, .int .u8 0, .int .u8 0, .int .u8 0, .int .u8 0, .int .u8 0, .int .u8 0, .int .u8 0, .int .u8 0, .int .u8 0, .int .u8 0, .int .u8 0, .int .u8 0, .int .u8 0, .int .u8 0, .int .u8 0, .int .u8 0, .int .u8 0, .int .u8 0, .int .u8 0, .int .u8 0, .int .u8 0, .int .u8 0, .int .u8 0, .int .u8 0, .int .u8 0, .int .u8 0, .int .u8 0, .int .u8 0, .int .u8 0, .int .u8 0, .int .u8 0, .int .u8 0, .int .u8 0, .int .u8 0, .int .u8 0] := rfl
  have h1 := kleadIn_of w
  rw [e0] at h1
  clear e0
  obtain ⟨w1, hw1⟩ : ∃ w1, w1 = w.alloc (.cells #[.int .u8 0, .int .u8 0, .int .u8 0, .int .u8 0, .int .u8 0, .int .u8 0, .int .u8 0, .int .u8 0, .int .u8 0, .int .u8 0, .int .u8 0, .int .u8 0, .int .u8 0, .int .u8 0, .int .u8 0, .int .u8 0, .int .u8 0, .int .u8 0, .int .u8 0, .int .u8 0, .int .u8 0, .int .u8 0, .int .u8 0, .int .u8 0, .int .u8 0, .int .u8 0, .int .u8 0, .int .u8 0, .int .u8 0, .int .u8 0, .int .u8 0, .int .u8 0, .int .u8 0, .int .u8 0, .int .u8 0, .int .u8 0, .int .u8 0, .int .u8 0, .int .u8 0, .int .u8 0, .int .u8 0, .int .u8 0, .int .u8 0, .int .u8 0, .int .u8 0, .int .u8 0, .int .u8 0, .int .u8 0, .int .u8 0, .int .u8 0, .int .u8 0, .int .u8 0, .int .u8 0, .int .u8 0, .int .u8 0, .int .u8 0, .int .u8 0, .int .u8 0, .int .u8 0, .int .u8 0, .int .u8 0, .int .u8 0, .int .u8 0, .int .u8 0] 49) := ⟨_, rfl⟩
  rw [← hw1] at h1
  have H1 := Lib.hid h1
  have HW := Lib.hid hw1
  have HP := Lib.hid h
  have HLT := Lib.hid (And.intro h.lt (And.intro h1.size h1.below.size))
  have HZ := Lib.hid (show zero64.length = 64 from rfl)
  have hcl := cutN_lt h2
  have hcp := cutN_pos size
  obtain ⟨k, hk0⟩ : ∃ k, cutN size = k := ⟨_, rfl⟩
  rw [hk0] at hcl hcp ha ih
  have ns : ((from_ : Int) == (size : Int)) = false := by simp; omega
  have hle : (from_ : Int) ≤ (k : Int) := by omega
  have CM := Lib.hid (kleft_any size w1 h2 hz)
  rw [hk0] at CM
  have K1 := h.below_ h1.below
  have l1 := K1.led.cell
  unfold leadsK at l1
  have IH := Lib.hid (ih w1 K1)
  have hPQ : (P ++ Q).length = 64 := by rw [List.length_append]; omega
  clear h h1 hw1 ih K1 hk0 hcl hcp h2 hz hfs ha hPl hQl
  go_enter Tryz.func51, Tryz.ntmps51
  go_upto_region 1 with fail
  rw [← HW.out]
  go_wp2_with fail
  refine CM.out.mono ?_
  rintro e w2 ⟨rfl, rfl⟩
  go_wp2_with fail
  refine IH.out.mono ?_
  rintro e w3 ⟨rfl, ⟨A3, c3, hk3⟩, hb3⟩
  have HK3 := Lib.hid (And.intro hk3 hb3)
  have r3 : BArr w3 w.heap.size 49 zero64 := (hb3.block _ H1.out.res.lt (by have := HLT.out; omega)).trans H1.out.res
  have HR3 := Lib.hid r3
  clear hk3 hb3 r3
  go_upto_region 9 with (with_reducible refine wpList_store_newP w3 _ rfl rfl (.tmp 14) (.tmp 47) rfl rfl (P ++ Q) hPQ rfl ?_)
  have b4 := below_alloc w3 (.cells (bvs (P ++ Q)).toArray 49)
  have g4 := BArr.new w3 49 (P ++ Q)
  obtain ⟨w4, hw4⟩ : ∃ w4, w4 = w3.alloc (.cells (bvs (P ++ Q)).toArray 49) := ⟨_, rfl⟩
  rw [← hw4] at b4 g4 ⊢
  have HK4 := Lib.hid (HK3.out.1.below_ b4)
  have HR4 := Lib.hid (HR3.out.below b4)
  have BU4 := Lib.hid (((But.of_below H1.out.below).trans HK3.out.2).trans (But.of_below b4))
  have G4 := Lib.hid g4
  have S4 := Lib.hid (And.intro HK3.out.2.size (And.intro b4.size (show w3.heap.size < w4.heap.size from by rw [hw4]; simp)))
  clear hw4 b4 g4
  have mv : missV E = .iface 184 (.pointer (some E)) := rfl
  rw [mv]
  have hG := Lib.hid G4.out.at_
  have hR4 := HR4.out
  go_wp2_with (first | with_reducible refine wpList_load_pair rfl (.tmp 14) rfl ⟨w3.heap.size, 0, none⟩ rfl (P ++ Q) hPQ hG.out ?_ | with_reducible refine wpList_store_pair rfl (.tmp 9) (.tmp 51) rfl w.heap.size rfl zero64 (P ++ Q) HZ.out hPQ hR4 rfl ?_)
  have r5 : BArr (w4.setRow w.heap.size (bvs (P ++ Q)).toArray) w.heap.size 49 (P ++ Q) := hR4.setRow _
  refine bodyPost_ret_by (results_cell_tmp (p := 9) (q := 10) (ty := 49) (by kernel_rfl) _ _ ⟨w.heap.size, 0, none⟩ (sv (P ++ Q)) rfl (run_load_pair _ _ _ hPQ r5.at_)) rfl ?_
  have hlt := HLT.out
  have hb0 := HP.out.below.size
  have bu := BU4.out
  exact ⟨rfl, ⟨A3, c3, HK4.out.setRow (by omega) ⟨by omega, by omega, by omega, by omega⟩ _⟩, ⟨bu.os, bu.tape, bu.output, by rw [setRow_size]; exact bu.size, fun b hb hne => (Go.setRow_other _ _ _ _ (by omega)).trans (bu.block b hb hne)⟩⟩

set_option maxRecDepth 100000 in
set_option maxHeartbeats 4000000 in
theorem klead_high_fall {P Q : List Nat} {j' : Nat} (h : KIn B w ab lb nb gb n j A c ys a) (hPl : P.length = 32) (hQl : Q.length = 32) (h2 : 2 ≤ size) (hz : size < 18446744073709551616) (hfs : from_ < size) (ha : ¬ from_ ≤ cutN size)
    (ih : ∀ w' : World, KIn B w' ab lb nb gb n j A c ys a → Calls Tryz.prog 51 #[.int .u64 ((from_ - cutN size) : Nat), .int .u64 ((size - cutN size) : Nat), .bool false, .pointer (some ⟨ab, 0, none⟩), .pointer (some ⟨nb, 0, none⟩), .pointer (some ⟨gb, 0, none⟩)] w' (Led B w' ab lb nb gb n ys a P Q (missV E) j'))
 :
    Calls Tryz.prog 51 #[.int .u64 (from_ : Int), .int .u64 (size : Int), .bool edge, .pointer (some ⟨ab, 0, none⟩), .pointer (some ⟨nb, 0, none⟩), .pointer (some ⟨gb, 0, none⟩)] w (Led B w ab lb nb gb n ys a P Q (missV E) j') := by
  have e0 : (bvs zero64).toArray = #[.int .u8 0, .int .u8 0, .int .u8 0, .int .u8 0, .int .u8 0, .int .u8 0, .int .u8 0, .int .u8 0, .int .u8 0, .int .u8 0, .int .u8 0, .int .u8 0, .int .u8 0, .int .u8 0, .int .u8 0, .int .u8 0, .int .u8 0, .int .u8 0, .int .u8 0, .int .u8 0, .int .u8 0, .int .u8 0, .int .u8 0, .int .u8 0, .int .u8 0, .int .u8 0, .int .u8 0, .int .u8 0, .int .u8 0, .int .u8 0, .int .u8 0, .int .u8 0, .int .u8 0, .int .u8 0, .int .u8 0, .int .u8 0, .int .u8 0, .int .u8 0, .int .u8 0, .int .u8 0, .int .u8 0, .int .u8 0, .int .u8 0, .int .u8 0, .int .u8 0, .int .u8 0, .int .u8 0, .int .u8 0, .int .u8 0, .int .u8 0, .int .u8 0, .int .u8 0, .int .u8 0, .int .u8 0, .int .u8 0, .int .u8 0, .int .u8 0, .int .u8 0, .int .u8 0, .int .u8 0, .int .u8 0, .int .u8 0, .int .u8 0, .int .u8 0] := rfl
  have h1 := kleadIn_of w
  rw [e0] at h1
  clear e0
  obtain ⟨w1, hw1⟩ : ∃ w1, w1 = w.alloc (.cells #[.int .u8 0, .int .u8 0, .int .u8 0, .int .u8 0, .int .u8 0, .int .u8 0, .int .u8 0, .int .u8 0, .int .u8 0, .int .u8 0, .int .u8 0, .int .u8 0, .int .u8 0, .int .u8 0, .int .u8 0, .int .u8 0, .int .u8 0, .int .u8 0, .int .u8 0, .int .u8 0, .int .u8 0, .int .u8 0, .int .u8 0, .int .u8 0, .int .u8 0, .int .u8 0, .int .u8 0, .int .u8 0, .int .u8 0, .int .u8 0, .int .u8 0, .int .u8 0, .int .u8 0, .int .u8 0, .int .u8 0, .int .u8 0, .int .u8 0, .int .u8 0, .int .u8 0, .int .u8 0, .int .u8 0, .int .u8 0, .int .u8 0, .int .u8 0, .int .u8 0, .int .u8 0, .int .u8 0, .int .u8 0, .int .u8 0, .int .u8 0, .int .u8 0, .int .u8 0, .int .u8 0, .int .u8 0, .int .u8 0, .int .u8 0, .int .u8 0, .int .u8 0, .int .u8 0, .int .u8 0, .int .u8 0, .int .u8 0, .int .u8 0, .int .u8 0] 49) := ⟨_, rfl⟩
  rw [← hw1] at h1
  have H1 := Lib.hid h1
  have HW := Lib.hid hw1
  have HP := Lib.hid h
  have HLT := Lib.hid (And.intro h.lt (And.intro h1.size h1.below.size))
  have HZ := Lib.hid (show zero64.length = 64 from rfl)
  have hcl := cutN_lt h2
  have hcp := cutN_pos size
  obtain ⟨k, hk0⟩ : ∃ k, cutN size = k := ⟨_, rfl⟩
  rw [hk0] at hcl hcp ha ih
  have ns : ((from_ : Int) == (size : Int)) = false := by simp; omega
  have hle : ¬ (from_ : Int) ≤ (k : Int) := by omega
  obtain ⟨d, hd0⟩ : ∃ d, from_ - k = d := ⟨_, rfl⟩
  obtain ⟨m, hm0⟩ : ∃ m, size - k = m := ⟨_, rfl⟩
  rw [hd0, hm0] at ih
  have ea : IntKind.u64.wrap ((from_ : Int) - (k : Int)) = (d : Int) := by rw [IntKind.wrap_u64]; omega
  have em : IntKind.u64.wrap ((size : Int) - (k : Int)) = (m : Int) := by rw [IntKind.wrap_u64]; omega
  have CM := Lib.hid (kleft_any size w1 h2 hz)
  rw [hk0] at CM
  have K1 := h.below_ h1.below
  have l1 := K1.led.cell
  unfold leadsK at l1
  have IH := Lib.hid (ih w1 K1)
  have hPQ : (P ++ Q).length = 64 := by rw [List.length_append]; omega
  clear h h1 hw1 ih K1 hk0 hcl hcp h2 hz hfs ha hPl hQl hd0 hm0
  go_enter Tryz.func51, Tryz.ntmps51
  go_upto_region 1 with fail
  rw [← HW.out]
  go_wp2_with fail
  refine CM.out.mono ?_
  rintro e w2 ⟨rfl, rfl⟩
  go_wp2_with fail
  refine IH.out.mono ?_
  rintro e w3 ⟨rfl, ⟨A3, c3, hk3⟩, hb3⟩
  have HK3 := Lib.hid (And.intro hk3 hb3)
  have r3 : BArr w3 w.heap.size 49 zero64 := (hb3.block _ H1.out.res.lt (by have := HLT.out; omega)).trans H1.out.res
  have HR3 := Lib.hid r3
  clear hk3 hb3 r3
  go_upto_region 14 with (with_reducible refine wpList_store_newP w3 _ rfl rfl (.tmp 17) (.tmp 75) rfl rfl (P ++ Q) hPQ rfl ?_)
  have b4 := below_alloc w3 (.cells (bvs (P ++ Q)).toArray 49)
  have g4 := BArr.new w3 49 (P ++ Q)
  obtain ⟨w4, hw4⟩ : ∃ w4, w4 = w3.alloc (.cells (bvs (P ++ Q)).toArray 49) := ⟨_, rfl⟩
  rw [← hw4] at b4 g4 ⊢
  have HK4 := Lib.hid (HK3.out.1.below_ b4)
  have HR4 := Lib.hid (HR3.out.below b4)
  have BU4 := Lib.hid (((But.of_below H1.out.below).trans HK3.out.2).trans (But.of_below b4))
  have G4 := Lib.hid g4
  have S4 := Lib.hid (And.intro HK3.out.2.size (And.intro b4.size (show w3.heap.size < w4.heap.size from by rw [hw4]; simp)))
  clear hw4 b4 g4
  have mv : missV E = .iface 184 (.pointer (some E)) := rfl
  rw [mv]
  have hG := Lib.hid G4.out.at_
  have hR4 := HR4.out
  go_wp2_with (first | with_reducible refine wpList_load_pair rfl (.tmp 17) rfl ⟨w3.heap.size, 0, none⟩ rfl (P ++ Q) hPQ hG.out ?_ | with_reducible refine wpList_store_pair rfl (.tmp 9) (.tmp 79) rfl w.heap.size rfl zero64 (P ++ Q) HZ.out hPQ hR4 rfl ?_)
  have r5 : BArr (w4.setRow w.heap.size (bvs (P ++ Q)).toArray) w.heap.size 49 (P ++ Q) := hR4.setRow _
  refine bodyPost_ret_by (results_cell_tmp (p := 9) (q := 10) (ty := 49) (by kernel_rfl) _ _ ⟨w.heap.size, 0, none⟩ (sv (P ++ Q)) rfl (run_load_pair _ _ _ hPQ r5.at_)) rfl ?_
  have hlt := HLT.out
  have hb0 := HP.out.below.size
  have bu := BU4.out
  exact ⟨rfl, ⟨A3, c3, HK4.out.setRow (by omega) ⟨by omega, by omega, by omega, by omega⟩ _⟩, ⟨bu.os, bu.tape, bu.output, by rw [setRow_size]; exact bu.size, fun b hb hne => (Go.setRow_other _ _ _ _ (by omega)).trans (bu.block b hb hne)⟩⟩

set_option maxRecDepth 100000 in
set_option maxHeartbeats 4000000 in
theorem klead_low_go {P Q s : List Nat} {ev : Value} {j1 j' : Nat} (h : KIn B w ab lb nb gb n j A c ys a) (hPl : P.length = 32) (hQl : Q.length = 32) (h2 : 2 ≤ size) (hz : size < 18446744073709551616) (hfs : from_ < size) (ha : from_ ≤ cutN size)
    (ih : ∀ w' : World, KIn B w' ab lb nb gb n j A c ys a → Calls Tryz.prog 51 #[.int .u64 (from_ : Nat), .int .u64 ((cutN size) : Nat), .bool edge, .pointer (some ⟨ab, 0, none⟩), .pointer (some ⟨nb, 0, none⟩), .pointer (some ⟨gb, 0, none⟩)] w' (Led B w' ab lb nb gb n ys a P Q (.nilIface) j1))
    (cn : ∀ (w' : World) (A' : Option Addr) (c' : Nat), KIn B w' ab lb nb gb n j1 A' c' ys a → Calls Tryz.prog 50 #[.pointer (some ⟨lb, 0, none⟩)] w' fun e w'' => e = .returned (.tuple #[sv s, ev]) ∧ (∃ A' c', KIn B w'' ab lb nb gb n j' A' c' ys a) ∧ But (· = lb) w' w'')
    (hsl : s.length = 32) (hsb : ∀ x ∈ s, x < 256) (hQb : ∀ x ∈ Q, x < 256) (hk : Knows B) (hs : Starts B) :
    Calls Tryz.prog 51 #[.int .u64 (from_ : Int), .int .u64 (size : Int), .bool edge, .pointer (some ⟨ab, 0, none⟩), .pointer (some ⟨nb, 0, none⟩), .pointer (some ⟨gb, 0, none⟩)] w (Led B w ab lb nb gb n ys a P (nodeL Q s) (ev) j') := by
  have e0 : (bvs zero64).toArray = #[.int .u8 0, .int .u8 0, .int .u8 0, .int .u8 0, .int .u8 0, .int .u8 0, .int .u8 0, .int .u8 0, .int .u8 0, .int .u8 0, .int .u8 0, .int .u8 0, .int .u8 0, .int .u8 0, .int .u8 0, .int .u8 0, .int .u8 0, .int .u8 0, .int .u8 0, .int .u8 0, .int .u8 0, .int .u8 0, .int .u8 0, .int .u8 0, .int .u8 0, .int .u8 0, .int .u8 0, .int .u8 0, .int .u8 0, .int .u8 0, .int .u8 0, .int .u8 0, .int .u8 0, .int .u8 0, .int .u8 0, .int .u8 0, .int .u8 0, .int .u8 0, .int .u8 0, .int .u8 0, .int .u8 0, .int .u8 0, .int .u8 0, .int .u8 0, .int .u8 0, .int .u8 0, .int .u8 0, .int .u8 0, .int .u8 0, .int .u8 0, .int .u8 0, .int .u8 0, .int .u8 0, .int .u8 0, .int .u8 0, .int .u8 0, .int .u8 0, .int .u8 0, .int .u8 0, .int .u8 0, .int .u8 0, .int .u8 0, .int .u8 0, .int .u8 0] := rfl
  have h1 := kleadIn_of w
  rw [e0] at h1
  clear e0
  obtain ⟨w1, hw1⟩ : ∃ w1, w1 = w.alloc (.cells #[.int .u8 0, .int .u8 0, .int .u8 0, .int .u8 0, .int .u8 0, .int .u8 0, .int .u8 0, .int .u8 0, .int .u8 0, .int .u8 0, .int .u8 0, .int .u8 0, .int .u8 0, .int .u8 0, .int .u8 0, .int .u8 0, .int .u8 0, .int .u8 0, .int .u8 0, .int .u8 0, .int .u8 0, .int .u8 0, .int .u8 0, .int .u8 0, .int .u8 0, .int .u8 0, .int .u8 0, .int .u8 0, .int .u8 0, .int .u8 0, .int .u8 0, .int .u8 0, .int .u8 0, .int .u8 0, .int .u8 0, .int .u8 0, .int .u8 0, .int .u8 0, .int .u8 0, .int .u8 0, .int .u8 0, .int .u8 0, .int .u8 0, .int .u8 0, .int .u8 0, .int .u8 0, .int .u8 0, .int .u8 0, .int .u8 0, .int .u8 0, .int .u8 0, .int .u8 0, .int .u8 0, .int .u8 0, .int .u8 0, .int .u8 0, .int .u8 0, .int .u8 0, .int .u8 0, .int .u8 0, .int .u8 0, .int .u8 0, .int .u8 0, .int .u8 0] 49) := ⟨_, rfl⟩
  rw [← hw1] at h1
  have H1 := Lib.hid h1
  have HW := Lib.hid hw1
  have HP := Lib.hid h
  have HLT := Lib.hid (And.intro h.lt (And.intro h1.size h1.below.size))
  have HZ := Lib.hid (show zero64.length = 64 from rfl)
  have hcl := cutN_lt h2
  have hcp := cutN_pos size
  obtain ⟨k, hk0⟩ : ∃ k, cutN size = k := ⟨_, rfl⟩
  rw [hk0] at hcl hcp ha ih
  have ns : ((from_ : Int) == (size : Int)) = false := by simp; omega
  have hle : (from_ : Int) ≤ (k : Int) := by omega
  have CM := Lib.hid (kleft_any size w1 h2 hz)
  rw [hk0] at CM
  have K1 := h.below_ h1.below
  have l1 := K1.led.cell
  unfold leadsK at l1
  have IH := Lib.hid (ih w1 K1)
  have hPQ : (P ++ Q).length = 64 := by rw [List.length_append]; omega
  have HCN := Lib.hid cn
  have HB := Lib.hid (And.intro hsl (And.intro hsb (And.intro hQb (And.intro hk hs))))
  have HPL := Lib.hid (And.intro hPl hQl)
  clear h h1 hw1 ih K1 hk0 hcl hcp h2 hz hfs ha cn hsb hQb hk hs
  go_enter Tryz.func51, Tryz.ntmps51
  go_upto_region 1 with fail
  rw [← HW.out]
  go_wp2_with fail
  refine CM.out.mono ?_
  rintro e w2 ⟨rfl, rfl⟩
  go_wp2_with fail
  refine IH.out.mono ?_
  rintro e w3 ⟨rfl, ⟨A3, c3, hk3⟩, hb3⟩
  have HK3 := Lib.hid (And.intro hk3 hb3)
  have r3 : BArr w3 w.heap.size 49 zero64 := (hb3.block _ H1.out.res.lt (by have := HLT.out; omega)).trans H1.out.res
  have HR3 := Lib.hid r3
  clear hk3 hb3 r3
  go_upto_region 9 with (with_reducible refine wpList_store_newP w3 _ rfl rfl (.tmp 14) (.tmp 47) rfl rfl (P ++ Q) hPQ rfl ?_)
  have b4 := below_alloc w3 (.cells (bvs (P ++ Q)).toArray 49)
  have g4 := BArr.new w3 49 (P ++ Q)
  obtain ⟨w4, hw4⟩ : ∃ w4, w4 = w3.alloc (.cells (bvs (P ++ Q)).toArray 49) := ⟨_, rfl⟩
  rw [← hw4] at b4 g4 ⊢
  have HK4 := Lib.hid (HK3.out.1.below_ b4)
  have HR4 := Lib.hid (HR3.out.below b4)
  have BU4 := Lib.hid (((But.of_below H1.out.below).trans HK3.out.2).trans (But.of_below b4))
  have G4 := Lib.hid g4
  have S4 := Lib.hid (And.intro HK3.out.2.size (And.intro b4.size (show w3.heap.size < w4.heap.size from by rw [hw4]; simp)))
  clear hw4 b4 g4
  have n4 := HK4.out.nxt.cell
  unfold takesK at n4
  have CN := Lib.hid (HCN.out w4 A3 c3 HK4.out)
  go_wp2_with fail
  refine CN.out.mono ?_
  rintro e w5 ⟨rfl, ⟨A5, c5, hk5⟩, hb5⟩
  have s5 := S4.out
  have l5 := HLT.out
  have HK5 := Lib.hid hk5
  have HR5 := Lib.hid ((hb5.block _ HR4.out.lt (by omega)).trans HR4.out)
  have G5 := Lib.hid ((hb5.block _ G4.out.lt (by omega)).trans G4.out)
  have BU5 := Lib.hid (BU4.out.trans hb5)
  have S5 := Lib.hid hb5.size
  clear hk5 hb5 s5 l5
  go_upto_region 12 with (with_reducible refine wpList_store_new w5 _ rfl rfl (.tmp 16) (.tmp 56) rfl rfl s hsl rfl ?_)
  have b6 := below_alloc w5 (.cells (bvs s).toArray 25)
  have g6 := BArr.new w5 25 s
  obtain ⟨w6, hw6⟩ : ∃ w6, w6 = w5.alloc (.cells (bvs s).toArray 25) := ⟨_, rfl⟩
  rw [← hw6] at b6 g6 ⊢
  have HK6 := Lib.hid (HK5.out.below_ b6)
  have HR6 : BArr w6 w.heap.size 49 zero64 := BArr.below HR5.out b6
  have BU6 := Lib.hid (BU5.out.trans (But.of_below b6))
  have G6 : BArr w6 w3.heap.size 49 (P ++ Q) := BArr.below G5.out b6
  have S6 := Lib.hid (And.intro S4.out (And.intro S5.out (show w5.heap.size < w6.heap.size from by rw [hw6]; simp)))
  have KS := Lib.hid (fun (W : World) (hW : Below w6.heap.size w6 W) => And.intro (HB.out.2.2.2.1.below (below_on HK6.out.below (Nat.le_refl _) hW)) (HB.out.2.2.2.2.below (below_on HK6.out.below (Nat.le_refl _) hW)))
  clear hw6 b6
  obtain ⟨pb, hpb⟩ : ∃ pb, w3.heap.size = pb := ⟨_, rfl⟩
  obtain ⟨sb, hsb0⟩ : ∃ sb, w5.heap.size = sb := ⟨_, rfl⟩
  have HPB0 := Lib.hid (And.intro hpb hsb0)
  rw [hpb] at G6
  rw [hsb0] at g6
  rw [hpb, hsb0]
  clear hpb hsb0
  have hS0 : BArr w6.drew pb 49 (P ++ Q) ∧ BArr w6.drew sb 25 s := ⟨G6, g6⟩
  have hB0 : Below w6.heap.size w6 w6.drew := (Below.refl _ _).drew
  refine wp_region_held (S := fun W => BArr W pb 49 (P ++ Q) ∧ BArr W sb 25 s) (by kernel_rfl) ?_
  change wpAnyH _ _ _ _ _ _ _ _ w6.drew
  refine' wpAnyH_take (i := 0) (oi := _) (v := _) ?hi0 (by kernel_rfl) ?hf0 ?hr0 ?hQ0 ?hy0 hS0 ?rest0
  case hi0 => (simp only [List.getElem?_toArray, List.getElem?_cons_zero]; rfl)
  case hf0 => kernel_rfl
  case hr0 => kernel_rfl
  case hQ0 => exact fun _ _ _ h => h
  case hy0 => refine Or.inl ⟨by rfl, ?_⟩; intro W hSw; go_simp; try with_reducible rfl
  try simp only [Act.put, List.setIfInBounds_toArray, List.set_cons_zero, List.set_cons_succ]
  refine' wpAnyH_take (i := 1) (oi := _) (v := sv P) ?hi1 (by kernel_rfl) ?hf1 ?hr1 ?hQ1 ?hy1 hS0 ?rest1
  case hi1 => (simp only [List.getElem?_toArray, List.getElem?_cons_zero, List.getElem?_cons_succ]; rfl)
  case hf1 => kernel_rfl
  case hr1 => kernel_rfl
  case hQ1 => exact fun _ _ _ h => h
  case hy1 => exact yields_sum (by rfl) (.tmp 58) (by rfl) _ (by rfl) P hPl (fun W hSw => hSw.1.first)
  try simp only [Act.put, List.setIfInBounds_toArray, List.set_cons_zero, List.set_cons_succ]
  refine' wpAnyH_take (i := 2) (oi := _) (v := _) ?hi2 (by kernel_rfl) ?hf2 ?hr2 ?hQ2 ?hy2 hS0 ?rest2
  case hi2 => (simp only [List.getElem?_toArray, List.getElem?_cons_zero, List.getElem?_cons_succ]; rfl)
  case hf2 => kernel_rfl
  case hr2 => kernel_rfl
  case hQ2 => exact fun _ _ _ h => h
  case hy2 => refine Or.inl ⟨by rfl, ?_⟩; intro W hSw; go_simp; try with_reducible rfl
  try simp only [Act.put, List.setIfInBounds_toArray, List.set_cons_zero, List.set_cons_succ]
  refine' wpAnyH_take (i := 3) (oi := _) (v := sv Q) ?hi3 (by kernel_rfl) ?hf3 ?hr3 ?hQ3 ?hy3 hS0 ?rest3
  case hi3 => (simp only [List.getElem?_toArray, List.getElem?_cons_zero, List.getElem?_cons_succ]; rfl)
  case hf3 => kernel_rfl
  case hr3 => kernel_rfl
  case hQ3 => exact fun _ _ _ h => h
  case hy3 => exact yields_sum (by rfl) (.tmp 60) (by rfl) _ (by rfl) Q hQl (fun W hSw => (hSw.1.second hPl))
  try simp only [Act.put, List.setIfInBounds_toArray, List.set_cons_zero, List.set_cons_succ]
  refine' wpAnyH_take (i := 4) (oi := _) (v := sv s) ?hi4 (by kernel_rfl) ?hf4 ?hr4 ?hQ4 ?hy4 hS0 ?rest4
  case hi4 => (simp only [List.getElem?_toArray, List.getElem?_cons_zero, List.getElem?_cons_succ]; rfl)
  case hf4 => kernel_rfl
  case hr4 => kernel_rfl
  case hQ4 => exact fun _ _ _ h => h
  case hy4 => exact yields_sum (by rfl) (.tmp 16) (by rfl) _ (by rfl) s hsl (fun W hSw => hSw.2.at_)
  try simp only [Act.put, List.setIfInBounds_toArray, List.set_cons_zero, List.set_cons_succ]
  refine' wpAnyH_take (i := 7) (oi := _) (v := _) ?hi7 (by kernel_rfl) ?hf7 ?hr7 ?hQ7 ?hy7 hS0 ?rest7
  case hi7 => (simp only [List.getElem?_toArray, List.getElem?_cons_zero, List.getElem?_cons_succ]; rfl)
  case hf7 => kernel_rfl
  case hr7 => kernel_rfl
  case hQ7 => exact fun _ _ _ h => h
  case hy7 => refine Or.inl ⟨by rfl, ?_⟩; intro W hSw; go_simp; try with_reducible rfl
  try simp only [Act.put, List.setIfInBounds_toArray, List.set_cons_zero, List.set_cons_succ]
  refine wpAnyH_ready (rs := [5]) (by kernel_rfl) (by simp) ?_
  refine' AllReadyH.cons (o := _) ?hi5 (fun K hK => ?_) AllReadyH.nil
  case hi5 => (simp only [List.getElem?_toArray, List.getElem?_cons_zero, List.getElem?_cons_succ]; rfl)
  rw [if_pos (by rfl)]
  go_simp
  refine (node_any Q s w6.drew hQl hsl HB.out.2.2.1 HB.out.2.1 (KS.out _ hB0).1 (KS.out _ hB0).2).mono ?_
  rintro e W1 ⟨rfl, hb1⟩
  have hS1 := And.intro (hS0.1.below hb1) (hS0.2.below hb1)
  have hB1 := below_on hB0 (Nat.le_refl _) hb1
  refine hK.out _ _ hS1 (fun _ => ?_)
  clear hK K
  try simp only [Act.put, List.setIfInBounds_toArray, List.set_cons_zero, List.set_cons_succ]
  refine' wpAnyH_take (i := 6) (oi := _) (v := sv (P ++ nodeL Q s)) ?hi6 (by kernel_rfl) ?hf6 ?hr6 ?hQ6 ?hy6 hS1 ?rest6
  case hi6 => (simp only [List.getElem?_toArray, List.getElem?_cons_zero, List.getElem?_cons_succ]; rfl)
  case hf6 => kernel_rfl
  case hr6 => kernel_rfl
  case hQ6 => exact fun _ _ _ h => h
  case hy6 => exact yields_build_pair (by rfl) (.tmp 59) (.tmp 63) (by rfl) P (nodeL Q s) (by rfl) (by rfl) hPl (nodeL_length _ _)
  try simp only [Act.put, List.setIfInBounds_toArray, List.set_cons_zero, List.set_cons_succ]
  have hPR : (P ++ (nodeL Q s)).length = 64 := by rw [List.length_append]; have := nodeL_length; simp only [*]
  have RW : BArr W1 w.heap.size 49 zero64 := HR6.below hB1
  refine wpAnyH_ready (rs := [8]) (by kernel_rfl) (by simp) ?_
  refine' AllReadyH.cons (o := _) ?hi8 (fun K hK => ?_) AllReadyH.nil
  case hi8 => (simp only [List.getElem?_toArray, List.getElem?_cons_zero, List.getElem?_cons_succ]; rfl)
  rw [if_pos (by rfl)]
  refine step_store_pair (.tmp 9) (.tmp 64) rfl w.heap.size rfl zero64 (P ++ (nodeL Q s)) HZ.out hPR RW rfl ?_
  have s6 := S6.out
  have l6 := HLT.out
  have r7 : BArr (W1.setRow w.heap.size (bvs (P ++ (nodeL Q s))).toArray) w.heap.size 49 (P ++ (nodeL Q s)) := RW.setRow _
  have hS9 : BArr (W1.setRow w.heap.size (bvs (P ++ (nodeL Q s))).toArray) pb 49 (P ++ Q) ∧ BArr (W1.setRow w.heap.size (bvs (P ++ (nodeL Q s))).toArray) sb 25 s :=
    ⟨hS1.1.setRow_other _ (by have := HPB0.out; omega) _, hS1.2.setRow_other _ (by have := HPB0.out; omega) _⟩
  refine hK.out _ _ hS9 (fun _ => ?_)
  clear hK K
  refine' wpAnyH_take (i := 9) (oi := _) (v := _) ?hi9 (by kernel_rfl) ?hf9 ?hr9 ?hQ9 ?hy9 hS9 ?rest9
  case hi9 => (simp only [List.getElem?_toArray, List.getElem?_cons_zero, List.getElem?_cons_succ]; rfl)
  case hf9 => kernel_rfl
  case hr9 => kernel_rfl
  case hQ9 => exact fun _ _ _ h => h
  case hy9 => refine Or.inl ⟨by rfl, ?_⟩; intro W hSw; go_simp; try with_reducible rfl
  try simp only [Act.put, List.setIfInBounds_toArray, List.set_cons_zero, List.set_cons_succ]
  refine wpAnyH_done (by kernel_rfl) ?_ _
  go_wp2
  refine bodyPost_ret_by (results_cell_tmp (p := 9) (q := 10) (ty := 49) (by kernel_rfl) _ _ ⟨w.heap.size, 0, none⟩ (sv (P ++ (nodeL Q s))) rfl (run_load_pair _ _ _ hPR r7.at_)) rfl ?_
  have hb0 := HP.out.below.size
  have bu := BU6.out.trans (But.of_below hB1)
  exact ⟨rfl, ⟨A5, c5, (HK6.out.below_ hB1).setRow (by omega) ⟨by omega, by omega, by omega, by omega⟩ _⟩, ⟨bu.os, bu.tape, bu.output, by rw [setRow_size]; exact bu.size, fun b hb hne => (Go.setRow_other _ _ _ _ (by omega)).trans (bu.block b hb hne)⟩⟩

set_option maxRecDepth 100000 in
set_option maxHeartbeats 4000000 in
theorem klead_high_go {P Q s : List Nat} {ev : Value} {j1 j' : Nat} (h : KIn B w ab lb nb gb n j A c ys a) (hPl : P.length = 32) (hQl : Q.length = 32) (h2 : 2 ≤ size) (hz : size < 18446744073709551616) (hfs : from_ < size) (ha : ¬ from_ ≤ cutN size)
    (ih : ∀ w' : World, KIn B w' ab lb nb gb n j A c ys a → Calls Tryz.prog 51 #[.int .u64 ((from_ - cutN size) : Nat), .int .u64 ((size - cutN size) : Nat), .bool false, .pointer (some ⟨ab, 0, none⟩), .pointer (some ⟨nb, 0, none⟩), .pointer (some ⟨gb, 0, none⟩)] w' (Led B w' ab lb nb gb n ys a P Q (.nilIface) j1))
    (cn : ∀ (w' : World) (A' : Option Addr) (c' : Nat), KIn B w' ab lb nb gb n j1 A' c' ys a → Calls Tryz.prog 50 #[.pointer (some ⟨lb, 0, none⟩)] w' fun e w'' => e = .returned (.tuple #[sv s, ev]) ∧ (∃ A' c', KIn B w'' ab lb nb gb n j' A' c' ys a) ∧ But (· = lb) w' w'')
    (hsl : s.length = 32) (hsb : ∀ x ∈ s, x < 256) (hPb : ∀ x ∈ P, x < 256) (hQb : ∀ x ∈ Q, x < 256) (hk : Knows B) (hs : Starts B) :
    Calls Tryz.prog 51 #[.int .u64 (from_ : Int), .int .u64 (size : Int), .bool edge, .pointer (some ⟨ab, 0, none⟩), .pointer (some ⟨nb, 0, none⟩), .pointer (some ⟨gb, 0, none⟩)] w (Led B w ab lb nb gb n ys a (nodeL s P) (nodeL s Q) (ev) j') := by
  have e0 : (bvs zero64).toArray = #[.int .u8 0, .int .u8 0, .int .u8 0, .int .u8 0, .int .u8 0, .int .u8 0, .int .u8 0, .int .u8 0, .int .u8 0, .int .u8 0, .int .u8 0, .int .u8 0, .int .u8 0, .int .u8 0, .int .u8 0, .int .u8 0, .int .u8 0, .int .u8 0, .int .u8 0, .int .u8 0, .int .u8 0, .int .u8 0, .int .u8 0, .int .u8 0, .int .u8 0, .int .u8 0, .int .u8 0, .int .u8 0, .int .u8 0, .int .u8 0, .int .u8 0, .int .u8 0, .int .u8 0, .int .u8 0, .int .u8 0, .int .u8 0, .int .u8 0, .int .u8 0, .int .u8 0, .int .u8 0, .int .u8 0, .int .u8 0, .int .u8 0, .int .u8 0, .int .u8 0, .int .u8 0, .int .u8 0, .int .u8 0, .int .u8 0, .int .u8 0, .int .u8 0, .int .u8 0, .int .u8 0, .int .u8 0, .int .u8 0, .int .u8 0, .int .u8 0, .int .u8 0, .int .u8 0, .int .u8 0, .int .u8 0, .int .u8 0, .int .u8 0, .int .u8 0] := rfl
  have h1 := kleadIn_of w
  rw [e0] at h1
  clear e0
  obtain ⟨w1, hw1⟩ : ∃ w1, w1 = w.alloc (.cells #[.int .u8 0, .int .u8 0, .int .u8 0, .int .u8 0, .int .u8 0, .int .u8 0, .int .u8 0, .int .u8 0, .int .u8 0, .int .u8 0, .int .u8 0, .int .u8 0, .int .u8 0, .int .u8 0, .int .u8 0, .int .u8 0, .int .u8 0, .int .u8 0, .int .u8 0, .int .u8 0, .int .u8 0, .int .u8 0, .int .u8 0, .int .u8 0, .int .u8 0, .int .u8 0, .int .u8 0, .int .u8 0, .int .u8 0, .int .u8 0, .int .u8 0, .int .u8 0, .int .u8 0, .int .u8 0, .int .u8 0, .int .u8 0, .int .u8 0, .int .u8 0, .int .u8 0, .int .u8 0, .int .u8 0, .int .u8 0, .int .u8 0, .int .u8 0, .int .u8 0, .int .u8 0, .int .u8 0, .int .u8 0, .int .u8 0, .int .u8 0, .int .u8 0, .int .u8 0, .int .u8 0, .int .u8 0, .int .u8 0, .int .u8 0, .int .u8 0, .int .u8 0, .int .u8 0, .int .u8 0, .int .u8 0, .int .u8 0, .int .u8 0, .int .u8 0] 49) := ⟨_, rfl⟩
  rw [← hw1] at h1
  have H1 := Lib.hid h1
  have HW := Lib.hid hw1
  have HP := Lib.hid h
  have HLT := Lib.hid (And.intro h.lt (And.intro h1.size h1.below.size))
  have HZ := Lib.hid (show zero64.length = 64 from rfl)
  have hcl := cutN_lt h2
  have hcp := cutN_pos size
  obtain ⟨k, hk0⟩ : ∃ k, cutN size = k := ⟨_, rfl⟩
  rw [hk0] at hcl hcp ha ih
  have ns : ((from_ : Int) == (size : Int)) = false := by simp; omega
  have hle : ¬ (from_ : Int) ≤ (k : Int) := by omega
  obtain ⟨d, hd0⟩ : ∃ d, from_ - k = d := ⟨_, rfl⟩
  obtain ⟨m, hm0⟩ : ∃ m, size - k = m := ⟨_, rfl⟩
  rw [hd0, hm0] at ih
  have ea : IntKind.u64.wrap ((from_ : Int) - (k : Int)) = (d : Int) := by rw [IntKind.wrap_u64]; omega
  have em : IntKind.u64.wrap ((size : Int) - (k : Int)) = (m : Int) := by rw [IntKind.wrap_u64]; omega
  have CM := Lib.hid (kleft_any size w1 h2 hz)
  rw [hk0] at CM
  have K1 := h.below_ h1.below
  have l1 := K1.led.cell
  unfold leadsK at l1
  have IH := Lib.hid (ih w1 K1)
  have hPQ : (P ++ Q).length = 64 := by rw [List.length_append]; omega
  have HCN := Lib.hid cn
  have HB := Lib.hid (And.intro hsl (And.intro hsb (And.intro hQb (And.intro hk hs))))
  have HPL := Lib.hid (And.intro hPl hQl)
  have HPB := Lib.hid hPb
  clear h h1 hw1 ih K1 hk0 hcl hcp h2 hz hfs ha cn hsb hQb hk hs hPb hd0 hm0
  go_enter Tryz.func51, Tryz.ntmps51
  go_upto_region 1 with fail
  rw [← HW.out]
  go_wp2_with fail
  refine CM.out.mono ?_
  rintro e w2 ⟨rfl, rfl⟩
  go_wp2_with fail
  refine IH.out.mono ?_
  rintro e w3 ⟨rfl, ⟨A3, c3, hk3⟩, hb3⟩
  have HK3 := Lib.hid (And.intro hk3 hb3)
  have r3 : BArr w3 w.heap.size 49 zero64 := (hb3.block _ H1.out.res.lt (by have := HLT.out; omega)).trans H1.out.res
  have HR3 := Lib.hid r3
  clear hk3 hb3 r3
  go_upto_region 14 with (with_reducible refine wpList_store_newP w3 _ rfl rfl (.tmp 17) (.tmp 75) rfl rfl (P ++ Q) hPQ rfl ?_)
  have b4 := below_alloc w3 (.cells (bvs (P ++ Q)).toArray 49)
  have g4 := BArr.new w3 49 (P ++ Q)
  obtain ⟨w4, hw4⟩ : ∃ w4, w4 = w3.alloc (.cells (bvs (P ++ Q)).toArray 49) := ⟨_, rfl⟩
  rw [← hw4] at b4 g4 ⊢
  have HK4 := Lib.hid (HK3.out.1.below_ b4)
  have HR4 := Lib.hid (HR3.out.below b4)
  have BU4 := Lib.hid (((But.of_below H1.out.below).trans HK3.out.2).trans (But.of_below b4))
  have G4 := Lib.hid g4
  have S4 := Lib.hid (And.intro HK3.out.2.size (And.intro b4.size (show w3.heap.size < w4.heap.size from by rw [hw4]; simp)))
  clear hw4 b4 g4
  have n4 := HK4.out.nxt.cell
  unfold takesK at n4
  have CN := Lib.hid (HCN.out w4 A3 c3 HK4.out)
  go_wp2_with fail
  refine CN.out.mono ?_
  rintro e w5 ⟨rfl, ⟨A5, c5, hk5⟩, hb5⟩
  have s5 := S4.out
  have l5 := HLT.out
  have HK5 := Lib.hid hk5
  have HR5 := Lib.hid ((hb5.block _ HR4.out.lt (by omega)).trans HR4.out)
  have G5 := Lib.hid ((hb5.block _ G4.out.lt (by omega)).trans G4.out)
  have BU5 := Lib.hid (BU4.out.trans hb5)
  have S5 := Lib.hid hb5.size
  clear hk5 hb5 s5 l5
  go_upto_region 17 with (with_reducible refine wpList_store_new w5 _ rfl rfl (.tmp 19) (.tmp 84) rfl rfl s hsl rfl ?_)
  have b6 := below_alloc w5 (.cells (bvs s).toArray 25)
  have g6 := BArr.new w5 25 s
  obtain ⟨w6, hw6⟩ : ∃ w6, w6 = w5.alloc (.cells (bvs s).toArray 25) := ⟨_, rfl⟩
  rw [← hw6] at b6 g6 ⊢
  have HK6 := Lib.hid (HK5.out.below_ b6)
  have HR6 : BArr w6 w.heap.size 49 zero64 := BArr.below HR5.out b6
  have BU6 := Lib.hid (BU5.out.trans (But.of_below b6))
  have G6 : BArr w6 w3.heap.size 49 (P ++ Q) := BArr.below G5.out b6
  have S6 := Lib.hid (And.intro S4.out (And.intro S5.out (show w5.heap.size < w6.heap.size from by rw [hw6]; simp)))
  have KS := Lib.hid (fun (W : World) (hW : Below w6.heap.size w6 W) => And.intro (HB.out.2.2.2.1.below (below_on HK6.out.below (Nat.le_refl _) hW)) (HB.out.2.2.2.2.below (below_on HK6.out.below (Nat.le_refl _) hW)))
  clear hw6 b6
  obtain ⟨pb, hpb⟩ : ∃ pb, w3.heap.size = pb := ⟨_, rfl⟩
  obtain ⟨sb, hsb0⟩ : ∃ sb, w5.heap.size = sb := ⟨_, rfl⟩
  have HPB0 := Lib.hid (And.intro hpb hsb0)
  rw [hpb] at G6
  rw [hsb0] at g6
  rw [hpb, hsb0]
  clear hpb hsb0
  have hS0 : BArr w6.drew pb 49 (P ++ Q) ∧ BArr w6.drew sb 25 s := ⟨G6, g6⟩
  have hB0 : Below w6.heap.size w6 w6.drew := (Below.refl _ _).drew
  refine wp_region_held (S := fun W => BArr W pb 49 (P ++ Q) ∧ BArr W sb 25 s) (by kernel_rfl) ?_
  change wpAnyH _ _ _ _ _ _ _ _ w6.drew
  refine' wpAnyH_take (i := 0) (oi := _) (v := sv s) ?hi0 (by kernel_rfl) ?hf0 ?hr0 ?hQ0 ?hy0 hS0 ?rest0
  case hi0 => (simp only [List.getElem?_toArray, List.getElem?_cons_zero]; rfl)
  case hf0 => kernel_rfl
  case hr0 => kernel_rfl
  case hQ0 => exact fun _ _ _ h => h
  case hy0 => exact yields_sum (by rfl) (.tmp 19) (by rfl) _ (by rfl) s hsl (fun W hSw => hSw.2.at_)
  try simp only [Act.put, List.setIfInBounds_toArray, List.set_cons_zero, List.set_cons_succ]
  refine' wpAnyH_take (i := 1) (oi := _) (v := _) ?hi1 (by kernel_rfl) ?hf1 ?hr1 ?hQ1 ?hy1 hS0 ?rest1
  case hi1 => (simp only [List.getElem?_toArray, List.getElem?_cons_zero, List.getElem?_cons_succ]; rfl)
  case hf1 => kernel_rfl
  case hr1 => kernel_rfl
  case hQ1 => exact fun _ _ _ h => h
  case hy1 => refine Or.inl ⟨by rfl, ?_⟩; intro W hSw; go_simp; try with_reducible rfl
  try simp only [Act.put, List.setIfInBounds_toArray, List.set_cons_zero, List.set_cons_succ]
  refine' wpAnyH_take (i := 2) (oi := _) (v := sv P) ?hi2 (by kernel_rfl) ?hf2 ?hr2 ?hQ2 ?hy2 hS0 ?rest2
  case hi2 => (simp only [List.getElem?_toArray, List.getElem?_cons_zero, List.getElem?_cons_succ]; rfl)
  case hf2 => kernel_rfl
  case hr2 => kernel_rfl
  case hQ2 => exact fun _ _ _ h => h
  case hy2 => exact yields_sum (by rfl) (.tmp 87) (by rfl) _ (by rfl) P hPl (fun W hSw => hSw.1.first)
  try simp only [Act.put, List.setIfInBounds_toArray, List.set_cons_zero, List.set_cons_succ]
  refine' wpAnyH_take (i := 4) (oi := _) (v := sv s) ?hi4 (by kernel_rfl) ?hf4 ?hr4 ?hQ4 ?hy4 hS0 ?rest4
  case hi4 => (simp only [List.getElem?_toArray, List.getElem?_cons_zero, List.getElem?_cons_succ]; rfl)
  case hf4 => kernel_rfl
  case hr4 => kernel_rfl
  case hQ4 => exact fun _ _ _ h => h
  case hy4 => exact yields_sum (by rfl) (.tmp 19) (by rfl) _ (by rfl) s hsl (fun W hSw => hSw.2.at_)
  try simp only [Act.put, List.setIfInBounds_toArray, List.set_cons_zero, List.set_cons_succ]
  refine' wpAnyH_take (i := 5) (oi := _) (v := _) ?hi5 (by kernel_rfl) ?hf5 ?hr5 ?hQ5 ?hy5 hS0 ?rest5
  case hi5 => (simp only [List.getElem?_toArray, List.getElem?_cons_zero, List.getElem?_cons_succ]; rfl)
  case hf5 => kernel_rfl
  case hr5 => kernel_rfl
  case hQ5 => exact fun _ _ _ h => h
  case hy5 => refine Or.inl ⟨by rfl, ?_⟩; intro W hSw; go_simp; try with_reducible rfl
  try simp only [Act.put, List.setIfInBounds_toArray, List.set_cons_zero, List.set_cons_succ]
  refine' wpAnyH_take (i := 6) (oi := _) (v := sv Q) ?hi6 (by kernel_rfl) ?hf6 ?hr6 ?hQ6 ?hy6 hS0 ?rest6
  case hi6 => (simp only [List.getElem?_toArray, List.getElem?_cons_zero, List.getElem?_cons_succ]; rfl)
  case hf6 => kernel_rfl
  case hr6 => kernel_rfl
  case hQ6 => exact fun _ _ _ h => h
  case hy6 => exact yields_sum (by rfl) (.tmp 91) (by rfl) _ (by rfl) Q hQl (fun W hSw => (hSw.1.second hPl))
  try simp only [Act.put, List.setIfInBounds_toArray, List.set_cons_zero, List.set_cons_succ]
  refine' wpAnyH_take (i := 9) (oi := _) (v := _) ?hi9 (by kernel_rfl) ?hf9 ?hr9 ?hQ9 ?hy9 hS0 ?rest9
  case hi9 => (simp only [List.getElem?_toArray, List.getElem?_cons_zero, List.getElem?_cons_succ]; rfl)
  case hf9 => kernel_rfl
  case hr9 => kernel_rfl
  case hQ9 => exact fun _ _ _ h => h
  case hy9 => refine Or.inl ⟨by rfl, ?_⟩; intro W hSw; go_simp; try with_reducible rfl
  try simp only [Act.put, List.setIfInBounds_toArray, List.set_cons_zero, List.set_cons_succ]
  refine wpAnyH_ready (rs := [3]) (by kernel_rfl) (by simp) ?_
  refine' AllReadyH.cons (o := _) ?hi3 (fun K hK => ?_) AllReadyH.nil
  case hi3 => (simp only [List.getElem?_toArray, List.getElem?_cons_zero, List.getElem?_cons_succ]; rfl)
  rw [if_pos (by rfl)]
  go_simp
  refine (node_any s P w6.drew hsl hPl HB.out.2.1 HPB.out (KS.out _ hB0).1 (KS.out _ hB0).2).mono ?_
  rintro e W1 ⟨rfl, hb1⟩
  have hS1 := And.intro (hS0.1.below hb1) (hS0.2.below hb1)
  have hB1 := below_on hB0 (Nat.le_refl _) hb1
  refine hK.out _ _ hS1 (fun _ => ?_)
  clear hK K
  try simp only [Act.put, List.setIfInBounds_toArray, List.set_cons_zero, List.set_cons_succ]
  refine wpAnyH_ready (rs := [7]) (by kernel_rfl) (by simp) ?_
  refine' AllReadyH.cons (o := _) ?hi7 (fun K hK => ?_) AllReadyH.nil
  case hi7 => (simp only [List.getElem?_toArray, List.getElem?_cons_zero, List.getElem?_cons_succ]; rfl)
  rw [if_pos (by rfl)]
  go_simp
  refine (node_any s Q W1 hsl hQl HB.out.2.1 HB.out.2.2.1 (KS.out _ hB1).1 (KS.out _ hB1).2).mono ?_
  rintro e W2 ⟨rfl, hb2⟩
  have hS2 := And.intro (hS1.1.below hb2) (hS1.2.below hb2)
  have hB2 := below_on hB1 (Nat.le_refl _) hb2
  refine hK.out _ _ hS2 (fun _ => ?_)
  clear hK K
  try simp only [Act.put, List.setIfInBounds_toArray, List.set_cons_zero, List.set_cons_succ]
  refine' wpAnyH_take (i := 8) (oi := _) (v := sv (nodeL s P ++ nodeL s Q)) ?hi8 (by kernel_rfl) ?hf8 ?hr8 ?hQ8 ?hy8 hS2 ?rest8
  case hi8 => (simp only [List.getElem?_toArray, List.getElem?_cons_zero, List.getElem?_cons_succ]; rfl)
  case hf8 => kernel_rfl
  case hr8 => kernel_rfl
  case hQ8 => exact fun _ _ _ h => h
  case hy8 => exact yields_build_pair (by rfl) (.tmp 89) (.tmp 93) (by rfl) (nodeL s P) (nodeL s Q) (by rfl) (by rfl) (nodeL_length _ _) (nodeL_length _ _)
  try simp only [Act.put, List.setIfInBounds_toArray, List.set_cons_zero, List.set_cons_succ]
  have hPR : ((nodeL s P) ++ (nodeL s Q)).length = 64 := by rw [List.length_append]; have := nodeL_length; simp only [*]
  have RW : BArr W2 w.heap.size 49 zero64 := HR6.below hB2
  refine wpAnyH_ready (rs := [10]) (by kernel_rfl) (by simp) ?_
  refine' AllReadyH.cons (o := _) ?hi10 (fun K hK => ?_) AllReadyH.nil
  case hi10 => (simp only [List.getElem?_toArray, List.getElem?_cons_zero, List.getElem?_cons_succ]; rfl)
  rw [if_pos (by rfl)]
  refine step_store_pair (.tmp 9) (.tmp 94) rfl w.heap.size rfl zero64 ((nodeL s P) ++ (nodeL s Q)) HZ.out hPR RW rfl ?_
  have s6 := S6.out
  have l6 := HLT.out
  have r7 : BArr (W2.setRow w.heap.size (bvs ((nodeL s P) ++ (nodeL s Q))).toArray) w.heap.size 49 ((nodeL s P) ++ (nodeL s Q)) := RW.setRow _
  have hS9 : BArr (W2.setRow w.heap.size (bvs ((nodeL s P) ++ (nodeL s Q))).toArray) pb 49 (P ++ Q) ∧ BArr (W2.setRow w.heap.size (bvs ((nodeL s P) ++ (nodeL s Q))).toArray) sb 25 s :=
    ⟨hS2.1.setRow_other _ (by have := HPB0.out; omega) _, hS2.2.setRow_other _ (by have := HPB0.out; omega) _⟩
  refine hK.out _ _ hS9 (fun _ => ?_)
  clear hK K
  refine' wpAnyH_take (i := 11) (oi := _) (v := _) ?hi11 (by kernel_rfl) ?hf11 ?hr11 ?hQ11 ?hy11 hS9 ?rest11
  case hi11 => (simp only [List.getElem?_toArray, List.getElem?_cons_zero, List.getElem?_cons_succ]; rfl)
  case hf11 => kernel_rfl
  case hr11 => kernel_rfl
  case hQ11 => exact fun _ _ _ h => h
  case hy11 => refine Or.inl ⟨by rfl, ?_⟩; intro W hSw; go_simp; try with_reducible rfl
  try simp only [Act.put, List.setIfInBounds_toArray, List.set_cons_zero, List.set_cons_succ]
  refine wpAnyH_done (by kernel_rfl) ?_ _
  go_wp2
  refine bodyPost_ret_by (results_cell_tmp (p := 9) (q := 10) (ty := 49) (by kernel_rfl) _ _ ⟨w.heap.size, 0, none⟩ (sv ((nodeL s P) ++ (nodeL s Q))) rfl (run_load_pair _ _ _ hPR r7.at_)) rfl ?_
  have hb0 := HP.out.below.size
  have bu := BU6.out.trans (But.of_below hB2)
  exact ⟨rfl, ⟨A5, c5, (HK6.out.below_ hB2).setRow (by omega) ⟨by omega, by omega, by omega, by omega⟩ _⟩, ⟨bu.os, bu.tape, bu.output, by rw [setRow_size]; exact bu.size, fun b hb hne => (Go.setRow_other _ _ _ _ (by omega)).trans (bu.block b hb hne)⟩⟩

end

end Go.Proofs.YtilgikhdamkeoaaGreatDoor
