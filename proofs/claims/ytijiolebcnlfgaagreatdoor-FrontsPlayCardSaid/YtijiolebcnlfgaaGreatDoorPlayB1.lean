/-
  Several texts in one: GFrontC, LMark, LBookAt, LFill, LSumAt, LFillS, LGrowS, LGrow, LGrow2, LGrow2S, LLook, LLookS, LNil, LApart, LBookS, GPlayMem, RefAdd, RefInv, RefTake, RefEnd, RefSum, RefOf, VRefA, VRefB, GRefSums, LSameSums, GPlayLaw, ShaLaidZ.
-/
import Derived.Test.YtijiolebcnlfgaaGreatDoorGRoot
import Derived.Test.YtijiolebcnlfgaaGreatDoorLOnly
import Derived.Test.YtijiolebcnlfgaaGreatDoorLBut
import Derived.Deep.RegionHeld3
import Derived.Deep.AppendLies
import Derived.Laws.Pointers
import Derived.StillTactics
import Derived.Test.YtijiolebcnlfgaaGreatDoorLTot
import Derived.Laws.CopyRow
import Derived.Test.YtijiolebcnlfgaaGreatDoorLSums
import Derived.Test.YtijiolebcnlfgaaGreatDoorLQuietTail
import Derived.Test.YtijiolebcnlfgaaGreatDoorLApp2
import Derived.Great.BuildSlice
import Derived.Test.YtijiolebcnlfgaaGreatDoorLMem
import Derived.Deep.QuietTactic
import Derived.BigQuiet
import Derived.Test.YtijiolebcnlfgaaGreatDoorShaArr
import Derived.Test.YtijiolebcnlfgaaGreatDoorShaWords
import Derived.Test.YtijiolebcnlfgaaGreatDoorShaInv
import Derived.Test.YtijiolebcnlfgaaGreatDoorShaEnding
import Derived.Laws.AppendOwn
import Derived.Test.YtijiolebcnlfgaaGreatDoorShaTold
import Derived.Test.YtijiolebcnlfgaaGreatDoorShaNew
import Derived.Test.YtijiolebcnlfgaaGreatDoorShaSum
import Derived.Test.YtijiolebcnlfgaaGreatDoorVSApp
import Derived.Test.YtijiolebcnlfgaaGreatDoorLSum
import Derived.Test.YtijiolebcnlfgaaGreatDoorShaLaid
import Derived.LaidSub
/-
  A front, and blocks in which none of its trees lie.
-/
namespace Go.Proofs.YtijiolebcnlfgaaGreatDoor
open Go.RowKit

theorem sums_of {w : World} {A : Option Addr} {n : Nat} {ys : List Nat} (h : InS w A n ys) (hx : ∀ x ∈ ys, x < 256) : Sums32 (nth ys) n := ⟨fun _ hj => nth_length h.len hj, fun j _ => nth_lt hx j⟩

/-- A front none of whose trees lie in these blocks. -/
def FrontC (W : World) (g : Nat) (f : Nat → List Nat) (n : Nat) (S : Nat → Prop) : Prop := ∃ A c, FrontAt W g f n A c ∧ ∀ ad, A = some ad → ad.block < W.heap.size ∧ ¬ S ad.block
theorem FrontC.front {W : World} {g : Nat} {f : Nat → List Nat} {n : Nat} {S : Nat → Prop} (h : FrontC W g f n S) : Front W g f n := by
  obtain ⟨A, c, h, _⟩ := h
  exact ⟨A, c, h⟩
theorem FrontC.lt {W : World} {g : Nat} {f : Nat → List Nat} {n : Nat} {S : Nat → Prop} (h : FrontC W g f n S) : g < W.heap.size := h.front.lt
theorem FrontC.row {W : World} {g : Nat} {f : Nat → List Nat} {n : Nat} {S : Nat → Prop} (h : FrontC W g f n S) : ∃ cs, W.heap[g]? = some (.cells cs 51 (0, 0)) := by
  obtain ⟨A, c, h, _⟩ := h
  exact ⟨_, h.row⟩
theorem FrontC.keep {W W' : World} {g : Nat} {f : Nat → List Nat} {n : Nat} {S S' : Nat → Prop} (h : FrontC W g f n S) (hg : W'.heap[g]? = W.heap[g]?) (hsz : W.heap.size ≤ W'.heap.size)
    (hb : ∀ b, b < W.heap.size → ¬ S b → W'.heap[b]? = W.heap[b]?) (hS : ∀ b, b < W.heap.size → ¬ S b → ¬ S' b) : FrontC W' g f n S' := by
  obtain ⟨A, c, h, hc⟩ := h
  exact ⟨A, c, h.keep hg (fun ad e => hb _ (hc ad e).1 (hc ad e).2), fun ad e => ⟨Nat.lt_of_lt_of_le (hc ad e).1 hsz, hS _ (hc ad e).1 (hc ad e).2⟩⟩
theorem FrontC.congr {W : World} {g : Nat} {f f' : Nat → List Nat} {n : Nat} {S : Nat → Prop} (h : FrontC W g f n S) (hf : ∀ j, j < n → f j = f' j) : FrontC W g f' n S := by
  obtain ⟨A, c, h, hc⟩ := h
  refine ⟨A, c, ⟨h.row, ?_, h.cap, h.nil, h.off⟩, hc⟩
  have e := fr_congr f f' n 0 0 fun j hj => by rw [Nat.zero_add]; exact hf j hj
  rw [← e]
  exact h.trees

set_option maxRecDepth 100000 in
set_option maxHeartbeats 1000000 in
theorem new_front_at (f : Nat → List Nat) (w : World) : Calls Tryz.prog 4 #[] w fun e w' => e = .returned (.pointer (some ⟨w.heap.size, 0, none⟩)) ∧ FrontAt w' w.heap.size f 0 none 0 ∧ Below w.heap.size w w' := by
  go_enter Tryz.func4, Tryz.ntmps4
  go_wp2
  go_ret
  refine ⟨rfl, ⟨by rw [pop_zero]; exact World.alloc_heap_new w _, ?_, by rw [pop_zero]; exact Nat.le_refl _, fun _ => rfl, fun ad e => by cases e⟩, below_alloc w _⟩
  rw [fr_nil, pop_zero]
  exact InS.none_ _ _

theorem own_ne {W : World} {base g n : Nat} {v : Value} {xs : List Value} {cs : Array Value} (h : W.ownsRow base 40 32 v n xs) (hg : W.heap[g]? = some (.cells cs 51 (0, 0))) : v.ownBlock ≠ some g := by
  intro e
  rcases h.2 with ⟨e1, _⟩ | ⟨g', cap, cur, e1, _, hg', _⟩
  · rw [e1] at e; cases e
  · rw [e1] at e
    cases e
    rw [hg'] at hg
    cases hg
theorem own_blocks {w w' : World} {base : Nat} {e : TypeId} {size : Nat} {v : Value} {n : Nat} {xs : List Value} (h : w.ownsRow base e size v n xs) (hb : ∀ k, v.ownBlock = some k → w'.heap[k]? = w.heap[k]?) : w'.ownsRow base e size v n xs := by
  refine ⟨h.1, ?_⟩
  rcases h.2 with ⟨e1, h0⟩ | ⟨g, cap, cur, e1, h1, hg, h2⟩
  · exact .inl ⟨e1, h0⟩
  · exact .inr ⟨g, cap, cur, e1, h1, (hb g (by rw [e1]; rfl)).trans hg, h2⟩

end Go.Proofs.YtijiolebcnlfgaaGreatDoor

/-
  The mark of a number as a sum.
-/
namespace Go.Proofs.YtijiolebcnlfgaaGreatDoor
open Go.RowKit

/-- The bytes of a mark. -/
def mark32 (num : Nat) : List Nat := (num % 256) :: List.replicate 31 0
theorem mark32_length (num : Nat) : (mark32 num).length = 32 := rfl
theorem mark32_lt (num : Nat) : ∀ y ∈ mark32 num, y < 256 := by
  intro y hy
  rcases List.mem_cons.1 hy with rfl | hy
  · exact Nat.mod_lt _ (by decide)
  · rw [List.eq_of_mem_replicate hy]; decide
theorem mark_head (num : Nat) : Value.int .u8 ((num : Int) % 256) = bv (num % 256) := by
  show Value.int .u8 ((num : Int) % 256) = .int .u8 (((num % 256 : Nat)) : Int)
  rw [Int.natCast_emod]
  rfl
theorem lit32_tail (v : Value) : (#[v, .int .u8 0, .int .u8 0, .int .u8 0, .int .u8 0, .int .u8 0, .int .u8 0, .int .u8 0, .int .u8 0, .int .u8 0, .int .u8 0, .int .u8 0, .int .u8 0, .int .u8 0, .int .u8 0, .int .u8 0, .int .u8 0, .int .u8 0, .int .u8 0, .int .u8 0, .int .u8 0, .int .u8 0, .int .u8 0, .int .u8 0, .int .u8 0, .int .u8 0, .int .u8 0, .int .u8 0, .int .u8 0, .int .u8 0, .int .u8 0, .int .u8 0] : Array Value) = (v :: bvs (List.replicate 31 0)).toArray := rfl
theorem lit32_mark (num : Nat) : (Value.agg #[.int .u8 ((num : Int) % 256), .int .u8 0, .int .u8 0, .int .u8 0, .int .u8 0, .int .u8 0, .int .u8 0, .int .u8 0, .int .u8 0, .int .u8 0, .int .u8 0, .int .u8 0, .int .u8 0, .int .u8 0, .int .u8 0, .int .u8 0, .int .u8 0, .int .u8 0, .int .u8 0, .int .u8 0, .int .u8 0, .int .u8 0, .int .u8 0, .int .u8 0, .int .u8 0, .int .u8 0, .int .u8 0, .int .u8 0, .int .u8 0, .int .u8 0, .int .u8 0, .int .u8 0]) = sv (mark32 num) := by
  rw [lit32_tail, mark_head]
  rfl
/-- A mark into a variable of noughts. -/
theorem wpList_store_mark {ops : Array Oper} {rest : List Oper} {o : Oper} {a : Act} {w : World} {Q : Exit → Act → World → Prop} (num : Nat) (hgd : o.guard = none) (x y : Operand) (ho : o.op = .store 40 x y)
    (g : Nat) (hx : a.eval x = .pointer (some ⟨g, 0, none⟩)) (hg : w.heap[g]? = some (.cells #[.int .u8 0, .int .u8 0, .int .u8 0, .int .u8 0, .int .u8 0, .int .u8 0, .int .u8 0, .int .u8 0, .int .u8 0, .int .u8 0, .int .u8 0, .int .u8 0, .int .u8 0, .int .u8 0, .int .u8 0, .int .u8 0, .int .u8 0, .int .u8 0, .int .u8 0, .int .u8 0, .int .u8 0, .int .u8 0, .int .u8 0, .int .u8 0, .int .u8 0, .int .u8 0, .int .u8 0, .int .u8 0, .int .u8 0, .int .u8 0, .int .u8 0, .int .u8 0] 40 (0, 0))) (hy : a.eval y = .agg #[.int .u8 ((num : Int) % 256), .int .u8 0, .int .u8 0, .int .u8 0, .int .u8 0, .int .u8 0, .int .u8 0, .int .u8 0, .int .u8 0, .int .u8 0, .int .u8 0, .int .u8 0, .int .u8 0, .int .u8 0, .int .u8 0, .int .u8 0, .int .u8 0, .int .u8 0, .int .u8 0, .int .u8 0, .int .u8 0, .int .u8 0, .int .u8 0, .int .u8 0, .int .u8 0, .int .u8 0, .int .u8 0, .int .u8 0, .int .u8 0, .int .u8 0, .int .u8 0, .int .u8 0])
    (h : ∀ w', BArr w' g 40 (mark32 num) → Only g w w' → wpList Tryz.prog ops Q rest (a.put o.dst undef) w') : wpList Tryz.prog ops Q (o :: rest) a w := by
  rw [lit32_mark] at hy
  exact wpList_store_row hgd 40 x y ho g (bvs (mark32 num)).toArray hx hy 40 (bvs zero32).toArray hg sizeSum rfl (all_oneCell_toArray (bvs_oneCell (mark32 num))) (h _ (setRow_heap w g _ _ _ (0, 0) hg) ((Only.refl g w).setRow _))

set_option maxRecDepth 100000 in
set_option maxHeartbeats 1000000 in
theorem markSum_any (num : Nat) (w : World) :
    Calls Tryz.prog 67 #[.int .i64 (num : Int)] w fun e w' => e = .returned (sv (mark32 num)) ∧ Below w.heap.size w w' := by
  go_enter Tryz.func67, Tryz.ntmps67
  go_wp2_with (with_reducible refine wpList_store_mark num rfl (.tmp 2) (.tmp 5) rfl w.heap.size rfl (World.alloc_heap_new w _) rfl ?_)
  intro w2 hb2 ho2
  go_wp2
  exact bodyPost_ret_by (results_cell_row (p := 2) (ty := 40) (by kernel_rfl) _ _ w.heap.size 40 (bvs (mark32 num)).toArray (0, 0) _ rfl hb2 Tryz.underlying40 rfl sizeSum) rfl ⟨rfl, Only.below (below_alloc w _) (Nat.le_refl _) (Nat.le_refl _) ho2⟩

theorem eql_mark (num : Nat) (s : List Nat) (hs : s = mark32 num) (w : World) : (binOp .eql 40 (sv s) (.agg #[.int .u8 ((num : Int) % 256), .int .u8 0, .int .u8 0, .int .u8 0, .int .u8 0, .int .u8 0, .int .u8 0, .int .u8 0, .int .u8 0, .int .u8 0, .int .u8 0, .int .u8 0, .int .u8 0, .int .u8 0, .int .u8 0, .int .u8 0, .int .u8 0, .int .u8 0, .int .u8 0, .int .u8 0, .int .u8 0, .int .u8 0, .int .u8 0, .int .u8 0, .int .u8 0, .int .u8 0, .int .u8 0, .int .u8 0, .int .u8 0, .int .u8 0, .int .u8 0, .int .u8 0])).run Tryz.prog w = .ok (.bool true) w := by
  rw [lit32_mark, hs, run_eql_sum _ _ (mark32_length num) (mark32_length num) w, decide_eq_true rfl]
theorem guard_mark (num : Nat) (x y : Operand) (s : List Nat) (w : World) : (eqGuard .eql 40 x y (sv s) (.agg #[.int .u8 ((num : Int) % 256), .int .u8 0, .int .u8 0, .int .u8 0, .int .u8 0, .int .u8 0, .int .u8 0, .int .u8 0, .int .u8 0, .int .u8 0, .int .u8 0, .int .u8 0, .int .u8 0, .int .u8 0, .int .u8 0, .int .u8 0, .int .u8 0, .int .u8 0, .int .u8 0, .int .u8 0, .int .u8 0, .int .u8 0, .int .u8 0, .int .u8 0, .int .u8 0, .int .u8 0, .int .u8 0, .int .u8 0, .int .u8 0, .int .u8 0, .int .u8 0, .int .u8 0])).run Tryz.prog w = .ok () w := by
  rw [lit32_mark]
  exact run_guard_eql x y s (mark32 num) w

set_option maxRecDepth 100000 in
set_option maxHeartbeats 1000000 in
theorem isSum_any (num : Nat) (s : List Nat) (hs : s = mark32 num) (w : World) :
    Calls Tryz.prog 76 #[sv s, .int .i64 (num : Int)] w fun e w' => e = .returned (.bool true) ∧ Below w.heap.size w w' := by
  have q1 := eql_mark num s hs
  have q2 := fun x y => guard_mark num x y s
  have hl : s.length = 32 := by rw [hs]; rfl
  clear hs
  show Calls Tryz.prog 76 #[.agg (bvs s).toArray, .int .i64 (num : Int)] w _
  go_enter Tryz.func76, Tryz.ntmps76
  go_wp2_with (with_reducible refine wpList_load_sum rfl (.tmp 2) rfl ⟨w.heap.size, 0, none⟩ rfl s hl (BArr.new w 40 s).at_ ?_)
  go_ret
  exact ⟨rfl, below_alloc w _⟩

end Go.Proofs.YtijiolebcnlfgaaGreatDoor

/-
  The Book of the statements: what it is in memory.
-/
namespace Go.Proofs.YtijiolebcnlfgaaGreatDoor
open Go.RowKit

/-- Block kb is a Book that has counted N lists: bs is its row of lists of bytes, ss that of lists of sums; it has no other. -/
def BookAt (w : World) (kb N : Nat) (bs ss : Value) : Prop :=
  w.heap[kb]? = some (.cells #[.int .i64 (N : Int), bs, .slice none 0 0, .slice none 0 0, .slice none 0 0, ss, .slice none 0 0, .slice none 0 0, .slice none 0 0, .slice none 0 0] 35 (0, 0))

theorem BookAt.lt {w : World} {kb N : Nat} {bs ss : Value} (h : BookAt w kb N bs ss) : kb < w.heap.size := (Array.getElem?_eq_some_iff.1 h).1
theorem BookAt.n {w : World} {kb N : Nat} {bs ss : Value} (h : BookAt w kb N bs ss) : w.cell? ⟨kb, 0, none⟩ = some (.int .i64 (N : Int)) := by rw [cell_of_row _ kb 0 _ _ (0, 0) h]; rfl
theorem BookAt.b {w : World} {kb N : Nat} {bs ss : Value} (h : BookAt w kb N bs ss) : w.cell? ⟨kb, 1, none⟩ = some bs := by rw [cell_of_row _ kb 1 _ _ (0, 0) h]; rfl
theorem BookAt.s {w : World} {kb N : Nat} {bs ss : Value} (h : BookAt w kb N bs ss) : w.cell? ⟨kb, 5, none⟩ = some ss := by rw [cell_of_row _ kb 5 _ _ (0, 0) h]; rfl
theorem BookAt.fz {w : World} {kb N : Nat} {bs ss : Value} (h : BookAt w kb N bs ss) (i : Nat) : w.frozen? ⟨kb, i, none⟩ = false := frozen_of_row _ kb i _ _ h
theorem BookAt.other {w : World} {kb N : Nat} {bs ss : Value} (h : BookAt w kb N bs ss) {base : Nat} {e : TypeId} {size n : Nat} {v : Value} {xs : List Value} (he : e ≠ 35) (ho : w.ownsRow base e size v n xs) : v.ownBlock ≠ some kb := by
  rcases ho.2 with ⟨rfl, _⟩ | ⟨g, cap, cur, rfl, _, hg, _⟩
  · simp [Value.ownBlock]
  · intro e'
    obtain rfl : g = kb := by simpa [Value.ownBlock] using e'
    have := (show w.heap[g]? = _ from h).symm.trans hg
    simp at this
    exact he this.2.symm
theorem BookAt.grown {w w' : World} {kb N : Nat} {bs ss : Value} {row : Option Nat} (h : BookAt w kb N bs ss) (hg : w.grownBy w' row) (hne : row ≠ some kb) : BookAt w' kb N bs ss := (hg.block kb h.lt hne.symm).trans h
theorem BookAt.below {w w' : World} {kb N : Nat} {bs ss : Value} (h : BookAt w kb N bs ss) (hb : Below w.heap.size w w') : BookAt w' kb N bs ss := (hb.block kb h.lt).trans h

theorem BookAt.setN {w : World} {kb N : Nat} {bs ss : Value} (h : BookAt w kb N bs ss) (M : Nat) : BookAt (w.setCell ⟨kb, 0, none⟩ (.int .i64 (M : Int))) kb M bs ss := by
  have := heap_setCell_same w kb 0 _ _ (.int .i64 (M : Int)) h
  exact this
theorem BookAt.setB {w : World} {kb N : Nat} {bs ss : Value} (h : BookAt w kb N bs ss) (v : Value) : BookAt (w.setCell ⟨kb, 1, none⟩ v) kb N v ss := by
  have := heap_setCell_same w kb 1 _ _ v h
  exact this
theorem BookAt.setS {w : World} {kb N : Nat} {bs ss : Value} (h : BookAt w kb N bs ss) (v : Value) : BookAt (w.setCell ⟨kb, 5, none⟩ v) kb N bs v := by
  have := heap_setCell_same w kb 5 _ _ v h
  exact this
theorem grown_set (w : World) (b i : Nat) (v : Value) : w.grownBy (w.setCell ⟨b, i, none⟩ v) (some b) :=
  ⟨rfl, rfl, rfl, by simp [World.setCell], fun k _ hk => Below.heap_setCell _ _ _ k (fun e => hk (by rw [e]))⟩

theorem infoHeldByte : (Tryz.prog.info? 79).map (fun i => (i.zero, i.size, i.bytes)) = some (some (.agg #[.slice none 0 0, .slice none 0 0, .int .i64 0]), 3, 56) := by kernel_rfl

end Go.Proofs.YtijiolebcnlfgaaGreatDoor

/-
  The Book of the statements: marks are written into every list of bytes.
-/
namespace Go.Proofs.YtijiolebcnlfgaaGreatDoor
open Go.RowKit

/-- A list that is kept: its value, the longer one, how many elements it has, its number. -/
structure Held where
  A : Option Addr
  len : Nat
  c : Nat
  A2 : Option Addr
  len2 : Nat
  c2 : Nat
  num : Nat

def Held.v (h : Held) : Value := .slice h.A h.len h.c
def Held.long (h : Held) : Value := .slice h.A2 h.len2 h.c2

/-- The cells of a row of such. -/
def heldCells (hs : List Held) : List Value := hs.flatMap fun h => [h.v, h.long, .int .i64 (h.num : Int)]

theorem heldCells_cons (h : Held) (hs : List Held) : heldCells (h :: hs) = h.v :: h.long :: .int .i64 (h.num : Int) :: heldCells hs := rfl
theorem heldCells_append (hs ks : List Held) : heldCells (hs ++ ks) = heldCells hs ++ heldCells ks := by simp [heldCells]
theorem heldCells_length (hs : List Held) : (heldCells hs).length = hs.length * 3 := by
  induction hs with
  | nil => rfl
  | cons h hs ih => rw [heldCells_cons]; simp [ih]; omega
theorem heldCells_get {hs : List Held} {i : Nat} {h : Held} (hi : hs[i]? = some h) : (heldCells hs)[i * 3]? = some h.v ∧ (heldCells hs)[i * 3 + 1]? = some h.long ∧ (heldCells hs)[i * 3 + 2]? = some (.int .i64 (h.num : Int)) := by
  induction hs generalizing i with
  | nil => simp at hi
  | cons k hs ih =>
    cases i with
    | zero => simp at hi; subst hi; simp [heldCells_cons]
    | succ i =>
      have := ih (i := i) (by simpa using hi)
      rw [heldCells_cons, show (i + 1) * 3 = i * 3 + 1 + 1 + 1 by omega]
      exact this

/-- Rows of unlike element types lie in unlike blocks. -/
theorem rows_ne {w : World} {b1 b2 : Nat} {e1 e2 : TypeId} {s1 s2 n1 n2 : Nat} {v1 v2 : Value} {x1 x2 : List Value} (he : e1 ≠ e2) (h1 : w.ownsRow b1 e1 s1 v1 n1 x1) (h2 : w.ownsRow b2 e2 s2 v2 n2 x2) : v1.ownBlock = none ∨ v1.ownBlock ≠ v2.ownBlock := by
  rcases h1.2 with ⟨rfl, _⟩ | ⟨g, cap, cur, rfl, _, hg, _⟩
  · left; rfl
  · right
    rcases h2.2 with ⟨rfl, _⟩ | ⟨g2, cap2, cur2, rfl, _, hg2, _⟩
    · simp [Value.ownBlock]
    · simp only [Value.ownBlock]
      intro e
      injection e with e
      have e : g = g2 := e
      subst e
      rw [hg] at hg2
      simp at hg2
      exact he hg2.2

theorem own_kept_but {S : Nat → Prop} {w w' : World} {base : Nat} {e : TypeId} {size n : Nat} {v : Value} {xs : List Value} (h : w.ownsRow base e size v n xs) (hb : But S w w') (hn : ∀ b, v.ownBlock = some b → ¬ S b) : w'.ownsRow base e size v n xs := by
  refine ⟨h.1, ?_⟩
  rcases h.2 with hn' | ⟨g, cap, cur, rfl, hbb, hgg, rest⟩
  · exact .inl hn'
  · exact .inr ⟨g, cap, cur, rfl, hbb, (hb.block g (Array.getElem?_eq_some_iff.1 hgg).1 (hn g rfl)).trans hgg, rest⟩
theorem BookAt.but {S : Nat → Prop} {w w' : World} {kb N : Nat} {bs ss : Value} (h : BookAt w kb N bs ss) (hb : But S w w') (hn : ¬ S kb) : BookAt w' kb N bs ss := (hb.block kb h.lt hn).trans h

/-- The mark of a number. -/
def mk (num : Nat) : Value := .int .u8 ((num : Int) % 256)

set_option maxRecDepth 100000 in
set_option maxHeartbeats 400000 in
theorem markByte_any (num : Nat) (w : World) : Calls Tryz.prog 63 #[.int .i64 (num : Int)] w fun e w' => e = .returned (.int .u8 ((num : Int) % 256)) ∧ w = w' := by
  go_enter Tryz.func63, Tryz.ntmps63
  go_wp2
  go_ret
  exact ⟨rfl, rfl⟩

/-- One element more of an owned row of bytes is written. -/
theorem own_set {w : World} {base g len cap k : Nat} {xs : List Value} {u : Value} (h : w.ownsRow base 5 1 (.slice (some ⟨g, 0, none⟩) len cap) len xs) (hk : k < len) (ht : xs.take k = List.replicate k u) :
    ∃ ys, (w.setCell ⟨g, k, none⟩ u).ownsRow base 5 1 (.slice (some ⟨g, 0, none⟩) len cap) len ys ∧ ys.take (k + 1) = List.replicate (k + 1) u := by
  rcases h.2 with ⟨e, _⟩ | ⟨g', cap', cur, e, hb, hg, hle, hm, hs, htk⟩
  · cases e
  · cases e
    have hl := h.1
    refine ⟨xs.set k u, ⟨by simpa using hl, .inr ⟨g, cap, cur.setIfInBounds k u, rfl, hb, heap_setCell_same w g k cur _ u hg, hle, hm, by simp [hs], ?_⟩⟩, ?_⟩
    · rw [Array.toList_setIfInBounds, List.take_set, htk]
    · have e1 : (xs.set k u).take k = xs.take k := by rw [List.take_set, List.set_eq_of_length_le (by rw [List.length_take]; omega)]
      have e2 : (xs.set k u)[k]? = some u := by rw [List.getElem?_set_self]; omega
      rw [List.take_add_one, e1, e2, ht, List.replicate_succ']
      rfl
theorem own_cellAt {w : World} {base g len cap k : Nat} {xs : List Value} {e : TypeId} (h : w.ownsRow base e 1 (.slice (some ⟨g, 0, none⟩) len cap) len xs) (hk : k < len) : (∃ u, w.cell? ⟨g, k, none⟩ = some u) ∧ w.frozen? ⟨g, k, none⟩ = false := by
  rcases h.2 with ⟨e, _⟩ | ⟨g', cap', cur, e, hb, hg, hle, hm, hs, htk⟩
  · cases e
  · cases e
    exact ⟨⟨cur[k]'(by omega), by rw [cell_of_row _ g k _ _ (0, 0) hg]; exact Array.getElem?_eq_getElem (by omega)⟩, frozen_of_row _ g k _ _ hg⟩

/-- What is asked of the lists of bytes of a Book: each owns its row; no two the same block. -/
structure Lists (w : World) (base : Nat) (hs : List Held) : Prop where
  own : ∀ (i : Nat) (h : Held), hs[i]? = some h → ∃ xs, w.ownsRow base 5 1 h.v h.len xs
  apart : ∀ (i j : Nat) (h k : Held), hs[i]? = some h → hs[j]? = some k → i ≠ j → h.v.ownBlock = none ∨ h.v.ownBlock ≠ k.v.ownBlock

/-- The blocks of the lists. -/
def inLists (hs : List Held) (b : Nat) : Prop := ∃ (i : Nat) (h : Held), hs[i]? = some h ∧ h.v.ownBlock = some b

/-- The first i lists have their marks. -/
def Filled (w : World) (base : Nat) (hs : List Held) (i : Nat) : Prop :=
  ∀ (j : Nat) (h : Held), hs[j]? = some h → ∃ xs, w.ownsRow base 5 1 h.v h.len xs ∧ (j < i → xs = List.replicate h.len (mk h.num))

theorem own_form3 {w : World} {base : Nat} {e : TypeId} {size n : Nat} {v : Value} {xs : List Value} (h : w.ownsRow base e size v n xs) : ∃ A c, v = .slice A n c := by
  rcases h.2 with ⟨rfl, rfl⟩ | ⟨g, cap, cur, rfl, _⟩
  · exact ⟨_, _, rfl⟩
  · exact ⟨_, _, rfl⟩

set_option maxRecDepth 100000 in
set_option maxHeartbeats 2000000 in
theorem fillByte_any (kb N base K : Nat) (bs ss : Value) (hs : List Held) (w : World) (hbk : BookAt w kb N bs ss) (hown : w.ownsRow base 79 3 bs K (heldCells hs)) (hlist : Lists w base hs)
    (hK : K ≤ 1000000) (hlen : ∀ (i : Nat) (h : Held), hs[i]? = some h → h.len ≤ 1000000000) :
    Calls Tryz.prog 25 #[.pointer (some ⟨kb, 0, none⟩)] w fun e w' => e = .returned (.tuple #[]) ∧
      Filled w' base hs K ∧ But (inLists hs) w w' := by
  have hKl : hs.length = K := by have := hown.1; rw [heldCells_length] at this; omega
  have HKl := Lib.hid hKl
  clear hKl
  obtain ⟨Ab, cb, rfl⟩ := own_form3 hown
  have h1 := hbk.b
  go_enter Tryz.func25, Tryz.ntmps25
  go_wp2
  go_loopw [2] (fun i wr => ∃ j : Nat, j ≤ K ∧ i = .int .i64 (j : Int) ∧ Filled wr base hs j ∧ But (inLists hs) w wr) (fun i _ => K - (intOf i).toNat)
  case atStart => exact ⟨0, Nat.zero_le _, rfl, fun j h hj => by obtain ⟨xs, hx⟩ := hlist.own j h hj; exact ⟨xs, hx, fun h => by omega⟩, But.refl _ _⟩
  case round =>
    obtain ⟨j, hj, rfl, hfl, hbut⟩ := hrel
    obtain ⟨wo, rfl⟩ : ∃ wo : World, wo = wr := ⟨_, rfl⟩
    have nokb : ¬ inLists hs kb := by
      rintro ⟨i, h, hi, he⟩
      obtain ⟨xs, hx⟩ := hlist.own i h hi
      exact hbk.other (by decide) hx he
    have hbk2 := hbk.but hbut nokb
    have hown2 := own_kept_but hown hbut (by
      rintro b hb ⟨i, h, hi, he⟩
      obtain ⟨xs, hx⟩ := hlist.own i h hi
      rcases rows_ne (by decide) hx hown with h0 | h0
      · rw [h0] at he; cases he
      · exact h0 (he.trans hb.symm))
    have h2 := hbk2.b
    by_cases hlt : j < K
    · obtain ⟨h, hh⟩ : ∃ h, hs[j]? = some h := ⟨_, List.getElem?_eq_getElem (by rw [HKl.out]; exact hlt)⟩
      obtain ⟨g1, g2, g3⟩ := heldCells_get hh
      rcases hown2.2 with ⟨e, h0⟩ | ⟨gb, cap, cur, e, hbb, hgb, hle, hm, hsz, htk⟩
      · omega
      · cases e
        have p1 : wo.cell? ⟨gb, j * 3, none⟩ = some h.v := by
          have := hown2.cells (g := gb) rfl _ _ g1
          rwa [Addr.add_lit, Nat.zero_add] at this
        have p2 : wo.cell? ⟨gb, j * 3 + 1, none⟩ = some h.long := by
          have := hown2.cells (g := gb) rfl _ _ g2
          rwa [Addr.add_lit, Nat.zero_add] at this
        have p3 : wo.cell? ⟨gb, j * 3 + 2, none⟩ = some (.int .i64 (h.num : Int)) := by
          have := hown2.cells (g := gb) rfl _ _ g3
          rwa [Addr.add_lit, Nat.zero_add] at this
        have i1 : (j : Int) < (K : Int) := by omega
        obtain ⟨xs0, hx0, _⟩ := hfl j h hh
        have hl0 := hlen j h hh
        have hin0 : ∀ b, h.v.ownBlock = some b → inLists hs b := fun b hb => ⟨j, h, hh, hb⟩
        have hrest : ∀ wi, But (fun b => h.v.ownBlock = some b) wo wi → (∃ xs, wi.ownsRow base 5 1 h.v h.len xs ∧ xs = List.replicate h.len (mk h.num)) → Filled wi base hs (j + 1) := by
          intro wi hbi hrow j' h' hj'
          by_cases e : j' = j
          · subst e
            rw [hh] at hj'
            cases hj'
            obtain ⟨xs, r1, r2⟩ := hrow
            exact ⟨xs, r1, fun _ => r2⟩
          · obtain ⟨xs, r1, r2⟩ := hfl j' h' hj'
            refine ⟨xs, own_kept_but r1 hbi (fun b hb hb' => ?_), fun hlt' => r2 (by omega)⟩
            rcases hlist.apart j' j h' h hj' hh e with h0 | h0
            · rw [h0] at hb; cases hb
            · exact h0 (hb.trans hb'.symm)
        have HR := Lib.hid hrest
        have HI := Lib.hid hin0
        have HF := Lib.hid hfl
        clear hrest hin0 hfl g1 g2 g3 hh
        obtain ⟨A, n, c, A2, n2, c2, num⟩ := h
        simp only [Held.v, Held.long] at p1 p2 p3 hx0 hl0
        go_wp2
        have hx1 := hx0.alloc (.cells #[.slice A n c, .slice A2 n2 c2, .int .i64 (num : Int)] 79)
        have hlt0 := hx0.lt
        obtain ⟨wa, hwa⟩ : ∃ wa, wo.alloc (.cells #[.slice A n c, .slice A2 n2 c2, .int .i64 (num : Int)] 79) = wa := ⟨_, rfl⟩
        have hba : But (fun b => (Value.slice A n c).ownBlock = some b) wo wa := by rw [← hwa]; exact (But.refl _ _).alloc _
        have hha : wa.heap[wo.heap.size]? = some (.cells #[.slice A n c, .slice A2 n2 c2, .int .i64 (num : Int)] 79 (0, 0)) := by rw [← hwa]; exact World.alloc_heap_new wo _
        rw [hwa] at hx1 ⊢
        have HH := Lib.hid hha
        clear hwa hha
        go_loopw [4] (fun i wi => ∃ (k : Nat) (xs : List Value), k ≤ n ∧ i = .int .i64 (k : Int) ∧ wi.ownsRow base 5 1 (.slice A n c) n xs ∧ xs.take k = List.replicate k (mk num) ∧ But (fun b => (Value.slice A n c).ownBlock = some b) wa wi) (fun i _ => n - (intOf i).toNat)
        case atStart => exact ⟨0, xs0, Nat.zero_le _, rfl, hx1, by simp, But.refl _ _⟩
        case round =>
          obtain ⟨k, xs, hk, rfl, hox, htx, hbi⟩ := hrel
          have hhi : wr.heap[wo.heap.size]? = some (.cells #[.slice A n c, .slice A2 n2 c2, .int .i64 (num : Int)] 79 (0, 0)) :=
            (hbi.block _ (Array.getElem?_eq_some_iff.1 HH.out).1 (fun e => by have := (hlt0 _ e).2; omega)).trans HH.out
          have q0 : wr.cell? ⟨wo.heap.size, 0, none⟩ = some (.slice A n c) := by rw [cell_of_row _ _ 0 _ _ (0, 0) hhi]; rfl
          have q2 : wr.cell? ⟨wo.heap.size, 2, none⟩ = some (.int .i64 (num : Int)) := by rw [cell_of_row _ _ 2 _ _ (0, 0) hhi]; rfl
          clear hhi
          have HT := Lib.hid htx
          clear htx
          by_cases hlt2 : k < n
          · obtain ⟨g, rfl⟩ : ∃ g, A = some ⟨g, 0, none⟩ := by
              rcases hox.2 with ⟨e, h0⟩ | ⟨g, cap, cur, e, _⟩
              · omega
              · cases e; exact ⟨g, rfl⟩
            obtain ⟨⟨u, hcu⟩, hfu⟩ := own_cellAt hox hlt2
            obtain ⟨ys, hoy, hty⟩ := own_set hox hlt2 HT.out
            have HY := Lib.hid hty
            clear hty
            have i2 : (k : Int) < (n : Int) := by omega
            go_wp2
            go_region_law ((go_simp; go_at_call 63; refine (markByte_any num _).mono ?_; rintro e w' ⟨rfl, rfl⟩))
            all_goals
              go_wp2
              go_roundw
              case rel => exact ⟨k + 1, ys, by omega, by go_num, hoy.drew, HY.out, (hbi.set k _ (fun _ => rfl)).drew⟩
              case measure => simp [intOf]; omega
          · obtain rfl : k = n := by omega
            have hfin : Filled wr base hs (j + 1) := HR.out wr (hba.trans hbi) ⟨xs, hox, by
              have e := HT.out
              rwa [List.take_of_length_le (by have := hox.1; omega)] at e⟩
            have hbo : But (inLists hs) w wr := hbut.trans ((hba.trans hbi).mono (fun b _ hb => HI.out b hb))
            clear HR HI HF
            go_wp2
            go_roundw
            case rel => exact ⟨j + 1, by omega, by go_num, hfin, hbo⟩
            case measure => simp [intOf]; omega
    · obtain rfl : j = K := by omega
      go_wp2
      go_end0
      exact ⟨rfl, hfl, hbut⟩

end Go.Proofs.YtijiolebcnlfgaaGreatDoor

/-
  Rows of sums of the call's own: one sum is written; a sum is read; marks.
-/
namespace Go.Proofs.YtijiolebcnlfgaaGreatDoor
open Go.RowKit

theorem take_splice {α : Type} (l c : List α) (o n : Nat) (h : o + c.length ≤ n) (hn : n ≤ l.length) : (splice l o c).take n = splice (l.take n) o c := by
  unfold splice
  have h1 : (l.take o).length = o := by rw [List.length_take]; omega
  rw [List.take_append, List.take_append, h1, List.take_take, List.take_take, List.drop_take]
  rw [show min n o = o by omega, show min o n = o by omega, List.take_of_length_le (show c.length ≤ n - o by omega), show n - o - c.length = n - (o + c.length) by omega]

/-- n marks of a number, one behind the other. -/
def marks (n num : Nat) : List Value := bvs (List.replicate n (mark32 num)).flatten
theorem marks_length (n num : Nat) : (marks n num).length = n * 32 := by
  unfold marks
  rw [bvs_length, List.length_flatten, List.map_replicate, List.sum_replicate_nat, mark32_length]
theorem marks_snoc (n num : Nat) : marks (n + 1) num = marks n num ++ bvs (mark32 num) := by
  unfold marks
  rw [List.replicate_succ', List.flatten_append, bvs_append]
  simp
theorem marks_add (n m num : Nat) : marks (n + m) num = marks n num ++ marks m num := by
  unfold marks
  rw [← List.replicate_append_replicate, List.flatten_append, bvs_append]
theorem marks_oneCell (n num : Nat) : ∀ v ∈ marks n num, v.oneCell' = true := bvs_oneCell _
theorem marks_at (n num k : Nat) (hk : k < n) : ∀ j x, (mark32 num)[j]? = some x → (marks n num)[k * 32 + j]? = some (bv x) := by
  intro j x hx
  obtain ⟨m, rfl⟩ : ∃ m, n = k + (1 + m) := ⟨n - k - 1, by omega⟩
  have hj := (List.getElem?_eq_some_iff.1 hx).1
  rw [mark32_length] at hj
  rw [marks_add, List.getElem?_append_right (by rw [marks_length]; omega), marks_length, Nat.add_sub_cancel_left, marks_add, List.getElem?_append_left (by rw [marks_length]; omega)]
  have : marks 1 num = bvs (mark32 num) := by unfold marks; simp
  rw [this, bvs_get, hx]
  rfl

/-- A sum of a row of the call's own is written. -/
theorem own_put {w : World} {base g len cap k : Nat} {xs cs : List Value} {e : TypeId} (h : w.ownsRow base e 32 (.slice (some ⟨g, 0, none⟩) len cap) len xs) (hk : k < len) (hc : cs.length = 32) :
    ∃ cur : List Value, w.heap[g]? = some (.cells cur.toArray e (0, 0)) ∧ k * 32 + 32 ≤ cur.length ∧ (w.setRow g (splice cur (k * 32) cs).toArray).ownsRow base e 32 (.slice (some ⟨g, 0, none⟩) len cap) len (splice xs (k * 32) cs) := by
  rcases h.2 with ⟨e, _⟩ | ⟨g', cap', cur, e, hb, hg, hle, hm, hs, htk⟩
  · cases e
  · cases e
    have hl : cur.toList.length = cap * 32 := by rw [Array.length_toList, hs]
    have hxl := h.1
    refine ⟨cur.toList, by simpa using hg, by omega, ⟨by rw [length_splice _ _ _ (by omega)]; exact hxl, .inr ⟨g, cap, _, rfl, hb, setRow_heap w g cur _ _ (0, 0) hg, hle, hm, by rw [List.size_toArray, length_splice _ _ _ (by omega), hl], ?_⟩⟩⟩
    rw [List.toList_toArray, take_splice _ _ _ _ (by omega) (by omega), htk]

theorem But.setRow {S : Nat → Prop} {a w : World} (h : But S a w) {b : Nat} (cs : Array Value) (hb : b < a.heap.size → S b) : But S a (w.setRow b cs) :=
  h.grown (row := some b) ⟨rfl, rfl, rfl, by rw [size_setRow]; exact Nat.le_refl _, fun k _ hk => setRow_other w b k _ (fun e => hk (by rw [e]))⟩ (fun k e hk => by cases e; exact hb hk)

/-- A value of as many cells as its variable has goes into a block from an offset on. -/
theorem wpList_store_at {ops : Array Oper} {rest : List Oper} {o : Oper} {a : Act} {w : World} {Q : Exit → Act → World → Prop} (hgd : o.guard = none) (ty : TypeId) (x y : Operand) (ho : o.op = .store ty x y)
    (g off : Nat) (cs cur : List Value) (t : TypeId) (hx : a.eval x = .pointer (some ⟨g, off, none⟩)) (hy : a.eval y = .agg cs.toArray) (hg : w.heap[g]? = some (.cells cur.toArray t (0, 0)))
    (hi : (Tryz.prog.info? ty).map (·.size) = some cs.length) (hfit : off + cs.length ≤ cur.length) (h1 : ∀ v ∈ cs, v.oneCell' = true)
    (h : wpList Tryz.prog ops Q rest (a.put o.dst undef) (w.setRow g (splice cur off cs).toArray)) : wpList Tryz.prog ops Q (o :: rest) a w := by
  refine wpList_plain hgd fun K hK => ?_
  have hst := run_storeCells_at Tryz.prog g off t cs 0 cur.toArray w hg (by simpa using hfit) h1
  simp only [Nat.add_zero] at hst
  cases hq : Tryz.prog.info? ty with
  | none => simp [hq] at hi
  | some i =>
    have hs : cs.length = i.size := by simp [hq] at hi; omega
    have hrun : (storeVar ty ⟨g, off, none⟩ (.agg cs.toArray)).run Tryz.prog w = .ok () (w.setRow g (splice cur off cs).toArray) := by
      simp [storeVar, sizeOf, typeInfo, hq, Value.cells, hs, hst, splice]
    unfold Oper.wp execOp
    simp only [ho, hx, hy, Instr.storeAt, Instr.sureAddr, Sem.run_bind, Sem.run_pure, Result.andThen_ok, hrun]
    exact hK _ _ h

/-- One cell is read, in every world of a class. -/
theorem quiet_load_cell {ops : Array Oper} {o : Oper} {a : Act} {C : World → Prop} {K : Act → Prop} {E : Prop} (hw : Region.wanted o (yielded ops a.tmps) = true) (ty : TypeId) (hagg : ∀ w, (isAgg ty).run Tryz.prog w = .ok false w) (x : Operand) (ho : o.op = .load ty x)
    (ad : Addr) (hx : a.eval x = .pointer (some ad)) (v : Value) (hc : ∀ w, C w → w.cell? ad = some v) (h : K (a.put o.dst v)) :
    if Region.wanted o (yielded ops a.tmps) = true then o.quiet Tryz.prog a C K else E := by
  rw [if_pos hw]
  refine ⟨v, fun w hC => ?_, h⟩
  unfold Oper.quietAt execOp
  have hl : (loadVar ty ad).run Tryz.prog w = .ok v w := by simp [loadVar, Sem.run_bind, hagg, hc w hC]
  simp only [ho, hx, Instr.loadAt, Instr.sureAddr, Sem.run_bind, Sem.run_pure, Result.andThen_ok, hl]
  exact ⟨rfl, rfl⟩
theorem agg_sums (w : World) : (isAgg 22).run Tryz.prog w = .ok false w := by
  unfold isAgg
  rw [Sem.run_bind, run_underlying Tryz.underlying22 w]
  rfl
theorem agg_int (w : World) : (isAgg 3).run Tryz.prog w = .ok false w := by
  unfold isAgg
  rw [Sem.run_bind, run_underlying Tryz.underlying3 w]
  rfl

/-- One mark more of an owned row of sums. -/
theorem own_mark_put {w : World} {base g len cap k num : Nat} {xs : List Value} (h : w.ownsRow base 40 32 (.slice (some ⟨g, 0, none⟩) len cap) len xs) (hk : k < len) (ht : xs.take (k * 32) = marks k num) :
    ∃ cur : List Value, w.heap[g]? = some (.cells cur.toArray 40 (0, 0)) ∧ k * 32 + 32 ≤ cur.length ∧ ∃ ys, (w.setRow g (splice cur (k * 32) (bvs (mark32 num))).toArray).ownsRow base 40 32 (.slice (some ⟨g, 0, none⟩) len cap) len ys ∧ ys.take ((k + 1) * 32) = marks (k + 1) num := by
  obtain ⟨cur, h1, h2, h3⟩ := own_put (cs := bvs (mark32 num)) h hk (by rw [bvs_length, mark32_length])
  refine ⟨cur, h1, h2, _, h3, ?_⟩
  have hl := h.1
  have hm : (bvs (mark32 num)).length = 32 := by rw [bvs_length, mark32_length]
  unfold splice
  have e1 : (xs.take (k * 32)).length = k * 32 := by rw [List.length_take]; omega
  rw [← List.append_assoc, List.take_append_of_le_length (by rw [List.length_append, e1, hm]; omega), List.take_of_length_le (by rw [List.length_append, e1, hm]; omega), ht, ← marks_snoc]

end Go.Proofs.YtijiolebcnlfgaaGreatDoor

/-
  The Book of the statements: marks are written into every list of sums.
-/
namespace Go.Proofs.YtijiolebcnlfgaaGreatDoor
open Go.RowKit

/-- What is asked of the lists of sums of a Book: each owns its row; no two the same block. -/
structure ListsS (w : World) (base : Nat) (hs : List Held) : Prop where
  own : ∀ (i : Nat) (h : Held), hs[i]? = some h → ∃ xs, w.ownsRow base 40 32 h.v h.len xs
  apart : ∀ (i j : Nat) (h k : Held), hs[i]? = some h → hs[j]? = some k → i ≠ j → h.v.ownBlock = none ∨ h.v.ownBlock ≠ k.v.ownBlock

/-- The first i lists have their marks. -/
def FilledS (w : World) (base : Nat) (hs : List Held) (i : Nat) : Prop :=
  ∀ (j : Nat) (h : Held), hs[j]? = some h → ∃ xs, w.ownsRow base 40 32 h.v h.len xs ∧ (j < i → xs = marks h.len h.num)

set_option maxRecDepth 100000 in
set_option maxHeartbeats 2000000 in
theorem fillSum_any (kb N base K : Nat) (bs ss : Value) (hs : List Held) (w : World) (hbk : BookAt w kb N bs ss) (hown : w.ownsRow base 75 3 ss K (heldCells hs)) (hlist : ListsS w base hs)
    (hK : K ≤ 1000000) (hlen : ∀ (i : Nat) (h : Held), hs[i]? = some h → h.len ≤ 1000000000) :
    Calls Tryz.prog 29 #[.pointer (some ⟨kb, 0, none⟩)] w fun e w' => e = .returned (.tuple #[]) ∧
      FilledS w' base hs K ∧ But (inLists hs) w w' := by
  have hKl : hs.length = K := by have := hown.1; rw [heldCells_length] at this; omega
  have HKl := Lib.hid hKl
  clear hKl
  obtain ⟨Ab, cb, rfl⟩ := own_form3 hown
  have h1 := hbk.s
  go_enter Tryz.func29, Tryz.ntmps29
  go_wp2
  go_loopw [2] (fun i wr => ∃ j : Nat, j ≤ K ∧ i = .int .i64 (j : Int) ∧ FilledS wr base hs j ∧ But (inLists hs) w wr) (fun i _ => K - (intOf i).toNat)
  case atStart => exact ⟨0, Nat.zero_le _, rfl, fun j h hj => by obtain ⟨xs, hx⟩ := hlist.own j h hj; exact ⟨xs, hx, fun h => by omega⟩, But.refl _ _⟩
  case round =>
    obtain ⟨j, hj, rfl, hfl, hbut⟩ := hrel
    obtain ⟨wo, rfl⟩ : ∃ wo : World, wo = wr := ⟨_, rfl⟩
    have nokb : ¬ inLists hs kb := by
      rintro ⟨i, h, hi, he⟩
      obtain ⟨xs, hx⟩ := hlist.own i h hi
      exact hbk.other (by decide) hx he
    have hbk2 := hbk.but hbut nokb
    have hown2 := own_kept_but hown hbut (by
      rintro b hb ⟨i, h, hi, he⟩
      obtain ⟨xs, hx⟩ := hlist.own i h hi
      rcases rows_ne (by decide) hx hown with h0 | h0
      · rw [h0] at he; cases he
      · exact h0 (he.trans hb.symm))
    have h2 := hbk2.s
    by_cases hlt : j < K
    · obtain ⟨h, hh⟩ : ∃ h, hs[j]? = some h := ⟨_, List.getElem?_eq_getElem (by rw [HKl.out]; exact hlt)⟩
      obtain ⟨g1, g2, g3⟩ := heldCells_get hh
      rcases hown2.2 with ⟨e, h0⟩ | ⟨gb, cap, cur, e, hbb, hgb, hle, hm, hsz, htk⟩
      · omega
      · cases e
        have p1 : wo.cell? ⟨gb, j * 3, none⟩ = some h.v := by
          have := hown2.cells (g := gb) rfl _ _ g1
          rwa [Addr.add_lit, Nat.zero_add] at this
        have p2 : wo.cell? ⟨gb, j * 3 + 1, none⟩ = some h.long := by
          have := hown2.cells (g := gb) rfl _ _ g2
          rwa [Addr.add_lit, Nat.zero_add] at this
        have p3 : wo.cell? ⟨gb, j * 3 + 2, none⟩ = some (.int .i64 (h.num : Int)) := by
          have := hown2.cells (g := gb) rfl _ _ g3
          rwa [Addr.add_lit, Nat.zero_add] at this
        have i1 : (j : Int) < (K : Int) := by omega
        obtain ⟨xs0, hx0, _⟩ := hfl j h hh
        have hl0 := hlen j h hh
        have hin0 : ∀ b, h.v.ownBlock = some b → inLists hs b := fun b hb => ⟨j, h, hh, hb⟩
        have hrest : ∀ wi, But (fun b => h.v.ownBlock = some b) wo wi → (∃ xs, wi.ownsRow base 40 32 h.v h.len xs ∧ xs = marks h.len h.num) → FilledS wi base hs (j + 1) := by
          intro wi hbi hrow j' h' hj'
          by_cases e : j' = j
          · subst e
            rw [hh] at hj'
            cases hj'
            obtain ⟨xs, r1, r2⟩ := hrow
            exact ⟨xs, r1, fun _ => r2⟩
          · obtain ⟨xs, r1, r2⟩ := hfl j' h' hj'
            refine ⟨xs, own_kept_but r1 hbi (fun b hb hb' => ?_), fun hlt' => r2 (by omega)⟩
            rcases hlist.apart j' j h' h hj' hh e with h0 | h0
            · rw [h0] at hb; cases hb
            · exact h0 (hb.trans hb'.symm)
        have HR := Lib.hid hrest
        have HI := Lib.hid hin0
        have HF := Lib.hid hfl
        clear hrest hin0 hfl g1 g2 g3 hh
        obtain ⟨A, n, c, A2, n2, c2, num⟩ := h
        simp only [Held.v, Held.long] at p1 p2 p3 hx0 hl0
        go_wp2
        have hx1 := hx0.alloc (.cells #[.slice A n c, .slice A2 n2 c2, .int .i64 (num : Int)] 75)
        have hlt0 := hx0.lt
        obtain ⟨wa, hwa⟩ : ∃ wa, wo.alloc (.cells #[.slice A n c, .slice A2 n2 c2, .int .i64 (num : Int)] 75) = wa := ⟨_, rfl⟩
        have hba : But (fun b => (Value.slice A n c).ownBlock = some b) wo wa := by rw [← hwa]; exact (But.refl _ _).alloc _
        have hha : wa.heap[wo.heap.size]? = some (.cells #[.slice A n c, .slice A2 n2 c2, .int .i64 (num : Int)] 75 (0, 0)) := by rw [← hwa]; exact World.alloc_heap_new wo _
        rw [hwa] at hx1 ⊢
        have HH := Lib.hid hha
        clear hwa hha
        go_loopw [4] (fun i wi => ∃ (k : Nat) (xs : List Value), k ≤ n ∧ i = .int .i64 (k : Int) ∧ wi.ownsRow base 40 32 (.slice A n c) n xs ∧ xs.take (k * 32) = marks k num ∧ But (fun b => (Value.slice A n c).ownBlock = some b) wa wi) (fun i _ => n - (intOf i).toNat)
        case atStart => exact ⟨0, xs0, Nat.zero_le _, rfl, hx1, by simp [marks, bvs], But.refl _ _⟩
        case round =>
          obtain ⟨k, xs, hk, rfl, hox, htx, hbi⟩ := hrel
          have hhi : wr.heap[wo.heap.size]? = some (.cells #[.slice A n c, .slice A2 n2 c2, .int .i64 (num : Int)] 75 (0, 0)) :=
            (hbi.block _ (Array.getElem?_eq_some_iff.1 HH.out).1 (fun e => by have := (hlt0 _ e).2; omega)).trans HH.out
          have q0 : wr.cell? ⟨wo.heap.size, 0, none⟩ = some (.slice A n c) := by rw [cell_of_row _ _ 0 _ _ (0, 0) hhi]; rfl
          have q2 : wr.cell? ⟨wo.heap.size, 2, none⟩ = some (.int .i64 (num : Int)) := by rw [cell_of_row _ _ 2 _ _ (0, 0) hhi]; rfl
          clear hhi
          have HT := Lib.hid htx
          clear htx
          by_cases hlt2 : k < n
          · obtain ⟨g, rfl⟩ : ∃ g, A = some ⟨g, 0, none⟩ := by
              rcases hox.2 with ⟨e, h0⟩ | ⟨g, cap, cur, e, _⟩
              · omega
              · cases e; exact ⟨g, rfl⟩
            have HQ := Lib.hid (And.intro q0 q2)
            have HO := Lib.hid hox
            have CM := Lib.hid (fun (W : World) (_ : Below wr.heap.size wr W) => markSum_any num W)
            have i2 : (k : Int) < (n : Int) := by omega
            clear hox
            go_wp2
            refine wp_region_quiet_tail (C := fun w' => Below wr.heap.size wr w') 7 (by kernel_rfl) (by kernel_rfl) ((Below.refl _ _).drew) ?_
            simp only [List.take_succ_cons, List.take_zero, List.drop_succ_cons, List.drop_zero]
            refine wpQuiet_step (fun K hK => ?_)
            go_simp
            refine ⟨_, fun _ _ => rfl, hK _ ?_⟩
            clear hK K
            refine wpQuiet_step (fun K hK => ?_)
            refine quiet_load_cell (by rfl) 22 agg_sums (.tmp 28) rfl ⟨wo.heap.size, 0, none⟩ rfl (.slice (some ⟨g, 0, none⟩) n c) (fun W hC => (hC.cell (World.block_lt_of_cell? wr _ HQ.out.1)).trans HQ.out.1) (hK _ ?_)
            clear hK K
            iterate 2 (refine wpQuiet_step (fun K hK => ?_); go_simp; refine ⟨_, fun _ _ => rfl, hK _ ?_⟩; clear hK K)
            refine wpQuiet_step (fun K hK => ?_)
            refine quiet_load_cell (by rfl) 3 agg_int (.tmp 31) rfl ⟨wo.heap.size, 2, none⟩ rfl (.int .i64 (num : Int)) (fun W hC => (hC.cell (World.block_lt_of_cell? wr _ HQ.out.2)).trans HQ.out.2) (hK _ ?_)
            clear hK K
            refine wpQuiet_step (fun K hK => ?_)
            go_simp
            refine ⟨sv (mark32 num), fun W hC => (CM.out W hC).mono fun e w'' ⟨he, hb'⟩ => ⟨he, below_on hC (Nat.le_refl _) hb'⟩, hK _ ?_⟩
            clear hK K
            refine wpQuiet_step (fun K hK => ?_)
            go_simp
            refine ⟨_, fun _ _ => rfl, hK _ ?_⟩
            clear hK K
            refine wpQuiet_nil ?_
            intro w6 hb6
            obtain ⟨cur, hcur, hfit, ys, hoy, hty⟩ := own_mark_put (own_on HO.out hb6) hlt2 HT.out
            refine wpList_store_at rfl 40 (.tmp 34) (.tmp 33) rfl g (k * 32) (bvs (mark32 num)) cur 40 rfl rfl hcur (by rw [bvs_length, mark32_length]; exact sizeSum) (by rw [bvs_length, mark32_length]; exact hfit) (bvs_oneCell _) ?_
            have HY := Lib.hid (And.intro hoy hty)
            have HB := Lib.hid ((hbi.trans (But.of_below hb6)).setRow (b := g) (splice cur (k * 32) (bvs (mark32 num))).toArray (fun _ => rfl))
            clear hcur hfit hoy hty hbi
            go_wp2
            go_roundw
            case rel => exact ⟨k + 1, ys, by omega, by go_num, HY.out.1, HY.out.2, HB.out⟩
            case measure => simp [intOf]; omega
          · obtain rfl : k = n := by omega
            have hfin : FilledS wr base hs (j + 1) := HR.out wr (hba.trans hbi) ⟨xs, hox, by
              have e := HT.out
              rwa [List.take_of_length_le (by have := hox.1; omega)] at e⟩
            have hbo : But (inLists hs) w wr := hbut.trans ((hba.trans hbi).mono (fun b _ hb => HI.out b hb))
            clear HR HI HF
            go_wp2
            go_roundw
            case rel => exact ⟨j + 1, by omega, by go_num, hfin, hbo⟩
            case measure => simp [intOf]; omega
    · obtain rfl : j = K := by omega
      go_wp2
      go_end0
      exact ⟨rfl, hfl, hbut⟩

end Go.Proofs.YtijiolebcnlfgaaGreatDoor

/-
  The Book of the statements: each list of sums is made longer, mark by mark.
-/
namespace Go.Proofs.YtijiolebcnlfgaaGreatDoor
open Go.RowKit

/-- The beginning of an owned row of sums. -/
theorem sub_rowS {w : World} {base : Nat} {e : TypeId} {g n m c : Nat} {xs ys : List Value} (h : w.ownsRow base e 32 (.slice (some ⟨g, 0, none⟩) m c) m (xs ++ ys)) (hx : xs.length = n * 32) : w.ownsRow base e 32 (.slice (some ⟨g, 0, none⟩) n c) n xs := by
  rcases h.2 with ⟨e1, _⟩ | ⟨g', cap, cur, e1, hb, hg, hle, hm, hs, ht⟩
  · cases e1
  · cases e1
    have hl := h.1
    rw [List.length_append, hx] at hl
    refine ⟨hx, .inr ⟨g, c, cur, rfl, hb, hg, by omega, hm, hs, ?_⟩⟩
    have e2 := congrArg (List.take (n * 32)) ht
    have e3 : List.take (n * 32) (xs ++ ys) = xs := by
      rw [List.take_append_of_le_length (by omega), List.take_of_length_le (by omega)]
    have e4 : min (n * 32) (m * 32) = n * 32 := by omega
    rw [List.take_take, e4, e3] at e2
    exact e2

/-- One sum behind a full row: a new row. -/
theorem run_app_growS (w : World) (ty : TypeId) (base : Nat) (A : Option Addr) (m c : Nat) (xs news : List Value) (hown : w.ownsRow base 40 32 (.slice A m c) m xs) (hc : c < m + 1) (hm : m ≤ 2000000000)
    (a : Addr) (hnl : news.length = 32) (hnews : ∀ j v, news[j]? = some v → w.cell? (a.add j) = some v) (hbase : base ≤ w.heap.size) :
    ∃ c' w', (Builtin.append_ #[22, 22] ty #[.slice A m c, .slice (some a) 1 1]).run Tryz.prog w = .ok (.slice (some ⟨w.heap.size, 0, none⟩) (m + 1) c') w' ∧
      w'.ownsRow base 40 32 (.slice (some ⟨w.heap.size, 0, none⟩) (m + 1) c') (m + 1) (xs ++ news) ∧ Below w.heap.size w w' := by
  obtain ⟨i0, hi, hz0, hz1, hz2⟩ := info_parts infoSum
  have hzs : (Value.agg (Array.replicate 32 (.int .u8 0))).cells.size = 32 := rfl
  have key : ∀ old, old < m + 1 → (w.drew.alloc (.cells (xs.toArray ++ news.toArray ++ Builtin.zeroCells (Value.agg (Array.replicate 32 (.int .u8 0))).cells (grownCap w (m + 1) old 40 - (m + 1))) 40)).ownsRow base 40 32
      (.slice (some ⟨w.heap.size, 0, none⟩) (m + 1) (grownCap w (m + 1) old 40)) (m + 1) (xs ++ news) := by
    intro old ho
    have hge := grownCap_ge w (m + 1) old 40
    have hcm : grownCap w (m + 1) old 40 ≤ maxLen := grownCap_le_maxLen w (m + 1) old 40 (by unfold maxLen; omega)
    have hl := hown.1
    refine ⟨by rw [List.length_append, hl, hnl]; omega, .inr ⟨w.heap.size, _, _, rfl, hbase, heap_alloc_new w.drew _, hge, hcm, ?_, ?_⟩⟩
    · simp only [Array.size_append, List.size_toArray, size_zeroCells, hl, hnl, hzs]
      omega
    · simp only [Array.toList_append]
      rw [List.take_append_of_le_length (by simp [hl, hnl]; omega)]
      rw [List.take_of_length_le (by simp [hl, hnl]; omega)]
  have hb : ∀ o, Below w.heap.size w (w.drew.alloc o) := fun o => ((Below.refl _ w).drew).alloc (Nat.le_refl _) o
  rcases hown.2 with ⟨e1, h0⟩ | ⟨g, cap, cur, e1, _, _, hle, _, _, _⟩
  · cases e1
    have hx : xs = [] := List.eq_nil_of_length_eq_zero (by have := hown.1; omega)
    subst hx
    have hr := run_append_nil (P := Tryz.prog) w 22 ty 40 i0 _ Tryz.underlying22 hi hz0 a 1 1 news (by rw [hz1, hnl]) hnews (by omega) (by omega) (by rw [hz2]; omega)
    have hk := key 0 (by omega)
    simp only [Nat.zero_add, List.nil_append, Array.empty_append] at hk ⊢
    exact ⟨_, _, hr, hk, hb _⟩
  · cases e1
    have hr := run_append_grow (P := Tryz.prog) w 22 ty 40 i0 _ Tryz.underlying22 hi hz0 ⟨g, 0, none⟩ m c xs (by rw [hz1]; exact hown.1) (hown.cells (g := g) rfl) a 1 1 news (by rw [hz1, hnl]) hnews (by omega) (by omega)
      (by rw [hz2]; exact growslice_fits (by omega) (by omega))
    exact ⟨_, _, hr, key c (by omega), hb _⟩

/-- The state of a list of sums that is being made longer: v is as it was; the longer one lies in its block, or in a new one. -/
def LongerS (base : Nat) (A : Option Addr) (n c : Nat) (num k : Nat) (wa wi : World) (A2 : Option Addr) (c2 : Nat) : Prop :=
  wi.ownsRow base 40 32 (.slice A2 (n + k) c2) (n + k) (marks (n + k) num) ∧ wi.ownsRow base 40 32 (.slice A n c) n (marks n num) ∧
  But (fun b => (Value.slice A n c).ownBlock = some b) wa wi ∧ ((A2 = A ∧ c2 = c) ∨ ∃ g2, A2 = some ⟨g2, 0, none⟩ ∧ wa.heap.size ≤ g2)

/-- One mark more. -/
theorem run_longerS (base : Nat) (A : Option Addr) (n c num k : Nat) (wa w : World) (A2 : Option Addr) (c2 : Nat) (ty : TypeId) (h : LongerS base A n c num k wa w A2 c2) (hwa : ∀ b, (Value.slice A n c).ownBlock = some b → b < wa.heap.size) (hn : n + k ≤ 2000000000) (hbase : base ≤ wa.heap.size)
    (a : Addr) (hu : At w a (mark32 num)) :
    ∃ A3 c3 w', (Builtin.append_ #[22, 22] ty #[.slice A2 (n + k) c2, .slice (some a) 1 1]).run Tryz.prog w = .ok (.slice A3 (n + (k + 1)) c3) w' ∧ LongerS base A n c num (k + 1) wa w' A3 c3 := by
  obtain ⟨h1, h2, h3, h4⟩ := h
  obtain ⟨i0, hi, hz0, hz1, hz2⟩ := info_parts infoSum
  have hsz := h3.size
  have hml : (bvs (mark32 num)).length = 32 := by rw [bvs_length, mark32_length]
  have hrep : marks (n + k) num ++ bvs (mark32 num) = marks (n + (k + 1)) num := by rw [← Nat.add_assoc, marks_snoc]
  have hnews : ∀ j v, (bvs (mark32 num))[j]? = some v → w.cell? (a.add j) = some v := fun j v hv => by
    rw [bvs_get] at hv
    obtain ⟨y, hy, rfl⟩ := Option.map_eq_some_iff.1 hv
    exact hu j y hy
  by_cases hfit : n + k + 1 ≤ c2
  · rcases h1.2 with ⟨e1, h0⟩ | ⟨g, cap, cur, e1, _⟩
    · injection e1 with e1 e2 e3
      omega
    · cases e1
      obtain ⟨w', hr, r1, r2⟩ := run_append_fits (P := Tryz.prog) w base 22 ty 40 i0 32 Tryz.underlying22 hi hz1 g (n + k) c2 _ h1 a 1 1 (bvs (mark32 num)) (by rw [hml]) hnews (bvs_oneCell _) hfit
      rw [hrep] at r1
      refine ⟨_, _, w', hr, r1, ?_, ?_, ?_⟩
      · rcases h4 with ⟨e2, e3⟩ | ⟨g2, e2, hg2⟩
        · subst e3
          rw [← e2]
          refine sub_rowS (m := n + (k + 1)) (ys := marks (k + 1) num) ?_ (marks_length _ _)
          rw [marks_add] at r1
          exact r1
        · cases e2
          refine h2.kept r2 (.inr ?_)
          intro e5
          have := hwa _ e5
          omega
      · refine h3.grown r2 (fun b e5 hb => ?_)
        cases e5
        rcases h4 with ⟨e2, _⟩ | ⟨g2, e2, hg2⟩
        · rw [← e2]; rfl
        · cases e2; omega
      · rcases h4 with ⟨e2, e3⟩ | ⟨g2, e2, hg2⟩
        · exact .inl ⟨e2, e3⟩
        · exact .inr ⟨g2, e2, hg2⟩
  · obtain ⟨c', w', hr, r1, r2⟩ := run_app_growS w ty base A2 (n + k) c2 _ _ h1 (by omega) (by omega) a hml hnews (by omega)
    rw [hrep] at r1
    exact ⟨_, _, w', hr, r1, own_kept_but h2 (But.of_below (S := fun _ => False) r2) (fun _ _ h => h), h3.trans (But.of_below r2), .inr ⟨_, rfl, hsz⟩⟩

theorem wpList_longerS {ops : Array Oper} {rest : List Oper} {o : Oper} {a : Act} {Q : Exit → Act → World → Prop} (w : World) (hgd : o.guard = none) (s x : Operand)
    (ho : o.op = .call { callee := .builtin .append, args := #[s, x], argTypes := #[22, 22] })
    (base : Nat) (A : Option Addr) (n c num k : Nat) (wa : World) (A2 : Option Addr) (c2 : Nat) (hs : a.eval s = .slice A2 (n + k) c2) (h : LongerS base A n c num k wa w A2 c2)
    (hwa : ∀ b, (Value.slice A n c).ownBlock = some b → b < wa.heap.size) (hn : n + k ≤ 2000000000) (hbase : base ≤ wa.heap.size) (ad : Addr) (hx : a.eval x = .slice (some ad) 1 1) (hu : At w ad (mark32 num))
    (hK : ∀ A3 c3 w', LongerS base A n c num (k + 1) wa w' A3 c3 → wpList Tryz.prog ops Q rest (a.put o.dst (.slice A3 (n + (k + 1)) c3)) w') : wpList Tryz.prog ops Q (o :: rest) a w := by
  refine wpList_plain hgd fun K hK' => ?_
  obtain ⟨A3, c3, w', hr, h2⟩ := run_longerS base A n c num k wa w A2 c2 o.type h hwa hn hbase ad hu
  unfold Oper.wp execOp
  simp only [ho, resolve, invoke, builtin, Sem.run_bind, Sem.run_pure, Result.andThen_ok, List.map_toArray, List.map_cons, List.map_nil, hs, hx, hr]
  exact hK' _ _ (hK A3 c3 w' h2)

theorem LongerS.below {base : Nat} {A : Option Addr} {n c num k : Nat} {wa w w' : World} {A2 : Option Addr} {c2 : Nat} (h : LongerS base A n c num k wa w A2 c2) (hb : Below w.heap.size w w') : LongerS base A n c num k wa w' A2 c2 :=
  ⟨own_on h.1 hb, own_on h.2.1 hb, h.2.2.1.trans (But.of_below hb), h.2.2.2⟩

theorem fill_mark (num : Nat) : Instr.fill (fun i => some (i * 32, 32)) ((Array.range (1 * 32)).map ((Array.replicate 32 (Value.int .u8 0))[· % 32]!)) [(0, sv (mark32 num))] = some (bvs (mark32 num)).toArray := by kernel_rfl

end Go.Proofs.YtijiolebcnlfgaaGreatDoor

/-
  The Book of the statements: each list of bytes is made longer, mark by mark.
-/
namespace Go.Proofs.YtijiolebcnlfgaaGreatDoor
open Go.RowKit

/-- The beginning of an owned row. -/
theorem sub_row {w : World} {base : Nat} {e : TypeId} {g n m c : Nat} {xs ys : List Value} (h : w.ownsRow base e 1 (.slice (some ⟨g, 0, none⟩) m c) m (xs ++ ys)) (hx : xs.length = n) : w.ownsRow base e 1 (.slice (some ⟨g, 0, none⟩) n c) n xs := by
  rcases h.2 with ⟨e1, _⟩ | ⟨g', cap, cur, e1, hb, hg, hle, hm, hs, ht⟩
  · cases e1
  · cases e1
    have hl := h.1
    rw [List.length_append, hx] at hl
    refine ⟨by omega, .inr ⟨g, c, cur, rfl, hb, hg, by omega, hm, hs, ?_⟩⟩
    have e2 := congrArg (List.take n) ht
    have e3 : List.take n (xs ++ ys) = xs := by
      rw [List.take_append_of_le_length (by omega), List.take_of_length_le (by omega)]
    have e4 : min n (m * 1) = n := by omega
    rw [List.take_take, e4, e3] at e2
    rw [Nat.mul_one]
    exact e2

/-- One byte behind a full row: a new row. -/
theorem run_app_grow (w : World) (ty : TypeId) (base : Nat) (A : Option Addr) (m c : Nat) (xs : List Value) (hown : w.ownsRow base 5 1 (.slice A m c) m xs) (hc : c < m + 1) (hm : m ≤ 2000000000)
    (a : Addr) (u : Value) (hu : w.cell? a = some u) (hbase : base ≤ w.heap.size) :
    ∃ c' w', (Builtin.append_ #[66, 66] ty #[.slice A m c, .slice (some a) 1 1]).run Tryz.prog w = .ok (.slice (some ⟨w.heap.size, 0, none⟩) (m + 1) c') w' ∧
      w'.ownsRow base 5 1 (.slice (some ⟨w.heap.size, 0, none⟩) (m + 1) c') (m + 1) (xs ++ [u]) ∧ Below w.heap.size w w' := by
  obtain ⟨i0, hi, hz0, hz1, hz2⟩ := info_parts infoByte
  have hnews : ∀ j v, [u][j]? = some v → w.cell? (a.add j) = some v := by
    intro j v hv
    cases j with
    | zero => simp at hv; subst hv; simpa [Addr.add] using hu
    | succ j => simp at hv
  have key : ∀ old, old < m + 1 → (w.drew.alloc (.cells (xs.toArray ++ [u].toArray ++ Builtin.zeroCells (Value.int .u8 0).cells (grownCap w (m + 1) old 5 - (m + 1))) 5)).ownsRow base 5 1
      (.slice (some ⟨w.heap.size, 0, none⟩) (m + 1) (grownCap w (m + 1) old 5)) (m + 1) (xs ++ [u]) := by
    intro old ho
    have hge := grownCap_ge w (m + 1) old 5
    have hcm : grownCap w (m + 1) old 5 ≤ maxLen := grownCap_le_maxLen w (m + 1) old 5 (by unfold maxLen; omega)
    have hl := hown.1
    refine ⟨by rw [List.length_append, hl]; rfl, .inr ⟨w.heap.size, _, _, rfl, hbase, heap_alloc_new w.drew _, hge, hcm, ?_, ?_⟩⟩
    · simp only [Array.size_append, List.size_toArray, size_zeroCells, hl, List.length_singleton]
      simp [Value.cells]
      omega
    · simp only [Array.toList_append]
      rw [List.take_append_of_le_length (by simp [hl])]
      rw [List.take_of_length_le (by simp [hl])]
  have hb : ∀ o, Below w.heap.size w (w.drew.alloc o) := fun o => ((Below.refl _ w).drew).alloc (Nat.le_refl _) o
  rcases hown.2 with ⟨e1, h0⟩ | ⟨g, cap, cur, e1, _, _, hle, _, _, _⟩
  · cases e1
    have hx : xs = [] := List.eq_nil_of_length_eq_zero (by have := hown.1; omega)
    subst hx
    have hr := run_append_nil (P := Tryz.prog) w 66 ty 5 i0 _ Tryz.underlying66 hi hz0 a 1 1 [u] (by rw [hz1]; rfl) hnews (by omega) (by omega) (by rw [hz2]; omega)
    have hk := key 0 (by omega)
    simp only [Nat.zero_add, List.nil_append, Array.empty_append] at hk ⊢
    exact ⟨_, _, hr, hk, hb _⟩
  · cases e1
    have hr := run_append_grow (P := Tryz.prog) w 66 ty 5 i0 _ Tryz.underlying66 hi hz0 ⟨g, 0, none⟩ m c xs (by rw [hz1]; exact hown.1) (hown.cells (g := g) rfl) a 1 1 [u] (by rw [hz1]; rfl) hnews (by omega) (by omega)
      (by rw [hz2]; exact growslice_fits (by omega) (by omega))
    exact ⟨_, _, hr, key c (by omega), hb _⟩

/-- The state of a list that is being made longer: v is as it was; the longer one lies in its block, or in a new one. -/
def Longer (base : Nat) (A : Option Addr) (n c : Nat) (num k : Nat) (wa wi : World) (A2 : Option Addr) (c2 : Nat) : Prop :=
  wi.ownsRow base 5 1 (.slice A2 (n + k) c2) (n + k) (List.replicate (n + k) (mk num)) ∧ wi.ownsRow base 5 1 (.slice A n c) n (List.replicate n (mk num)) ∧
  But (fun b => (Value.slice A n c).ownBlock = some b) wa wi ∧ ((A2 = A ∧ c2 = c) ∨ ∃ g2, A2 = some ⟨g2, 0, none⟩ ∧ wa.heap.size ≤ g2)

/-- One mark more. -/
theorem run_longer (base : Nat) (A : Option Addr) (n c num k : Nat) (wa w : World) (A2 : Option Addr) (c2 : Nat) (ty : TypeId) (h : Longer base A n c num k wa w A2 c2) (hwa : ∀ b, (Value.slice A n c).ownBlock = some b → b < wa.heap.size) (hn : n + k ≤ 2000000000) (hbase : base ≤ wa.heap.size)
    (a : Addr) (hu : w.cell? a = some (mk num)) :
    ∃ A3 c3 w', (Builtin.append_ #[66, 66] ty #[.slice A2 (n + k) c2, .slice (some a) 1 1]).run Tryz.prog w = .ok (.slice A3 (n + (k + 1)) c3) w' ∧ Longer base A n c num (k + 1) wa w' A3 c3 := by
  obtain ⟨h1, h2, h3, h4⟩ := h
  obtain ⟨i0, hi, hz0, hz1, hz2⟩ := info_parts infoByte
  have hsz := h3.size
  have hrep : List.replicate (n + k) (mk num) ++ [mk num] = List.replicate (n + (k + 1)) (mk num) := by rw [← Nat.add_assoc, List.replicate_succ']
  by_cases hfit : n + k + 1 ≤ c2
  · rcases h1.2 with ⟨e1, h0⟩ | ⟨g, cap, cur, e1, _⟩
    · injection e1 with e1 e2 e3
      omega
    · cases e1
      obtain ⟨w', hr, r1, r2⟩ := run_append_fits (P := Tryz.prog) w base 66 ty 5 i0 1 Tryz.underlying66 hi hz1 g (n + k) c2 _ h1 a 1 1 [mk num] rfl (by
        intro j v hv
        cases j with
        | zero => simp at hv; subst hv; simpa [Addr.add] using hu
        | succ j => simp at hv) (by simp [mk, Value.oneCell']) hfit
      rw [hrep] at r1
      refine ⟨_, _, w', hr, r1, ?_, ?_, ?_⟩
      · rcases h4 with ⟨e2, e3⟩ | ⟨g2, e2, hg2⟩
        · subst e3
          rw [← e2]
          refine sub_row (m := n + (k + 1)) (ys := List.replicate (k + 1) (mk num)) ?_ (by simp)
          rw [← List.replicate_append_replicate] at r1
          exact r1
        · cases e2
          refine h2.kept r2 (.inr ?_)
          intro e5
          have := hwa _ e5
          omega
      · refine h3.grown r2 (fun b e5 hb => ?_)
        cases e5
        rcases h4 with ⟨e2, _⟩ | ⟨g2, e2, hg2⟩
        · rw [← e2]; rfl
        · cases e2; omega
      · rcases h4 with ⟨e2, e3⟩ | ⟨g2, e2, hg2⟩
        · exact .inl ⟨e2, e3⟩
        · exact .inr ⟨g2, e2, hg2⟩
  · obtain ⟨c', w', hr, r1, r2⟩ := run_app_grow w ty base A2 (n + k) c2 _ h1 (by omega) (by omega) a _ hu (by omega)
    rw [hrep] at r1
    exact ⟨_, _, w', hr, r1, own_kept_but h2 (But.of_below (S := fun _ => False) r2) (fun _ _ h => h), h3.trans (But.of_below r2), .inr ⟨_, rfl, hsz⟩⟩

theorem wpList_longer {ops : Array Oper} {rest : List Oper} {o : Oper} {a : Act} {Q : Exit → Act → World → Prop} (w : World) (hgd : o.guard = none) (s x : Operand)
    (ho : o.op = .call { callee := .builtin .append, args := #[s, x], argTypes := #[66, 66] })
    (base : Nat) (A : Option Addr) (n c num k : Nat) (wa : World) (A2 : Option Addr) (c2 : Nat) (hs : a.eval s = .slice A2 (n + k) c2) (h : Longer base A n c num k wa w A2 c2)
    (hwa : ∀ b, (Value.slice A n c).ownBlock = some b → b < wa.heap.size) (hn : n + k ≤ 2000000000) (hbase : base ≤ wa.heap.size) (ad : Addr) (hx : a.eval x = .slice (some ad) 1 1) (hu : w.cell? ad = some (mk num))
    (hK : ∀ A3 c3 w', Longer base A n c num (k + 1) wa w' A3 c3 → wpList Tryz.prog ops Q rest (a.put o.dst (.slice A3 (n + (k + 1)) c3)) w') : wpList Tryz.prog ops Q (o :: rest) a w := by
  refine wpList_plain hgd fun K hK' => ?_
  obtain ⟨A3, c3, w', hr, h2⟩ := run_longer base A n c num k wa w A2 c2 o.type h hwa hn hbase ad hu
  unfold Oper.wp execOp
  simp only [ho, resolve, invoke, builtin, Sem.run_bind, Sem.run_pure, Result.andThen_ok, List.map_toArray, List.map_cons, List.map_nil, hs, hx, hr]
  exact hK' _ _ (hK A3 c3 w' h2)

end Go.Proofs.YtijiolebcnlfgaaGreatDoor

/-
  The Book of the statements: growByte, whole.
-/
namespace Go.Proofs.YtijiolebcnlfgaaGreatDoor
open Go.RowKit

theorem Longer.alloc {base : Nat} {A : Option Addr} {n c num k : Nat} {wa w : World} {A2 : Option Addr} {c2 : Nat} (h : Longer base A n c num k wa w A2 c2) (o : Obj) : Longer base A n c num k wa (w.alloc o) A2 c2 :=
  ⟨h.1.alloc o, h.2.1.alloc o, h.2.2.1.alloc o, h.2.2.2⟩
theorem Longer.drew {base : Nat} {A : Option Addr} {n c num k : Nat} {wa w : World} {A2 : Option Addr} {c2 : Nat} (h : Longer base A n c num k wa w A2 c2) : Longer base A n c num k wa w.drew A2 c2 :=
  ⟨h.1.drew, h.2.1.drew, h.2.2.1.drew, h.2.2.2⟩

theorem step_longer {ops : Array Oper} {o : Oper} {a : Act} {w : World} {K : Act → World → Prop} {Q : Exit → Act → World → Prop} {E : Prop} (hgd : o.guard = none) (s x : Operand)
    (ho : o.op = .call { callee := .builtin .append, args := #[s, x], argTypes := #[66, 66] })
    (base : Nat) (A : Option Addr) (n c num k : Nat) (wa : World) (A2 : Option Addr) (c2 : Nat) (hs : a.eval s = .slice A2 (n + k) c2) (h : Longer base A n c num k wa w A2 c2)
    (hwa : ∀ b, (Value.slice A n c).ownBlock = some b → b < wa.heap.size) (hn : n + k ≤ 2000000000) (hbase : base ≤ wa.heap.size) (ad : Addr) (hx : a.eval x = .slice (some ad) 1 1) (hu : w.cell? ad = some (mk num))
    (hK : ∀ A3 c3 w', Longer base A n c num (k + 1) wa w' A3 c3 → K (a.put o.dst (.slice A3 (n + (k + 1)) c3)) w') :
    if Region.wanted o (yielded ops a.tmps) = true then Oper.wp Tryz.prog o a w K Q else E := by
  have hw : Region.wanted o (yielded ops a.tmps) = true := by simp [Region.wanted, hgd]
  rw [if_pos hw]
  obtain ⟨A3, c3, w', hr, h2⟩ := run_longer base A n c num k wa w A2 c2 o.type h hwa hn hbase ad hu
  unfold Oper.wp execOp
  simp only [ho, resolve, invoke, builtin, Sem.run_bind, Sem.run_pure, Result.andThen_ok, List.map_toArray, List.map_cons, List.map_nil, hs, hx, hr]
  exact hK A3 c3 w' h2

/-- One cell of an owned row is written. -/
theorem own_setAt {w : World} {base g n cap size k : Nat} {e : TypeId} {xs : List Value} (u : Value) (h : w.ownsRow base e size (.slice (some ⟨g, 0, none⟩) n cap) n xs) : (w.setCell ⟨g, k, none⟩ u).ownsRow base e size (.slice (some ⟨g, 0, none⟩) n cap) n (xs.set k u) := by
  rcases h.2 with ⟨e, _⟩ | ⟨g', cap', cur, e, hb, hg, hle, hm, hs, htk⟩
  · cases e
  · cases e
    refine ⟨by rw [List.length_set]; exact h.1, .inr ⟨g, cap, cur.setIfInBounds k u, rfl, hb, heap_setCell_same w g k cur _ u hg, hle, hm, by simp [hs], ?_⟩⟩
    rw [Array.toList_setIfInBounds, List.take_set, htk]

/-- The longer list of one that is kept is laid down. -/
def Held.lay (h : Held) (A : Option Addr) (n c : Nat) : Held := { h with A2 := A, len2 := n, c2 := c }

theorem heldCells_set {hs : List Held} {i : Nat} {h : Held} (hi : hs[i]? = some h) (A : Option Addr) (n c : Nat) : (heldCells hs).set (i * 3 + 1) (.slice A n c) = heldCells (hs.set i (h.lay A n c)) := by
  induction hs generalizing i with
  | nil => simp at hi
  | cons k hs ih =>
    cases i with
    | zero => simp at hi; subst hi; rfl
    | succ i =>
      have := ih (i := i) (by simpa using hi)
      rw [show (i + 1) * 3 + 1 = (i * 3 + 1) + 1 + 1 + 1 by omega, heldCells_cons, show (k :: hs).set (i + 1) (h.lay A n c) = k :: hs.set i (h.lay A n c) from rfl, heldCells_cons, ← this]
      rfl

/-- One list, before and behind: it has its marks; when done, so has the longer one. -/
structure GrowAt (w wr : World) (base : Nat) (h h' : Held) (done : Prop) : Prop where
  v : h'.v = h.v
  num : h'.num = h.num
  len : h'.len = h.len
  row : wr.ownsRow base 5 1 h.v h.len (List.replicate h.len (mk h.num))
  long : done → h'.len2 = h.len + 40 ∧ wr.ownsRow base 5 1 h'.long (h.len + 40) (List.replicate (h.len + 40) (mk h.num)) ∧ (h'.long.ownBlock = h.v.ownBlock ∨ ∀ b, h'.long.ownBlock = some b → w.heap.size ≤ b)

def GrownTo (w wr : World) (base : Nat) (hs hs' : List Held) (j : Nat) : Prop :=
  hs'.length = hs.length ∧ ∀ (i : Nat) (h : Held), hs[i]? = some h → ∃ h', hs'[i]? = some h' ∧ GrowAt w wr base h h' (i < j)

theorem GrownTo.step {w wo wf : World} {base : Nat} {hs hs' : List Held} {j : Nat} {h h' : Held} (hg : GrownTo w wo base hs hs' j) (hlist : Lists w base hs) (hh : hs[j]? = some h) (hh' : hs'[j]? = some h') (A3 : Option Addr) (c3 : Nat)
    (hkeep : ∀ v n xs, wo.ownsRow base 5 1 v n xs → (∀ b, v.ownBlock = some b → h.v.ownBlock ≠ some b) → wf.ownsRow base 5 1 v n xs)
    (r1 : wf.ownsRow base 5 1 (.slice A3 (h.len + 40) c3) (h.len + 40) (List.replicate (h.len + 40) (mk h.num))) (r2 : wf.ownsRow base 5 1 h.v h.len (List.replicate h.len (mk h.num)))
    (r3 : (Value.slice A3 (h.len + 40) c3).ownBlock = h.v.ownBlock ∨ ∀ b, (Value.slice A3 (h.len + 40) c3).ownBlock = some b → w.heap.size ≤ b) : GrownTo w wf base hs (hs'.set j (h'.lay A3 (h.len + 40) c3)) (j + 1) := by
  have hjl : j < hs'.length := (List.getElem?_eq_some_iff.1 hh').1
  refine ⟨by rw [List.length_set]; exact hg.1, fun i k hk => ?_⟩
  obtain ⟨k', hk', G⟩ := hg.2 i k hk
  by_cases e : i = j
  · subst e
    rw [hh] at hk
    cases hk
    rw [hh'] at hk'
    cases hk'
    exact ⟨h'.lay A3 (h.len + 40) c3, by rw [List.getElem?_set_self hjl], G.v, G.num, G.len, r2, fun _ => ⟨rfl, r1, r3⟩⟩
  · have hap : ∀ b, k.v.ownBlock = some b → h.v.ownBlock ≠ some b := by
      intro b hb hb'
      rcases hlist.apart i j k h hk hh e with h0 | h0
      · rw [h0] at hb; cases hb
      · exact h0 (hb.trans hb'.symm)
    refine ⟨k', by rw [List.getElem?_set_ne (Ne.symm e)]; exact hk', G.v, G.num, G.len, hkeep _ _ _ G.row hap, fun hlt => ?_⟩
    obtain ⟨l1, l2, l3⟩ := G.long (by omega)
    refine ⟨l1, hkeep _ _ _ l2 (fun b hb hb' => ?_), l3⟩
    rcases l3 with l3 | l3
    · exact hap b (l3.symm.trans hb) hb'
    · obtain ⟨xs, hx⟩ := hlist.own j h hh
      have h1 := (hx.lt _ hb').2
      have h2 := l3 b hb
      omega

set_option maxRecDepth 100000 in
set_option maxHeartbeats 2000000 in
theorem growByte_any (kb N base K : Nat) (bs ss : Value) (hs : List Held) (w : World) (hbk : BookAt w kb N bs ss) (hown : w.ownsRow base 79 3 bs K (heldCells hs)) (hlist : Lists w base hs) (hfill : Filled w base hs K)
    (hK : K ≤ 1000000) (hlen : ∀ (i : Nat) (h : Held), hs[i]? = some h → h.len ≤ 1000000000) (hbase : base ≤ w.heap.size) :
    Calls Tryz.prog 34 #[.pointer (some ⟨kb, 0, none⟩)] w fun e w' => e = .returned (.tuple #[]) ∧
      ∃ hs', w'.ownsRow base 79 3 bs K (heldCells hs') ∧ GrownTo w w' base hs hs' K ∧ But (fun b => inLists hs b ∨ bs.ownBlock = some b) w w' := by
  have hKl : hs.length = K := by have := hown.1; rw [heldCells_length] at this; omega
  have HKl := Lib.hid hKl
  clear hKl
  obtain ⟨Ab, cb, rfl⟩ := own_form3 hown
  have h1 := hbk.b
  have start : GrownTo w w base hs hs 0 := ⟨rfl, fun i h hi => ⟨h, hi, rfl, rfl, rfl, by
    obtain ⟨xs, r1, r2⟩ := hfill i h hi
    rw [← r2 (by have := (List.getElem?_eq_some_iff.1 hi).1; rw [HKl.out] at this; exact this)]
    exact r1, fun e => by omega⟩⟩
  have HS := Lib.hid start
  clear start hfill
  go_enter Tryz.func34, Tryz.ntmps34
  go_wp2
  go_loopw [2] (fun i wr => ∃ (j : Nat) (hs' : List Held), j ≤ K ∧ i = .int .i64 (j : Int) ∧ wr.ownsRow base 79 3 (.slice Ab K cb) K (heldCells hs') ∧ GrownTo w wr base hs hs' j ∧ But (fun b => inLists hs b ∨ (Value.slice Ab K cb).ownBlock = some b) w wr) (fun i _ => K - (intOf i).toNat)
  case atStart => exact ⟨0, hs, Nat.zero_le _, rfl, hown, HS.out, But.refl _ _⟩
  case round =>
    obtain ⟨j, hs', hj, rfl, hown2, hgr, hbut⟩ := hrel
    obtain ⟨wo, rfl⟩ : ∃ wo : World, wo = wr := ⟨_, rfl⟩
    have nokb : ¬ (inLists hs kb ∨ (Value.slice Ab K cb).ownBlock = some kb) := by
      rintro (⟨i, h, hi, he⟩ | he)
      · obtain ⟨xs, hx⟩ := hlist.own i h hi
        exact hbk.other (by decide) hx he
      · exact hbk.other (by decide) hown he
    have hbk2 := hbk.but hbut nokb
    have h2 := hbk2.b
    have HG := Lib.hid hgr
    clear hgr
    by_cases hlt : j < K
    · obtain ⟨h0, hh0⟩ : ∃ h, hs[j]? = some h := ⟨_, List.getElem?_eq_getElem (by rw [HKl.out]; exact hlt)⟩
      obtain ⟨h, hh, G⟩ := HG.out.2 j h0 hh0
      obtain ⟨g1, g2, g3⟩ := heldCells_get hh
      rcases hown2.2 with ⟨e, h0⟩ | ⟨gb, cap, cur, e, hbb, hgb, hle, hm, hsz, htk⟩
      · omega
      · cases e
        have p1 : wo.cell? ⟨gb, j * 3, none⟩ = some h.v := by
          have := hown2.cells (g := gb) rfl _ _ g1
          rwa [Addr.add_lit, Nat.zero_add] at this
        have p2 : wo.cell? ⟨gb, j * 3 + 1, none⟩ = some h.long := by
          have := hown2.cells (g := gb) rfl _ _ g2
          rwa [Addr.add_lit, Nat.zero_add] at this
        have p3 : wo.cell? ⟨gb, j * 3 + 2, none⟩ = some (.int .i64 (h.num : Int)) := by
          have := hown2.cells (g := gb) rfl _ _ g3
          rwa [Addr.add_lit, Nat.zero_add] at this
        have i1 : (j : Int) < (K : Int) := by omega
        have hx0 := G.row
        rw [← G.v, ← G.num, ← G.len] at hx0
        have hl0 := hlen j h0 hh0
        rw [← G.len] at hl0
        have hlow : ∀ b, h.v.ownBlock = some b → b < w.heap.size := by
          intro b hb
          rw [G.v] at hb
          obtain ⟨xs, hx⟩ := hlist.own j h0 hh0
          exact (hx.lt _ hb).2
        have HL := Lib.hid hlow
        clear hlow
        have hsz0 := hbut.size
        have hnext : ∀ wi A3 c3, But (fun b => h.v.ownBlock = some b) wo wi → wi.ownsRow base 5 1 (.slice A3 (h.len + 40) c3) (h.len + 40) (List.replicate (h.len + 40) (mk h.num)) → wi.ownsRow base 5 1 h.v h.len (List.replicate h.len (mk h.num)) →
            ((Value.slice A3 (h.len + 40) c3).ownBlock = h.v.ownBlock ∨ ∀ b, (Value.slice A3 (h.len + 40) c3).ownBlock = some b → w.heap.size ≤ b) →
            ∃ hs2, (wi.setCell ⟨gb, j * 3 + 1, none⟩ (.slice A3 (h.len + 40) c3)).ownsRow base 79 3 (.slice (some ⟨gb, 0, none⟩) K cb) K (heldCells hs2) ∧
              GrownTo w (wi.setCell ⟨gb, j * 3 + 1, none⟩ (.slice A3 (h.len + 40) c3)) base hs hs2 (j + 1) ∧ But (fun b => inLists hs b ∨ (Value.slice (some ⟨gb, 0, none⟩) K cb).ownBlock = some b) w (wi.setCell ⟨gb, j * 3 + 1, none⟩ (.slice A3 (h.len + 40) c3)) := by
          intro wi A3 c3 hbi r1 r2 r3
          have howni : wi.ownsRow base 79 3 (.slice (some ⟨gb, 0, none⟩) K cb) K (heldCells hs') := own_kept_but hown2 hbi (by
            intro b hb hb'
            rcases rows_ne (by decide) hx0 hown2 with e0 | e0
            · rw [e0] at hb'; cases hb'
            · exact e0 (hb'.trans hb.symm))
          have off : ∀ v n xs, wi.ownsRow base 5 1 v n xs → (wi.setCell ⟨gb, j * 3 + 1, none⟩ (.slice A3 (h.len + 40) c3)).ownsRow base 5 1 v n xs := by
            intro v n xs hv
            refine hv.kept (grown_set wi gb _ _) ?_
            rcases rows_ne (by decide) hv howni with e0 | e0
            · left; exact e0
            · right; exact e0
          refine ⟨hs'.set j (h.lay A3 (h0.len + 40) c3), ?_, ?_, ?_⟩
          · have := own_setAt (k := j * 3 + 1) (.slice A3 (h.len + 40) c3) howni
            rw [heldCells_set hh, G.len] at this
            rw [G.len]
            exact this
          · rw [G.len, G.num] at r1
            rw [G.v, G.len, G.num] at r2
            rw [G.len, G.v] at r3
            rw [G.len] at off ⊢
            refine HG.out.step hlist hh0 hh A3 c3 (fun v n xs hv hne => off _ _ _ (own_kept_but hv hbi (fun b hb hb' => ?_))) (off _ _ _ r1) (off _ _ _ r2) r3
            rw [G.v] at hb'
            exact hne b hb hb'
          · refine (hbut.trans (hbi.mono (fun b _ hb => .inl ⟨j, h0, hh0, ?_⟩))).set _ _ (fun _ => .inr rfl)
            rw [← G.v]
            exact hb
        have HN := Lib.hid hnext
        clear hnext G g1 g2 g3 hh hh0
        obtain ⟨A, n, c, A2, n2, c2, num⟩ := h
        simp only [Held.v, Held.long] at p1 p2 p3 hx0 hl0
        go_wp2
        have hx1 := hx0.alloc (.cells #[.slice A n c, .slice A2 n2 c2, .int .i64 (num : Int)] 79)
        have hlt0 := hx0.lt
        obtain ⟨wa, hwa⟩ : ∃ wa, wo.alloc (.cells #[.slice A n c, .slice A2 n2 c2, .int .i64 (num : Int)] 79) = wa := ⟨_, rfl⟩
        have hba : But (fun b => (Value.slice A n c).ownBlock = some b) wo wa := by rw [← hwa]; exact (But.refl _ _).alloc _
        have hha : wa.heap[wo.heap.size]? = some (.cells #[.slice A n c, .slice A2 n2 c2, .int .i64 (num : Int)] 79 (0, 0)) := by rw [← hwa]; exact World.alloc_heap_new wo _
        rw [hwa] at hx1 ⊢
        have HH := Lib.hid hha
        clear hwa hha
        have q0 : wa.cell? ⟨wo.heap.size, 0, none⟩ = some (.slice A n c) := by rw [cell_of_row _ _ 0 _ _ (0, 0) HH.out]; rfl
        have hsza := hba.size
        have hwa' : ∀ b, (Value.slice A n c).ownBlock = some b → b < wa.heap.size := fun b hb => by have := (hlt0 b hb).2; omega
        go_wp2
        go_loopw [4, 5] (fun L i wi => ∃ (k : Nat) (A3 : Option Addr) (c3 : Nat), k ≤ 40 ∧ i = .int .i64 (k : Int) ∧ L = .slice A3 (n + k) c3 ∧ Longer base A n c num k wa wi A3 c3) (fun _ i _ => 40 - (intOf i).toNat)
        case atStart => exact ⟨0, A, c, Nat.zero_le _, rfl, rfl, hx1, hx1, But.refl _ _, .inl ⟨rfl, rfl⟩⟩
        case round =>
          obtain ⟨k, A3, c3, hk, rfl, rfl, hlg⟩ := hrel
          have hbi := hlg.2.2.1
          have hhi : wr.heap[wo.heap.size]? = some (.cells #[.slice A n c, .slice A2 n2 c2, .int .i64 (num : Int)] 79 (0, 0)) :=
            (hbi.block _ (Array.getElem?_eq_some_iff.1 HH.out).1 (fun e => by have := (hlt0 _ e).2; omega)).trans HH.out
          have q2 : wr.cell? ⟨wo.heap.size, 2, none⟩ = some (.int .i64 (num : Int)) := by rw [cell_of_row _ _ 2 _ _ (0, 0) hhi]; rfl
          clear hhi
          by_cases hlt2 : k < 40
          · have i2 : (k : Int) < 40 := by omega
            go_wp2_with (first
              | (go_at_call 63; refine (markByte_any num _).mono ?_; rintro e w' ⟨rfl, rfl⟩)
              | (at_builtin; refine wpList_longer _ rfl (.tmp 28) (.tmp 32) rfl base A n c num k wa A3 c3 rfl (hlg.alloc _) hwa' (by omega) (by omega) ⟨wr.heap.size, 0, none⟩ rfl (by simp [mk]) ?_; intro A4 c4 w4 hl4))
            go_roundw
            case rel => exact ⟨k + 1, A4, c4, by omega, by go_num, rfl, hl4⟩
            case measure => simp [intOf]; omega
          · obtain rfl : k = 40 := by omega
            have hb2 := hba.trans hbi
            obtain ⟨hs2, n1, n2', n3⟩ := HN.out wr A3 c3 hb2 hlg.1 hlg.2.1 (by
              rcases hlg.2.2.2 with ⟨e2, _⟩ | ⟨g2, e2, hg2⟩
              · left; rw [e2]; cases A <;> rfl
              · right
                intro b hb
                rw [e2] at hb
                obtain rfl : g2 = b := by simpa [Value.ownBlock] using hb
                omega)
            have hbk3 := hbk2.but hb2 (fun e => hbk2.other (by decide) hx0 e)
            have h3 := hbk3.b
            have hgb3 := (hb2.block gb (Array.getElem?_eq_some_iff.1 hgb).1 (fun e => by
              rcases rows_ne (by decide) hx0 hown2 with e0 | e0
              · rw [e0] at e; cases e
              · exact e0 e)).trans hgb
            obtain ⟨u, hu3⟩ : ∃ u, wr.cell? ⟨gb, j * 3 + 1, none⟩ = some u := ⟨cur[j * 3 + 1]'(by omega), by rw [cell_of_row _ gb _ _ _ (0, 0) hgb3]; exact Array.getElem?_eq_getElem (by omega)⟩
            have hf3 : wr.frozen? ⟨gb, j * 3 + 1, none⟩ = false := frozen_of_row _ gb _ _ _ hgb3
            clear hgb3 hgb htk
            have HN1 := Lib.hid n1
            have HN2 := Lib.hid n2'
            have HN3 := Lib.hid n3
            clear n1 n2' n3 HN
            go_wp2
            go_roundw
            case rel => exact ⟨j + 1, hs2, by omega, by go_num, HN1.out, HN2.out, HN3.out⟩
            case measure => simp [intOf]; omega
    · obtain rfl : j = K := by omega
      go_wp2
      go_end0
      exact ⟨rfl, hs', hown2, HG.out, hbut⟩

end Go.Proofs.YtijiolebcnlfgaaGreatDoor

/-
  The Book of the statements: growSum, whole.
-/
namespace Go.Proofs.YtijiolebcnlfgaaGreatDoor
open Go.RowKit

theorem wpList_build_mark {ops : Array Oper} {rest : List Oper} {o : Oper} {a : Act} {w : World} {Q : Exit → Act → World → Prop} (hg : o.guard = none) (x : Operand) (ho : o.op = .buildSlice 22 1 #[(0, x)])
    (num : Nat) (hx : a.eval x = sv (mark32 num))
    (h : wpList Tryz.prog ops Q rest (a.put o.dst (.slice (some ⟨w.heap.size, 0, none⟩) 1 1)) (w.alloc (.cells (bvs (mark32 num)).toArray 40))) : wpList Tryz.prog ops Q (o :: rest) a w := by
  obtain ⟨i0, hi, hz0, hz1, hz2⟩ := info_parts infoSum
  refine wpList_buildSlice hg 22 40 1 #[(0, x)] ho (bvs (mark32 num)).toArray i0 _ Tryz.underlying22 hi hz0 (by rw [hz1]; decide) (by rw [hz1]; decide) ?_ h
  rw [hz1]
  have e : (#[(0, x)].map fun (i, x) => (i, a.eval x)).toList = [(0, sv (mark32 num))] := by simp [hx]
  rw [e]
  exact fill_mark num

/-- One list, before and behind: it has its marks; when done, so has the longer one. -/
structure GrowAtS (w wr : World) (base : Nat) (h h' : Held) (done : Prop) : Prop where
  v : h'.v = h.v
  num : h'.num = h.num
  len : h'.len = h.len
  row : wr.ownsRow base 40 32 h.v h.len (marks h.len h.num)
  long : done → h'.len2 = h.len + 40 ∧ wr.ownsRow base 40 32 h'.long (h.len + 40) (marks (h.len + 40) h.num) ∧ (h'.long.ownBlock = h.v.ownBlock ∨ ∀ b, h'.long.ownBlock = some b → w.heap.size ≤ b)

def GrownToS (w wr : World) (base : Nat) (hs hs' : List Held) (j : Nat) : Prop :=
  hs'.length = hs.length ∧ ∀ (i : Nat) (h : Held), hs[i]? = some h → ∃ h', hs'[i]? = some h' ∧ GrowAtS w wr base h h' (i < j)

theorem GrownToS.step {w wo wf : World} {base : Nat} {hs hs' : List Held} {j : Nat} {h h' : Held} (hg : GrownToS w wo base hs hs' j) (hlist : ListsS w base hs) (hh : hs[j]? = some h) (hh' : hs'[j]? = some h') (A3 : Option Addr) (c3 : Nat)
    (hkeep : ∀ v n xs, wo.ownsRow base 40 32 v n xs → (∀ b, v.ownBlock = some b → h.v.ownBlock ≠ some b) → wf.ownsRow base 40 32 v n xs)
    (r1 : wf.ownsRow base 40 32 (.slice A3 (h.len + 40) c3) (h.len + 40) (marks (h.len + 40) h.num)) (r2 : wf.ownsRow base 40 32 h.v h.len (marks h.len h.num))
    (r3 : (Value.slice A3 (h.len + 40) c3).ownBlock = h.v.ownBlock ∨ ∀ b, (Value.slice A3 (h.len + 40) c3).ownBlock = some b → w.heap.size ≤ b) : GrownToS w wf base hs (hs'.set j (h'.lay A3 (h.len + 40) c3)) (j + 1) := by
  have hjl : j < hs'.length := (List.getElem?_eq_some_iff.1 hh').1
  refine ⟨by rw [List.length_set]; exact hg.1, fun i k hk => ?_⟩
  obtain ⟨k', hk', G⟩ := hg.2 i k hk
  by_cases e : i = j
  · subst e
    rw [hh] at hk
    cases hk
    rw [hh'] at hk'
    cases hk'
    exact ⟨h'.lay A3 (h.len + 40) c3, by rw [List.getElem?_set_self hjl], G.v, G.num, G.len, r2, fun _ => ⟨rfl, r1, r3⟩⟩
  · have hap : ∀ b, k.v.ownBlock = some b → h.v.ownBlock ≠ some b := by
      intro b hb hb'
      rcases hlist.apart i j k h hk hh e with h0 | h0
      · rw [h0] at hb; cases hb
      · exact h0 (hb.trans hb'.symm)
    refine ⟨k', by rw [List.getElem?_set_ne (Ne.symm e)]; exact hk', G.v, G.num, G.len, hkeep _ _ _ G.row hap, fun hlt => ?_⟩
    obtain ⟨l1, l2, l3⟩ := G.long (by omega)
    refine ⟨l1, hkeep _ _ _ l2 (fun b hb hb' => ?_), l3⟩
    rcases l3 with l3 | l3
    · exact hap b (l3.symm.trans hb) hb'
    · obtain ⟨xs, hx⟩ := hlist.own j h hh
      have h1 := (hx.lt _ hb').2
      have h2 := l3 b hb
      omega

set_option maxRecDepth 100000 in
set_option maxHeartbeats 2000000 in
theorem growSum_any (kb N base K : Nat) (bs ss : Value) (hs : List Held) (w : World) (hbk : BookAt w kb N bs ss) (hown : w.ownsRow base 75 3 ss K (heldCells hs)) (hlist : ListsS w base hs) (hfill : FilledS w base hs K)
    (hK : K ≤ 1000000) (hlen : ∀ (i : Nat) (h : Held), hs[i]? = some h → h.len ≤ 1000000000) (hbase : base ≤ w.heap.size) :
    Calls Tryz.prog 38 #[.pointer (some ⟨kb, 0, none⟩)] w fun e w' => e = .returned (.tuple #[]) ∧
      ∃ hs', w'.ownsRow base 75 3 ss K (heldCells hs') ∧ GrownToS w w' base hs hs' K ∧ But (fun b => inLists hs b ∨ ss.ownBlock = some b) w w' := by
  have hKl : hs.length = K := by have := hown.1; rw [heldCells_length] at this; omega
  have HKl := Lib.hid hKl
  clear hKl
  obtain ⟨Ab, cb, rfl⟩ := own_form3 hown
  have h1 := hbk.s
  have start : GrownToS w w base hs hs 0 := ⟨rfl, fun i h hi => ⟨h, hi, rfl, rfl, rfl, by
    obtain ⟨xs, r1, r2⟩ := hfill i h hi
    rw [← r2 (by have := (List.getElem?_eq_some_iff.1 hi).1; rw [HKl.out] at this; exact this)]
    exact r1, fun e => by omega⟩⟩
  have HS := Lib.hid start
  clear start hfill
  go_enter Tryz.func38, Tryz.ntmps38
  go_wp2
  go_loopw [2] (fun i wr => ∃ (j : Nat) (hs' : List Held), j ≤ K ∧ i = .int .i64 (j : Int) ∧ wr.ownsRow base 75 3 (.slice Ab K cb) K (heldCells hs') ∧ GrownToS w wr base hs hs' j ∧ But (fun b => inLists hs b ∨ (Value.slice Ab K cb).ownBlock = some b) w wr) (fun i _ => K - (intOf i).toNat)
  case atStart => exact ⟨0, hs, Nat.zero_le _, rfl, hown, HS.out, But.refl _ _⟩
  case round =>
    obtain ⟨j, hs', hj, rfl, hown2, hgr, hbut⟩ := hrel
    obtain ⟨wo, rfl⟩ : ∃ wo : World, wo = wr := ⟨_, rfl⟩
    have nokb : ¬ (inLists hs kb ∨ (Value.slice Ab K cb).ownBlock = some kb) := by
      rintro (⟨i, h, hi, he⟩ | he)
      · obtain ⟨xs, hx⟩ := hlist.own i h hi
        exact hbk.other (by decide) hx he
      · exact hbk.other (by decide) hown he
    have hbk2 := hbk.but hbut nokb
    have h2 := hbk2.s
    have HG := Lib.hid hgr
    clear hgr
    by_cases hlt : j < K
    · obtain ⟨h0, hh0⟩ : ∃ h, hs[j]? = some h := ⟨_, List.getElem?_eq_getElem (by rw [HKl.out]; exact hlt)⟩
      obtain ⟨h, hh, G⟩ := HG.out.2 j h0 hh0
      obtain ⟨g1, g2, g3⟩ := heldCells_get hh
      rcases hown2.2 with ⟨e, h0⟩ | ⟨gb, cap, cur, e, hbb, hgb, hle, hm, hsz, htk⟩
      · omega
      · cases e
        have p1 : wo.cell? ⟨gb, j * 3, none⟩ = some h.v := by
          have := hown2.cells (g := gb) rfl _ _ g1
          rwa [Addr.add_lit, Nat.zero_add] at this
        have p2 : wo.cell? ⟨gb, j * 3 + 1, none⟩ = some h.long := by
          have := hown2.cells (g := gb) rfl _ _ g2
          rwa [Addr.add_lit, Nat.zero_add] at this
        have p3 : wo.cell? ⟨gb, j * 3 + 2, none⟩ = some (.int .i64 (h.num : Int)) := by
          have := hown2.cells (g := gb) rfl _ _ g3
          rwa [Addr.add_lit, Nat.zero_add] at this
        have i1 : (j : Int) < (K : Int) := by omega
        have hx0 := G.row
        rw [← G.v, ← G.num, ← G.len] at hx0
        have hl0 := hlen j h0 hh0
        rw [← G.len] at hl0
        have hlow : ∀ b, h.v.ownBlock = some b → b < w.heap.size := by
          intro b hb
          rw [G.v] at hb
          obtain ⟨xs, hx⟩ := hlist.own j h0 hh0
          exact (hx.lt _ hb).2
        have HL := Lib.hid hlow
        clear hlow
        have hsz0 := hbut.size
        have hnext : ∀ wi A3 c3, But (fun b => h.v.ownBlock = some b) wo wi → wi.ownsRow base 40 32 (.slice A3 (h.len + 40) c3) (h.len + 40) (marks (h.len + 40) h.num) → wi.ownsRow base 40 32 h.v h.len (marks h.len h.num) →
            ((Value.slice A3 (h.len + 40) c3).ownBlock = h.v.ownBlock ∨ ∀ b, (Value.slice A3 (h.len + 40) c3).ownBlock = some b → w.heap.size ≤ b) →
            ∃ hs2, (wi.setCell ⟨gb, j * 3 + 1, none⟩ (.slice A3 (h.len + 40) c3)).ownsRow base 75 3 (.slice (some ⟨gb, 0, none⟩) K cb) K (heldCells hs2) ∧
              GrownToS w (wi.setCell ⟨gb, j * 3 + 1, none⟩ (.slice A3 (h.len + 40) c3)) base hs hs2 (j + 1) ∧ But (fun b => inLists hs b ∨ (Value.slice (some ⟨gb, 0, none⟩) K cb).ownBlock = some b) w (wi.setCell ⟨gb, j * 3 + 1, none⟩ (.slice A3 (h.len + 40) c3)) := by
          intro wi A3 c3 hbi r1 r2 r3
          have howni : wi.ownsRow base 75 3 (.slice (some ⟨gb, 0, none⟩) K cb) K (heldCells hs') := own_kept_but hown2 hbi (by
            intro b hb hb'
            rcases rows_ne (by decide) hx0 hown2 with e0 | e0
            · rw [e0] at hb'; cases hb'
            · exact e0 (hb'.trans hb.symm))
          have off : ∀ v n xs, wi.ownsRow base 40 32 v n xs → (wi.setCell ⟨gb, j * 3 + 1, none⟩ (.slice A3 (h.len + 40) c3)).ownsRow base 40 32 v n xs := by
            intro v n xs hv
            refine hv.kept (grown_set wi gb _ _) ?_
            rcases rows_ne (by decide) hv howni with e0 | e0
            · left; exact e0
            · right; exact e0
          refine ⟨hs'.set j (h.lay A3 (h0.len + 40) c3), ?_, ?_, ?_⟩
          · have := own_setAt (k := j * 3 + 1) (.slice A3 (h.len + 40) c3) howni
            rw [heldCells_set hh, G.len] at this
            rw [G.len]
            exact this
          · rw [G.len, G.num] at r1
            rw [G.v, G.len, G.num] at r2
            rw [G.len, G.v] at r3
            rw [G.len] at off ⊢
            refine HG.out.step hlist hh0 hh A3 c3 (fun v n xs hv hne => off _ _ _ (own_kept_but hv hbi (fun b hb hb' => ?_))) (off _ _ _ r1) (off _ _ _ r2) r3
            rw [G.v] at hb'
            exact hne b hb hb'
          · refine (hbut.trans (hbi.mono (fun b _ hb => .inl ⟨j, h0, hh0, ?_⟩))).set _ _ (fun _ => .inr rfl)
            rw [← G.v]
            exact hb
        have HN := Lib.hid hnext
        clear hnext G g1 g2 g3 hh hh0
        obtain ⟨A, n, c, A2, n2, c2, num⟩ := h
        simp only [Held.v, Held.long] at p1 p2 p3 hx0 hl0
        go_wp2
        have hx1 := hx0.alloc (.cells #[.slice A n c, .slice A2 n2 c2, .int .i64 (num : Int)] 75)
        have hlt0 := hx0.lt
        obtain ⟨wa, hwa⟩ : ∃ wa, wo.alloc (.cells #[.slice A n c, .slice A2 n2 c2, .int .i64 (num : Int)] 75) = wa := ⟨_, rfl⟩
        have hba : But (fun b => (Value.slice A n c).ownBlock = some b) wo wa := by rw [← hwa]; exact (But.refl _ _).alloc _
        have hha : wa.heap[wo.heap.size]? = some (.cells #[.slice A n c, .slice A2 n2 c2, .int .i64 (num : Int)] 75 (0, 0)) := by rw [← hwa]; exact World.alloc_heap_new wo _
        rw [hwa] at hx1 ⊢
        have HH := Lib.hid hha
        clear hwa hha
        have q0 : wa.cell? ⟨wo.heap.size, 0, none⟩ = some (.slice A n c) := by rw [cell_of_row _ _ 0 _ _ (0, 0) HH.out]; rfl
        have hsza := hba.size
        have hwa' : ∀ b, (Value.slice A n c).ownBlock = some b → b < wa.heap.size := fun b hb => by have := (hlt0 b hb).2; omega
        go_wp2
        go_loopw [4, 5] (fun L i wi => ∃ (k : Nat) (A3 : Option Addr) (c3 : Nat), k ≤ 40 ∧ i = .int .i64 (k : Int) ∧ L = .slice A3 (n + k) c3 ∧ LongerS base A n c num k wa wi A3 c3) (fun _ i _ => 40 - (intOf i).toNat)
        case atStart => exact ⟨0, A, c, Nat.zero_le _, rfl, rfl, hx1, hx1, But.refl _ _, .inl ⟨rfl, rfl⟩⟩
        case round =>
          obtain ⟨k, A3, c3, hk, rfl, rfl, hlg⟩ := hrel
          have hbi := hlg.2.2.1
          have hhi : wr.heap[wo.heap.size]? = some (.cells #[.slice A n c, .slice A2 n2 c2, .int .i64 (num : Int)] 75 (0, 0)) :=
            (hbi.block _ (Array.getElem?_eq_some_iff.1 HH.out).1 (fun e => by have := (hlt0 _ e).2; omega)).trans HH.out
          have q2 : wr.cell? ⟨wo.heap.size, 2, none⟩ = some (.int .i64 (num : Int)) := by rw [cell_of_row _ _ 2 _ _ (0, 0) hhi]; rfl
          clear hhi
          by_cases hlt2 : k < 40
          · have i2 : (k : Int) < 40 := by omega
            have CM := Lib.hid (markSum_any num wr)
            have HG2 := Lib.hid hlg
            clear hlg hbi
            go_wp2_with fail
            refine CM.out.mono ?_
            rintro e w3 ⟨rfl, hbm⟩
            have HG3 := Lib.hid (HG2.out.below (below_on hbm (Nat.le_refl _) (below_alloc w3 (.cells (bvs (mark32 num)).toArray 40))))
            clear CM hbm
            go_wp2_with (first
              | (with_reducible refine wpList_build_mark rfl (.tmp 31) rfl num rfl ?_)
              | (at_builtin; refine wpList_longerS _ rfl (.tmp 28) (.tmp 32) rfl base A n c num k wa A3 c3 rfl HG3.out hwa' (by omega) (by omega) ⟨w3.heap.size, 0, none⟩ rfl (BArr.new w3 40 (mark32 num)).at_ ?_; intro A4 c4 w4 hl4))
            go_roundw
            case rel => exact ⟨k + 1, A4, c4, by omega, by go_num, rfl, hl4⟩
            case measure => simp [intOf]; omega
          · obtain rfl : k = 40 := by omega
            have hb2 := hba.trans hbi
            obtain ⟨hs2, n1, n2', n3⟩ := HN.out wr A3 c3 hb2 hlg.1 hlg.2.1 (by
              rcases hlg.2.2.2 with ⟨e2, _⟩ | ⟨g2, e2, hg2⟩
              · left; rw [e2]; cases A <;> rfl
              · right
                intro b hb
                rw [e2] at hb
                obtain rfl : g2 = b := by simpa [Value.ownBlock] using hb
                omega)
            have hbk3 := hbk2.but hb2 (fun e => hbk2.other (by decide) hx0 e)
            have h3 := hbk3.s
            have hgb3 := (hb2.block gb (Array.getElem?_eq_some_iff.1 hgb).1 (fun e => by
              rcases rows_ne (by decide) hx0 hown2 with e0 | e0
              · rw [e0] at e; cases e
              · exact e0 e)).trans hgb
            obtain ⟨u, hu3⟩ : ∃ u, wr.cell? ⟨gb, j * 3 + 1, none⟩ = some u := ⟨cur[j * 3 + 1]'(by omega), by rw [cell_of_row _ gb _ _ _ (0, 0) hgb3]; exact Array.getElem?_eq_getElem (by omega)⟩
            have hf3 : wr.frozen? ⟨gb, j * 3 + 1, none⟩ = false := frozen_of_row _ gb _ _ _ hgb3
            clear hgb3 hgb htk
            have HN1 := Lib.hid n1
            have HN2 := Lib.hid n2'
            have HN3 := Lib.hid n3
            clear n1 n2' n3 HN
            go_wp2
            go_roundw
            case rel => exact ⟨j + 1, hs2, by omega, by go_num, HN1.out, HN2.out, HN3.out⟩
            case measure => simp [intOf]; omega
    · obtain rfl : j = K := by omega
      go_wp2
      go_end0
      exact ⟨rfl, hs', hown2, HG.out, hbut⟩

end Go.Proofs.YtijiolebcnlfgaaGreatDoor

/-
  The Book of the statements: lookByte.
-/
namespace Go.Proofs.YtijiolebcnlfgaaGreatDoor
open Go.RowKit

/-- A callee that leaves the world alone, met in a region that only reads. -/
theorem quiet_first {P : Program} {f : FuncId} {args : Array Value} {w : World} {n : Nat} {v : Value} (h : Calls P f args (w.drewN n) fun e w' => e = .returned v ∧ w' = w.drewN n) :
    Calls P f args (w.drewN n) fun e w'' => e = .returned v ∧ ∃ m, w'' = w.drewN m := h.mono fun _ _ ⟨he, hm⟩ => ⟨he, n, hm⟩

theorem But.drewN {S : Nat → Prop} {a w : World} (h : But S a w) (n : Nat) : But S a (w.drewN n) := ⟨h.os, h.tape, h.output, h.size, h.block⟩

set_option maxRecDepth 100000 in
set_option maxHeartbeats 400000 in
theorem isByte_any (num : Nat) (w : World) : Calls Tryz.prog 72 #[mk num, .int .i64 (num : Int)] w fun e w' => e = .returned (.bool true) ∧ w' = w := by
  unfold mk
  go_enter Tryz.func72, Tryz.ntmps72
  go_wp2
  go_ret
  exact ⟨rfl, rfl⟩

theorem own_mark {w : World} {base n m c k : Nat} {A : Option Addr} {u : Value} (h : w.ownsRow base 5 1 (.slice A m c) n (List.replicate n u)) (hk : k < n) : ∃ g, A = some ⟨g, 0, none⟩ ∧ w.cell? ⟨g, k, none⟩ = some u := by
  rcases h.2 with ⟨e, h0⟩ | ⟨g, cap, cur, e, _⟩
  · omega
  · cases e
    refine ⟨g, rfl, ?_⟩
    have := h.cells (g := g) rfl k u (by rw [List.getElem?_replicate, if_pos hk])
    rwa [Addr.add_lit, Nat.zero_add] at this

/-- Each list that is kept, and the longer one, has its marks. -/
def Marked (w : World) (base : Nat) (hs : List Held) : Prop := ∀ (i : Nat) (h : Held), hs[i]? = some h →
  h.len2 = h.len + 40 ∧ w.ownsRow base 5 1 h.v h.len (List.replicate h.len (mk h.num)) ∧ w.ownsRow base 5 1 h.long (h.len + 40) (List.replicate (h.len + 40) (mk h.num)) ∧ h.len ≤ 1000000000

set_option maxRecDepth 100000 in
set_option maxHeartbeats 2000000 in
theorem lookByte_any (kb N base K : Nat) (bs ss : Value) (hs : List Held) (w : World) (hbk : BookAt w kb N bs ss) (hown : w.ownsRow base 79 3 bs K (heldCells hs)) (hmark : Marked w base hs) (hK : K ≤ 1000000) :
    Calls Tryz.prog 43 #[.pointer (some ⟨kb, 0, none⟩)] w fun e w' => e = .returned (.bool true) ∧ But (fun _ => False) w w' := by
  have hKl : hs.length = K := by have := hown.1; rw [heldCells_length] at this; omega
  have HKl := Lib.hid hKl
  have HM := Lib.hid hmark
  clear hKl hmark
  obtain ⟨Ab, cb, rfl⟩ := own_form3 hown
  have h1 := hbk.b
  go_enter Tryz.func43, Tryz.ntmps43
  go_wp2
  go_loopw [3] (fun i wr => ∃ j : Nat, j ≤ K ∧ i = .int .i64 (j : Int) ∧ But (fun _ => False) w wr) (fun i _ => K - (intOf i).toNat)
  case atStart => exact ⟨0, Nat.zero_le _, rfl, But.refl _ _⟩
  case round =>
    obtain ⟨j, hj, rfl, hbut⟩ := hrel
    obtain ⟨wo, rfl⟩ : ∃ wo : World, wo = wr := ⟨_, rfl⟩
    have hbk2 := hbk.but hbut (fun e => e)
    have hown2 := own_kept_but hown hbut (fun _ _ e => e)
    have h2 := hbk2.b
    by_cases hlt : j < K
    · obtain ⟨h, hh⟩ : ∃ h, hs[j]? = some h := ⟨_, List.getElem?_eq_getElem (by rw [HKl.out]; exact hlt)⟩
      obtain ⟨g1, g2, g3⟩ := heldCells_get hh
      obtain ⟨m1, m2, m3, m4⟩ := HM.out j h hh
      rcases hown2.2 with ⟨e, h0⟩ | ⟨gb, cap, cur, e, hbb, hgb, hle, hm, hsz, htk⟩
      · omega
      · cases e
        have p1 : wo.cell? ⟨gb, j * 3, none⟩ = some h.v := by
          have := hown2.cells (g := gb) rfl _ _ g1
          rwa [Addr.add_lit, Nat.zero_add] at this
        have p2 : wo.cell? ⟨gb, j * 3 + 1, none⟩ = some h.long := by
          have := hown2.cells (g := gb) rfl _ _ g2
          rwa [Addr.add_lit, Nat.zero_add] at this
        have p3 : wo.cell? ⟨gb, j * 3 + 2, none⟩ = some (.int .i64 (h.num : Int)) := by
          have := hown2.cells (g := gb) rfl _ _ g3
          rwa [Addr.add_lit, Nat.zero_add] at this
        have i1 : (j : Int) < (K : Int) := by omega
        have hx0 := own_kept_but m2 hbut (fun _ _ e => e)
        have hy0 := own_kept_but m3 hbut (fun _ _ e => e)
        clear m2 m3 g1 g2 g3 hh
        obtain ⟨A, n, c, A2, n2, c2, num⟩ := h
        simp only [Held.v, Held.long] at p1 p2 p3 hx0 hy0 m1 m4
        subst m1
        go_wp2
        obtain ⟨wa, hwa⟩ : ∃ wa, wo.alloc (.cells #[.slice A n c, .slice A2 (n + 40) c2, .int .i64 (num : Int)] 79) = wa := ⟨_, rfl⟩
        have hba : But (fun _ => False) wo wa := by rw [← hwa]; exact (But.refl _ _).alloc _
        have hha : wa.heap[wo.heap.size]? = some (.cells #[.slice A n c, .slice A2 (n + 40) c2, .int .i64 (num : Int)] 79 (0, 0)) := by rw [← hwa]; exact World.alloc_heap_new wo _
        rw [hwa]
        have hx1 := own_kept_but hx0 hba (fun _ _ e => e)
        have hy1 := own_kept_but hy0 hba (fun _ _ e => e)
        have HH := Lib.hid hha
        clear hwa hha
        have q0 : wa.cell? ⟨wo.heap.size, 0, none⟩ = some (.slice A n c) := by rw [cell_of_row _ _ 0 _ _ (0, 0) HH.out]; rfl
        have q1 : wa.cell? ⟨wo.heap.size, 1, none⟩ = some (.slice A2 (n + 40) c2) := by rw [cell_of_row _ _ 1 _ _ (0, 0) HH.out]; rfl
        have i3 : IntKind.i64.wrap ((n : Int) + 40) = (n : Int) + 40 := by rw [IntKind.wrap_i64]; omega
        go_wp2
        go_loopw [5] (fun i wi => ∃ k : Nat, k ≤ n + 40 ∧ i = .int .i64 (k : Int) ∧ But (fun _ => False) wa wi) (fun i _ => n + 40 - (intOf i).toNat)
        case atStart => exact ⟨0, Nat.zero_le _, rfl, But.refl _ _⟩
        case round =>
          obtain ⟨k, hk, rfl, hbi⟩ := hrel
          have hhi : wr.heap[wo.heap.size]? = some (.cells #[.slice A n c, .slice A2 (n + 40) c2, .int .i64 (num : Int)] 79 (0, 0)) :=
            (hbi.block _ (Array.getElem?_eq_some_iff.1 HH.out).1 (fun e => e)).trans HH.out
          have r0 : wr.cell? ⟨wo.heap.size, 0, none⟩ = some (.slice A n c) := by rw [cell_of_row _ _ 0 _ _ (0, 0) hhi]; rfl
          have r1 : wr.cell? ⟨wo.heap.size, 1, none⟩ = some (.slice A2 (n + 40) c2) := by rw [cell_of_row _ _ 1 _ _ (0, 0) hhi]; rfl
          have r2 : wr.cell? ⟨wo.heap.size, 2, none⟩ = some (.int .i64 (num : Int)) := by rw [cell_of_row _ _ 2 _ _ (0, 0) hhi]; rfl
          clear hhi
          have hx2 := own_kept_but hx1 hbi (fun _ _ e => e)
          have hy2 := own_kept_but hy1 hbi (fun _ _ e => e)
          by_cases hlt2 : k < n + 40
          · obtain ⟨gl, rfl, cl⟩ := own_mark hy2 hlt2
            have i2 : (k : Int) < ((n + 40 : Nat) : Int) := by omega
            have C1 := Lib.hid (fun W => isByte_any num W)
            by_cases hin : k < n
            · obtain ⟨gv, rfl, cv⟩ := own_mark hx2 hin
              have i4 : (k : Int) < (n : Int) := by omega
              have i5 : decide ((k : Int) < (n : Int)) = true := by simpa using i4
              go_wp2
              go_quiet ((go_at_call 72; exact quiet_first (C1.out _)))
              go_wp2
              go_roundw
              case rel => exact ⟨k + 1, by omega, by go_num, hbi.drewN _⟩
              case measure => simp [intOf]; omega
            · have i4 : ¬ (k : Int) < (n : Int) := by omega
              have i5 : decide ((k : Int) < (n : Int)) = false := by simpa using i4
              go_wp2
              go_quiet ((go_at_call 72; exact quiet_first (C1.out _)))
              go_wp2
              go_roundw
              case rel => exact ⟨k + 1, by omega, by go_num, hbi.drewN _⟩
              case measure => simp [intOf]; omega
          · obtain rfl : k = n + 40 := by omega
            go_wp2
            go_roundw
            case rel => exact ⟨j + 1, by omega, by go_num, hbut.trans (hba.trans hbi)⟩
            case measure => simp [intOf]; omega
    · obtain rfl : j = K := by omega
      go_wp2
      go_ret
      exact ⟨rfl, hbut⟩

end Go.Proofs.YtijiolebcnlfgaaGreatDoor

/-
  The Book of the statements: lookSum.
-/
namespace Go.Proofs.YtijiolebcnlfgaaGreatDoor
open Go.RowKit

theorem own_markS {w : World} {base n m c k num : Nat} {A : Option Addr} (h : w.ownsRow base 40 32 (.slice A m c) n (marks n num)) (hk : k < n) : ∃ g, A = some ⟨g, 0, none⟩ ∧ At w ⟨g, k * 32, none⟩ (mark32 num) := by
  rcases h.2 with ⟨e, h0⟩ | ⟨g, cap, cur, e, _⟩
  · omega
  · cases e
    refine ⟨g, rfl, fun j x hx => ?_⟩
    have := h.cells (g := g) rfl _ _ (marks_at n num k hk j x hx)
    rw [Addr.add_lit, Nat.zero_add] at this
    rw [Addr.add_mid]
    exact this

/-- Each list that is kept, and the longer one, has its marks. -/
def MarkedS (w : World) (base : Nat) (hs : List Held) : Prop := ∀ (i : Nat) (h : Held), hs[i]? = some h →
  h.len2 = h.len + 40 ∧ w.ownsRow base 40 32 h.v h.len (marks h.len h.num) ∧ w.ownsRow base 40 32 h.long (h.len + 40) (marks (h.len + 40) h.num) ∧ h.len ≤ 1000000000

set_option maxRecDepth 100000 in
set_option maxHeartbeats 8000000 in
theorem lookSum_any (kb N base K : Nat) (bs ss : Value) (hs : List Held) (w : World) (hbk : BookAt w kb N bs ss) (hown : w.ownsRow base 75 3 ss K (heldCells hs)) (hmark : MarkedS w base hs) (hK : K ≤ 1000000) :
    Calls Tryz.prog 47 #[.pointer (some ⟨kb, 0, none⟩)] w fun e w' => e = .returned (.bool true) ∧ But (fun _ => False) w w' := by
  have hKl : hs.length = K := by have := hown.1; rw [heldCells_length] at this; omega
  have HKl := Lib.hid hKl
  have HM := Lib.hid hmark
  clear hKl hmark
  obtain ⟨Ab, cb, rfl⟩ := own_form3 hown
  have h1 := hbk.s
  go_enter Tryz.func47, Tryz.ntmps47
  go_wp2
  go_loopw [3] (fun i wr => ∃ j : Nat, j ≤ K ∧ i = .int .i64 (j : Int) ∧ But (fun _ => False) w wr) (fun i _ => K - (intOf i).toNat)
  case atStart => exact ⟨0, Nat.zero_le _, rfl, But.refl _ _⟩
  case round =>
    obtain ⟨j, hj, rfl, hbut⟩ := hrel
    obtain ⟨wo, rfl⟩ : ∃ wo : World, wo = wr := ⟨_, rfl⟩
    have hbk2 := hbk.but hbut (fun e => e)
    have hown2 := own_kept_but hown hbut (fun _ _ e => e)
    have h2 := hbk2.s
    by_cases hlt : j < K
    · obtain ⟨h, hh⟩ : ∃ h, hs[j]? = some h := ⟨_, List.getElem?_eq_getElem (by rw [HKl.out]; exact hlt)⟩
      obtain ⟨g1, g2, g3⟩ := heldCells_get hh
      obtain ⟨m1, m2, m3, m4⟩ := HM.out j h hh
      rcases hown2.2 with ⟨e, h0⟩ | ⟨gb, cap, cur, e, hbb, hgb, hle, hm, hsz, htk⟩
      · omega
      · cases e
        have p1 : wo.cell? ⟨gb, j * 3, none⟩ = some h.v := by
          have := hown2.cells (g := gb) rfl _ _ g1
          rwa [Addr.add_lit, Nat.zero_add] at this
        have p2 : wo.cell? ⟨gb, j * 3 + 1, none⟩ = some h.long := by
          have := hown2.cells (g := gb) rfl _ _ g2
          rwa [Addr.add_lit, Nat.zero_add] at this
        have p3 : wo.cell? ⟨gb, j * 3 + 2, none⟩ = some (.int .i64 (h.num : Int)) := by
          have := hown2.cells (g := gb) rfl _ _ g3
          rwa [Addr.add_lit, Nat.zero_add] at this
        have i1 : (j : Int) < (K : Int) := by omega
        have hx0 := own_kept_but m2 hbut (fun _ _ e => e)
        have hy0 := own_kept_but m3 hbut (fun _ _ e => e)
        clear m2 m3 g1 g2 g3 hh
        obtain ⟨A, n, c, A2, n2, c2, num⟩ := h
        simp only [Held.v, Held.long] at p1 p2 p3 hx0 hy0 m1 m4
        subst m1
        go_wp2
        obtain ⟨wa, hwa⟩ : ∃ wa, wo.alloc (.cells #[.slice A n c, .slice A2 (n + 40) c2, .int .i64 (num : Int)] 75) = wa := ⟨_, rfl⟩
        have hba : But (fun _ => False) wo wa := by rw [← hwa]; exact (But.refl _ _).alloc _
        have hha : wa.heap[wo.heap.size]? = some (.cells #[.slice A n c, .slice A2 (n + 40) c2, .int .i64 (num : Int)] 75 (0, 0)) := by rw [← hwa]; exact World.alloc_heap_new wo _
        rw [hwa]
        have hx1 := own_kept_but hx0 hba (fun _ _ e => e)
        have hy1 := own_kept_but hy0 hba (fun _ _ e => e)
        have HH := Lib.hid hha
        clear hwa hha
        have q0 : wa.cell? ⟨wo.heap.size, 0, none⟩ = some (.slice A n c) := by rw [cell_of_row _ _ 0 _ _ (0, 0) HH.out]; rfl
        have q1 : wa.cell? ⟨wo.heap.size, 1, none⟩ = some (.slice A2 (n + 40) c2) := by rw [cell_of_row _ _ 1 _ _ (0, 0) HH.out]; rfl
        have i3 : IntKind.i64.wrap ((n : Int) + 40) = (n : Int) + 40 := by rw [IntKind.wrap_i64]; omega
        go_wp2
        go_loopw [5] (fun i wi => ∃ k : Nat, k ≤ n + 40 ∧ i = .int .i64 (k : Int) ∧ But (fun _ => False) wa wi) (fun i _ => n + 40 - (intOf i).toNat)
        case atStart => exact ⟨0, Nat.zero_le _, rfl, But.refl _ _⟩
        case round =>
          obtain ⟨k, hk, rfl, hbi⟩ := hrel
          have hhi : wr.heap[wo.heap.size]? = some (.cells #[.slice A n c, .slice A2 (n + 40) c2, .int .i64 (num : Int)] 75 (0, 0)) :=
            (hbi.block _ (Array.getElem?_eq_some_iff.1 HH.out).1 (fun e => e)).trans HH.out
          have r0 : wr.cell? ⟨wo.heap.size, 0, none⟩ = some (.slice A n c) := by rw [cell_of_row _ _ 0 _ _ (0, 0) hhi]; rfl
          have r1 : wr.cell? ⟨wo.heap.size, 1, none⟩ = some (.slice A2 (n + 40) c2) := by rw [cell_of_row _ _ 1 _ _ (0, 0) hhi]; rfl
          have r2 : wr.cell? ⟨wo.heap.size, 2, none⟩ = some (.int .i64 (num : Int)) := by rw [cell_of_row _ _ 2 _ _ (0, 0) hhi]; rfl
          clear hhi
          have hx2 := own_kept_but hx1 hbi (fun _ _ e => e)
          have hy2 := own_kept_but hy1 hbi (fun _ _ e => e)
          by_cases hlt2 : k < n + 40
          · obtain ⟨gl, rfl, cl⟩ := own_markS hy2 hlt2
            have i2 : (k : Int) < ((n + 40 : Nat) : Int) := by omega
            have CS := Lib.hid (fun (W : World) (_ : Below wr.heap.size wr W) => isSum_any num (mark32 num) rfl W)
            have HB := Lib.hid hbi
            by_cases hin : k < n
            · obtain ⟨gv, rfl, cv⟩ := own_markS hx2 hin
              have i4 : (k : Int) < (n : Int) := by omega
              have HQ := Lib.hid (And.intro r0 (And.intro r1 r2))
              have HA := Lib.hid (And.intro cl cv)
              clear cl cv hbi
              go_wp2
              refine wp_region_quiet (C := fun w' => Below wr.heap.size wr w') (by kernel_rfl) (by kernel_rfl) ((Below.refl _ _).drew) ?_
              with_reducible refine wpQuiet_step (fun K hK => ?_)
              go_simp
              with_reducible refine ⟨_, fun _ _ => rfl, hK _ ?_⟩
              clear hK K
              refine wpQuiet_step (fun K hK => ?_)
              refine quiet_load_cell (by rfl) 22 agg_sums (.tmp 37) rfl ⟨wo.heap.size, 1, none⟩ rfl (.slice (some ⟨gl, 0, none⟩) (n + 40) c2) (fun W hC => (hC.cell (World.block_lt_of_cell? wr _ HQ.out.2.1)).trans HQ.out.2.1) (hK _ ?_)
              clear hK K
              with_reducible refine wpQuiet_step (fun K hK => ?_)
              go_simp
              with_reducible refine ⟨_, fun _ _ => rfl, hK _ ?_⟩
              clear hK K
              with_reducible refine wpQuiet_step (fun K hK => ?_)
              go_simp
              with_reducible refine ⟨_, fun _ _ => rfl, hK _ ?_⟩
              clear hK K
              refine wpQuiet_step (fun K hK => ?_)
              refine quiet_load_sum' (by rfl) (.tmp 40) rfl ⟨gl, k * 32, none⟩ rfl (mark32 num) (mark32_length num) (fun W hC => HA.out.1.below hC) (hK _ ?_)
              clear hK K
              with_reducible refine wpQuiet_step (fun K hK => ?_)
              go_simp
              with_reducible refine ⟨_, fun _ _ => rfl, hK _ ?_⟩
              clear hK K
              refine wpQuiet_step (fun K hK => ?_)
              refine quiet_load_cell (by rfl) 3 agg_int (.tmp 42) rfl ⟨wo.heap.size, 2, none⟩ rfl (.int .i64 (num : Int)) (fun W hC => (hC.cell (World.block_lt_of_cell? wr _ HQ.out.2.2)).trans HQ.out.2.2) (hK _ ?_)
              clear hK K
              refine wpQuiet_step (fun K hK => ?_)
              go_simp
              refine ⟨.bool true, fun W hC => (CS.out W hC).mono fun e w'' ⟨he, hb'⟩ => ⟨he, below_on hC (Nat.le_refl _) hb'⟩, hK _ ?_⟩
              clear hK K
              with_reducible refine wpQuiet_step (fun K hK => ?_)
              go_simp
              with_reducible refine ⟨_, fun _ _ => rfl, hK _ ?_⟩
              clear hK K
              with_reducible refine wpQuiet_step (fun K hK => ?_)
              go_simp
              with_reducible refine ⟨_, fun _ _ => rfl, hK _ ?_⟩
              clear hK K
              with_reducible refine wpQuiet_step (fun K hK => ?_)
              go_simp
              with_reducible refine ⟨_, fun _ _ => rfl, hK _ ?_⟩
              clear hK K
              with_reducible refine wpQuiet_step (fun K hK => ?_)
              go_simp
              with_reducible refine ⟨_, fun _ _ => rfl, hK _ ?_⟩
              clear hK K
              refine wpQuiet_step (fun K hK => ?_)
              refine quiet_load_cell (by rfl) 22 agg_sums (.tmp 48) rfl ⟨wo.heap.size, 0, none⟩ rfl (.slice (some ⟨gv, 0, none⟩) n c) (fun W hC => (hC.cell (World.block_lt_of_cell? wr _ HQ.out.1)).trans HQ.out.1) (hK _ ?_)
              clear hK K
              with_reducible refine wpQuiet_step (fun K hK => ?_)
              go_simp
              with_reducible refine ⟨_, fun _ _ => rfl, hK _ ?_⟩
              clear hK K
              with_reducible refine wpQuiet_step (fun K hK => ?_)
              go_simp
              with_reducible refine ⟨_, fun _ _ => rfl, hK _ ?_⟩
              clear hK K
              with_reducible refine wpQuiet_step (fun K hK => ?_)
              go_simp
              with_reducible refine ⟨_, fun _ _ => rfl, hK _ ?_⟩
              clear hK K
              with_reducible refine wpQuiet_step (fun K hK => ?_)
              go_simp
              with_reducible refine ⟨_, fun _ _ => rfl, hK _ ?_⟩
              clear hK K
              refine wpQuiet_step (fun K hK => ?_)
              refine quiet_load_cell (by rfl) 22 agg_sums (.tmp 53) rfl ⟨wo.heap.size, 0, none⟩ rfl (.slice (some ⟨gv, 0, none⟩) n c) (fun W hC => (hC.cell (World.block_lt_of_cell? wr _ HQ.out.1)).trans HQ.out.1) (hK _ ?_)
              clear hK K
              with_reducible refine wpQuiet_step (fun K hK => ?_)
              go_simp
              with_reducible refine ⟨_, fun _ _ => rfl, hK _ ?_⟩
              clear hK K
              with_reducible refine wpQuiet_step (fun K hK => ?_)
              go_simp
              with_reducible refine ⟨_, fun _ _ => rfl, hK _ ?_⟩
              clear hK K
              refine wpQuiet_step (fun K hK => ?_)
              refine quiet_load_sum' (by rfl) (.tmp 56) rfl ⟨gv, k * 32, none⟩ rfl (mark32 num) (mark32_length num) (fun W hC => HA.out.2.below hC) (hK _ ?_)
              clear hK K
              with_reducible refine wpQuiet_step (fun K hK => ?_)
              go_simp
              with_reducible refine ⟨_, fun _ _ => rfl, hK _ ?_⟩
              clear hK K
              refine wpQuiet_step (fun K hK => ?_)
              refine quiet_load_cell (by rfl) 3 agg_int (.tmp 58) rfl ⟨wo.heap.size, 2, none⟩ rfl (.int .i64 (num : Int)) (fun W hC => (hC.cell (World.block_lt_of_cell? wr _ HQ.out.2.2)).trans HQ.out.2.2) (hK _ ?_)
              clear hK K
              refine wpQuiet_step (fun K hK => ?_)
              go_simp
              refine ⟨.bool true, fun W hC => (CS.out W hC).mono fun e w'' ⟨he, hb'⟩ => ⟨he, below_on hC (Nat.le_refl _) hb'⟩, hK _ ?_⟩
              clear hK K
              with_reducible refine wpQuiet_step (fun K hK => ?_)
              go_simp
              with_reducible refine ⟨_, fun _ _ => rfl, hK _ ?_⟩
              clear hK K
              with_reducible refine wpQuiet_step (fun K hK => ?_)
              go_simp
              with_reducible refine ⟨_, fun _ _ => rfl, hK _ ?_⟩
              clear hK K
              with_reducible refine wpQuiet_step (fun K hK => ?_)
              go_simp
              with_reducible refine ⟨_, fun _ _ => rfl, hK _ ?_⟩
              clear hK K
              with_reducible refine wpQuiet_nil ?_
              intro w6 hb6
              go_wp2
              go_roundw
              case rel => exact ⟨k + 1, by omega, by go_num, HB.out.trans (But.of_below hb6)⟩
              case measure => simp [intOf]; omega
            · have i3n : ¬ (k : Int) < (n : Int) := by omega
              have i4 : decide ((k : Int) < (n : Int)) = false := by simpa using i3n
              have HQ := Lib.hid (And.intro r0 (And.intro r1 r2))
              have HA := Lib.hid (And.intro cl True.intro)
              clear cl hbi
              go_wp2
              refine wp_region_quiet (C := fun w' => Below wr.heap.size wr w') (by kernel_rfl) (by kernel_rfl) ((Below.refl _ _).drew) ?_
              with_reducible refine wpQuiet_step (fun K hK => ?_)
              go_simp
              with_reducible refine ⟨_, fun _ _ => rfl, hK _ ?_⟩
              clear hK K
              refine wpQuiet_step (fun K hK => ?_)
              refine quiet_load_cell (by rfl) 22 agg_sums (.tmp 37) rfl ⟨wo.heap.size, 1, none⟩ rfl (.slice (some ⟨gl, 0, none⟩) (n + 40) c2) (fun W hC => (hC.cell (World.block_lt_of_cell? wr _ HQ.out.2.1)).trans HQ.out.2.1) (hK _ ?_)
              clear hK K
              with_reducible refine wpQuiet_step (fun K hK => ?_)
              go_simp
              with_reducible refine ⟨_, fun _ _ => rfl, hK _ ?_⟩
              clear hK K
              with_reducible refine wpQuiet_step (fun K hK => ?_)
              go_simp
              with_reducible refine ⟨_, fun _ _ => rfl, hK _ ?_⟩
              clear hK K
              refine wpQuiet_step (fun K hK => ?_)
              refine quiet_load_sum' (by rfl) (.tmp 40) rfl ⟨gl, k * 32, none⟩ rfl (mark32 num) (mark32_length num) (fun W hC => HA.out.1.below hC) (hK _ ?_)
              clear hK K
              with_reducible refine wpQuiet_step (fun K hK => ?_)
              go_simp
              with_reducible refine ⟨_, fun _ _ => rfl, hK _ ?_⟩
              clear hK K
              refine wpQuiet_step (fun K hK => ?_)
              refine quiet_load_cell (by rfl) 3 agg_int (.tmp 42) rfl ⟨wo.heap.size, 2, none⟩ rfl (.int .i64 (num : Int)) (fun W hC => (hC.cell (World.block_lt_of_cell? wr _ HQ.out.2.2)).trans HQ.out.2.2) (hK _ ?_)
              clear hK K
              refine wpQuiet_step (fun K hK => ?_)
              go_simp
              refine ⟨.bool true, fun W hC => (CS.out W hC).mono fun e w'' ⟨he, hb'⟩ => ⟨he, below_on hC (Nat.le_refl _) hb'⟩, hK _ ?_⟩
              clear hK K
              with_reducible refine wpQuiet_step (fun K hK => ?_)
              go_simp
              with_reducible refine ⟨_, fun _ _ => rfl, hK _ ?_⟩
              clear hK K
              with_reducible refine wpQuiet_step (fun K hK => ?_)
              go_simp
              with_reducible refine ⟨_, fun _ _ => rfl, hK _ ?_⟩
              clear hK K
              with_reducible refine wpQuiet_step (fun K hK => ?_)
              go_simp
              with_reducible refine ⟨_, fun _ _ => rfl, hK _ ?_⟩
              clear hK K
              with_reducible refine wpQuiet_step (fun K hK => ?_)
              go_simp
              with_reducible refine ⟨_, fun _ _ => rfl, hK _ ?_⟩
              clear hK K
              refine wpQuiet_step (fun K hK => ?_)
              refine quiet_load_cell (by rfl) 22 agg_sums (.tmp 48) rfl ⟨wo.heap.size, 0, none⟩ rfl (.slice A n c) (fun W hC => (hC.cell (World.block_lt_of_cell? wr _ HQ.out.1)).trans HQ.out.1) (hK _ ?_)
              clear hK K
              with_reducible refine wpQuiet_step (fun K hK => ?_)
              go_simp
              with_reducible refine ⟨_, fun _ _ => rfl, hK _ ?_⟩
              clear hK K
              with_reducible refine wpQuiet_step (fun K hK => ?_)
              go_simp
              with_reducible refine ⟨_, fun _ _ => rfl, hK _ ?_⟩
              clear hK K
              with_reducible refine wpQuiet_step (fun K hK => ?_)
              go_simp
              with_reducible refine ⟨_, fun _ _ => rfl, hK _ ?_⟩
              clear hK K
              with_reducible refine wpQuiet_step (fun K hK => ?_)
              go_simp
              with_reducible refine hK _ ?_
              clear hK K
              with_reducible refine wpQuiet_step (fun K hK => ?_)
              go_simp
              with_reducible refine hK _ ?_
              clear hK K
              with_reducible refine wpQuiet_step (fun K hK => ?_)
              go_simp
              with_reducible refine hK _ ?_
              clear hK K
              with_reducible refine wpQuiet_step (fun K hK => ?_)
              go_simp
              with_reducible refine hK _ ?_
              clear hK K
              with_reducible refine wpQuiet_step (fun K hK => ?_)
              go_simp
              with_reducible refine hK _ ?_
              clear hK K
              with_reducible refine wpQuiet_step (fun K hK => ?_)
              go_simp
              with_reducible refine hK _ ?_
              clear hK K
              with_reducible refine wpQuiet_step (fun K hK => ?_)
              go_simp
              with_reducible refine hK _ ?_
              clear hK K
              with_reducible refine wpQuiet_step (fun K hK => ?_)
              go_simp
              with_reducible refine hK _ ?_
              clear hK K
              with_reducible refine wpQuiet_step (fun K hK => ?_)
              go_simp
              with_reducible refine hK _ ?_
              clear hK K
              with_reducible refine wpQuiet_step (fun K hK => ?_)
              go_simp
              with_reducible refine ⟨_, fun _ _ => rfl, hK _ ?_⟩
              clear hK K
              with_reducible refine wpQuiet_step (fun K hK => ?_)
              go_simp
              with_reducible refine ⟨_, fun _ _ => rfl, hK _ ?_⟩
              clear hK K
              with_reducible refine wpQuiet_nil ?_
              intro w6 hb6
              go_wp2
              go_roundw
              case rel => exact ⟨k + 1, by omega, by go_num, HB.out.trans (But.of_below hb6)⟩
              case measure => simp [intOf]; omega
          · obtain rfl : k = n + 40 := by omega
            go_wp2
            go_roundw
            case rel => exact ⟨j + 1, by omega, by go_num, hbut.trans (hba.trans hbi)⟩
            case measure => simp [intOf]; omega
    · obtain rfl : j = K := by omega
      go_wp2
      go_ret
      exact ⟨rfl, hbut⟩

end Go.Proofs.YtijiolebcnlfgaaGreatDoor

/-
  The Book of the statements: the kinds of which it keeps no list.
-/
namespace Go.Proofs.YtijiolebcnlfgaaGreatDoor
open Go.RowKit

theorem BookAt.noneInt {w : World} {kb N : Nat} {bs ss : Value} (h : BookAt w kb N bs ss) : w.cell? ⟨kb, 2, none⟩ = some (.slice none 0 0) := by rw [cell_of_row _ kb 2 _ _ (0, 0) h]; rfl

theorem BookAt.noneText {w : World} {kb N : Nat} {bs ss : Value} (h : BookAt w kb N bs ss) : w.cell? ⟨kb, 3, none⟩ = some (.slice none 0 0) := by rw [cell_of_row _ kb 3 _ _ (0, 0) h]; rfl

theorem BookAt.noneByteList {w : World} {kb N : Nat} {bs ss : Value} (h : BookAt w kb N bs ss) : w.cell? ⟨kb, 4, none⟩ = some (.slice none 0 0) := by rw [cell_of_row _ kb 4 _ _ (0, 0) h]; rfl

theorem BookAt.nonePair {w : World} {kb N : Nat} {bs ss : Value} (h : BookAt w kb N bs ss) : w.cell? ⟨kb, 6, none⟩ = some (.slice none 0 0) := by rw [cell_of_row _ kb 6 _ _ (0, 0) h]; rfl

theorem BookAt.noneTenant {w : World} {kb N : Nat} {bs ss : Value} (h : BookAt w kb N bs ss) : w.cell? ⟨kb, 7, none⟩ = some (.slice none 0 0) := by rw [cell_of_row _ kb 7 _ _ (0, 0) h]; rfl

theorem BookAt.noneLease {w : World} {kb N : Nat} {bs ss : Value} (h : BookAt w kb N bs ss) : w.cell? ⟨kb, 8, none⟩ = some (.slice none 0 0) := by rw [cell_of_row _ kb 8 _ _ (0, 0) h]; rfl

theorem BookAt.noneEvent {w : World} {kb N : Nat} {bs ss : Value} (h : BookAt w kb N bs ss) : w.cell? ⟨kb, 9, none⟩ = some (.slice none 0 0) := by rw [cell_of_row _ kb 9 _ _ (0, 0) h]; rfl

set_option maxRecDepth 100000 in
set_option maxHeartbeats 400000 in
theorem fillInt_nil {kb N : Nat} {bs ss : Value} {w : World} (hbk : BookAt w kb N bs ss) : Calls Tryz.prog 26 #[.pointer (some ⟨kb, 0, none⟩)] w fun e w' => e = .returned (.tuple #[]) ∧ w' = w := by
  have hc := hbk.noneInt
  clear hbk
  go_enter Tryz.func26, Tryz.ntmps26
  go_wp2
  go_loopw [2] (fun i wr => i = .int .i64 0 ∧ wr = w) (fun _ _ => 0)
  case atStart => exact ⟨rfl, rfl⟩
  case round =>
    obtain ⟨rfl, rfl⟩ := hrel
    go_wp2
    go_end0
    exact ⟨rfl, rfl⟩

set_option maxRecDepth 100000 in
set_option maxHeartbeats 400000 in
theorem growInt_nil {kb N : Nat} {bs ss : Value} {w : World} (hbk : BookAt w kb N bs ss) : Calls Tryz.prog 35 #[.pointer (some ⟨kb, 0, none⟩)] w fun e w' => e = .returned (.tuple #[]) ∧ w' = w := by
  have hc := hbk.noneInt
  clear hbk
  go_enter Tryz.func35, Tryz.ntmps35
  go_wp2
  go_loopw [2] (fun i wr => i = .int .i64 0 ∧ wr = w) (fun _ _ => 0)
  case atStart => exact ⟨rfl, rfl⟩
  case round =>
    obtain ⟨rfl, rfl⟩ := hrel
    go_wp2
    go_end0
    exact ⟨rfl, rfl⟩

set_option maxRecDepth 100000 in
set_option maxHeartbeats 400000 in
theorem lookInt_nil {kb N : Nat} {bs ss : Value} {w : World} (hbk : BookAt w kb N bs ss) : Calls Tryz.prog 44 #[.pointer (some ⟨kb, 0, none⟩)] w fun e w' => e = .returned (.bool true) ∧ w' = w := by
  have hc := hbk.noneInt
  clear hbk
  go_enter Tryz.func44, Tryz.ntmps44
  go_wp2
  go_loopw [3] (fun i wr => i = .int .i64 0 ∧ wr = w) (fun _ _ => 0)
  case atStart => exact ⟨rfl, rfl⟩
  case round =>
    obtain ⟨rfl, rfl⟩ := hrel
    go_wp2
    go_ret
    exact ⟨rfl, rfl⟩

set_option maxRecDepth 100000 in
set_option maxHeartbeats 400000 in
theorem fillText_nil {kb N : Nat} {bs ss : Value} {w : World} (hbk : BookAt w kb N bs ss) : Calls Tryz.prog 27 #[.pointer (some ⟨kb, 0, none⟩)] w fun e w' => e = .returned (.tuple #[]) ∧ w' = w := by
  have hc := hbk.noneText
  clear hbk
  go_enter Tryz.func27, Tryz.ntmps27
  go_wp2
  go_loopw [2] (fun i wr => i = .int .i64 0 ∧ wr = w) (fun _ _ => 0)
  case atStart => exact ⟨rfl, rfl⟩
  case round =>
    obtain ⟨rfl, rfl⟩ := hrel
    go_wp2
    go_end0
    exact ⟨rfl, rfl⟩

set_option maxRecDepth 100000 in
set_option maxHeartbeats 400000 in
theorem growText_nil {kb N : Nat} {bs ss : Value} {w : World} (hbk : BookAt w kb N bs ss) : Calls Tryz.prog 36 #[.pointer (some ⟨kb, 0, none⟩)] w fun e w' => e = .returned (.tuple #[]) ∧ w' = w := by
  have hc := hbk.noneText
  clear hbk
  go_enter Tryz.func36, Tryz.ntmps36
  go_wp2
  go_loopw [2] (fun i wr => i = .int .i64 0 ∧ wr = w) (fun _ _ => 0)
  case atStart => exact ⟨rfl, rfl⟩
  case round =>
    obtain ⟨rfl, rfl⟩ := hrel
    go_wp2
    go_end0
    exact ⟨rfl, rfl⟩

set_option maxRecDepth 100000 in
set_option maxHeartbeats 400000 in
theorem lookText_nil {kb N : Nat} {bs ss : Value} {w : World} (hbk : BookAt w kb N bs ss) : Calls Tryz.prog 45 #[.pointer (some ⟨kb, 0, none⟩)] w fun e w' => e = .returned (.bool true) ∧ w' = w := by
  have hc := hbk.noneText
  clear hbk
  go_enter Tryz.func45, Tryz.ntmps45
  go_wp2
  go_loopw [3] (fun i wr => i = .int .i64 0 ∧ wr = w) (fun _ _ => 0)
  case atStart => exact ⟨rfl, rfl⟩
  case round =>
    obtain ⟨rfl, rfl⟩ := hrel
    go_wp2
    go_ret
    exact ⟨rfl, rfl⟩

set_option maxRecDepth 100000 in
set_option maxHeartbeats 400000 in
theorem fillByteList_nil {kb N : Nat} {bs ss : Value} {w : World} (hbk : BookAt w kb N bs ss) : Calls Tryz.prog 28 #[.pointer (some ⟨kb, 0, none⟩)] w fun e w' => e = .returned (.tuple #[]) ∧ w' = w := by
  have hc := hbk.noneByteList
  clear hbk
  go_enter Tryz.func28, Tryz.ntmps28
  go_wp2
  go_loopw [2] (fun i wr => i = .int .i64 0 ∧ wr = w) (fun _ _ => 0)
  case atStart => exact ⟨rfl, rfl⟩
  case round =>
    obtain ⟨rfl, rfl⟩ := hrel
    go_wp2
    go_end0
    exact ⟨rfl, rfl⟩

set_option maxRecDepth 100000 in
set_option maxHeartbeats 400000 in
theorem growByteList_nil {kb N : Nat} {bs ss : Value} {w : World} (hbk : BookAt w kb N bs ss) : Calls Tryz.prog 37 #[.pointer (some ⟨kb, 0, none⟩)] w fun e w' => e = .returned (.tuple #[]) ∧ w' = w := by
  have hc := hbk.noneByteList
  clear hbk
  go_enter Tryz.func37, Tryz.ntmps37
  go_wp2
  go_loopw [2] (fun i wr => i = .int .i64 0 ∧ wr = w) (fun _ _ => 0)
  case atStart => exact ⟨rfl, rfl⟩
  case round =>
    obtain ⟨rfl, rfl⟩ := hrel
    go_wp2
    go_end0
    exact ⟨rfl, rfl⟩

set_option maxRecDepth 100000 in
set_option maxHeartbeats 400000 in
theorem lookByteList_nil {kb N : Nat} {bs ss : Value} {w : World} (hbk : BookAt w kb N bs ss) : Calls Tryz.prog 46 #[.pointer (some ⟨kb, 0, none⟩)] w fun e w' => e = .returned (.bool true) ∧ w' = w := by
  have hc := hbk.noneByteList
  clear hbk
  go_enter Tryz.func46, Tryz.ntmps46
  go_wp2
  go_loopw [3] (fun i wr => i = .int .i64 0 ∧ wr = w) (fun _ _ => 0)
  case atStart => exact ⟨rfl, rfl⟩
  case round =>
    obtain ⟨rfl, rfl⟩ := hrel
    go_wp2
    go_ret
    exact ⟨rfl, rfl⟩

set_option maxRecDepth 100000 in
set_option maxHeartbeats 400000 in
theorem fillPair_nil {kb N : Nat} {bs ss : Value} {w : World} (hbk : BookAt w kb N bs ss) : Calls Tryz.prog 30 #[.pointer (some ⟨kb, 0, none⟩)] w fun e w' => e = .returned (.tuple #[]) ∧ w' = w := by
  have hc := hbk.nonePair
  clear hbk
  go_enter Tryz.func30, Tryz.ntmps30
  go_wp2
  go_loopw [2] (fun i wr => i = .int .i64 0 ∧ wr = w) (fun _ _ => 0)
  case atStart => exact ⟨rfl, rfl⟩
  case round =>
    obtain ⟨rfl, rfl⟩ := hrel
    go_wp2
    go_end0
    exact ⟨rfl, rfl⟩

set_option maxRecDepth 100000 in
set_option maxHeartbeats 400000 in
theorem growPair_nil {kb N : Nat} {bs ss : Value} {w : World} (hbk : BookAt w kb N bs ss) : Calls Tryz.prog 39 #[.pointer (some ⟨kb, 0, none⟩)] w fun e w' => e = .returned (.tuple #[]) ∧ w' = w := by
  have hc := hbk.nonePair
  clear hbk
  go_enter Tryz.func39, Tryz.ntmps39
  go_wp2
  go_loopw [2] (fun i wr => i = .int .i64 0 ∧ wr = w) (fun _ _ => 0)
  case atStart => exact ⟨rfl, rfl⟩
  case round =>
    obtain ⟨rfl, rfl⟩ := hrel
    go_wp2
    go_end0
    exact ⟨rfl, rfl⟩

set_option maxRecDepth 100000 in
set_option maxHeartbeats 400000 in
theorem lookPair_nil {kb N : Nat} {bs ss : Value} {w : World} (hbk : BookAt w kb N bs ss) : Calls Tryz.prog 48 #[.pointer (some ⟨kb, 0, none⟩)] w fun e w' => e = .returned (.bool true) ∧ w' = w := by
  have hc := hbk.nonePair
  clear hbk
  go_enter Tryz.func48, Tryz.ntmps48
  go_wp2
  go_loopw [3] (fun i wr => i = .int .i64 0 ∧ wr = w) (fun _ _ => 0)
  case atStart => exact ⟨rfl, rfl⟩
  case round =>
    obtain ⟨rfl, rfl⟩ := hrel
    go_wp2
    go_ret
    exact ⟨rfl, rfl⟩

set_option maxRecDepth 100000 in
set_option maxHeartbeats 400000 in
theorem fillTenant_nil {kb N : Nat} {bs ss : Value} {w : World} (hbk : BookAt w kb N bs ss) : Calls Tryz.prog 31 #[.pointer (some ⟨kb, 0, none⟩)] w fun e w' => e = .returned (.tuple #[]) ∧ w' = w := by
  have hc := hbk.noneTenant
  clear hbk
  go_enter Tryz.func31, Tryz.ntmps31
  go_wp2
  go_loopw [2] (fun i wr => i = .int .i64 0 ∧ wr = w) (fun _ _ => 0)
  case atStart => exact ⟨rfl, rfl⟩
  case round =>
    obtain ⟨rfl, rfl⟩ := hrel
    go_wp2
    go_end0
    exact ⟨rfl, rfl⟩

set_option maxRecDepth 100000 in
set_option maxHeartbeats 400000 in
theorem growTenant_nil {kb N : Nat} {bs ss : Value} {w : World} (hbk : BookAt w kb N bs ss) : Calls Tryz.prog 40 #[.pointer (some ⟨kb, 0, none⟩)] w fun e w' => e = .returned (.tuple #[]) ∧ w' = w := by
  have hc := hbk.noneTenant
  clear hbk
  go_enter Tryz.func40, Tryz.ntmps40
  go_wp2
  go_loopw [2] (fun i wr => i = .int .i64 0 ∧ wr = w) (fun _ _ => 0)
  case atStart => exact ⟨rfl, rfl⟩
  case round =>
    obtain ⟨rfl, rfl⟩ := hrel
    go_wp2
    go_end0
    exact ⟨rfl, rfl⟩

set_option maxRecDepth 100000 in
set_option maxHeartbeats 400000 in
theorem lookTenant_nil {kb N : Nat} {bs ss : Value} {w : World} (hbk : BookAt w kb N bs ss) : Calls Tryz.prog 49 #[.pointer (some ⟨kb, 0, none⟩)] w fun e w' => e = .returned (.bool true) ∧ w' = w := by
  have hc := hbk.noneTenant
  clear hbk
  go_enter Tryz.func49, Tryz.ntmps49
  go_wp2
  go_loopw [3] (fun i wr => i = .int .i64 0 ∧ wr = w) (fun _ _ => 0)
  case atStart => exact ⟨rfl, rfl⟩
  case round =>
    obtain ⟨rfl, rfl⟩ := hrel
    go_wp2
    go_ret
    exact ⟨rfl, rfl⟩

set_option maxRecDepth 100000 in
set_option maxHeartbeats 400000 in
theorem fillLease_nil {kb N : Nat} {bs ss : Value} {w : World} (hbk : BookAt w kb N bs ss) : Calls Tryz.prog 32 #[.pointer (some ⟨kb, 0, none⟩)] w fun e w' => e = .returned (.tuple #[]) ∧ w' = w := by
  have hc := hbk.noneLease
  clear hbk
  go_enter Tryz.func32, Tryz.ntmps32
  go_wp2
  go_loopw [2] (fun i wr => i = .int .i64 0 ∧ wr = w) (fun _ _ => 0)
  case atStart => exact ⟨rfl, rfl⟩
  case round =>
    obtain ⟨rfl, rfl⟩ := hrel
    go_wp2
    go_end0
    exact ⟨rfl, rfl⟩

set_option maxRecDepth 100000 in
set_option maxHeartbeats 400000 in
theorem growLease_nil {kb N : Nat} {bs ss : Value} {w : World} (hbk : BookAt w kb N bs ss) : Calls Tryz.prog 41 #[.pointer (some ⟨kb, 0, none⟩)] w fun e w' => e = .returned (.tuple #[]) ∧ w' = w := by
  have hc := hbk.noneLease
  clear hbk
  go_enter Tryz.func41, Tryz.ntmps41
  go_wp2
  go_loopw [2] (fun i wr => i = .int .i64 0 ∧ wr = w) (fun _ _ => 0)
  case atStart => exact ⟨rfl, rfl⟩
  case round =>
    obtain ⟨rfl, rfl⟩ := hrel
    go_wp2
    go_end0
    exact ⟨rfl, rfl⟩

set_option maxRecDepth 100000 in
set_option maxHeartbeats 400000 in
theorem lookLease_nil {kb N : Nat} {bs ss : Value} {w : World} (hbk : BookAt w kb N bs ss) : Calls Tryz.prog 50 #[.pointer (some ⟨kb, 0, none⟩)] w fun e w' => e = .returned (.bool true) ∧ w' = w := by
  have hc := hbk.noneLease
  clear hbk
  go_enter Tryz.func50, Tryz.ntmps50
  go_wp2
  go_loopw [3] (fun i wr => i = .int .i64 0 ∧ wr = w) (fun _ _ => 0)
  case atStart => exact ⟨rfl, rfl⟩
  case round =>
    obtain ⟨rfl, rfl⟩ := hrel
    go_wp2
    go_ret
    exact ⟨rfl, rfl⟩

set_option maxRecDepth 100000 in
set_option maxHeartbeats 400000 in
theorem fillEvent_nil {kb N : Nat} {bs ss : Value} {w : World} (hbk : BookAt w kb N bs ss) : Calls Tryz.prog 33 #[.pointer (some ⟨kb, 0, none⟩)] w fun e w' => e = .returned (.tuple #[]) ∧ w' = w := by
  have hc := hbk.noneEvent
  clear hbk
  go_enter Tryz.func33, Tryz.ntmps33
  go_wp2
  go_loopw [2] (fun i wr => i = .int .i64 0 ∧ wr = w) (fun _ _ => 0)
  case atStart => exact ⟨rfl, rfl⟩
  case round =>
    obtain ⟨rfl, rfl⟩ := hrel
    go_wp2
    go_end0
    exact ⟨rfl, rfl⟩

set_option maxRecDepth 100000 in
set_option maxHeartbeats 400000 in
theorem growEvent_nil {kb N : Nat} {bs ss : Value} {w : World} (hbk : BookAt w kb N bs ss) : Calls Tryz.prog 42 #[.pointer (some ⟨kb, 0, none⟩)] w fun e w' => e = .returned (.tuple #[]) ∧ w' = w := by
  have hc := hbk.noneEvent
  clear hbk
  go_enter Tryz.func42, Tryz.ntmps42
  go_wp2
  go_loopw [2] (fun i wr => i = .int .i64 0 ∧ wr = w) (fun _ _ => 0)
  case atStart => exact ⟨rfl, rfl⟩
  case round =>
    obtain ⟨rfl, rfl⟩ := hrel
    go_wp2
    go_end0
    exact ⟨rfl, rfl⟩

set_option maxRecDepth 100000 in
set_option maxHeartbeats 400000 in
theorem lookEvent_nil {kb N : Nat} {bs ss : Value} {w : World} (hbk : BookAt w kb N bs ss) : Calls Tryz.prog 51 #[.pointer (some ⟨kb, 0, none⟩)] w fun e w' => e = .returned (.bool true) ∧ w' = w := by
  have hc := hbk.noneEvent
  clear hbk
  go_enter Tryz.func51, Tryz.ntmps51
  go_wp2
  go_loopw [3] (fun i wr => i = .int .i64 0 ∧ wr = w) (fun _ _ => 0)
  case atStart => exact ⟨rfl, rfl⟩
  case round =>
    obtain ⟨rfl, rfl⟩ := hrel
    go_wp2
    go_ret
    exact ⟨rfl, rfl⟩

end Go.Proofs.YtijiolebcnlfgaaGreatDoor

/-
  The Book of the statements: Apart: no list shares memory with another one.
-/
namespace Go.Proofs.YtijiolebcnlfgaaGreatDoor
open Go.RowKit

theorem nil_same {P : Program} {f : FuncId} {args : Array Value} {w : World} {v : Value} (h : Calls P f args w fun e w' => e = .returned v ∧ w' = w) : Calls P f args w fun e w' => e = .returned v ∧ w = w' := h.mono fun _ _ ⟨h1, h2⟩ => ⟨h1, h2.symm⟩

/-- A Book whose lists are rows of the call's own, no two of which share a block. -/
structure Kept2 (w : World) (base kb N : Nat) (bs ss : Value) (K1 K2 : Nat) (h1 h2 : List Held) : Prop where
  book : BookAt w kb N bs ss
  own1 : w.ownsRow base 79 3 bs K1 (heldCells h1)
  own2 : w.ownsRow base 75 3 ss K2 (heldCells h2)
  lists1 : Lists w base h1
  lists2 : ListsS w base h2
  le1 : K1 ≤ 1000000
  le2 : K2 ≤ 1000000
  len1 : ∀ (i : Nat) (h : Held), h1[i]? = some h → h.len ≤ 1000000000
  len2 : ∀ (i : Nat) (h : Held), h2[i]? = some h → h.len ≤ 1000000000
  kb : base ≤ kb
  base : base ≤ w.heap.size

theorem inLists_ge {w : World} {base : Nat} {hs : List Held} (h : Lists w base hs) : ∀ b, inLists hs b → base ≤ b := by
  rintro b ⟨i, k, hk, hb⟩
  obtain ⟨xs, hx⟩ := h.own i k hk
  exact (hx.lt b hb).1
theorem inListsS_ge {w : World} {base : Nat} {hs : List Held} (h : ListsS w base hs) : ∀ b, inLists hs b → base ≤ b := by
  rintro b ⟨i, k, hk, hb⟩
  obtain ⟨xs, hx⟩ := h.own i k hk
  exact (hx.lt b hb).1

/-- A row of another element type than the lists' is no list's. -/
theorem not_in {w : World} {base b2 : Nat} {hs : List Held} {e : TypeId} {s n : Nat} {v : Value} {xs : List Value} (h : Lists w base hs) (he : 5 ≠ e) (hv : w.ownsRow b2 e s v n xs) : ∀ b, v.ownBlock = some b → ¬ inLists hs b := by
  rintro b hb ⟨i, k, hk, hb'⟩
  obtain ⟨ys, hy⟩ := h.own i k hk
  rcases rows_ne he hy hv with e0 | e0
  · rw [e0] at hb'; cases hb'
  · exact e0 (hb'.trans hb.symm)
theorem not_inS {w : World} {base b2 : Nat} {hs : List Held} {e : TypeId} {s n : Nat} {v : Value} {xs : List Value} (h : ListsS w base hs) (he : 40 ≠ e) (hv : w.ownsRow b2 e s v n xs) : ∀ b, v.ownBlock = some b → ¬ inLists hs b := by
  rintro b hb ⟨i, k, hk, hb'⟩
  obtain ⟨ys, hy⟩ := h.own i k hk
  rcases rows_ne he hy hv with e0 | e0
  · rw [e0] at hb'; cases hb'
  · exact e0 (hb'.trans hb.symm)
theorem book_not_in {w : World} {base kb N : Nat} {bs ss : Value} {hs : List Held} (h : Lists w base hs) (hb : BookAt w kb N bs ss) : ¬ inLists hs kb := by
  rintro ⟨i, k, hk, hb'⟩
  obtain ⟨ys, hy⟩ := h.own i k hk
  exact hb.other (by decide) hy hb'
theorem book_not_inS {w : World} {base kb N : Nat} {bs ss : Value} {hs : List Held} (h : ListsS w base hs) (hb : BookAt w kb N bs ss) : ¬ inLists hs kb := by
  rintro ⟨i, k, hk, hb'⟩
  obtain ⟨ys, hy⟩ := h.own i k hk
  exact hb.other (by decide) hy hb'
theorem not_row {w : World} {b1 b2 : Nat} {e1 e2 : TypeId} {s1 s2 n1 n2 : Nat} {v1 v2 : Value} {x1 x2 : List Value} (he : e1 ≠ e2) (h1 : w.ownsRow b1 e1 s1 v1 n1 x1) (h2 : w.ownsRow b2 e2 s2 v2 n2 x2) : ∀ b, v1.ownBlock = some b → v2.ownBlock ≠ some b := by
  intro b hb hb'
  rcases rows_ne he h1 h2 with e0 | e0
  · rw [e0] at hb; cases hb
  · exact e0 (hb.trans hb'.symm)

/-- What is left alone by writes to blocks of S stays. -/
theorem Kept2.but {S : Nat → Prop} {w w' : World} {base kb N : Nat} {bs ss : Value} {K1 K2 : Nat} {h1 h2 : List Held} (h : Kept2 w base kb N bs ss K1 K2 h1 h2) (hb : But S w w') (hkb : ¬ S kb) (hbs : ∀ b, bs.ownBlock = some b → ¬ S b) (hss : ∀ b, ss.ownBlock = some b → ¬ S b)
    (l1 : Lists w' base h1) (l2 : ListsS w' base h2) : Kept2 w' base kb N bs ss K1 K2 h1 h2 :=
  ⟨h.book.but hb hkb, own_kept_but h.own1 hb hbs, own_kept_but h.own2 hb hss, l1, l2, h.le1, h.le2, h.len1, h.len2, h.kb, Nat.le_trans h.base hb.size⟩
theorem Kept2.below {w w' : World} {base kb N : Nat} {bs ss : Value} {K1 K2 : Nat} {h1 h2 : List Held} (h : Kept2 w base kb N bs ss K1 K2 h1 h2) (hb : Below w.heap.size w w') : Kept2 w' base kb N bs ss K1 K2 h1 h2 :=
  h.but (S := fun _ => False) (But.of_below hb) (fun e => e) (fun _ _ e => e) (fun _ _ e => e)
    ⟨fun i k hk => by obtain ⟨xs, hx⟩ := h.lists1.own i k hk; exact ⟨xs, own_on hx hb⟩, h.lists1.apart⟩ ⟨fun i k hk => by obtain ⟨xs, hx⟩ := h.lists2.own i k hk; exact ⟨xs, own_on hx hb⟩, h.lists2.apart⟩

theorem Lists.of_filled {w w' : World} {base K : Nat} {hs : List Held} (h : Lists w base hs) (hf : Filled w' base hs K) : Lists w' base hs :=
  ⟨fun i k hk => by obtain ⟨xs, hx, _⟩ := hf i k hk; exact ⟨xs, hx⟩, h.apart⟩
theorem ListsS.of_filled {w w' : World} {base K : Nat} {hs : List Held} (h : ListsS w base hs) (hf : FilledS w' base hs K) : ListsS w' base hs :=
  ⟨fun i k hk => by obtain ⟨xs, hx, _⟩ := hf i k hk; exact ⟨xs, hx⟩, h.apart⟩
theorem Lists.but {S : Nat → Prop} {w w' : World} {base : Nat} {hs : List Held} (h : Lists w base hs) (hb : But S w w') (hn : ∀ b, inLists hs b → ¬ S b) : Lists w' base hs :=
  ⟨fun i k hk => by obtain ⟨xs, hx⟩ := h.own i k hk; exact ⟨xs, own_kept_but hx hb (fun b e => hn b ⟨i, k, hk, e⟩)⟩, h.apart⟩
theorem ListsS.but {S : Nat → Prop} {w w' : World} {base : Nat} {hs : List Held} (h : ListsS w base hs) (hb : But S w w') (hn : ∀ b, inLists hs b → ¬ S b) : ListsS w' base hs :=
  ⟨fun i k hk => by obtain ⟨xs, hx⟩ := h.own i k hk; exact ⟨xs, own_kept_but hx hb (fun b e => hn b ⟨i, k, hk, e⟩)⟩, h.apart⟩
theorem Filled.but {S : Nat → Prop} {w w' : World} {base K : Nat} {hs : List Held} (h : Filled w base hs K) (hb : But S w w') (hn : ∀ b, inLists hs b → ¬ S b) : Filled w' base hs K := fun i k hk => by
  obtain ⟨xs, hx, e⟩ := h i k hk
  exact ⟨xs, own_kept_but hx hb (fun b e => hn b ⟨i, k, hk, e⟩), e⟩
theorem FilledS.but {S : Nat → Prop} {w w' : World} {base K : Nat} {hs : List Held} (h : FilledS w base hs K) (hb : But S w w') (hn : ∀ b, inLists hs b → ¬ S b) : FilledS w' base hs K := fun i k hk => by
  obtain ⟨xs, hx, e⟩ := h i k hk
  exact ⟨xs, own_kept_but hx hb (fun b e => hn b ⟨i, k, hk, e⟩), e⟩
/-- Lists of unlike elements lie in unlike blocks. -/
theorem lists_off {w : World} {base : Nat} {h1 h2 : List Held} (l1 : Lists w base h1) (l2 : ListsS w base h2) : ∀ b, inLists h1 b → ¬ inLists h2 b := by
  rintro b ⟨i, k, hk, hb⟩ hin
  obtain ⟨xs, hx⟩ := l1.own i k hk
  exact not_inS l2 (by decide) hx b hb hin

theorem GrownTo.marked {w w' : World} {base K : Nat} {hs hs' : List Held} (h : GrownTo w w' base hs hs' K) (hK : hs.length = K) (hlen : ∀ (i : Nat) (h : Held), hs[i]? = some h → h.len ≤ 1000000000) : Marked w' base hs' := fun i k' hk' => by
  have hi := (List.getElem?_eq_some_iff.1 hk').1
  rw [h.1] at hi
  obtain ⟨k'', hk'', G⟩ := h.2 i _ (List.getElem?_eq_getElem hi)
  rw [hk'] at hk''
  cases hk''
  obtain ⟨l1, l2, _⟩ := G.long (by omega)
  have l3 := hlen i _ (List.getElem?_eq_getElem hi)
  rw [G.len, G.v, G.num]
  exact ⟨l1, G.row, l2, l3⟩
theorem GrownToS.marked {w w' : World} {base K : Nat} {hs hs' : List Held} (h : GrownToS w w' base hs hs' K) (hK : hs.length = K) (hlen : ∀ (i : Nat) (h : Held), hs[i]? = some h → h.len ≤ 1000000000) : MarkedS w' base hs' := fun i k' hk' => by
  have hi := (List.getElem?_eq_some_iff.1 hk').1
  rw [h.1] at hi
  obtain ⟨k'', hk'', G⟩ := h.2 i _ (List.getElem?_eq_getElem hi)
  rw [hk'] at hk''
  cases hk''
  obtain ⟨l1, l2, _⟩ := G.long (by omega)
  have l3 := hlen i _ (List.getElem?_eq_getElem hi)
  rw [G.len, G.v, G.num]
  exact ⟨l1, G.row, l2, l3⟩
theorem Marked.but {S : Nat → Prop} {w w' : World} {base : Nat} {hs : List Held} (h : Marked w base hs) (hb : But S w w') (hn : ∀ v n xs, w.ownsRow base 5 1 v n xs → ∀ b, v.ownBlock = some b → ¬ S b) : Marked w' base hs := fun i k hk => by
  obtain ⟨a, b, c, d⟩ := h i k hk
  exact ⟨a, own_kept_but b hb (hn _ _ _ b), own_kept_but c hb (hn _ _ _ c), d⟩
theorem MarkedS.but {S : Nat → Prop} {w w' : World} {base : Nat} {hs : List Held} (h : MarkedS w base hs) (hb : But S w w') (hn : ∀ v n xs, w.ownsRow base 40 32 v n xs → ∀ b, v.ownBlock = some b → ¬ S b) : MarkedS w' base hs := fun i k hk => by
  obtain ⟨a, b, c, d⟩ := h i k hk
  exact ⟨a, own_kept_but b hb (hn _ _ _ b), own_kept_but c hb (hn _ _ _ c), d⟩

set_option maxRecDepth 100000 in
set_option maxHeartbeats 4000000 in
theorem apart_any (kb N base K1 K2 : Nat) (bs ss : Value) (h1 h2 : List Held) (w : World) (H : Kept2 w base kb N bs ss K1 K2 h1 h2) :
    Calls Tryz.prog 13 #[.pointer (some ⟨kb, 0, none⟩)] w fun e w' => e = .returned (.bool true) ∧ Below base w w' := by
  have H0 := Lib.hid H
  clear H
  go_enter Tryz.func13, Tryz.ntmps13
  go_wp2_with fail
  refine (fillByte_any kb N base K1 bs ss h1 w H0.out.book H0.out.own1 H0.out.lists1 H0.out.le1 H0.out.len1).mono ?_
  rintro e w1 ⟨rfl, hf1, hb1⟩
  have H1 := Lib.hid (H0.out.but hb1 (book_not_in H0.out.lists1 H0.out.book) (not_in H0.out.lists1 (by decide) H0.out.own1) (not_in H0.out.lists1 (by decide) H0.out.own2) (H0.out.lists1.of_filled hf1) (H0.out.lists2.but hb1 (fun b hb hb' => lists_off H0.out.lists1 H0.out.lists2 b hb' hb)))
  have B1 := Lib.hid (hb1.below H0.out.base (inLists_ge H0.out.lists1))
  have F1 := Lib.hid hf1
  have K1b := Lib.hid H1.out.book
  clear hf1 hb1 H0
  go_wp2_with fail
  refine (nil_same (fillInt_nil K1b.out)).mono ?_
  rintro e _ ⟨rfl, rfl⟩
  go_wp2_with fail
  refine (nil_same (fillText_nil K1b.out)).mono ?_
  rintro e _ ⟨rfl, rfl⟩
  go_wp2_with fail
  refine (nil_same (fillByteList_nil K1b.out)).mono ?_
  rintro e _ ⟨rfl, rfl⟩
  go_wp2_with fail
  refine (fillSum_any kb N base K2 bs ss h2 w1 H1.out.book H1.out.own2 H1.out.lists2 H1.out.le2 H1.out.len2).mono ?_
  rintro e w2 ⟨rfl, hf2, hb2⟩
  have H2 := Lib.hid (H1.out.but hb2 (book_not_inS H1.out.lists2 H1.out.book) (not_inS H1.out.lists2 (by decide) H1.out.own1) (not_inS H1.out.lists2 (by decide) H1.out.own2) (H1.out.lists1.but hb2 (lists_off H1.out.lists1 H1.out.lists2)) (H1.out.lists2.of_filled hf2))
  have B2 := Lib.hid (B1.out.trans (hb2.below H1.out.base (inListsS_ge H1.out.lists2)))
  have F2 := Lib.hid (F1.out.but hb2 (lists_off H1.out.lists1 H1.out.lists2))
  have F2S := Lib.hid hf2
  have K2b := Lib.hid H2.out.book
  clear hf2 hb2 H1 B1 F1 K1b
  go_wp2_with fail
  refine (nil_same (fillPair_nil K2b.out)).mono ?_
  rintro e _ ⟨rfl, rfl⟩
  go_wp2_with fail
  refine (nil_same (fillTenant_nil K2b.out)).mono ?_
  rintro e _ ⟨rfl, rfl⟩
  go_wp2_with fail
  refine (nil_same (fillLease_nil K2b.out)).mono ?_
  rintro e _ ⟨rfl, rfl⟩
  go_wp2_with fail
  refine (nil_same (fillEvent_nil K2b.out)).mono ?_
  rintro e _ ⟨rfl, rfl⟩
  go_wp2_with fail
  refine (growByte_any kb N base K1 bs ss h1 w2 H2.out.book H2.out.own1 H2.out.lists1 F2.out H2.out.le1 H2.out.len1 H2.out.base).mono ?_
  rintro e w3 ⟨rfl, hs1, ho3, hg3, hb3⟩
  have M3 := Lib.hid (hg3.marked (by have := H2.out.own1.1; rw [heldCells_length] at this; omega) H2.out.len1)
  have bk3 := H2.out.book.but hb3 (fun h => h.elim (book_not_in H2.out.lists1 H2.out.book) (H2.out.book.other (by decide) H2.out.own1))
  have os3 := own_kept_but H2.out.own2 hb3 (fun b hb h => h.elim (not_in H2.out.lists1 (by decide) H2.out.own2 b hb) (not_row (by decide) H2.out.own2 H2.out.own1 b hb))
  have off3 : ∀ b, inLists h2 b → ¬ (inLists h1 b ∨ bs.ownBlock = some b) := fun b hb h => h.elim (fun h' => lists_off H2.out.lists1 H2.out.lists2 b h' hb) (fun h' => not_inS H2.out.lists2 (by decide) H2.out.own1 b h' hb)
  have L3 := H2.out.lists2.but hb3 off3
  have F3 := Lib.hid (F2S.out.but hb3 off3)
  have B3 := Lib.hid (B2.out.trans (hb3.below H2.out.base (fun b h => h.elim (inLists_ge H2.out.lists1 b) (fun h' => (H2.out.own1.lt b h').1))))
  have H3 := Lib.hid (And.intro bk3 (And.intro ho3 (And.intro os3 (And.intro L3 (And.intro H2.out.le1 (And.intro H2.out.le2 (And.intro H2.out.len2 (Nat.le_trans H2.out.base hb3.size))))))))
  have K3b := Lib.hid bk3
  clear hg3 hb3 bk3 os3 off3 L3 ho3 H2 B2 F2 F2S K2b
  go_wp2_with fail
  refine (nil_same (growInt_nil K3b.out)).mono ?_
  rintro e _ ⟨rfl, rfl⟩
  go_wp2_with fail
  refine (nil_same (growText_nil K3b.out)).mono ?_
  rintro e _ ⟨rfl, rfl⟩
  go_wp2_with fail
  refine (nil_same (growByteList_nil K3b.out)).mono ?_
  rintro e _ ⟨rfl, rfl⟩
  go_wp2_with fail
  refine (growSum_any kb N base K2 bs ss h2 w3 H3.out.1 H3.out.2.2.1 H3.out.2.2.2.1 F3.out H3.out.2.2.2.2.2.1 H3.out.2.2.2.2.2.2.1 H3.out.2.2.2.2.2.2.2).mono ?_
  rintro e w4 ⟨rfl, hs2, ho4, hg4, hb4⟩
  have M4S := Lib.hid (hg4.marked (by have := H3.out.2.2.1.1; rw [heldCells_length] at this; omega) H3.out.2.2.2.2.2.2.1)
  have M4 := Lib.hid (M3.out.but hb4 (fun v n xs hv b hb h => h.elim (not_inS H3.out.2.2.2.1 (by decide) hv b hb) (not_row (by decide) hv H3.out.2.2.1 b hb)))
  have bk4 := H3.out.1.but hb4 (fun h => h.elim (book_not_inS H3.out.2.2.2.1 H3.out.1) (H3.out.1.other (by decide) H3.out.2.2.1))
  have ob4 := own_kept_but H3.out.2.1 hb4 (fun b hb h => h.elim (not_inS H3.out.2.2.2.1 (by decide) H3.out.2.1 b hb) (not_row (by decide) H3.out.2.1 H3.out.2.2.1 b hb))
  have B4 := Lib.hid (B3.out.trans (hb4.below H3.out.2.2.2.2.2.2.2 (fun b h => h.elim (inListsS_ge H3.out.2.2.2.1 b) (fun h' => (H3.out.2.2.1.lt b h').1))))
  have H4 := Lib.hid (And.intro bk4 (And.intro ob4 (And.intro ho4 (And.intro H3.out.2.2.2.2.1 (And.intro H3.out.2.2.2.2.2.1 (Nat.le_trans H3.out.2.2.2.2.2.2.2 hb4.size))))))
  have K4b := Lib.hid bk4
  clear hg4 hb4 bk4 ob4 ho4 H3 B3 F3 M3 K3b
  go_wp2_with fail
  refine (nil_same (growPair_nil K4b.out)).mono ?_
  rintro e _ ⟨rfl, rfl⟩
  go_wp2_with fail
  refine (nil_same (growTenant_nil K4b.out)).mono ?_
  rintro e _ ⟨rfl, rfl⟩
  go_wp2_with fail
  refine (nil_same (growLease_nil K4b.out)).mono ?_
  rintro e _ ⟨rfl, rfl⟩
  go_wp2_with fail
  refine (nil_same (growEvent_nil K4b.out)).mono ?_
  rintro e _ ⟨rfl, rfl⟩
  go_wp2_with fail
  refine (lookByte_any kb N base K1 bs ss hs1 w4 H4.out.1 H4.out.2.1 M4.out H4.out.2.2.2.1).mono ?_
  rintro e w5 ⟨rfl, hb5⟩
  have bk5 := H4.out.1.but hb5 (fun e => e)
  have os5 := own_kept_but H4.out.2.2.1 hb5 (fun _ _ e => e)
  have M5S := Lib.hid (M4S.out.but hb5 (fun _ _ _ _ _ _ e => e))
  have B5 := Lib.hid (B4.out.trans (hb5.below H4.out.2.2.2.2.2 (fun _ e => e.elim)))
  have H5 := Lib.hid (And.intro bk5 (And.intro os5 (And.intro H4.out.2.2.2.2.1 (Nat.le_trans H4.out.2.2.2.2.2 hb5.size))))
  have K5b := Lib.hid bk5
  clear hb5 bk5 os5 H4 B4 M4 M4S K4b
  go_wp2_with fail
  refine (nil_same (lookInt_nil K5b.out)).mono ?_
  rintro e _ ⟨rfl, rfl⟩
  go_wp2_with fail
  refine (nil_same (lookText_nil K5b.out)).mono ?_
  rintro e _ ⟨rfl, rfl⟩
  go_wp2_with fail
  refine (nil_same (lookByteList_nil K5b.out)).mono ?_
  rintro e _ ⟨rfl, rfl⟩
  go_wp2_with fail
  refine (lookSum_any kb N base K2 bs ss hs2 w5 H5.out.1 H5.out.2.1 M5S.out H5.out.2.2.1).mono ?_
  rintro e w6 ⟨rfl, hb6⟩
  have bk6 := H5.out.1.but hb6 (fun e => e)
  have B6 := Lib.hid (B5.out.trans (hb6.below H5.out.2.2.2 (fun _ e => e.elim)))
  have K6b := Lib.hid bk6
  clear hb6 bk6 H5 B5 M5S K5b
  go_wp2_with fail
  refine (nil_same (lookPair_nil K6b.out)).mono ?_
  rintro e _ ⟨rfl, rfl⟩
  go_wp2_with fail
  refine (nil_same (lookTenant_nil K6b.out)).mono ?_
  rintro e _ ⟨rfl, rfl⟩
  go_wp2_with fail
  refine (nil_same (lookLease_nil K6b.out)).mono ?_
  rintro e _ ⟨rfl, rfl⟩
  go_wp2_with fail
  refine (nil_same (lookEvent_nil K6b.out)).mono ?_
  rintro e _ ⟨rfl, rfl⟩
  go_wp2
  go_ret
  exact ⟨rfl, B6.out⟩

end Go.Proofs.YtijiolebcnlfgaaGreatDoor

/-
  The Book of the statements: lists of sums.
-/
namespace Go.Proofs.YtijiolebcnlfgaaGreatDoor
open Go.RowKit

theorem infoHeldSum : (Tryz.prog.info? 75).map (fun i => (i.zero, i.size, i.bytes)) = some (some (.agg #[.slice none 0 0, .slice none 0 0, .int .i64 0]), 3, 56) := by kernel_rfl

set_option maxRecDepth 100000 in
set_option maxHeartbeats 1000000 in
theorem keepSum_at (kb N base k : Nat) (bs ss : Value) (es : List Value) (A : Option Addr) (n c : Nat) (w : World) (hbk : BookAt w kb N bs ss) (hbase : base ≤ w.heap.size)
    (hown : w.ownsRow base 75 3 ss k es) (hN : N ≤ 1000000) (hk : k ≤ 1000000) :
    Calls Tryz.prog 22 #[.pointer (some ⟨kb, 0, none⟩), .slice A n c] w fun e w' => e = .returned (.tuple #[]) ∧
      (∃ ss', BookAt w' kb (N + 1) bs ss' ∧ w'.ownsRow base 75 3 ss' (k + 1) (es ++ [.slice A n c, .slice none 0 0, .int .i64 ((N + 1 : Nat) : Int)]) ∧ ∀ b, ss'.ownBlock = some b → ss.ownBlock = some b ∨ w.heap.size ≤ b) ∧ But (fun b => b = kb ∨ ss.ownBlock = some b) w w' := by
  obtain ⟨i0, hi0, hz0, hz1, hz2⟩ := info_parts infoHeldSum
  have h0 := hbk.n
  have h1 := hbk.s
  have f0 := hbk.fz 0
  have f1 := hbk.fz 5
  go_enter Tryz.func22, Tryz.ntmps22
  go_wp2_with fail
  have hbk1 := hbk.setN (N + 1)
  have hown1 := hown.kept (grown_set w kb 0 (.int .i64 ((N + 1 : Nat) : Int))) (.inr (hbk.other (by decide) hown))
  have hB1 : But (fun b => b = kb ∨ ss.ownBlock = some b) w (w.setCell ⟨kb, 0, none⟩ (.int .i64 ((N + 1 : Nat) : Int))) := (But.refl _ w).set 0 _ (fun _ => .inl rfl)
  have hbase1 : base ≤ (w.setCell ⟨kb, 0, none⟩ (.int .i64 ((N + 1 : Nat) : Int))).heap.size := by simpa [World.setCell] using hbase
  have hsz1 : w.heap.size ≤ (w.setCell ⟨kb, 0, none⟩ (.int .i64 ((N + 1 : Nat) : Int))).heap.size := by simp [World.setCell]
  rw [show ((N + 1 : Nat) : Int) = (N : Int) + 1 by omega] at hbk1 hown1 hbase1 hB1 hsz1
  generalize w.setCell ⟨kb, 0, none⟩ (.int .i64 ((N : Int) + 1)) = w1 at *
  clear h0 h1 f0 f1 hbk hown hbase
  have h0 := hbk1.n
  have h1 := hbk1.s
  rw [show ((N + 1 : Nat) : Int) = (N : Int) + 1 by omega] at h0
  have lk := hbk1.lt
  have ag := hbk1.other (by decide) hown1
  go_region_law
    ((refine step_append_lies _ (by rfl) _ _ _ (by rfl) base 75 i0 _ 3 56 Tryz.underlying29 hi0 hz0 hz1 hz2 rfl (by omega) ss k es (by rfl) ((hown1.alloc _).drew)
        ⟨w1.heap.size, 0, none⟩ 1 1 [.slice A n c, .slice none 0 0, .int .i64 ((N : Int) + 1)] (by rfl) (by rfl) (World.news_of_block (cs := #[.slice A n c, .slice none 0 0, .int .i64 ((N : Int) + 1)]) (t := 75) (fr := (0, 0)) (heap_alloc_new w1 _)) (by simp [Value.oneCell'])
        (by omega) (by unfold maxLen; omega) (by omega) (by simp; omega) (w1.heap.size + 1) (by simp) ?_; intro gg cap w2 hown2 hgrow hat hlt; have hbk2 := BookAt.grown (hbk1.below (below_alloc w1 (.cells #[.slice A n c, .slice none 0 0, .int .i64 ((N : Int) + 1)] 75)).drew) hgrow ag; have hc2 := hbk2.s; have hf2 := hbk2.fz 5))
  all_goals
    have hown3 := hown2.kept (grown_set w2 kb 5 (.slice (some ⟨gg, 0, none⟩) (k + 1) cap)) (.inr (hbk2.other (by decide) hown2))
    have hB3 : But (fun b => b = kb ∨ ss.ownBlock = some b) w (w2.setCell ⟨kb, 5, none⟩ (.slice (some ⟨gg, 0, none⟩) (k + 1) cap)) :=
      (((hB1.alloc _).drew).grown hgrow (fun _ e _ => .inr e)).set 5 _ (fun _ => .inl rfl)
    go_end0
    exact ⟨rfl, ⟨_, hbk2.setS _, hown3, fun b hb => by
      have e : gg = b := by injection hb
      rcases hat with h | h
      · exact .inl (e ▸ h)
      · right; omega⟩, hB3⟩

theorem keepSum_any (kb N base k : Nat) (bs ss : Value) (es : List Value) (A : Option Addr) (n c : Nat) (w : World) (hbk : BookAt w kb N bs ss) (hbase : base ≤ w.heap.size)
    (hown : w.ownsRow base 75 3 ss k es) (hN : N ≤ 1000000) (hk : k ≤ 1000000) :
    Calls Tryz.prog 22 #[.pointer (some ⟨kb, 0, none⟩), .slice A n c] w fun e w' => e = .returned (.tuple #[]) ∧
      (∃ ss', BookAt w' kb (N + 1) bs ss' ∧ w'.ownsRow base 75 3 ss' (k + 1) (es ++ [.slice A n c, .slice none 0 0, .int .i64 ((N + 1 : Nat) : Int)])) ∧ But (fun b => b = kb ∨ ss.ownBlock = some b) w w' :=
  (keepSum_at kb N base k bs ss es A n c w hbk hbase hown hN hk).mono fun _ _ ⟨h1, ⟨ss', h2, h3, _⟩, h4⟩ => ⟨h1, ⟨ss', h2, h3⟩, h4⟩

set_option maxRecDepth 100000 in
set_option maxHeartbeats 400000 in
theorem bookSums_at (kb N base k : Nat) (bs ss : Value) (es : List Value) (A : Option Addr) (n c : Nat) (w : World) (hbk : BookAt w kb N bs ss) (hbase : base ≤ w.heap.size)
    (hown : w.ownsRow base 75 3 ss k es) (hN : N ≤ 1000000) (hk : k ≤ 1000000) :
    Calls Tryz.prog 11 #[.pointer (some ⟨kb, 0, none⟩), .slice A n c] w fun e w' => e = .returned (.tuple #[]) ∧
      (∃ ss', BookAt w' kb (N + 1) bs ss' ∧ w'.ownsRow base 75 3 ss' (k + 1) (es ++ [.slice A n c, .slice none 0 0, .int .i64 ((N + 1 : Nat) : Int)]) ∧ ∀ b, ss'.ownBlock = some b → ss.ownBlock = some b ∨ w.heap.size ≤ b) ∧ But (fun b => b = kb ∨ ss.ownBlock = some b) w w' := by
  go_enter Tryz.func11, Tryz.ntmps11
  go_wp2_with fail
  refine (keepSum_at kb N base k bs ss es A n c w hbk hbase hown hN hk).mono ?_
  rintro e w1 ⟨rfl, h1, h2⟩
  go_wp2_with fail
  go_end0
  exact ⟨rfl, h1, h2⟩

theorem bookSums_any (kb N base k : Nat) (bs ss : Value) (es : List Value) (A : Option Addr) (n c : Nat) (w : World) (hbk : BookAt w kb N bs ss) (hbase : base ≤ w.heap.size)
    (hown : w.ownsRow base 75 3 ss k es) (hN : N ≤ 1000000) (hk : k ≤ 1000000) :
    Calls Tryz.prog 11 #[.pointer (some ⟨kb, 0, none⟩), .slice A n c] w fun e w' => e = .returned (.tuple #[]) ∧
      (∃ ss', BookAt w' kb (N + 1) bs ss' ∧ w'.ownsRow base 75 3 ss' (k + 1) (es ++ [.slice A n c, .slice none 0 0, .int .i64 ((N + 1 : Nat) : Int)])) ∧ But (fun b => b = kb ∨ ss.ownBlock = some b) w w' :=
  (bookSums_at kb N base k bs ss es A n c w hbk hbase hown hN hk).mono fun _ _ ⟨h1, ⟨ss', h2, h3, _⟩, h4⟩ => ⟨h1, ⟨ss', h2, h3⟩, h4⟩

end Go.Proofs.YtijiolebcnlfgaaGreatDoor

/-
  A front that grows, and a Book of what it has answered.
-/
namespace Go.Proofs.YtijiolebcnlfgaaGreatDoor
open Go.RowKit

structure PlayS (w W : World) (g kb : Nat) (f : Nat → List Nat) (p j : Nat) (hs : List Held) (ss : Value) : Prop where
  front : FrontC W g f p (fun b => b = kb ∨ ss.ownBlock = some b)
  kept : Kept2 W w.heap.size kb j (.slice none 0 0) ss 0 j [] hs
  bel : Below w.heap.size w W
  ge : w.heap.size ≤ g
  ne : g ≠ kb

section
variable {w W W' : World} {g kb p j : Nat} {f : Nat → List Nat} {hs : List Held} {ss : Value}
theorem PlayS.below (h : PlayS w W g kb f p j hs ss) (hb : Below W.heap.size W W') : PlayS w W' g kb f p j hs ss :=
  ⟨h.front.keep (hb.block _ h.front.lt) hb.size (fun b hl _ => hb.block b hl) (fun _ _ hn => hn), h.kept.below hb, below_on h.bel (Nat.le_refl _) hb, h.ge, h.ne⟩

/-- One more in the front. -/
theorem play_add (h : PlayS w W g kb f p j hs ss) (hf : Sums32 f (p + 1)) (hn : p < 999999) (hk : Knows w) (hs' : Starts w) {s : List Nat} (hsj : f p = s) :
    Calls Tryz.prog 12 #[.pointer (some ⟨g, 0, none⟩), sv s] W fun e W' => e = .returned (.int .i64 0) ∧ PlayS w W' g kb f (p + 1) j hs ss := by
  subst hsj
  refine (add_front_at h.front.front hf hn (hk.below h.bel) (hs'.below h.bel)).mono ?_
  rintro e W' ⟨he, ⟨A', c', hf', hnew⟩, hb⟩
  obtain ⟨cs1, hr1⟩ := h.front.row
  have kl := h.kept.book.lt
  have hg2 : ∀ b, ss.ownBlock = some b → b ≠ g := by
    intro b e1 e2
    subst e2
    rcases h.kept.own2.2 with ⟨e3, _⟩ | ⟨g', cap, cur, e3, _, hg', _⟩
    · rw [e3] at e1; cases e1
    · rw [e3] at e1
      cases e1
      rw [hg'] at hr1
      exact absurd (Obj.cells.inj (Option.some.inj hr1)).2.1 (by decide)
  refine ⟨he, ⟨A', c', hf', fun ad ea => ⟨(hnew ad ea).2, ?_⟩⟩, ?_, ?_, h.ge, h.ne⟩
  · have h1 := (hnew ad ea).1
    rintro (e1 | e1)
    · omega
    · have := (h.kept.own2.lt _ e1).2; omega
  · refine h.kept.but hb (fun e => h.ne e.symm) (fun b e => by cases e) (fun b e => hg2 b e) ?_ ?_
    · exact ⟨fun i k hk => by simp at hk, fun i j h1 h2 hi => by simp at hi⟩
    · exact h.kept.lists2.but hb fun b hin e => by
        obtain ⟨i, k, hi, hbk⟩ := hin
        obtain ⟨xs, hx⟩ := h.kept.lists2.own i k hi
        exact own_ne hx hr1 (by rw [hbk, e])
  · exact h.bel.trans (hb.below h.bel.size fun b e => by rw [e]; exact h.ge)

theorem own_le2 {w : World} {base base' size n : Nat} {e : TypeId} {v : Value} {xs : List Value} (h : w.ownsRow base e size v n xs) (hb : base' ≤ base) : w.ownsRow base' e size v n xs :=
  ⟨h.1, h.2.elim Or.inl (fun ⟨g, cap, cur, hv, hg, r⟩ => Or.inr ⟨g, cap, cur, hv, Nat.le_trans hb hg, r⟩)⟩
theorem PlayS.far (h : PlayS w W g kb f p j hs ss) : ∀ (i : Nat) (k : Held), hs[i]? = some k → ∀ b, k.v.ownBlock = some b → b < W.heap.size := fun i k hk b hb => by
  obtain ⟨xs, hx⟩ := h.kept.lists2.own i k hk
  exact (hx.lt b hb).2

/-- One more in the Book. -/
theorem play_book (h : PlayS w W g kb f p j hs ss) {A : Option Addr} {n c bx : Nat} {xs : List Value} (hx : W.ownsRow bx 40 32 (.slice A n c) n xs) (hbx : w.heap.size ≤ bx)
    (hfar : ∀ (i : Nat) (k : Held), hs[i]? = some k → ∀ b, k.v.ownBlock = some b → b < bx) (hn : n ≤ 1000000000) (hj : j < 1000) :
    Calls Tryz.prog 11 #[.pointer (some ⟨kb, 0, none⟩), .slice A n c] W fun e W' => e = .returned (.tuple #[]) ∧ ∃ ss', PlayS w W' g kb f p (j + 1) (hs ++ [⟨A, n, c, none, 0, 0, j + 1⟩]) ss' := by
  refine (bookSums_at kb j w.heap.size j (.slice none 0 0) ss (heldCells hs) A n c W h.kept.book h.kept.base h.kept.own2 (by omega) (by omega)).mono ?_
  rintro e W' ⟨he, ⟨ss', hbk, hown, hat⟩, hb⟩
  obtain ⟨cs1, hr1⟩ := h.front.row
  have hxo := own_le2 hx hbx
  have hnb : ∀ b, (Value.slice A n c).ownBlock = some b → ¬ (b = kb ∨ ss.ownBlock = some b) := by
    rintro b e1 (e2 | e2)
    · subst e2; exact h.kept.book.other (by decide) hxo e1
    · exact not_row (by decide) hxo h.kept.own2 b e1 e2
  have hg2 : ∀ b, ss.ownBlock = some b → b ≠ g := by
    intro b e1 e2
    subst e2
    rcases h.kept.own2.2 with ⟨e3, _⟩ | ⟨g', cap, cur, e3, _, hg', _⟩
    · rw [e3] at e1; cases e1
    · rw [e3] at e1
      cases e1
      rw [hg'] at hr1
      exact absurd (Obj.cells.inj (Option.some.inj hr1)).2.1 (by decide)
  have hls := h.kept.lists2.but hb fun b hin e => by
    rcases e with e | e
    · subst e; exact book_not_inS h.kept.lists2 h.kept.book hin
    · exact not_inS h.kept.lists2 (by decide) h.kept.own2 b e hin
  refine ⟨he, ss', ?_, ?_, ?_, h.ge, h.ne⟩
  · refine h.front.keep (hb.block _ h.front.lt (by rintro (e1 | e1); exact h.ne e1; exact hg2 _ e1 rfl)) hb.size (fun b hl hn => hb.block b hl hn) (fun b hl hn => ?_)
    rintro (e1 | e1)
    · exact hn (.inl e1)
    · rcases hat b e1 with e2 | e2
      · exact hn (.inr e2)
      · omega
  · refine ⟨hbk, own_none _ _ _ _, ?_, ⟨fun i k hk => by simp at hk, fun i j h1 h2 hi => by simp at hi⟩, ⟨fun i k hk => ?_, fun i i' k k' hk hk' hne => ?_⟩, by omega, by omega, fun i k hk => by simp at hk, fun i k hk => ?_, h.kept.kb, Nat.le_trans h.kept.base hb.size⟩
    · rw [heldCells_append]; exact hown
    · rw [List.getElem?_append] at hk
      split at hk
      · exact hls.own i k hk
      · have : k = ⟨A, n, c, none, 0, 0, j + 1⟩ := by
          have h0 := (List.getElem?_eq_some_iff.1 hk).1
          have h1 : i - hs.length = 0 := by simp at h0; omega
          rw [h1] at hk; cases hk; rfl
        subst this
        exact ⟨xs, own_kept_but hxo hb hnb⟩
    · have one : ∀ (i : Nat) (k : Held), (hs ++ [(⟨A, n, c, none, 0, 0, j + 1⟩ : Held)])[i]? = some k → (hs[i]? = some k ∧ i < hs.length) ∨ (i = hs.length ∧ k = ⟨A, n, c, none, 0, 0, j + 1⟩) := by
        intro i k hk
        have h0 := (List.getElem?_eq_some_iff.1 hk).1
        rw [List.length_append, List.length_singleton] at h0
        by_cases hi : i < hs.length
        · rw [List.getElem?_append_left hi] at hk; exact .inl ⟨hk, hi⟩
        · have hi2 : i = hs.length := by omega
          subst hi2
          rw [List.getElem?_append_right (Nat.le_refl _), Nat.sub_self] at hk
          cases hk
          exact .inr ⟨rfl, rfl⟩
      rcases one i k hk with ⟨h1, l1⟩ | ⟨h1, rfl⟩
      · rcases one i' k' hk' with ⟨h2, l2⟩ | ⟨h2, rfl⟩
        · exact hls.apart i i' k k' h1 h2 hne
        · cases hkb : k.v.ownBlock with
          | none => exact .inl rfl
          | some b =>
            right
            intro e2
            have := hfar i k h1 b hkb
            have := (hx.lt b e2.symm).1
            omega
      · rcases one i' k' hk' with ⟨h2, l2⟩ | ⟨h2, rfl⟩
        · cases hkb : (Held.v ⟨A, n, c, none, 0, 0, j + 1⟩).ownBlock with
          | none => exact .inl rfl
          | some b =>
            right
            intro e2
            have := hfar i' k' h2 b e2.symm
            have := (hx.lt b hkb).1
            omega
        · omega
    · rw [List.getElem?_append] at hk
      split at hk
      · exact h.kept.len2 i k hk
      · have : k = ⟨A, n, c, none, 0, 0, j + 1⟩ := by
          have h0 := (List.getElem?_eq_some_iff.1 hk).1
          have h1 : i - hs.length = 0 := by simp at h0; omega
          rw [h1] at hk; cases hk; rfl
        subst this
        exact hn
  · exact h.bel.trans (hb.below h.bel.size fun b e => by
      rcases e with e | e
      · rw [e]; exact h.kept.kb
      · exact (h.kept.own2.lt b e).1)
end

end Go.Proofs.YtijiolebcnlfgaaGreatDoor

/-
  The document's r, digit, added.
-/
namespace Go.Proofs.YtijiolebcnlfgaaGreatDoor
open Go.RowKit

set_option maxHeartbeats 400000 in
theorem refR_any (x n : Nat) (z : Int) (hz : z = (n : Int)) (w : World) (hx : x < 4294967296) (h0 : 0 < n) (hn : n < 32) :
    Calls Tryz.prog 87 #[.int .u32 (x : Int), .int .i64 z] w fun e w' => e = .returned (.int .u32 (rotr x n : Nat)) ∧ w = w' := by
  subst hz
  have m1 : 0 < 32 - n := by omega
  go_enter Tryz.func87, Tryz.ntmps87
  go_wp2
  go_ret
  refine ⟨ret_int ?_, rfl⟩
  show bits BinOp.or IntKind.u32 (↑x / 2 ^ n) (↑x * 2 ^ (32 - n) % 4294967296) = _
  have e1 : (↑x * 2 ^ (32 - n) % 4294967296 : Int) = ((x * 2 ^ (32 - n) % 4294967296 : Nat) : Int) := by simp
  have e2 : (↑x / 2 ^ n : Int) = ((x / 2 ^ n : Nat) : Int) := by simp
  rw [e1, e2, u32_or_nat _ _ (div_lt32 _ hx) (Nat.mod_lt _ (by omega)), rotr, Nat.or_comm]

/-- A digit to the base 16. -/
def digitN (c : Nat) : Nat := if 97 ≤ c then c - 97 + 10 else c - 48
set_option maxHeartbeats 400000 in
theorem digit_any (c : Nat) (w : World) (h1 : 48 ≤ c) (h2 : c < 256) :
    Calls Tryz.prog 97 #[.int .u8 (c : Int)] w fun e w' => e = .returned (.int .u32 (digitN c : Nat)) ∧ w = w' := by
  by_cases h : 97 ≤ c
  · go_enter Tryz.func97, Tryz.ntmps97
    go_wp2
    go_ret
    refine ⟨ret_int ?_, rfl⟩
    rw [digitN, if_pos h]
    omega
  · go_enter Tryz.func97, Tryz.ntmps97
    go_wp2
    go_ret
    refine ⟨ret_int ?_, rfl⟩
    rw [digitN, if_neg h]
    omega

/-- The digits of all that is added. -/
def hexL : List Nat := [
  52, 50, 56, 97, 50, 102, 57, 56, 55, 49, 51, 55, 52, 52, 57, 49, 98, 53, 99, 48, 102, 98, 99, 102, 101, 57, 98, 53, 100, 98, 97, 53,
  51, 57, 53, 54, 99, 50, 53, 98, 53, 57, 102, 49, 49, 49, 102, 49, 57, 50, 51, 102, 56, 50, 97, 52, 97, 98, 49, 99, 53, 101, 100, 53,
  100, 56, 48, 55, 97, 97, 57, 56, 49, 50, 56, 51, 53, 98, 48, 49, 50, 52, 51, 49, 56, 53, 98, 101, 53, 53, 48, 99, 55, 100, 99, 51,
  55, 50, 98, 101, 53, 100, 55, 52, 56, 48, 100, 101, 98, 49, 102, 101, 57, 98, 100, 99, 48, 54, 97, 55, 99, 49, 57, 98, 102, 49, 55, 52,
  101, 52, 57, 98, 54, 57, 99, 49, 101, 102, 98, 101, 52, 55, 56, 54, 48, 102, 99, 49, 57, 100, 99, 54, 50, 52, 48, 99, 97, 49, 99, 99,
  50, 100, 101, 57, 50, 99, 54, 102, 52, 97, 55, 52, 56, 52, 97, 97, 53, 99, 98, 48, 97, 57, 100, 99, 55, 54, 102, 57, 56, 56, 100, 97,
  57, 56, 51, 101, 53, 49, 53, 50, 97, 56, 51, 49, 99, 54, 54, 100, 98, 48, 48, 51, 50, 55, 99, 56, 98, 102, 53, 57, 55, 102, 99, 55,
  99, 54, 101, 48, 48, 98, 102, 51, 100, 53, 97, 55, 57, 49, 52, 55, 48, 54, 99, 97, 54, 51, 53, 49, 49, 52, 50, 57, 50, 57, 54, 55,
  50, 55, 98, 55, 48, 97, 56, 53, 50, 101, 49, 98, 50, 49, 51, 56, 52, 100, 50, 99, 54, 100, 102, 99, 53, 51, 51, 56, 48, 100, 49, 51,
  54, 53, 48, 97, 55, 51, 53, 52, 55, 54, 54, 97, 48, 97, 98, 98, 56, 49, 99, 50, 99, 57, 50, 101, 57, 50, 55, 50, 50, 99, 56, 53,
  97, 50, 98, 102, 101, 56, 97, 49, 97, 56, 49, 97, 54, 54, 52, 98, 99, 50, 52, 98, 56, 98, 55, 48, 99, 55, 54, 99, 53, 49, 97, 51,
  100, 49, 57, 50, 101, 56, 49, 57, 100, 54, 57, 57, 48, 54, 50, 52, 102, 52, 48, 101, 51, 53, 56, 53, 49, 48, 54, 97, 97, 48, 55, 48,
  49, 57, 97, 52, 99, 49, 49, 54, 49, 101, 51, 55, 54, 99, 48, 56, 50, 55, 52, 56, 55, 55, 52, 99, 51, 52, 98, 48, 98, 99, 98, 53,
  51, 57, 49, 99, 48, 99, 98, 51, 52, 101, 100, 56, 97, 97, 52, 97, 53, 98, 57, 99, 99, 97, 52, 102, 54, 56, 50, 101, 54, 102, 102, 51,
  55, 52, 56, 102, 56, 50, 101, 101, 55, 56, 97, 53, 54, 51, 54, 102, 56, 52, 99, 56, 55, 56, 49, 52, 56, 99, 99, 55, 48, 50, 48, 56,
  57, 48, 98, 101, 102, 102, 102, 97, 97, 52, 53, 48, 54, 99, 101, 98, 98, 101, 102, 57, 97, 51, 102, 55, 99, 54, 55, 49, 55, 56, 102, 50]
theorem hexL_lt : ∀ i, i < 512 → 48 ≤ hexL.getD i 0 ∧ hexL.getD i 0 < 256 := by decide +kernel
/-- The first j digits of the t-th number. -/
def hexF (t : Nat) : Nat → Nat
  | 0 => 0
  | j + 1 => (16 * hexF t j + digitN (hexL.getD (8 * t + j) 0)) % 4294967296
theorem hexF_lt (t j : Nat) : hexF t j < 4294967296 := by
  cases j with
  | zero => show 0 < 4294967296; omega
  | succ j => exact Nat.mod_lt _ (by omega)
theorem hexL_length : hexL.length = 512 := by decide +kernel
theorem hexF_all : ∀ t, t < 64 → hexF t 8 = kAdd.getD t 0 := by decide +kernel

/-- A byte of a constant text. -/
theorem wpList_index_hex {ops : Array Oper} {rest : List Oper} {o : Oper} {a : Act} {w : World} {Q : Exit → Act → World → Prop} {S : ByteArray} (hgd : o.guard = none) (x : Operand) (ho : o.op = .index 9 (.const (.string S)) x)
    (k : Nat) (hx : a.eval x = .int .i64 (k : Int)) (hk : k < 512) (hS : S.data.toList.map UInt8.toNat = hexL)
    (h : wpList Tryz.prog ops Q rest (a.put o.dst (.int .u8 ((hexL.getD k 0 : Nat) : Int))) w) : wpList Tryz.prog ops Q (o :: rest) a w := by
  have hsz : S.size = 512 := by
    have := congrArg List.length hS
    rw [List.length_map, hexL_length, Array.length_toList] at this
    exact this
  have hks : k < S.size := by rw [hsz]; exact hk
  have hv : S[k].toNat = hexL.getD k 0 := by
    rw [← hS, List.getD_eq_getElem?_getD, List.getElem?_map, List.getElem?_eq_getElem (by simpa using hks)]
    rfl
  refine wpList_plain hgd fun K hK => ?_
  unfold Oper.wp execOp
  have hr := run_index_string (P := Tryz.prog) w 9 S .i64 (k : Int) Tryz.underlying9
  have hb : (0 : Int) ≤ (k : Int) ∧ (k : Int) < (S.size : Int) := by omega
  rw [dif_pos hb] at hr
  simp only [Int.toNat_natCast, hv] at hr
  have hc : a.eval (.const (.string S)) = .string S := rfl
  simp only [ho, hx, hc, Sem.run_bind, Sem.run_pure, Result.andThen_ok, hr]
  exact hK _ _ h

set_option maxRecDepth 100000 in
set_option maxHeartbeats 1000000 in
theorem added_any (t : Nat) (w : World) (ht : t < 64) :
    Calls Tryz.prog 88 #[.int .i64 (t : Int)] w fun e w' => e = .returned (.int .u32 ((kAdd.getD t 0 : Nat) : Int)) ∧ w = w' := by
  have hfin := hexF_all t ht
  have HF := Lib.hid hfin
  clear hfin
  go_enter Tryz.func88, Tryz.ntmps88
  go_wp2
  go_loop [3, 4] (fun n i => ∃ j : Nat, j ≤ 8 ∧ i = .int .i64 ((8 * t + j : Nat) : Int) ∧ n = .int .u32 ((hexF t j : Nat) : Int)) (fun _ i => 8 * t + 8 - (intOf i).toNat)
  case atStart => exact ⟨0, by omega, by go_num, rfl⟩
  case round =>
    obtain ⟨j, hj, rfl, rfl⟩ := hrel
    by_cases hlt : j < 8
    · obtain ⟨k, hk⟩ : ∃ k, 8 * t + j = k := ⟨_, rfl⟩
      obtain ⟨f, hf⟩ : ∃ f, hexF t j = f := ⟨_, rfl⟩
      rw [hk, hf]
      have k1 : k < 8 * t + 8 := by omega
      have k2 : k < 512 := by omega
      have fl : f < 4294967296 := hf ▸ hexF_lt t j
      have hl := hexL_lt k k2
      obtain ⟨c, hc⟩ : ∃ c, hexL.getD k 0 = c := ⟨_, rfl⟩
      rw [hc] at hl
      have HC := Lib.hid hc
      have HKF := Lib.hid (And.intro hk hf)
      obtain ⟨c1, c2⟩ := hl
      clear hc hk hf
      go_wp2_with (first
        | (with_reducible refine wpList_index_hex rfl (.tmp 16) rfl k rfl k2 (by kernel_rfl) ?_; rw [HC.out])
        | (go_at_call 97; refine (digit_any c _ c1 c2).mono ?_; rintro e w' ⟨rfl, rfl⟩))
      go_round
      case rel => 
        refine ⟨j + 1, by omega, ?_, ?_⟩
        · have := HKF.out.1
          show Value.int .i64 ((k : Int) + 1) = _
          congr 1
          omega
        · rw [hexF, HKF.out.1, HKF.out.2, HC.out]
          congr 1
          omega
      case measure => simp [intOf]; omega
    · obtain rfl : j = 8 := by omega
      rw [HF.out]
      go_wp2
      go_ret
      exact ⟨rfl, rfl⟩

end Go.Proofs.YtijiolebcnlfgaaGreatDoor

/-
  The document's Take: what holds at each of its times.
-/
namespace Go.Proofs.YtijiolebcnlfgaaGreatDoor
open Go.RowKit

def zero64u : List Nat := List.replicate 64 0
theorem infoE : (Tryz.prog.info? 70).map (·.size) = some 8 := by kernel_rfl
theorem wpList_loadE {ops : Array Oper} {rest : List Oper} {o : Oper} {a : Act} {w : World} {Q : Exit → Act → World → Prop} (hgd : o.guard = none) (x : Operand) (ho : o.op = .load 70 x)
    (g : Nat) (hx : a.eval x = .pointer (some ⟨g, 0, none⟩)) {T : TypeId} (xs : List Nat) (hl : Hid (xs.length = 8)) (hc : Arr w g T xs)
    (h : wpList Tryz.prog ops Q rest (a.put o.dst (.agg (uvs xs).toArray)) w) : wpList Tryz.prog ops Q (o :: rest) a w :=
  wpList_load_row hgd 70 x ho g hx T (uvs xs).toArray (0, 0) _ hc Tryz.underlying70 rfl (by rw [List.size_toArray, uvs_length, hl.out]; exact infoE) h
theorem wpList_storeE {ops : Array Oper} {rest : List Oper} {o : Oper} {a : Act} {w : World} {Q : Exit → Act → World → Prop} (hgd : o.guard = none) (x y : Operand) (ho : o.op = .store 70 x y)
    (g : Nat) (hx : a.eval x = .pointer (some ⟨g, 0, none⟩)) {T : TypeId} (xs ys : List Nat) (hl : Hid (xs.length = 8)) (hl' : Hid (ys.length = 8)) (hc : Arr w g T xs) (hy : a.eval y = .agg (uvs ys).toArray)
    (h : wpList Tryz.prog ops Q rest (a.put o.dst undef) (w.setRow g (uvs ys).toArray)) : wpList Tryz.prog ops Q (o :: rest) a w :=
  wpList_store_row hgd 70 x y ho g (uvs ys).toArray hx hy T (uvs xs).toArray hc (by rw [List.size_toArray, uvs_length, hl'.out]; exact infoE) (by rw [List.size_toArray, uvs_length, hl.out, List.size_toArray, uvs_length, hl'.out]) (all_oneCell_toArray (uvs_oneCell ys)) h

theorem heap3_new (w : World) (a b c : Obj) : (((w.alloc a).alloc b).alloc c).heap[w.heap.size + 1 + 1]? = some c := by
  have := World.alloc_heap_new ((w.alloc a).alloc b) c
  rwa [World.size_alloc, World.size_alloc] at this
theorem heap3_mid (w : World) (a b c : Obj) : (((w.alloc a).alloc b).alloc c).heap[w.heap.size + 1]? = some b := by
  have := World.alloc_heap_new (w.alloc a) b
  rw [World.size_alloc] at this
  rw [Below.heap_alloc _ _ _ (by rw [World.size_alloc, World.size_alloc]; omega)]
  exact this
theorem heap3_old (w : World) (a b c : Obj) : (((w.alloc a).alloc b).alloc c).heap[w.heap.size]? = some a := by
  rw [Below.heap_alloc _ _ _ (by rw [World.size_alloc, World.size_alloc]; omega), Below.heap_alloc _ _ _ (by rw [World.size_alloc]; omega)]
  exact World.alloc_heap_new w a
theorem below3 (w : World) (a b c : Obj) : Below w.heap.size w (((w.alloc a).alloc b).alloc c) := ((below_alloc w _).alloc (by simp) _).alloc (by simp; omega) _

/-- The memory: the eight that came in, the result's place, the 64 of w. -/
structure RT (w : World) (S W : List Nat) (wr : World) : Prop where
  s : Arr wr w.heap.size 70 S
  r : Arr wr (w.heap.size + 1) 70 zero8
  w64 : Arr wr (w.heap.size + 1 + 1) 137 W
  below : Below w.heap.size w wr
theorem RT.setW {w wr : World} {S W : List Nat} (h : RT w S W wr) (i v : Nat) : RT w S (W.set i v) (wr.setCell ⟨w.heap.size + 1 + 1, i, none⟩ (.int .u32 (v : Int))) :=
  ⟨h.s.other _ _ (by show w.heap.size ≠ w.heap.size + 1 + 1; omega), h.r.other _ _ (by show w.heap.size + 1 ≠ w.heap.size + 1 + 1; omega), h.w64.set i v, h.below.setCell (by show w.heap.size ≤ w.heap.size + 1 + 1; omega) _⟩
theorem RT.drew {w wr : World} {S W : List Nat} (h : RT w S W wr) : RT w S W wr.drew := ⟨h.s, h.r, h.w64, h.below.drew⟩
theorem RT.drewN {w wr : World} {S W : List Nat} (h : RT w S W wr) (q : Nat) : RT w S W (wr.drewN q) := ⟨h.s, h.r, h.w64, ⟨h.below.os, h.below.tape, h.below.output, h.below.size, h.below.block⟩⟩

/-- The first t of w are there, the others noughts. -/
structure WP (Z : List Nat) (t : Nat) (W : List Nat) : Prop where
  len : W.length = 64
  old : ∀ i, i < t → W.getD i 0 = Z.getD i 0
  zero : ∀ i, t ≤ i → i < 64 → W.getD i 0 = 0
theorem WP.start (Z : List Nat) : WP Z 0 zero64u := by
  have h : ∀ i, i < 64 → zero64u.getD i 0 = 0 := by decide
  exact ⟨rfl, fun i hi => by omega, fun i _ hi => h i hi⟩
theorem WP.next {Z W : List Nat} {t v : Nat} (h : WP Z t W) (ht : t < 64) (hv : v = Z.getD t 0) : WP Z (t + 1) (W.set t v) := by
  refine ⟨by rw [List.length_set]; exact h.len, fun i hi => ?_, fun i h1 h2 => ?_⟩
  · rw [getD_set _ _ _ _ (by rw [h.len]; exact ht)]
    by_cases e : t = i
    · rw [if_pos e, hv, e]
    · rw [if_neg e, h.old i (by omega)]
  · rw [getD_set _ _ _ _ (by rw [h.len]; exact ht), if_neg (by omega), h.zero i (by omega) h2]
theorem WP.end_ {Z W : List Nat} (h : WP Z 64 W) (hZ : Z.length = 64) : W = Z := by
  apply List.ext_getElem?
  intro i
  by_cases hi : i < 64
  · have := h.old i hi
    rw [List.getD_eq_getElem?_getD, List.getD_eq_getElem?_getD, List.getElem?_eq_getElem (by rw [h.len]; exact hi), List.getElem?_eq_getElem (by omega), Option.getD_some, Option.getD_some] at this
    rw [List.getElem?_eq_getElem (by rw [h.len]; exact hi), List.getElem?_eq_getElem (by omega), this]
  · rw [List.getElem?_eq_none (by rw [h.len]; omega), List.getElem?_eq_none (by omega)]

/-- A number of the block, its first i bytes. -/
def wordP (xs : List Nat) (t : Nat) : Nat → Nat
  | 0 => 0
  | i + 1 => 256 * wordP xs t i + xs.getD (4 * t + i) 0
theorem wordP_lt {xs : List Nat} (h : ∀ x ∈ xs, x < 256) (t i : Nat) : wordP xs t i < 256 ^ i := by
  induction i with
  | zero => show 0 < 1; omega
  | succ i ih =>
    have := getD_lt8 h (4 * t + i)
    rw [wordP, Nat.pow_succ]
    omega
theorem wordP_all (xs : List Nat) (t : Nat) : wordP xs t 4 = word xs t := by
  simp only [wordP, word, Nat.add_zero]
  omega
theorem set_zero {W : List Nat} {t : Nat} (ht : t < W.length) (h : W.getD t 0 = 0) : W.set t 0 = W := by
  apply List.ext_getElem?
  intro i
  by_cases e : t = i
  · subst e
    rw [List.getElem?_set_self ht, List.getElem?_eq_getElem ht]
    rw [List.getD_eq_getElem?_getD, List.getElem?_eq_getElem ht, Option.getD_some] at h
    rw [h]
  · rw [List.getElem?_set_ne e]
theorem words_get (xs : List Nat) (t : Nat) (h : t < 16) : (words xs).getD t 0 = word xs t := by
  rw [words, List.getD_eq_getElem?_getD, List.getElem?_map, List.getElem?_range h]
  rfl

end Go.Proofs.YtijiolebcnlfgaaGreatDoor

/-
  The document's Take.
-/
namespace Go.Proofs.YtijiolebcnlfgaaGreatDoor
open Go.RowKit

theorem refR_z (x : Nat) (z : Int) (w : World) (hx : x < 4294967296) (h0 : 0 < z) (hn : z < 32) :
    Calls Tryz.prog 87 #[.int .u32 (x : Int), .int .i64 z] w fun e w' => e = .returned (.int .u32 (rotr x z.toNat : Nat)) ∧ w = w' :=
  refR_any x z.toNat z (by omega) w hx (by omega) (by omega)

theorem ch_eq2 {e f g : Nat} (he : e < 4294967296) (hf : f < 4294967296) (hg : g < 4294967296) :
    bits .or .u32 (bits .and .u32 (e : Int) (f : Int)) (bits .and .u32 (bits .xor .u32 IntKind.u32.max (e : Int)) (g : Int)) = ((ch e f g : Nat) : Int) := ch_eq he hf hg

/-- The eight behind one time more. -/
theorem agg_rnd {R : List Nat} {kt wt v0 v1 v2 v3 v4 v5 v6 v7 : Nat} (h : R.getD 0 0 = v0 ∧ R.getD 1 0 = v1 ∧ R.getD 2 0 = v2 ∧ R.getD 3 0 = v3 ∧ R.getD 4 0 = v4 ∧ R.getD 5 0 = v5 ∧ R.getD 6 0 = v6 ∧ R.getD 7 0 = v7) {e0 e4 : Int}
    (h0 : e0 = ((((v7 + kt + wt + mixE v4 + ch v4 v5 v6) % 4294967296 + (mixA v0 + maj v0 v1 v2) % 4294967296) % 4294967296 : Nat) : Int))
    (h4 : e4 = (((v3 + (v7 + kt + wt + mixE v4 + ch v4 v5 v6) % 4294967296) % 4294967296 : Nat) : Int)) :
    Value.agg #[.int .u32 e0, .int .u32 (v0 : Int), .int .u32 (v1 : Int), .int .u32 (v2 : Int), .int .u32 e4, .int .u32 (v4 : Int), .int .u32 (v5 : Int), .int .u32 (v6 : Int)] = .agg (uvs (rnd kt wt R)).toArray := by
  obtain ⟨r0, r1, r2, r3, r4, r5, r6, r7⟩ := h
  rw [rnd, rndP, rndQ, r0, r1, r2, r3, r4, r5, r6, r7, h0, h4]
  rfl
/-- The sum of each with what it was. -/
theorem agg_sum {S R : List Nat} (hS : S.length = 8) (hR : R.length = 8) {v0 v1 v2 v3 v4 v5 v6 v7 u0 u1 u2 u3 u4 u5 u6 u7 : Nat}
    (h : (R.getD 0 0 = v0 ∧ R.getD 1 0 = v1 ∧ R.getD 2 0 = v2 ∧ R.getD 3 0 = v3 ∧ R.getD 4 0 = v4 ∧ R.getD 5 0 = v5 ∧ R.getD 6 0 = v6 ∧ R.getD 7 0 = v7) ∧
      S.getD 0 0 = u0 ∧ S.getD 1 0 = u1 ∧ S.getD 2 0 = u2 ∧ S.getD 3 0 = u3 ∧ S.getD 4 0 = u4 ∧ S.getD 5 0 = u5 ∧ S.getD 6 0 = u6 ∧ S.getD 7 0 = u7) :
    Value.agg #[.int .u32 (((u0 : Int) + (v0 : Int)) % 4294967296), .int .u32 (((u1 : Int) + (v1 : Int)) % 4294967296), .int .u32 (((u2 : Int) + (v2 : Int)) % 4294967296), .int .u32 (((u3 : Int) + (v3 : Int)) % 4294967296),
      .int .u32 (((u4 : Int) + (v4 : Int)) % 4294967296), .int .u32 (((u5 : Int) + (v5 : Int)) % 4294967296), .int .u32 (((u6 : Int) + (v6 : Int)) % 4294967296), .int .u32 (((u7 : Int) + (v7 : Int)) % 4294967296)] = .agg (uvs (List.zipWith (fun x y => (x + y) % 4294967296) R S)).toArray := by
  have e : ∀ a b : Nat, ((a : Int) + (b : Int)) % 4294967296 = (((b + a) % 4294967296 : Nat) : Int) := fun a b => by omega
  obtain ⟨⟨rfl, rfl, rfl, rfl, rfl, rfl, rfl, rfl⟩, rfl, rfl, rfl, rfl, rfl, rfl, rfl, rfl⟩ := h
  match S, hS, R, hR with
  | [s0, s1, s2, s3, s4, s5, s6, s7], _, [r0, r1, r2, r3, r4, r5, r6, r7], _ =>
    rw [e, e, e, e, e, e, e, e]
    rfl

set_option maxRecDepth 100000 in
set_option maxHeartbeats 4000000 in
theorem refTake_any (S xs : List Nat) (A : Option Addr) (c : Nat) (w : World) (hS : S.length = 8) (hS2 : ∀ x ∈ S, x < 4294967296) (hin : In w A 64 xs) (hx : ∀ x ∈ xs, x < 256) :
    Calls Tryz.prog 60 #[.agg (uvs S).toArray, .slice A 64 c] w fun e w' => e = .returned (.agg (uvs (take16 S (words xs))).toArray) ∧ Below w.heap.size w w' := by
  have HS := Lib.hid hS
  have HS2 := Lib.hid hS2
  have HX := Lib.hid hx
  obtain ⟨Z, hZ⟩ : ∃ Z, sched (words xs) 48 = Z := ⟨_, rfl⟩
  have hZl : Z.length = 64 := by rw [← hZ, sched_length, words_length]
  have hZlt : ∀ x ∈ Z, x < 4294967296 := hZ ▸ sched_lt _ (words_lt hx) 48
  have hZ1 : ∀ t, t < 16 → Z.getD t 0 = word xs t := fun t ht => by rw [← hZ, sched_first _ (words_length xs) 48 t ht, words_get xs t ht]
  have hZ2 : ∀ t, 16 ≤ t → t < 64 → Z.getD t 0 = (Z.getD (t - 16) 0 + Z.getD (t - 7) 0 + far (Z.getD (t - 15) 0) + near (Z.getD (t - 2) 0)) % 4294967296 := fun t h1 h2 => by
    rw [← hZ]; exact sched_next _ (words_length xs) 48 t h1 (by omega)
  have HZ := Lib.hid (And.intro hZ (And.intro hZl (And.intro hZlt (And.intro hZ1 hZ2))))
  clear hS hS2 hx hZ hZl hZlt hZ1 hZ2
  obtain ⟨ad, _, rfl, _⟩ := hin.at_ (show 0 < 64 by omega)
  go_enter Tryz.func60, Tryz.ntmps60
  go_wp2
  go_loopw [6] (fun i wr => ∃ (t : Nat) (W : List Nat), t ≤ 64 ∧ i = .int .i64 (t : Int) ∧ WP Z t W ∧ RT w S W wr) (fun i _ => 64 - (intOf i).toNat)
  case atStart => exact ⟨0, zero64u, by omega, rfl, WP.start Z, heap3_old w _ _ _, heap3_mid w _ _ _, heap3_new w _ _ _, below3 w _ _ _⟩
  case round =>
    obtain ⟨t, W, ht, rfl, hW, T⟩ := hrel
    by_cases hlt : t < 64
    · by_cases h16 : t < 16
      · obtain ⟨wo, rfl⟩ : ∃ wo : World, wo = wr := ⟨_, rfl⟩
        have h16i : (t : Int) < 16 := by omega
        have h64i : (t : Int) < 64 := by omega
        go_wp2
        go_loopw [7] (fun i wr => ∃ (j : Nat), j ≤ 4 ∧ i = .int .i64 (j : Int) ∧ RT w S (W.set t (wordP xs t j)) wr) (fun i _ => 4 - (intOf i).toNat)
        case atStart => exact ⟨0, by omega, rfl, by rw [wordP, set_zero (by rw [hW.len]; exact hlt) (hW.zero t (Nat.le_refl _) hlt)]; exact T⟩
        case round =>
          obtain ⟨j, hj, rfl, T2⟩ := hrel
          by_cases hl4 : j < 4
          · obtain ⟨k, hk⟩ : ∃ k, 4 * t + j = k := ⟨_, rfl⟩
            obtain ⟨ad', x, e', hxk, hcell⟩ := (hin.below T2.below).at_ (show k < 64 by omega)
            cases e'
            have hx8 : x < 256 := HX.out x (List.mem_of_getElem? hxk)
            obtain ⟨f, hf⟩ : ∃ f, wordP xs t j = f := ⟨_, rfl⟩
            have hfl := wordP_lt HX.out t j
            rw [hf] at T2 hfl
            have hp : 256 ^ j ≤ 256 ^ 3 := Nat.pow_le_pow_right (by omega) (by omega)
            have hp3 : (256 : Nat) ^ 3 = 16777216 := by decide
            have hfb : f < 16777216 := by omega
            clear hp3
            have ct := T2.w64.cell (i := t) (by rw [List.length_set, hW.len]; exact hlt)
            rw [getD_set _ _ _ _ (by rw [hW.len]; exact hlt), if_pos rfl] at ct
            have fr := T2.w64.free t
            have ht1 : (t : Int) < 64 := by omega
            have hk1 : (k : Int) < 64 := by omega
            have hk2 : 4 * (t : Int) + (j : Int) = (k : Int) := by omega
            have hk3 : IntKind.i64.wrap (4 * (t : Int) + (j : Int)) = (k : Int) := by rw [hk2]; exact IntWalk.i64_in _ (by omega)
            have hk4 : IntKind.i64.wrap (k : Int) = (k : Int) := IntWalk.i64_in _ (by omega)
            have e4 : IntKind.i64.wrap (4 * (t : Int)) = 4 * (t : Int) := IntWalk.i64_in _ (by omega)
            have hnew : wordP xs t (j + 1) = 256 * f + x := by
              rw [wordP, hf, hk, List.getD_eq_getElem?_getD, hxk]; rfl
            have HN := Lib.hid hnew
            have HT := Lib.hid T2
            clear T2 hnew hf hk hxk hp hfl
            go_wp2
            go_still_tail 15, (by kernel_rfl)
            go_wp2
            go_roundw
            case rel =>
              refine ⟨j + 1, by omega, by go_num, ?_⟩
              have e := (HT.out.setW t (256 * f + x)).drew
              rw [List.set_set] at e
              rw [HN.out, show (256 * (f : Int) + (x : Int)) = ((256 * f + x : Nat) : Int) by omega]
              exact e
            case measure => simp [intOf]; omega
          · obtain rfl : j = 4 := by omega
            rw [wordP_all] at T2
            have hW2 := hW.next hlt (HZ.out.2.2.2.1 t h16).symm
            have HT := Lib.hid (And.intro hW2 T2)
            clear T2 hW2
            go_wp2
            go_roundw
            case rel => exact ⟨t + 1, _, by omega, by go_num, HT.out.1, HT.out.2⟩
            case measure => simp [intOf]; omega
      · have h16i : decide ((t : Int) < 16) = false := by simp; omega
        have h64i : (t : Int) < 64 := by omega
        obtain ⟨a16, ha16⟩ : ∃ k, t - 16 = k := ⟨_, rfl⟩
        obtain ⟨a7, ha7⟩ : ∃ k, t - 7 = k := ⟨_, rfl⟩
        obtain ⟨a15, ha15⟩ : ∃ k, t - 15 = k := ⟨_, rfl⟩
        obtain ⟨a2, ha2⟩ : ∃ k, t - 2 = k := ⟨_, rfl⟩
        have hnx := HZ.out.2.2.2.2 t (by omega) hlt
        rw [ha16, ha7, ha15, ha2] at hnx
        have c16 := T.w64.cell (i := a16) (by rw [hW.len]; omega)
        have c7 := T.w64.cell (i := a7) (by rw [hW.len]; omega)
        have c15 := T.w64.cell (i := a15) (by rw [hW.len]; omega)
        have c2 := T.w64.cell (i := a2) (by rw [hW.len]; omega)
        have ct := T.w64.cell (i := t) (by rw [hW.len]; omega)
        have fr := T.w64.free t
        rw [hW.old a16 (by omega)] at c16
        rw [hW.old a7 (by omega)] at c7
        rw [hW.old a15 (by omega)] at c15
        rw [hW.old a2 (by omega)] at c2
        have b15 := getD_lt HZ.out.2.2.1 a15
        have b2 := getD_lt HZ.out.2.2.1 a2
        obtain ⟨v16, hv16⟩ : ∃ v, Z.getD a16 0 = v := ⟨_, rfl⟩
        obtain ⟨v7, hv7⟩ : ∃ v, Z.getD a7 0 = v := ⟨_, rfl⟩
        obtain ⟨v15, hv15⟩ : ∃ v, Z.getD a15 0 = v := ⟨_, rfl⟩
        obtain ⟨v2, hv2⟩ : ∃ v, Z.getD a2 0 = v := ⟨_, rfl⟩
        rw [hv16] at c16 hnx
        rw [hv7] at c7 hnx
        rw [hv15] at c15 hnx b15
        rw [hv2] at c2 hnx b2
        have i16 : (t : Int) - 16 = (a16 : Int) := by omega
        have i7 : (t : Int) - 7 = (a7 : Int) := by omega
        have i15 : (t : Int) - 15 = (a15 : Int) := by omega
        have i2 : (t : Int) - 2 = (a2 : Int) := by omega
        have l16 : (a16 : Int) < 64 := by omega
        have l7 : (a7 : Int) < 64 := by omega
        have l15 : (a15 : Int) < 64 := by omega
        have l2 : (a2 : Int) < 64 := by omega
        have w16 : IntKind.i64.wrap (a16 : Int) = (a16 : Int) := IntWalk.i64_in _ (by omega)
        have w7 : IntKind.i64.wrap (a7 : Int) = (a7 : Int) := IntWalk.i64_in _ (by omega)
        have HN := Lib.hid (And.intro hnx (And.intro hW T))
        clear hnx hW T ha16 ha7 ha15 ha2 hv16 hv7 hv15 hv2
        go_wp2
        go_still_tail 29, (by kernel_rfl)
        still_call (still_left (refR_any v15 7 7 rfl _ b15 (by omega) (by omega)))
        repeat still_step
        still_call (still_left (refR_any v15 18 18 rfl _ b15 (by omega) (by omega)))
        repeat still_step
        still_call (still_left (refR_any v2 17 17 rfl _ b2 (by omega) (by omega)))
        repeat still_step
        still_call (still_left (refR_any v2 19 19 rfl _ b2 (by omega) (by omega)))
        repeat still_step
        refine wpStill_nil ?_
        change wpList _ _ _ _ _ wr.drew
        go_wp2
        go_roundw
        case rel =>
          have e1 := xor3 (c := v15 / 8) (rotr_lt 7 b15) (rotr_lt 18 b15) (div_lt32 8 b15)
          have e2 := xor3 (c := v2 / 1024) (rotr_lt 17 b2) (rotr_lt 19 b2) (div_lt32 1024 b2)
          have d1 : ((v15 / 8 : Nat) : Int) = (v15 : Int) / 8 := by omega
          have d2 : ((v2 / 1024 : Nat) : Int) = (v2 : Int) / 1024 := by omega
          rw [d1] at e1
          rw [d2] at e2
          rw [e1, e2]
          have hv : ((v16 : Int) + (v7 : Int) + ((rotr v15 7 ^^^ rotr v15 18 ^^^ v15 / 8 : Nat) : Int) + ((rotr v2 17 ^^^ rotr v2 19 ^^^ v2 / 1024 : Nat) : Int)) % 4294967296 = (((v16 + v7 + far v15 + near v2) % 4294967296 : Nat) : Int) := by
            rw [far, near, show (2 : Nat) ^ 3 = 8 from rfl, show (2 : Nat) ^ 10 = 1024 from rfl]
            omega
          rw [hv]
          exact ⟨t + 1, _, by omega, by go_num, HN.out.2.1.next hlt HN.out.1.symm, (HN.out.2.2.setW t _).drew⟩
        case measure => simp [intOf]; omega
    · have ht64 : t = 64 := by omega
      rw [ht64] at hW
      obtain rfl := hW.end_ HZ.out.2.1
      have HL := Lib.hid hW.len
      clear hW ht64
      have sA := T.s
      have s1 : ∀ o, Arr (wr.alloc o) w.heap.size 70 S := fun o => T.s.alloc o
      have n1 := Arr.new wr 70 zero8
      rw [zero8_lit] at n1
      have HZ8 := Lib.hid (show zero8.length = 8 from rfl)
      have hDl : w.heap.size + 1 + 1 < wr.heap.size := T.w64.lt
      have HTa := Lib.hid T
      have HS1 := Lib.hid s1
      have N1 := Lib.hid n1
      clear T s1
      have h64f : decide ((t : Int) < 64) = false := by simp; omega
      go_wp2_with (first
        | (with_reducible refine wpList_loadE rfl (.tmp 2) rfl w.heap.size rfl S HS sA ?_)
        | (with_reducible refine wpList_storeE rfl (.tmp 10) (.tmp 76) rfl wr.heap.size rfl zero8 S HZ8 HS n1 rfl ?_))
      obtain ⟨wo, rfl⟩ : ∃ wo : World, wo = wr := ⟨_, rfl⟩
      have st : Arr ((wo.alloc (.cells #[.int .u32 0, .int .u32 0, .int .u32 0, .int .u32 0, .int .u32 0, .int .u32 0, .int .u32 0, .int .u32 0] 70)).setRow wo.heap.size (uvs S).toArray) wo.heap.size 70 S := N1.out.setRow S
      have rt : RT w S W ((wo.alloc (.cells #[.int .u32 0, .int .u32 0, .int .u32 0, .int .u32 0, .int .u32 0, .int .u32 0, .int .u32 0, .int .u32 0] 70)).setRow wo.heap.size (uvs S).toArray) :=
        ⟨(HTa.out.s.alloc _).setRow_other _ (by omega) _, (HTa.out.r.alloc _).setRow_other _ (by omega) _, (HTa.out.w64.alloc _).setRow_other _ (by omega) _, below_setRow (HTa.out.below.alloc HTa.out.below.size _) (by omega) _⟩
      have ST := Lib.hid (And.intro st rt)
      clear st rt sA n1
      go_loopw [11] (fun i wr => ∃ (t : Nat), t ≤ 64 ∧ i = .int .i64 (t : Int) ∧ Arr wr wo.heap.size 70 (rounds W S t) ∧ RT w S W wr) (fun i _ => 64 - (intOf i).toNat)
      case atStart => exact ⟨0, by omega, rfl, ST.out.1, ST.out.2⟩
      case round =>
        clear ST N1 HS1 HTa
        obtain ⟨t2, ht2, rfl, aN, rt⟩ := hrel
        by_cases hl2 : t2 < 64
        · obtain ⟨R, hR⟩ : ∃ R, rounds W S t2 = R := ⟨_, rfl⟩
          have hR8 : R.length = 8 := hR ▸ rounds_length W S HS.out t2
          have hRl : ∀ x ∈ R, x < 4294967296 := hR ▸ rounds_lt W S HS2.out t2
          rw [hR] at aN
          have c0 := aN.cell (i := 0) (by omega)
          have x0 := getD_lt hRl 0
          obtain ⟨v0, hv0⟩ : ∃ v, R.getD 0 0 = v := ⟨_, rfl⟩
          rw [hv0] at c0 x0
          have c1 := aN.cell (i := 1) (by omega)
          have x1 := getD_lt hRl 1
          obtain ⟨v1, hv1⟩ : ∃ v, R.getD 1 0 = v := ⟨_, rfl⟩
          rw [hv1] at c1 x1
          have c2 := aN.cell (i := 2) (by omega)
          have x2 := getD_lt hRl 2
          obtain ⟨v2, hv2⟩ : ∃ v, R.getD 2 0 = v := ⟨_, rfl⟩
          rw [hv2] at c2 x2
          have c3 := aN.cell (i := 3) (by omega)
          have x3 := getD_lt hRl 3
          obtain ⟨v3, hv3⟩ : ∃ v, R.getD 3 0 = v := ⟨_, rfl⟩
          rw [hv3] at c3 x3
          have c4 := aN.cell (i := 4) (by omega)
          have x4 := getD_lt hRl 4
          obtain ⟨v4, hv4⟩ : ∃ v, R.getD 4 0 = v := ⟨_, rfl⟩
          rw [hv4] at c4 x4
          have c5 := aN.cell (i := 5) (by omega)
          have x5 := getD_lt hRl 5
          obtain ⟨v5, hv5⟩ : ∃ v, R.getD 5 0 = v := ⟨_, rfl⟩
          rw [hv5] at c5 x5
          have c6 := aN.cell (i := 6) (by omega)
          have x6 := getD_lt hRl 6
          obtain ⟨v6, hv6⟩ : ∃ v, R.getD 6 0 = v := ⟨_, rfl⟩
          rw [hv6] at c6 x6
          have c7 := aN.cell (i := 7) (by omega)
          have x7 := getD_lt hRl 7
          obtain ⟨v7, hv7⟩ : ∃ v, R.getD 7 0 = v := ⟨_, rfl⟩
          rw [hv7] at c7 x7
          have cw := rt.w64.cell (i := t2) (by rw [HL.out]; exact hl2)
          obtain ⟨wt, hwt⟩ : ∃ v, W.getD t2 0 = v := ⟨_, rfl⟩
          rw [hwt] at cw
          have hl2i : (t2 : Int) < 64 := by omega
          obtain ⟨kt, hkt⟩ : ∃ v, kAdd.getD t2 0 = v := ⟨_, rfl⟩
          have CK := fun W' => added_any t2 W' hl2
          rw [hkt] at CK
          have HV := Lib.hid (And.intro hR (And.intro hwt (And.intro hkt (And.intro hv0 (And.intro hv1 (And.intro hv2 (And.intro hv3 (And.intro hv4 (And.intro hv5 (And.intro hv6 hv7))))))))))
          have HCK := Lib.hid CK
          have HAN := Lib.hid (And.intro aN rt)
          have HR8 := Lib.hid hR8
          clear hR hR8 hRl aN rt hv0 hv1 hv2 hv3 hv4 hv5 hv6 hv7 hwt hkt CK
          go_wp2
          go_quiet ((first | (go_at_call 88; exact quiet_left (HCK.out _)) | (go_at_call 87; exact quiet_left (refR_z v4 _ _ x4 (by omega) (by omega)))))
          go_wp2
          go_quiet ((go_at_call 87; exact quiet_add_left (refR_z v0 _ _ x0 (by omega) (by omega))))
          have aN := HAN.out.1
          have HRN := Lib.hid (show (rnd kt wt R).length = 8 from rfl)
          obtain ⟨RN, hRN⟩ : ∃ RN, rnd kt wt R = RN := ⟨_, rfl⟩
          rw [hRN] at HRN
          have HRNe := Lib.hid hRN
          clear hRN
          go_wp2_with (with_reducible refine wpList_storeE rfl (.tmp 10) (.tmp 163) rfl wo.heap.size rfl R RN HR8 HRN (aN.drewN _) ?_ ?_)
          · clear aN
            rw [← HRNe.out]
            refine agg_rnd HV.out.2.2.2 ?_ ?_
            · rw [ch_eq2 x4 x5 x6, maj_eq x0 x1 x2, xor3 (rotr_lt 6 x4) (rotr_lt 11 x4) (rotr_lt 25 x4), xor3 (rotr_lt 2 x0) (rotr_lt 13 x0) (rotr_lt 22 x0), mixE, mixA]
              omega
            · rw [ch_eq2 x4 x5 x6, xor3 (rotr_lt 6 x4) (rotr_lt 11 x4) (rotr_lt 25 x4), mixE]
              omega
          · go_wp2
            go_roundw
            case rel =>
              refine ⟨t2 + 1, by omega, by go_num, ?_, ?_⟩
              · rw [rounds, HV.out.2.2.1, HV.out.2.1, HV.out.1, HRNe.out]
                exact (aN.drewN _).setRow RN
              · have rt := (HAN.out.2).drewN
                exact ⟨(rt _).s.setRow_other _ (by omega) _, (rt _).r.setRow_other _ (by omega) _, (rt _).w64.setRow_other _ (by omega) _, below_setRow (rt _).below (by omega) _⟩
            case measure => simp [intOf]; omega
        · have ht64' : t2 = 64 := by omega
          rw [ht64'] at aN
          clear ht64'
          have hfin : take16 S (words xs) = List.zipWith (fun x y => (x + y) % 4294967296) (rounds W S 64) S := by rw [take16, HZ.out.1]
          obtain ⟨R, hR⟩ : ∃ R, rounds W S 64 = R := ⟨_, rfl⟩
          have hR8 : R.length = 8 := hR ▸ rounds_length W S HS.out 64
          rw [hR] at aN hfin
          have hX8 : (take16 S (words xs)).length = 8 := take16_length S _ HS.out
          obtain ⟨X, hX⟩ : ∃ X, take16 S (words xs) = X := ⟨_, rfl⟩
          rw [hX] at hfin hX8
          have HXe := Lib.hid hX
          have sA := rt.s
          have rA := rt.r
          have c0 := aN.cell (i := 0) (by omega)
          have d0 := sA.cell (i := 0) (by rw [HS.out]; omega)
          have c1 := aN.cell (i := 1) (by omega)
          have d1 := sA.cell (i := 1) (by rw [HS.out]; omega)
          have c2 := aN.cell (i := 2) (by omega)
          have d2 := sA.cell (i := 2) (by rw [HS.out]; omega)
          have c3 := aN.cell (i := 3) (by omega)
          have d3 := sA.cell (i := 3) (by rw [HS.out]; omega)
          have c4 := aN.cell (i := 4) (by omega)
          have d4 := sA.cell (i := 4) (by rw [HS.out]; omega)
          have c5 := aN.cell (i := 5) (by omega)
          have d5 := sA.cell (i := 5) (by rw [HS.out]; omega)
          have c6 := aN.cell (i := 6) (by omega)
          have d6 := sA.cell (i := 6) (by rw [HS.out]; omega)
          have c7 := aN.cell (i := 7) (by omega)
          have d7 := sA.cell (i := 7) (by rw [HS.out]; omega)
          obtain ⟨v0, hv0⟩ : ∃ v, R.getD 0 0 = v := ⟨_, rfl⟩
          obtain ⟨u0s, hu0⟩ : ∃ v, S.getD 0 0 = v := ⟨_, rfl⟩
          rw [hv0] at c0
          rw [hu0] at d0
          obtain ⟨v1, hv1⟩ : ∃ v, R.getD 1 0 = v := ⟨_, rfl⟩
          obtain ⟨u1s, hu1⟩ : ∃ v, S.getD 1 0 = v := ⟨_, rfl⟩
          rw [hv1] at c1
          rw [hu1] at d1
          obtain ⟨v2, hv2⟩ : ∃ v, R.getD 2 0 = v := ⟨_, rfl⟩
          obtain ⟨u2s, hu2⟩ : ∃ v, S.getD 2 0 = v := ⟨_, rfl⟩
          rw [hv2] at c2
          rw [hu2] at d2
          obtain ⟨v3, hv3⟩ : ∃ v, R.getD 3 0 = v := ⟨_, rfl⟩
          obtain ⟨u3s, hu3⟩ : ∃ v, S.getD 3 0 = v := ⟨_, rfl⟩
          rw [hv3] at c3
          rw [hu3] at d3
          obtain ⟨v4, hv4⟩ : ∃ v, R.getD 4 0 = v := ⟨_, rfl⟩
          obtain ⟨u4s, hu4⟩ : ∃ v, S.getD 4 0 = v := ⟨_, rfl⟩
          rw [hv4] at c4
          rw [hu4] at d4
          obtain ⟨v5, hv5⟩ : ∃ v, R.getD 5 0 = v := ⟨_, rfl⟩
          obtain ⟨u5s, hu5⟩ : ∃ v, S.getD 5 0 = v := ⟨_, rfl⟩
          rw [hv5] at c5
          rw [hu5] at d5
          obtain ⟨v6, hv6⟩ : ∃ v, R.getD 6 0 = v := ⟨_, rfl⟩
          obtain ⟨u6s, hu6⟩ : ∃ v, S.getD 6 0 = v := ⟨_, rfl⟩
          rw [hv6] at c6
          rw [hu6] at d6
          obtain ⟨v7, hv7⟩ : ∃ v, R.getD 7 0 = v := ⟨_, rfl⟩
          obtain ⟨u7s, hu7⟩ : ∃ v, S.getD 7 0 = v := ⟨_, rfl⟩
          rw [hv7] at c7
          rw [hu7] at d7
          have HF := Lib.hid (And.intro hfin hR8)
          have HX8 := Lib.hid hX8
          have HV := Lib.hid (And.intro (And.intro hv0 (And.intro hv1 (And.intro hv2 (And.intro hv3 (And.intro hv4 (And.intro hv5 (And.intro hv6 hv7))))))) (And.intro hu0 (And.intro hu1 (And.intro hu2 (And.intro hu3 (And.intro hu4 (And.intro hu5 (And.intro hu6 hu7))))))))
          clear hfin hR8 hR hX hX8 hv0 hv1 hv2 hv3 hv4 hv5 hv6 hv7 hu0 hu1 hu2 hu3 hu4 hu5 hu6 hu7 aN sA
          have HRT := Lib.hid rt
          clear rt
          go_wp2_with (with_reducible refine wpList_storeE rfl (.tmp 4) (.tmp 204) rfl (w.heap.size + 1) rfl zero8 X HZ8 HX8 rA ?_ ?_)
          · rw [HF.out.1]
            exact agg_sum HS.out HF.out.2 HV.out
          · refine bodyPost_ret_by (results_cell_row (p := 4) (ty := 70) (by kernel_rfl) _ _ (w.heap.size + 1) 70 (uvs X).toArray (0, 0) _ rfl (rA.setRow X) Tryz.underlying70 rfl (by rw [List.size_toArray, uvs_length, HX8.out]; exact infoE)) rfl ?_
            exact ⟨by rw [HXe.out], below_setRow HRT.out.below (by omega) _⟩

end Go.Proofs.YtijiolebcnlfgaaGreatDoor

/-
  The document's End: what stands behind so many bytes.
-/
namespace Go.Proofs.YtijiolebcnlfgaaGreatDoor
open Go.RowKit

/-- A call has answered n bytes, zs, in memory of its own. -/
def GivesB (w : World) (zs : List Nat) (e : Ending) (w' : World) : Prop := ∃ A c, e = .returned (.slice A zs.length c) ∧ w'.ownsRow w.heap.size 5 1 (.slice A zs.length c) zs.length (bvs zs) ∧ Below w.heap.size w w'

theorem noughts_zero (n : Nat) : (n + 1 + noughts n + 8) % 64 = 0 := by rw [noughts]; omega
theorem noughts_least (n k : Nat) (h : k < noughts n) : (n + 1 + k + 8) % 64 ≠ 0 := by rw [noughts] at h; omega

set_option maxRecDepth 100000 in
set_option maxHeartbeats 1000000 in
theorem refEnd_any (n : Nat) (w : World) (hn : n ≤ 1000000000) :
    Calls Tryz.prog 58 #[.int .i64 (n : Int)] w (GivesB w (endL n)) := by
  obtain ⟨z, hz⟩ : ∃ z, noughts n = z := ⟨_, rfl⟩
  have z3 : z < 64 := by rw [← hz, noughts]; omega
  have zz := noughts_zero n
  have zl := noughts_least n
  rw [hz] at zz zl
  have HZ := Lib.hid (And.intro hz (And.intro zz zl))
  clear hz zz zl
  have own1 : (w.alloc (.cells (bvs [128]).toArray 5)).ownsRow w.heap.size 5 1 (.slice (some ⟨w.heap.size, 0, none⟩) 1 1) 1 (bvs [128]) :=
    ⟨rfl, .inr ⟨w.heap.size, 1, (bvs [128]).toArray, rfl, Nat.le_refl _, World.alloc_heap_new w _, Nat.le_refl _, by unfold maxLen; omega, rfl, rfl⟩⟩
  have OWN := Lib.hid own1
  clear own1
  go_enter Tryz.func58, Tryz.ntmps58
  go_wp2
  go_loopw [3] (fun v wr => ∃ (k : Nat) (A : Option Addr) (c : Nat), k ≤ z ∧ v = .slice A (1 + k) c ∧ wr.ownsRow w.heap.size 5 1 (.slice A (1 + k) c) (1 + k) (bvs (128 :: List.replicate k 0)) ∧ Below w.heap.size w wr) (fun v _ => match v with | .slice _ m _ => 100 - m | _ => 0)
  case atStart => exact ⟨0, _, 1, Nat.zero_le _, rfl, OWN.out, below_alloc w _⟩
  case round =>
    clear OWN
    obtain ⟨k, A, c, hk, rfl, hown, hb⟩ := hrel
    have zB := hb.size
    by_cases hlt : k < z
    · have tst : ((((n : Int) + (1 + (k : Int)) + 8) % 64) != 0) = true := by have := HZ.out.2.2 k hlt; simp; omega
      have ib := In.new' wr [0] 5
      have ho5 := hown.alloc (.cells (bvs [0]).toArray 5)
      go_wp2_with (at_builtin; refine wpList_app _ rfl (.tmp 13) (.tmp 14) rfl w.heap.size A (1 + k) c _ rfl ho5 (some ⟨wr.heap.size, 0, none⟩) 1 1 [0] rfl ib (fun h => by cases h) (by omega) (by simp; omega) ?_; intro A4 c4 w4 ho4 hb4)
      go_roundw
      case rel =>
        refine ⟨k + 1, A4, c4, by omega, rfl, ?_, (hb.alloc zB _).trans hb4⟩
        rw [List.cons_append, ← List.replicate_succ'] at ho4
        exact ho4
      case measure => simp; omega
    · obtain rfl : k = z := by omega
      have tst : ((((n : Int) + (1 + (k : Int)) + 8) % 64) != 0) = false := by have := HZ.out.2.1; simp; omega
      obtain ⟨wo, rfl⟩ : ∃ wo : World, wo = wr := ⟨_, rfl⟩
      go_wp2
      go_loopw [3, 4] (fun v i wr => ∃ (j : Nat) (q : Int) (A : Option Addr) (c : Nat), j ≤ 8 ∧ q = 7 - (j : Int) ∧ i = .int .i64 q ∧ v = .slice A (1 + k + j) c ∧ wr.ownsRow w.heap.size 5 1 (.slice A (1 + k + j) c) (1 + k + j) (bvs (128 :: List.replicate k 0 ++ (dg (n * 8) 8).take j)) ∧ Below w.heap.size w wr) (fun _ i _ => (intOf i + 1).toNat)
      case atStart => exact ⟨0, _, A, c, by omega, by omega, rfl, rfl, by rw [List.take_zero, List.append_nil]; exact hown, hb⟩
      case round =>
        clear hown hb
        obtain ⟨j, q, A', c', hj, hq, rfl, rfl, hown, hb⟩ := hrel
        have zB2 := hb.size
        by_cases hl8 : j < 8
        · obtain ⟨p, hp⟩ : ∃ p : Nat, 7 - j = p := ⟨_, rfl⟩
          obtain rfl : q = (p : Int) := by omega
          have hdig := dg_get (n * 8) 8 j hl8
          rw [show 8 - 1 - j = p by omega] at hdig
          obtain ⟨y, hy⟩ : ∃ y, n * 8 / 256 ^ p % 256 = y := ⟨_, rfl⟩
          rw [hy] at hdig
          have ey : (8 * (n : Int)) / 2 ^ (8 * p) % 256 = (y : Int) := by
            rw [← hy, show (8 * (n : Int)) = ((n * 8 : Nat) : Int) by omega, hi_nat]
            omega
          have ib := In.new' wr [y] 5
          have ho5 := hown.alloc (.cells (bvs [y]).toArray 5)
          have HD := Lib.hid (take_snoc_of hdig)
          have HQ := Lib.hid (And.intro hq hp)
          have p7 : p ≤ 7 := by omega
          clear hdig hy hq hp
          go_wp2_with (at_builtin; refine wpList_app _ rfl (.tmp 20) (.tmp 29) rfl w.heap.size A' (1 + k + j) c' _ rfl ho5 (some ⟨wr.heap.size, 0, none⟩) 1 1 [y] rfl ib (fun h => by cases h) (by omega) (by simp; omega) ?_; intro A4 c4 w4 ho4 hb4)
          go_roundw
          case rel =>
            refine ⟨j + 1, _, A4, c4, by omega, by have := HQ.out; omega, rfl, rfl, ?_, (hb.alloc zB2 _).trans hb4⟩
            rw [List.append_assoc, ← HD.out] at ho4
            exact ho4
          case measure => simp [intOf]
        · obtain rfl : j = 8 := by omega
          have hneg : decide (0 ≤ q) = false := by simp; omega
          rw [take_all] at hown
          have hl : (endL n).length = 1 + k + 8 := by rw [endL, HZ.out.1, List.length_cons, List.length_append, List.length_replicate, dg_length]; omega
          have he : (128 :: List.replicate k 0 ++ dg (n * 8) 8) = endL n := by rw [endL, HZ.out.1]; rfl
          rw [he] at hown
          have HO := Lib.hid (And.intro hl hown)
          clear hl he hown
          go_wp2
          go_ret
          exact ⟨A', c', by rw [HO.out.1]; rfl, by rw [HO.out.1]; exact HO.out.2, hb⟩

end Go.Proofs.YtijiolebcnlfgaaGreatDoor

/-
  The document's Sum, Begin.
-/
namespace Go.Proofs.YtijiolebcnlfgaaGreatDoor
open Go.RowKit

theorem dg4_get (n r : Nat) (h : r < 4) : (dg n 4).getD r 0 = n / 256 ^ (3 - r) % 256 := by
  rw [List.getD_eq_getElem?_getD, dg_get n 4 r h]
  rfl
theorem toldL_get (S : List Nat) : ∀ i, i < 4 * S.length → (toldL S).getD i 0 = S.getD (i / 4) 0 / 256 ^ (3 - i % 4) % 256 := by
  induction S with
  | nil => intro i h; simp at h
  | cons n S ih =>
    intro i hi
    rw [List.length_cons] at hi
    rw [toldL, List.map_cons, List.flatten_cons, List.getD_eq_getElem?_getD]
    by_cases h : i < 4
    · rw [List.getElem?_append_left (by rw [dg_length]; exact h), ← List.getD_eq_getElem?_getD, dg4_get n i h, show i / 4 = 0 by omega, show i % 4 = i by omega]
      rfl
    · have e := ih (i - 4) (by omega)
      rw [toldL, List.getD_eq_getElem?_getD] at e
      rw [List.getElem?_append_right (by rw [dg_length]; omega), dg_length, e, show (i - 4) % 4 = i % 4 by omega, show i / 4 = (i - 4) / 4 + 1 by omega]
      rfl
/-- The first j bytes are those that should be. -/
def SumP (S : List Nat) (j : Nat) (ys : List Nat) : Prop := ys.length = 32 ∧ ∀ i, i < j → ys.getD i 0 = (toldL S).getD i 0
theorem SumP.next {S ys : List Nat} {j v : Nat} (h : SumP S j ys) (hj : j < 32) (hv : v = (toldL S).getD j 0) : SumP S (j + 1) (ys.set j v) := by
  refine ⟨by rw [List.length_set]; exact h.1, fun i hi => ?_⟩
  rw [getD_set _ _ _ _ (by rw [h.1]; exact hj)]
  by_cases e : j = i
  · rw [if_pos e, hv, e]
  · rw [if_neg e, h.2 i (by omega)]
theorem SumP.end_ {S ys : List Nat} (h : SumP S 32 ys) (hS : S.length = 8) : ys = toldL S := by
  have hl := toldL_length S
  rw [hS] at hl
  apply List.ext_getElem?
  intro i
  by_cases hi : i < 32
  · have := h.2 i hi
    rw [List.getD_eq_getElem?_getD, List.getD_eq_getElem?_getD, List.getElem?_eq_getElem (by rw [h.1]; exact hi), List.getElem?_eq_getElem (by omega), Option.getD_some, Option.getD_some] at this
    rw [List.getElem?_eq_getElem (by rw [h.1]; exact hi), List.getElem?_eq_getElem (by omega), this]
  · rw [List.getElem?_eq_none (by rw [h.1]; omega), List.getElem?_eq_none (by omega)]
theorem list8 {S : List Nat} (hS : S.length = 8) : S = [S.getD 0 0, S.getD 1 0, S.getD 2 0, S.getD 3 0, S.getD 4 0, S.getD 5 0, S.getD 6 0, S.getD 7 0] := by
  match S, hS with
  | [s0, s1, s2, s3, s4, s5, s6, s7], _ => rfl

set_option maxRecDepth 100000 in
set_option maxHeartbeats 2000000 in
theorem refSum_any (S : List Nat) (w : World) (hS : S.length = 8) (hl : ∀ x ∈ S, x < 4294967296) :
    Calls Tryz.prog 61 #[.agg (uvs S).toArray] w fun e w' => e = .returned (sv (toldL S)) ∧ Below w.heap.size w w' := by
  have HS := Lib.hid hS
  have HL := Lib.hid hl
  have HZ := Lib.hid (show zero32.length = 32 from rfl)
  have h8 := list8 hS
  have f0 := Arr.alloc (Arr.new w 70 S) (.cells #[.int .u8 0, .int .u8 0, .int .u8 0, .int .u8 0, .int .u8 0, .int .u8 0, .int .u8 0, .int .u8 0, .int .u8 0, .int .u8 0, .int .u8 0, .int .u8 0, .int .u8 0, .int .u8 0, .int .u8 0, .int .u8 0, .int .u8 0, .int .u8 0, .int .u8 0, .int .u8 0, .int .u8 0, .int .u8 0, .int .u8 0, .int .u8 0, .int .u8 0, .int .u8 0, .int .u8 0, .int .u8 0, .int .u8 0, .int .u8 0, .int .u8 0, .int .u8 0] 40)
  have c0 := f0.cell (i := 0) (by omega)
  have c1 := f0.cell (i := 1) (by omega)
  have c2 := f0.cell (i := 2) (by omega)
  have c3 := f0.cell (i := 3) (by omega)
  have c4 := f0.cell (i := 4) (by omega)
  have c5 := f0.cell (i := 5) (by omega)
  have c6 := f0.cell (i := 6) (by omega)
  have c7 := f0.cell (i := 7) (by omega)
  obtain ⟨v0, hv0⟩ : ∃ v, S.getD 0 0 = v := ⟨_, rfl⟩
  rw [hv0] at c0 h8
  clear hv0
  obtain ⟨v1, hv1⟩ : ∃ v, S.getD 1 0 = v := ⟨_, rfl⟩
  rw [hv1] at c1 h8
  clear hv1
  obtain ⟨v2, hv2⟩ : ∃ v, S.getD 2 0 = v := ⟨_, rfl⟩
  rw [hv2] at c2 h8
  clear hv2
  obtain ⟨v3, hv3⟩ : ∃ v, S.getD 3 0 = v := ⟨_, rfl⟩
  rw [hv3] at c3 h8
  clear hv3
  obtain ⟨v4, hv4⟩ : ∃ v, S.getD 4 0 = v := ⟨_, rfl⟩
  rw [hv4] at c4 h8
  clear hv4
  obtain ⟨v5, hv5⟩ : ∃ v, S.getD 5 0 = v := ⟨_, rfl⟩
  rw [hv5] at c5 h8
  clear hv5
  obtain ⟨v6, hv6⟩ : ∃ v, S.getD 6 0 = v := ⟨_, rfl⟩
  rw [hv6] at c6 h8
  clear hv6
  obtain ⟨v7, hv7⟩ : ∃ v, S.getD 7 0 = v := ⟨_, rfl⟩
  rw [hv7] at c7 h8
  clear hv7
  have HV := Lib.hid h8
  clear hS hl h8 f0
  go_enter Tryz.func61, Tryz.ntmps61
  go_wp2
  go_loopw [5] (fun i wr => ∃ (j : Nat) (ys : List Nat), j ≤ 32 ∧ i = .int .i64 (j : Int) ∧ SumP S j ys ∧ Arr wr (w.heap.size + 1 + 1) 68 S ∧ BArr wr (w.heap.size + 1) 40 zero32 ∧ BArr wr (w.heap.size + 1 + 1 + 1) 40 ys ∧ Below w.heap.size w wr) (fun i _ => 32 - (intOf i).toNat)
  case atStart =>
    have g2 := Arr.alloc (Arr.new ((w.alloc (.cells (uvs S).toArray 70)).alloc (.cells #[.int .u8 0, .int .u8 0, .int .u8 0, .int .u8 0, .int .u8 0, .int .u8 0, .int .u8 0, .int .u8 0, .int .u8 0, .int .u8 0, .int .u8 0, .int .u8 0, .int .u8 0, .int .u8 0, .int .u8 0, .int .u8 0, .int .u8 0, .int .u8 0, .int .u8 0, .int .u8 0, .int .u8 0, .int .u8 0, .int .u8 0, .int .u8 0, .int .u8 0, .int .u8 0, .int .u8 0, .int .u8 0, .int .u8 0, .int .u8 0, .int .u8 0, .int .u8 0] 40)) 68 [v0, v1, v2, v3, v4, v5, v6, v7]) (.cells #[.int .u8 0, .int .u8 0, .int .u8 0, .int .u8 0, .int .u8 0, .int .u8 0, .int .u8 0, .int .u8 0, .int .u8 0, .int .u8 0, .int .u8 0, .int .u8 0, .int .u8 0, .int .u8 0, .int .u8 0, .int .u8 0, .int .u8 0, .int .u8 0, .int .u8 0, .int .u8 0, .int .u8 0, .int .u8 0, .int .u8 0, .int .u8 0, .int .u8 0, .int .u8 0, .int .u8 0, .int .u8 0, .int .u8 0, .int .u8 0, .int .u8 0, .int .u8 0] 40)
    have g1 := BArr.alloc (BArr.alloc (BArr.new (w.alloc (.cells (uvs S).toArray 70)) 40 zero32) (.cells (uvs [v0, v1, v2, v3, v4, v5, v6, v7]).toArray 68)) (.cells #[.int .u8 0, .int .u8 0, .int .u8 0, .int .u8 0, .int .u8 0, .int .u8 0, .int .u8 0, .int .u8 0, .int .u8 0, .int .u8 0, .int .u8 0, .int .u8 0, .int .u8 0, .int .u8 0, .int .u8 0, .int .u8 0, .int .u8 0, .int .u8 0, .int .u8 0, .int .u8 0, .int .u8 0, .int .u8 0, .int .u8 0, .int .u8 0, .int .u8 0, .int .u8 0, .int .u8 0, .int .u8 0, .int .u8 0, .int .u8 0, .int .u8 0, .int .u8 0] 40)
    have g3 := BArr.new (((w.alloc (.cells (uvs S).toArray 70)).alloc (.cells #[.int .u8 0, .int .u8 0, .int .u8 0, .int .u8 0, .int .u8 0, .int .u8 0, .int .u8 0, .int .u8 0, .int .u8 0, .int .u8 0, .int .u8 0, .int .u8 0, .int .u8 0, .int .u8 0, .int .u8 0, .int .u8 0, .int .u8 0, .int .u8 0, .int .u8 0, .int .u8 0, .int .u8 0, .int .u8 0, .int .u8 0, .int .u8 0, .int .u8 0, .int .u8 0, .int .u8 0, .int .u8 0, .int .u8 0, .int .u8 0, .int .u8 0, .int .u8 0] 40)).alloc (.cells (uvs [v0, v1, v2, v3, v4, v5, v6, v7]).toArray 68)) 40 zero32
    rw [World.size_alloc] at g1
    rw [World.size_alloc, World.size_alloc] at g2
    rw [World.size_alloc, World.size_alloc, World.size_alloc] at g3
    refine ⟨0, zero32, by omega, rfl, ⟨rfl, fun i hi => by omega⟩, ?_, g1, g3, ((below3 w _ _ _).alloc (by simp; omega) _)⟩
    exact Eq.trans (show _ = _ from g2) (by rw [← HV.out])
  case round =>
    obtain ⟨j, ys, hj, rfl, P, a2, b1, b3, bel⟩ := hrel
    by_cases hlt : j < 32
    · obtain ⟨k, hk⟩ : ∃ k, j / 4 = k := ⟨_, rfl⟩
      obtain ⟨r, hr⟩ : ∃ r, j % 4 = r := ⟨_, rfl⟩
      obtain ⟨q, hq⟩ : ∃ q, 24 - 8 * r = q := ⟨_, rfl⟩
      have ck := a2.cell (i := k) (by rw [HS.out]; omega)
      obtain ⟨n, hn⟩ : ∃ n, S.getD k 0 = n := ⟨_, rfl⟩
      rw [hn] at ck
      have nb : n < 4294967296 := hn ▸ getD_lt HL.out k
      have cj := b3.cell (i := j) (by rw [P.1]; exact hlt)
      have fj := b3.free j
      have i1 : (j : Int) / 4 = (k : Int) := by omega
      have i2 : (j : Int) % 4 = (r : Int) := by omega
      have i3 : (24 : Int) - 8 * (r : Int) = (q : Int) := by omega
      have k8 : (k : Int) < 8 := by omega
      have r4 : r < 4 := by omega
      have q24 : q ≤ 24 := by omega
      have hv : n / 2 ^ q % 256 = (toldL S).getD j 0 := by
        rw [toldL_get S j (by rw [HS.out]; omega), hk, hr, hn, show (256 : Nat) = 2 ^ 8 from rfl, ← Nat.pow_mul, show 8 * (3 - r) = q by omega]
      have HP := Lib.hid (And.intro (P.next hlt hv) (And.intro a2 (And.intro b1 (And.intro b3 bel))))
      clear hv P a2 b1 b3 bel hk hr hq hn
      go_wp2
      go_roundw
      case rel =>
        have ev : ((n : Int) / 2 ^ q % 256) = ((n / 2 ^ q % 256 : Nat) : Int) := by simp
        rw [ev]
        exact ⟨j + 1, _, by omega, by go_num, HP.out.1, HP.out.2.1.other _ _ (by show w.heap.size + 1 + 1 ≠ w.heap.size + 1 + 1 + 1; omega), HP.out.2.2.1.other _ _ (by show w.heap.size + 1 ≠ w.heap.size + 1 + 1 + 1; omega), HP.out.2.2.2.1.set j _, HP.out.2.2.2.2.setCell (by show w.heap.size ≤ w.heap.size + 1 + 1 + 1; omega) _⟩
      case measure => simp [intOf]; omega
    · obtain rfl : j = 32 := by omega
      obtain rfl := P.end_ HS.out
      have hat := b3.at_
      have hl32 : (toldL S).length = 32 := by rw [toldL_length, HS.out]
      clear P
      go_wp2_with (first
        | (with_reducible refine wpList_load_sum rfl (.tmp 4) rfl ⟨w.heap.size + 1 + 1 + 1, 0, none⟩ rfl (toldL S) hl32 hat ?_)
        | (with_reducible refine wpList_store_sum rfl (.tmp 2) (.tmp 41) rfl (w.heap.size + 1) rfl zero32 (toldL S) HZ hl32 b1 rfl ?_))
      refine bodyPost_ret_by (results_cell_row (p := 2) (ty := 40) (by kernel_rfl) _ _ (w.heap.size + 1) 40 (bvs (toldL S)).toArray (0, 0) _ rfl (b1.setRow _) Tryz.underlying40 rfl (by rw [List.size_toArray, bvs_length, hl32]; exact sizeSum)) rfl ?_
      exact ⟨rfl, below_setRow bel (by omega) _⟩

set_option maxRecDepth 100000 in
set_option maxHeartbeats 1000000 in
theorem refBegin_any (w : World) :
    Calls Tryz.prog 59 #[] w fun e w' => e = .returned (.agg (uvs h0).toArray) ∧ Below w.heap.size w w' := by
  have n1 := Arr.new w 70 zero8
  rw [zero8_lit] at n1
  have HZ8 := Lib.hid (show zero8.length = 8 from rfl)
  have H0 := Lib.hid h0_length
  go_enter Tryz.func59, Tryz.ntmps59
  go_wp2_with (with_reducible refine wpList_storeE rfl (.tmp 0) (.tmp 1) rfl w.heap.size rfl zero8 h0 HZ8 H0 n1 ?_ ?_)
  · rfl
  · refine bodyPost_ret_by (results_cell_row (p := 0) (ty := 70) (by kernel_rfl) _ _ w.heap.size 70 (uvs h0).toArray (0, 0) _ rfl (n1.setRow h0) Tryz.underlying70 rfl infoE) rfl ?_
    exact ⟨rfl, below_setRow (below_alloc w _) (Nat.le_refl _) _⟩

end Go.Proofs.YtijiolebcnlfgaaGreatDoor

/-
  The document's Of.
-/
namespace Go.Proofs.YtijiolebcnlfgaaGreatDoor
open Go.RowKit

theorem own_below {w w' : World} {base : Nat} {e : TypeId} {size : Nat} {v : Value} {n : Nat} {xs : List Value} (h : w.ownsRow base e size v n xs) (hb : Below w.heap.size w w') : w'.ownsRow base e size v n xs := by
  refine ⟨h.1, ?_⟩
  rcases h.2 with ⟨e1, h0⟩ | ⟨g, cap, cur, e1, h1, hg, h2⟩
  · exact .inl ⟨e1, h0⟩
  · exact .inr ⟨g, cap, cur, e1, h1, (hb.block g (Array.getElem?_eq_some_iff.1 hg).1).trans hg, h2⟩

/-- 's[k:k+64]'. -/
theorem run_cut64 {ad : Addr} {n c k : Nat} (hk : k + 64 ≤ n) (hc : n ≤ c) (W : World) :
    (Instr.slice 66 (.slice (some ad) n c) (some (.int .i64 (k : Int))) (some (.int .i64 ((k : Int) + 64))) none).run Tryz.prog W = .ok (.slice (some (ad.add k)) 64 (c - k)) W := by
  obtain ⟨i0, hi, hz0, hz1, hz2⟩ := info_parts infoByte
  have he : Tryz.prog.elem 66 = 5 := by kernel_rfl
  rw [run_slice_lh W 66 (some ad) n c (by rw [he]; exact Tryz.underlying66) .i64 .i64 (k : Int) ((k : Int) + 64) (by omega) (by omega) (by omega), he]
  have e1 : ((k : Int) + 64).toNat = k + 64 := by omega
  have e2 : ¬ c = k := by omega
  simp [sizeOf, typeInfo, hi, hz1, sliced, e1, e2]
theorem Arr.range {w : World} {g : Nat} {T : TypeId} {xs : List Nat} (h : Arr w g T xs) : w.rangeAt g 0 (uvs xs) := fun j v hv => by
  rw [Nat.zero_add, cell_of_row _ g j _ T (0, 0) h, List.getElem?_toArray, hv]
theorem Arr.storable {w : World} {g : Nat} {T : TypeId} {xs : List Nat} (h : Arr w g T xs) : w.there g 0 xs.length := fun j hj => by
  rw [Nat.zero_add]
  exact ⟨by rw [h.cell hj]; rfl, h.free j⟩
theorem whole_mod (xs : List Nat) : (xs ++ endL xs.length).length % 64 = 0 := by
  rw [List.length_append, endL_length]
  have := noughts_zero xs.length
  omega

set_option maxRecDepth 100000 in
set_option maxHeartbeats 1000000 in
theorem refOf_any (A : Option Addr) (n c : Nat) (xs : List Nat) (w : World) (hin : In w A n xs) (hx : ∀ x ∈ xs, x < 256) (hnil : A = none → c = 0) (hn : n ≤ 900000000) :
    Calls Tryz.prog 19 #[.slice A n c] w fun e w' => e = .returned (sv (sha xs)) ∧ Below w.heap.size w w' := by
  have HX := Lib.hid hx
  have HZ32 := Lib.hid (show zero32.length = 32 from rfl)
  clear hx
  have f1 := BArr.new w 40 zero32
  have b1 := below_alloc w (.cells (bvs zero32).toArray 40)
  have s1 : (w.alloc (.cells (bvs zero32).toArray 40)).heap.size = w.heap.size + 1 := World.size_alloc _ _
  have F1 := Lib.hid f1
  have B1 := Lib.hid b1
  have S1 := Lib.hid s1
  clear f1 b1 s1
  have hown0 : ∀ W : World, W.ownsRow (w.heap.size + 1) 5 1 (.slice none 0 0) 0 (bvs []) := fun W => ⟨rfl, .inl ⟨rfl, rfl⟩⟩
  have HO := Lib.hid hown0
  clear hown0
  go_enter Tryz.func19, Tryz.ntmps19
  go_wp2_with (at_builtin; refine wpList_app _ rfl (.const (.slice none 0 0)) (.tmp 6) rfl (w.heap.size + 1) none 0 0 [] rfl (HO.out _) A n c xs rfl (hin.below B1.out) hnil (by omega) (by rw [← S1.out]; exact Nat.le_refl _) ?_; intro A2 c2 w2 ho2 hb2)
  simp only [Nat.zero_add, List.nil_append] at ho2
  obtain ⟨E, hE⟩ : ∃ E, endL n = E := ⟨_, rfl⟩
  have hEl : E.length ≤ 73 := by rw [← hE, endL_length]; have := noughts_lt n; omega
  have hElt : ∀ x ∈ E, x < 256 := hE ▸ endL_lt n
  have hsha : sha xs = toldL (eaten h0 (xs ++ E) ((xs ++ E).length / 64)) := by rw [sha, hin.len, hE]
  have hmod : (xs ++ E).length % 64 = 0 := by rw [← hE, ← hin.len]; exact whole_mod xs
  have hlen : (xs ++ E).length = n + E.length := by rw [List.length_append, hin.len]
  have bel2 : Below w.heap.size w w2 := B1.out.trans (hb2.mono (by omega))
  have f2 : BArr w2 w.heap.size 40 zero32 := (hb2.block _ (by omega)).trans F1.out
  have C1 := Lib.hid (refEnd_any n w2 (by omega))
  rw [hE] at C1
  refine C1.out.mono ?_
  rintro e w3 ⟨A3, c3, rfl, ho3, hb3⟩
  have ho2' := own_below ho2 hb3
  have i3 : In w3 A3 E.length E := In.of_own ho3
  have n3 := own_nil ho3
  have z3 := hb3.size
  have z2 := bel2.size
  obtain ⟨m, hm⟩ : ∃ m, E.length = m := ⟨_, rfl⟩
  rw [hm] at i3 hlen hEl ⊢
  have HSh := Lib.hid (And.intro hsha (And.intro hmod (And.intro hlen hElt)))
  have HB3 := Lib.hid (And.intro (below_on bel2 (Nat.le_refl _) hb3) (f2.below hb3))
  clear hsha hmod hlen hElt hE hm ho3 C1 hb2 F1 B1
  have zb : w.heap.size + 1 ≤ w3.heap.size := by have := HB3.out.2.lt; omega
  go_wp2_with (at_builtin; refine wpList_app _ rfl (.tmp 7) (.tmp 10) rfl (w.heap.size + 1) A2 n c2 xs rfl ho2' A3 m c3 E rfl i3 n3 (by omega) zb ?_; intro A4 c4 w4 ho4 hb4)
  have bel4 : Below w.heap.size w w4 := HB3.out.1.trans (hb4.mono (by omega))
  have f4 : BArr w4 w.heap.size 40 zero32 := (hb4.block _ (by omega)).trans HB3.out.2
  have i4 : In w4 A4 (n + m) (xs ++ E) := In.of_own ho4
  have l4 := own_cap ho4
  have C2 := Lib.hid (refBegin_any w4)
  have HB4 := Lib.hid (And.intro bel4 (And.intro f4 i4))
  clear bel4 f4 i4 ho4 hb4 ho2 ho2' i3 n3 HB3 f2 bel2
  refine C2.out.mono ?_
  rintro e w5 ⟨rfl, hb5⟩
  have n1 := Arr.new w5 70 zero8
  rw [zero8_lit] at n1
  have HZ8 := Lib.hid (show zero8.length = 8 from rfl)
  have H0 := Lib.hid h0_length
  have HB5 := Lib.hid (And.intro (below_on HB4.out.1 (Nat.le_refl _) hb5) (And.intro (HB4.out.2.1.below hb5) (HB4.out.2.2.below hb5)))
  clear hb5 HB4 C2
  go_wp2_with (with_reducible refine wpList_storeE rfl (.tmp 4) (.tmp 12) rfl w5.heap.size rfl zero8 h0 HZ8 H0 n1 rfl ?_)
  obtain ⟨D, hD⟩ : ∃ D, w5.heap.size = D := ⟨_, rfl⟩
  have hDl : w.heap.size < D := hD ▸ HB5.out.2.1.lt
  have hOff : Off A4 (n + m) D := by
    intro h0' ad he
    obtain ⟨ad', x, e', _, hcell⟩ := HB5.out.2.2.at_ h0'
    rw [he] at e'
    cases e'
    have := World.block_lt_of_cell? w5 _ hcell
    rw [block_add] at this
    omega
  have n2 := n1.setRow h0
  have bb : Below w5.heap.size w5 ((w5.alloc (.cells #[.int .u32 0, .int .u32 0, .int .u32 0, .int .u32 0, .int .u32 0, .int .u32 0, .int .u32 0, .int .u32 0] 70)).setRow w5.heap.size (uvs h0).toArray) := below_setRow (below_alloc _ _) (Nat.le_refl _) _
  rw [hD] at n2
  have HN := Lib.hid (And.intro n2 (And.intro (below_on HB5.out.1 (Nat.le_refl _) bb) (And.intro (HB5.out.2.1.below bb) (HB5.out.2.2.below bb))))
  rw [hD]
  have HD := Lib.hid hD
  rw [hD] at HN
  clear n2 bb n1 HB5 hD
  go_loopw [5] (fun i wr => ∃ (k : Nat), 64 * k ≤ n + m ∧ i = .int .i64 ((64 * k : Nat) : Int) ∧ Arr wr D 70 (eaten h0 (xs ++ E) k) ∧ Below w.heap.size w wr ∧ BArr wr w.heap.size 40 zero32 ∧ In wr A4 (n + m) (xs ++ E)) (fun i _ => n + m - (intOf i).toNat)
  case atStart => exact ⟨0, by omega, rfl, HN.out.1, HN.out.2.1, HN.out.2.2.1, HN.out.2.2.2⟩
  case round =>
    clear HN
    obtain ⟨k, hk, rfl, aS, bel, fb, i4⟩ := hrel
    obtain ⟨q, hq⟩ : ∃ q, 64 * k = q := ⟨_, rfl⟩
    rw [hq] at hk ⊢
    have hmod := HSh.out.2.1
    rw [HSh.out.2.2.1] at hmod
    by_cases hlt : q < n + m
    · have h64 : q + 64 ≤ n + m := by omega
      obtain ⟨ad, _, rfl, _⟩ := i4.at_ (show 0 < n + m by omega)
      have hcut := run_cut64 (ad := ad) h64 l4
      have hblk : In wr (some (ad.add q)) 64 (((xs ++ E).drop q).take 64) := i4.drop_take h64
      have hb8 := eaten_length h0 (xs ++ E) h0_length k
      obtain ⟨P, hP⟩ : ∃ P, eaten h0 (xs ++ E) k = P := ⟨_, rfl⟩
      obtain ⟨Z, hZ⟩ : ∃ Z, ((xs ++ E).drop q).take 64 = Z := ⟨_, rfl⟩
      have hPl : ∀ x ∈ P, x < 4294967296 := hP ▸ eaten_lt _ _ h0_lt _
      have hZl : ∀ x ∈ Z, x < 256 := by
        intro x hx
        rw [← hZ] at hx
        exact bytes_append HX.out HSh.out.2.2.2 x (List.mem_of_mem_drop (List.mem_of_mem_take hx))
      rw [hP] at aS hb8
      rw [hZ] at hblk
      have hnext : eaten h0 (xs ++ E) (k + 1) = take16 P (words Z) := by rw [eaten, hq, hP, hZ]
      have HNx := Lib.hid (And.intro hnext (And.intro hq hPl))
      have H8 := Lib.hid hb8
      have HAll := Lib.hid (And.intro aS (And.intro bel (And.intro fb (And.intro i4 (And.intro hblk hZl)))))
      clear hnext hP hZ hPl hb8 hq hZl aS bel fb i4 hblk hmod
      have hqi : (q : Int) < (n : Int) + (m : Int) := by omega
      have hw64 : IntKind.i64.wrap ((q : Int) + 64) = (q : Int) + 64 := IntWalk.i64_in _ (by omega)
      go_wp2
      refine wp_region_quiet_tail (C := fun w' => Below wr.heap.size wr w') 7 (by kernel_rfl) (by kernel_rfl) ((Below.refl _ _).drew) ?_
      simp only [List.take_succ_cons, List.take_zero, List.drop_succ_cons, List.drop_zero]
      refine wpQuiet_step (fun K hK => ?_)
      refine quiet_load_mid rfl 70 (.tmp 4) rfl D 0 rfl (uvs P) _ Tryz.underlying70 rfl (by rw [uvs_length, H8.out]; exact infoE) (fun W hC => (HAll.out.1.below hC).range) (hK _ ?_)
      clear hK K
      repeat (refine wpQuiet_step (fun K hK => ?_); go_simp; refine ⟨_, fun _ _ => rfl, hK _ ?_⟩; clear hK K)
      refine wpQuiet_step (fun K hK => ?_)
      go_simp
      refine ⟨.agg (uvs (take16 P (words Z))).toArray, fun W hC => ?_, hK _ ?_⟩
      · exact (refTake_any P Z _ _ W H8.out HNx.out.2.2 (HAll.out.2.2.2.2.1.below hC) HAll.out.2.2.2.2.2).mono fun e w'' ⟨he, hb⟩ => ⟨he, below_on hC (Nat.le_refl _) hb⟩
      clear hK K
      refine wpQuiet_nil ?_
      intro w6 hb6
      have hS8 := take16_length P (words Z) H8.out
      have HS8 := Lib.hid hS8
      have a6 := HAll.out.1.below hb6
      clear hS8
      have HA6 := Lib.hid a6
      refine wpList_storeE rfl (.tmp 4) (.tmp 25) rfl D rfl P (take16 P (words Z)) H8 HS8 a6 rfl ?_
      clear a6
      go_wp2
      go_roundw
      case rel =>
        refine ⟨k + 1, by have := HNx.out.2.1; omega, ?_, ?_, ?_, ?_, ?_⟩
        · have := HNx.out.2.1
          show Value.int .i64 ((q : Int) + 64) = _
          congr 1
          omega
        · rw [HNx.out.1]
          exact HA6.out.setRow _
        · exact below_setRow (below_on HAll.out.2.1 (Nat.le_refl _) hb6) (by omega) _
        · exact (HAll.out.2.2.1.below hb6).setRow_other _ (by omega) _
        · exact (HAll.out.2.2.2.1.below hb6).only ((Only.refl D w6).setRow _) hOff
      case measure => simp [intOf]; omega
    · have hk2 : (xs ++ E).length / 64 = k := by rw [HSh.out.2.2.1]; omega
      have hsha := HSh.out.1
      rw [hk2] at hsha
      obtain ⟨P, hP⟩ : ∃ P, eaten h0 (xs ++ E) k = P := ⟨_, rfl⟩
      have hP8 : P.length = 8 := hP ▸ eaten_length _ _ h0_length _
      have hPl : ∀ x ∈ P, x < 4294967296 := hP ▸ eaten_lt _ _ h0_lt _
      rw [hP] at aS hsha
      have H8 := Lib.hid hP8
      have HE := Lib.hid hsha
      have HPl := Lib.hid hPl
      have HF := Lib.hid (And.intro bel fb)
      have hl32 : (toldL P).length = 32 := by rw [toldL_length, hP8]
      clear hP hP8 hPl hk2 hsha hmod i4 bel fb hq
      have hqn : ¬ (q : Int) < (n : Int) + (m : Int) := by omega
      have hqd : decide ((q : Int) < (n : Int) + (m : Int)) = false := by simpa using hqn
      go_wp2_with (with_reducible refine wpList_loadE rfl (.tmp 4) rfl D rfl P H8 aS ?_)
      refine (refSum_any P wr H8.out HPl.out).mono ?_
      rintro e w6 ⟨rfl, hb6⟩
      have f6 := HF.out.2.below hb6
      go_wp2_with (with_reducible refine wpList_store_sum rfl (.tmp 2) (.tmp 27) rfl w.heap.size rfl zero32 (toldL P) HZ32 hl32 f6 rfl ?_)
      refine bodyPost_ret_by (results_cell_row (p := 2) (ty := 40) (by kernel_rfl) _ _ w.heap.size 40 (bvs (toldL P)).toArray (0, 0) _ rfl (f6.setRow _) Tryz.underlying40 rfl (by rw [List.size_toArray, bvs_length, hl32]; exact sizeSum)) rfl ?_
      exact ⟨by rw [HE.out]; rfl, below_setRow (below_on HF.out.1 (Nat.le_refl _) hb6) (Nat.le_refl _) _⟩

end Go.Proofs.YtijiolebcnlfgaaGreatDoor

/-
  almonerref08: Cut, Leaf.
-/
namespace Go.Proofs.YtijiolebcnlfgaaGreatDoor
open Go.RowKit

theorem run_take_u64 {ad : Addr} {n c k : Nat} (hk : k ≤ n) (hc : n ≤ c) (W : World) :
    (Instr.slice 22 (.slice (some ad) n c) none (some (.int .u64 (k : Int))) none).run Tryz.prog W = .ok (.slice (some ad) k c) W := by
  obtain ⟨i0, hi, hz0, hz1, hz2⟩ := info_parts infoSum
  have he : Tryz.prog.elem 22 = 40 := by kernel_rfl
  rw [run_slice_h W 22 (some ad) n c (by rw [he]; exact Tryz.underlying22) .u64 (k : Int) (by omega) (by omega), he]
  simp [sizeOf, typeInfo, hi, hz1, sliced, add_zero']

theorem run_drop_u64 {ad : Addr} {n c k : Nat} (hk : k < n) (hc : n ≤ c) (W : World) :
    (Instr.slice 22 (.slice (some ad) n c) (some (.int .u64 (k : Int))) none none).run Tryz.prog W = .ok (.slice (some (ad.add (k * 32))) (n - k) (c - k)) W := by
  obtain ⟨i0, hi, hz0, hz1, hz2⟩ := info_parts infoSum
  have he : Tryz.prog.elem 22 = 40 := by kernel_rfl
  rw [run_slice_l W 22 (some ad) n c (by rw [he]; exact Tryz.underlying22) .u64 (k : Int) (by omega) (by omega), he]
  have hne : c ≠ k := by omega
  simp [sizeOf, typeInfo, hi, hz1, sliced, hne]

set_option maxRecDepth 100000 in
set_option maxHeartbeats 1000000 in
theorem refCut_any (n : Nat) (w : World) (h2 : 2 ≤ n) (hn : n ≤ 65536) :
    Calls Tryz.prog 20 #[.int .u64 (n : Int)] w fun e w' => e = .returned (.int .u64 (cutN n : Int)) ∧ w' = w := by
  go_enter Tryz.func20, Tryz.ntmps20
  go_wp2
  go_loopw [3] (fun i wr => ∃ e k : Nat, 2 ^ e = k ∧ k < n ∧ i = .int .u64 (k : Int) ∧ wr = w) (fun i _ => n - (intOf i).toNat)
  case atStart => exact ⟨0, 1, rfl, by omega, rfl, rfl⟩
  case round =>
    obtain ⟨e, k, he, hlt, rfl, rfl⟩ := hrel
    obtain ⟨d, hd⟩ : ∃ d, n - k = d := ⟨_, rfl⟩
    have hsub : (n : Int) - (k : Int) = (d : Int) := by omega
    have hw1 : IntKind.u64.wrap (d : Int) = (d : Int) := by rw [IntKind.wrap_u64]; omega
    have hw2 : IntKind.u64.wrap (2 * (k : Int)) = 2 * (k : Int) := by rw [IntKind.wrap_u64]; omega
    by_cases hmore : k < d
    · have hi : decide ((k : Int) < (d : Int)) = true := by simp; omega
      have HP := Lib.hid (And.intro he hd)
      clear he hd
      go_wp2
      go_roundw
      case rel => exact ⟨e + 1, 2 * k, by rw [Nat.pow_succ, HP.out.1, Nat.mul_comm], by have := HP.out.2; omega, by go_num, trivial⟩
      case measure => simp [intOf]; have := Nat.two_pow_pos e; have := HP.out; omega
    · have hi : decide ((k : Int) < (d : Int)) = false := by simp; omega
      have hc : cutN n = k := by rw [← he]; exact cutN_of (by rw [he]; exact hlt) (by rw [he]; omega)
      have HC := Lib.hid hc
      clear he hc hd
      go_wp2
      go_ret
      exact ⟨by rw [HC.out]; rfl, rfl⟩

/-- '[]byte{x}' is the call's own. -/
theorem own_byte (W : World) (x base : Nat) (z : Int) (hz : z = (x : Int)) (hb : base ≤ W.heap.size) : (W.alloc (.cells #[.int .u8 z] 5)).ownsRow base 5 1 (.slice (some ⟨W.heap.size, 0, none⟩) 1 1) 1 (bvs [x]) := by
  subst hz
  exact ⟨rfl, .inr ⟨W.heap.size, 1, #[.int .u8 (x : Int)], rfl, hb, World.alloc_heap_new W _, Nat.le_refl _, by unfold maxLen; omega, rfl, rfl⟩⟩

end Go.Proofs.YtijiolebcnlfgaaGreatDoor

/-
  almonerref08: Node, Root.
-/
namespace Go.Proofs.YtijiolebcnlfgaaGreatDoor
open Go.RowKit

set_option maxRecDepth 100000 in
set_option maxHeartbeats 4000000 in
theorem refNode_any (l r : List Nat) (w : World) (hl : l.length = 32) (hr : r.length = 32) (ll : ∀ x ∈ l, x < 256) (lr : ∀ x ∈ r, x < 256) :
    Calls Tryz.prog 21 #[sv l, sv r] w fun e w' => e = .returned (sv (nodeL l r)) ∧ Below w.heap.size w w' := by
  have e0 : (bvs zero32).toArray = #[.int .u8 0, .int .u8 0, .int .u8 0, .int .u8 0, .int .u8 0, .int .u8 0, .int .u8 0, .int .u8 0, .int .u8 0, .int .u8 0, .int .u8 0, .int .u8 0, .int .u8 0, .int .u8 0, .int .u8 0, .int .u8 0, .int .u8 0, .int .u8 0, .int .u8 0, .int .u8 0, .int .u8 0, .int .u8 0, .int .u8 0, .int .u8 0, .int .u8 0, .int .u8 0, .int .u8 0, .int .u8 0, .int .u8 0, .int .u8 0, .int .u8 0, .int .u8 0] := rfl
  have f0 := ((BArr.new w 40 l).alloc (.cells (bvs r).toArray 40)).alloc (.cells (bvs zero32).toArray 40)
  have f1 := (BArr.new (w.alloc (.cells (bvs l).toArray 40)) 40 r).alloc (.cells (bvs zero32).toArray 40)
  have f2 := BArr.new ((w.alloc (.cells (bvs l).toArray 40)).alloc (.cells (bvs r).toArray 40)) 40 zero32
  have b1 : Below w.heap.size w (((w.alloc (.cells (bvs l).toArray 40)).alloc (.cells (bvs r).toArray 40)).alloc (.cells (bvs zero32).toArray 40)) := ((below_alloc w _).alloc (by simp) _).alloc (by simp; omega) _
  have s1 : (((w.alloc (.cells (bvs l).toArray 40)).alloc (.cells (bvs r).toArray 40)).alloc (.cells (bvs zero32).toArray 40)).heap.size = w.heap.size + 3 := by simp
  rw [World.size_alloc] at f1
  rw [World.size_alloc, World.size_alloc] at f2
  rw [e0] at f0 f1 f2 b1 s1
  clear e0
  obtain ⟨w1, hw1⟩ : ∃ w1, w1 = ((w.alloc (.cells (bvs l).toArray 40)).alloc (.cells (bvs r).toArray 40)).alloc (.cells #[.int .u8 0, .int .u8 0, .int .u8 0, .int .u8 0, .int .u8 0, .int .u8 0, .int .u8 0, .int .u8 0, .int .u8 0, .int .u8 0, .int .u8 0, .int .u8 0, .int .u8 0, .int .u8 0, .int .u8 0, .int .u8 0, .int .u8 0, .int .u8 0, .int .u8 0, .int .u8 0, .int .u8 0, .int .u8 0, .int .u8 0, .int .u8 0, .int .u8 0, .int .u8 0, .int .u8 0, .int .u8 0, .int .u8 0, .int .u8 0, .int .u8 0, .int .u8 0] 40) := ⟨_, rfl⟩
  rw [← hw1] at f0 f1 f2 b1 s1
  have iL : In w1 (some ⟨w.heap.size, 0, none⟩) 32 l := ⟨hl, fun j x hx => ⟨_, rfl, f0.at_ j x hx⟩⟩
  have iR : In w1 (some ⟨w.heap.size + 1, 0, none⟩) 32 r := ⟨hr, fun j x hx => ⟨_, rfl, f1.at_ j x hx⟩⟩
  have HW := Lib.hid (And.intro b1 (And.intro hw1 (And.intro f2 s1)))
  have HI := Lib.hid (And.intro iL iR)
  have HC := Lib.hid (And.intro ll lr)
  have hsl := run_arr_all Tryz.underlying40
  have hm : (nodeL l r).length = 32 := nodeL_length l r
  have hsha : sha ([1] ++ l ++ r) = nodeL l r := by rw [nodeL, List.append_assoc]; rfl
  obtain ⟨m, hm0⟩ : ∃ m, nodeL l r = m := ⟨_, rfl⟩
  rw [hm0] at hm hsha
  have HM := Lib.hid (And.intro hm0 hsha)
  have hbm : (bvs m).length = 32 := by rw [bvs_length, hm]
  have hst : ∀ W : World, BArr W (w.heap.size + 2) 40 zero32 → (storeCells ⟨w.heap.size + 2, 0, none⟩ (bvs m)).run Tryz.prog W = .ok () (W.setRow (w.heap.size + 2) (bvs m).toArray) := fun W hW => by
    have := run_storeCells_from (P := Tryz.prog) (w.heap.size + 2) 40 (bvs m) 0 _ W hW (by rw [hbm]; rfl) (bvs_oneCell m)
    simpa using this
  clear f0 f1 f2 b1 s1 hw1 iL iR hm0 hsha ll lr
  unfold sv
  go_enter Tryz.func21, Tryz.ntmps21
  go_upto_region 1 with fail
  rw [← HW.out.2.1]
  refine wp_region_held_drew (S := fun W => Below (w.heap.size + 2) w1 W) (by kernel_rfl) ((Below.refl _ _).drew) (fun hS0 => ?_)
  change wpAnyH _ _ _ _ _ _ _ _ w1.drew
  refine' wpAnyH_take (i := 1) (oi := _) (v := _) ?hir1 (by kernel_rfl) ?hfr1 ?hrr1 ?hQr1 ?hyr1 hS0 ?restr1
  case hir1 => (simp only [List.getElem?_toArray, List.getElem?_cons_zero, List.getElem?_cons_succ]; rfl)
  case hfr1 => kernel_rfl
  case hrr1 => kernel_rfl
  case hQr1 => exact fun _ _ _ h => h
  case hyr1 => refine Or.inl ⟨by rfl, ?_⟩; intro W hSw; go_simp; try with_reducible rfl
  try simp only [Act.put, List.setIfInBounds_toArray, List.set_cons_zero, List.set_cons_succ]
  refine' wpAnyH_take (i := 3) (oi := _) (v := _) ?hir3 (by kernel_rfl) ?hfr3 ?hrr3 ?hQr3 ?hyr3 hS0 ?restr3
  case hir3 => (simp only [List.getElem?_toArray, List.getElem?_cons_zero, List.getElem?_cons_succ]; rfl)
  case hfr3 => kernel_rfl
  case hrr3 => kernel_rfl
  case hQr3 => exact fun _ _ _ h => h
  case hyr3 => refine Or.inl ⟨by rfl, ?_⟩; intro W hSw; go_simp; try with_reducible rfl
  try simp only [Act.put, List.setIfInBounds_toArray, List.set_cons_zero, List.set_cons_succ]
  have hlow : w.heap.size + 2 ≤ w1.heap.size := by rw [HW.out.2.2.2]; omega
  have hD : Below w1.heap.size w1 w1.drew := (Below.refl _ _).drew
  refine wpAnyH_ready (rs := [0]) (by kernel_rfl) (by simp) ?_
  refine' AllReadyH.cons (o := _) ?hir0 (fun K hK => ?_) AllReadyH.nil
  case hir0 => (simp only [List.getElem?_toArray, List.getElem?_cons_zero]; rfl)
  go_simp
  have ow0 := own_byte w1.drew 1 w1.heap.size 1 rfl (Nat.le_refl _)
  have hB1 := Below.alloc hD (Below.size hD) (.cells #[.int .u8 1] 5)
  refine hK.out _ _ (hB1.mono hlow) (fun _ => ?_)
  clear hK K
  try simp only [Act.put, List.setIfInBounds_toArray, List.set_cons_zero, List.set_cons_succ]
  refine wpAnyH_ready (rs := [2]) (by kernel_rfl) (by simp) ?_
  refine' AllReadyH.cons (o := _) ?hir2 (fun K hK => ?_) AllReadyH.nil
  case hir2 => (simp only [List.getElem?_toArray, List.getElem?_cons_zero, List.getElem?_cons_succ]; rfl)
  refine step_app_at (by rfl) _ _ (by rfl) w1.heap.size _ 1 1 [1] (by rfl) ow0 (some ⟨w.heap.size, 0, none⟩) 32 32 l (by rfl) (HI.out.1.below hB1) (fun e => by cases e) (by omega) (Below.size hB1) ?_
  intro A2 c2 W2 ow2 nx2
  have hB2 : Below w1.heap.size w1 W2 := nx2.below ow0 hB1 (Nat.le_refl _) hB1.size
  refine hK.out _ _ (hB2.mono hlow) (fun _ => ?_)
  clear hK K ow0 nx2
  try simp only [Act.put, List.setIfInBounds_toArray, List.set_cons_zero, List.set_cons_succ]
  refine wpAnyH_ready (rs := [4]) (by kernel_rfl) (by simp) ?_
  refine' AllReadyH.cons (o := _) ?hir4 (fun K hK => ?_) AllReadyH.nil
  case hir4 => (simp only [List.getElem?_toArray, List.getElem?_cons_zero, List.getElem?_cons_succ]; rfl)
  refine step_app_at (by rfl) _ _ (by rfl) w1.heap.size A2 33 c2 ([1] ++ l) (by rfl) ow2 (some ⟨w.heap.size + 1, 0, none⟩) 32 32 r (by rfl) (HI.out.2.below hB2) (fun e => by cases e) (by omega) (Below.size hB2) ?_
  intro A3 c3 W3 ow3 nx3
  have hB3 : Below w1.heap.size w1 W3 := nx3.below ow2 hB2 (Nat.le_refl _) hB2.size
  have C3 := Lib.hid (refOf_any A3 (33 + 32) c3 ([1] ++ l ++ r) W3 (In.of_own ow3) (fun x hx => by rcases List.mem_append.1 hx with h1 | h1; (rcases List.mem_append.1 h1 with h2 | h2; (simp at h2; omega); exact HC.out.1 x h2); exact HC.out.2 x h1) (own_nil ow3) (by omega))
  rw [HM.out.2] at C3
  refine hK.out _ _ (hB3.mono hlow) (fun _ => ?_)
  clear hK K ow2 nx3 ow3
  try simp only [Act.put, List.setIfInBounds_toArray, List.set_cons_zero, List.set_cons_succ]
  refine wpAnyH_ready (rs := [5]) (by kernel_rfl) (by simp) ?_
  refine' AllReadyH.cons (o := _) ?hir5 (fun K hK => ?_) AllReadyH.nil
  case hir5 => (simp only [List.getElem?_toArray, List.getElem?_cons_zero, List.getElem?_cons_succ]; rfl)
  go_simp
  go_at_call 19
  refine C3.out.mono ?_
  rintro e W4 ⟨rfl, hb4⟩
  have hB4 := below_on hB3 (Nat.le_refl _) hb4
  have hf7 : BArr W4 (w.heap.size + 2) 40 zero32 := HW.out.2.2.1.below hB4
  refine hK.out _ _ (hB4.mono hlow) (fun _ => ?_)
  clear hK K
  try simp only [Act.put, List.setIfInBounds_toArray, List.set_cons_zero, List.set_cons_succ]
  refine wpAnyH_ready (rs := [6]) (by kernel_rfl) (by simp) ?_
  refine' AllReadyH.cons (o := _) ?hir6 (fun K hK => ?_) AllReadyH.nil
  case hir6 => (simp only [List.getElem?_toArray, List.getElem?_cons_zero, List.getElem?_cons_succ]; rfl)
  unfold sv
  go_simp
  refine hK.out _ _ (below_setRow (hB4.mono hlow) (Nat.le_refl _) _) (fun _ => ?_)
  clear hK K
  refine wpAnyH_done (by kernel_rfl) ?_ _
  go_wp2
  refine bodyPost_ret_by (results_cell_row (p := 4) (ty := 40) (by kernel_rfl) _ _ (w.heap.size + 2) 40 (bvs m).toArray (0, 0) _ rfl (hf7.setRow _) Tryz.underlying40 rfl (by rw [List.size_toArray, bvs_length, hm]; exact sizeSum)) rfl ?_
  exact ⟨by rw [HM.out.1], below_setRow (below_on HW.out.1 (Nat.le_refl _) hB4) (by omega) _⟩

set_option maxRecDepth 100000 in
set_option maxHeartbeats 2000000 in
theorem refRoot_few (A : Option Addr) (n c : Nat) (ys : List Nat) (w : World) (hin : InS w A n ys) (hn : n ≤ 1) :
    Calls Tryz.prog 8 #[.slice A n c] w fun e w' => e = .returned (sv (rt (nth ys) 0 n)) ∧ Below w.heap.size w w' := by
  have e0 : (bvs zero32).toArray = #[.int .u8 0, .int .u8 0, .int .u8 0, .int .u8 0, .int .u8 0, .int .u8 0, .int .u8 0, .int .u8 0, .int .u8 0, .int .u8 0, .int .u8 0, .int .u8 0, .int .u8 0, .int .u8 0, .int .u8 0, .int .u8 0, .int .u8 0, .int .u8 0, .int .u8 0, .int .u8 0, .int .u8 0, .int .u8 0, .int .u8 0, .int .u8 0, .int .u8 0, .int .u8 0, .int .u8 0, .int .u8 0, .int .u8 0, .int .u8 0, .int .u8 0, .int .u8 0] := rfl
  have f1 := BArr.new w 40 zero32
  have b1 := below_alloc w (.cells (bvs zero32).toArray 40)
  rw [e0] at f1 b1
  clear e0
  obtain ⟨w1, hw1⟩ : ∃ w1, w1 = w.alloc (.cells #[.int .u8 0, .int .u8 0, .int .u8 0, .int .u8 0, .int .u8 0, .int .u8 0, .int .u8 0, .int .u8 0, .int .u8 0, .int .u8 0, .int .u8 0, .int .u8 0, .int .u8 0, .int .u8 0, .int .u8 0, .int .u8 0, .int .u8 0, .int .u8 0, .int .u8 0, .int .u8 0, .int .u8 0, .int .u8 0, .int .u8 0, .int .u8 0, .int .u8 0, .int .u8 0, .int .u8 0, .int .u8 0, .int .u8 0, .int .u8 0, .int .u8 0, .int .u8 0] 40) := ⟨_, rfl⟩
  rw [← hw1] at f1 b1
  have HF := Lib.hid (And.intro f1 b1)
  have HW := Lib.hid hw1
  have HI := Lib.hid (hin.below b1)
  clear f1 b1 hw1 hin
  obtain rfl | rfl : n = 0 ∨ n = 1 := by omega
  · have C := Lib.hid (refOf_any none 0 0 [] w1 (In.none_ _ _) (by intro x hx; cases hx) (fun _ => rfl) (by omega))
    rw [rt_nil]
    have hl := sha_length []
    obtain ⟨s, hs0⟩ : ∃ s, sha [] = s := ⟨_, rfl⟩
    rw [hs0] at C hl ⊢
    clear hs0
    go_enter Tryz.func8, Tryz.ntmps8
    go_upto_region 1 with fail
    rw [← HW.out]
    go_wp2_with fail
    refine C.out.mono ?_
    rintro e w2 ⟨rfl, hb2⟩
    have f2 := HF.out.1.below hb2
    have HZ32 := Lib.hid (show zero32.length = 32 from rfl)
    go_wp2_with (with_reducible refine wpList_store_sum rfl (.tmp 2) (.tmp 7) rfl w.heap.size rfl zero32 s HZ32 hl f2 rfl ?_)
    refine bodyPost_ret_by (results_cell_row (p := 2) (ty := 40) (by kernel_rfl) _ _ w.heap.size 40 (bvs s).toArray (0, 0) _ rfl (f2.setRow _) Tryz.underlying40 rfl (by rw [List.size_toArray, bvs_length, hl]; exact sizeSum)) rfl ?_
    exact ⟨rfl, below_setRow (below_on HF.out.2 (Nat.le_refl _) hb2) (by omega) _⟩
  · obtain ⟨ad, rfl, hl, hat⟩ := HI.out.at_ (show 0 < 1 by omega)
    rw [rt_one]
    obtain ⟨s, hs0⟩ : ∃ s, nth ys 0 = s := ⟨_, rfl⟩
    rw [hs0] at hl hat ⊢
    have HAt := Lib.hid hat
    have HZ32 := Lib.hid (show zero32.length = 32 from rfl)
    clear hs0 hat
    go_enter Tryz.func8, Tryz.ntmps8
    go_upto_region 1 with fail
    rw [← HW.out]
    go_wp2_with (first | with_reducible refine wpList_load_sum rfl (.tmp 12) rfl (ad.add (0 * 32)) rfl s hl HAt.out ?_ | with_reducible refine wpList_store_sum rfl (.tmp 2) (.tmp 13) rfl w.heap.size rfl zero32 s HZ32 hl HF.out.1 rfl ?_)
    refine bodyPost_ret_by (results_cell_row (p := 2) (ty := 40) (by kernel_rfl) _ _ w.heap.size 40 (bvs s).toArray (0, 0) _ rfl (HF.out.1.setRow _) Tryz.underlying40 rfl (by rw [List.size_toArray, bvs_length, hl]; exact sizeSum)) rfl ?_
    exact ⟨rfl, below_setRow HF.out.2 (by omega) _⟩

set_option maxRecDepth 100000 in
set_option maxHeartbeats 4000000 in
theorem refRoot_step (ad : Addr) (n c : Nat) (ys : List Nat) (w : World) (hin : InS w (some ad) n ys) (hx : ∀ x ∈ ys, x < 256) (hc : n ≤ c) (h2 : 2 ≤ n) (hn : n ≤ 65536)
    (ih : ∀ (A' : Option Addr) (n' c' : Nat) (zs : List Nat) (w' : World), InS w' A' n' zs → (∀ x ∈ zs, x < 256) → n' ≤ c' → n' < n →
      Calls Tryz.prog 8 #[.slice A' n' c'] w' fun e w'' => e = .returned (sv (rt (nth zs) 0 n')) ∧ Below w'.heap.size w' w'') :
    Calls Tryz.prog 8 #[.slice (some ad) n c] w fun e w' => e = .returned (sv (rt (nth ys) 0 n)) ∧ Below w.heap.size w w' := by
  have e0 : (bvs zero32).toArray = #[.int .u8 0, .int .u8 0, .int .u8 0, .int .u8 0, .int .u8 0, .int .u8 0, .int .u8 0, .int .u8 0, .int .u8 0, .int .u8 0, .int .u8 0, .int .u8 0, .int .u8 0, .int .u8 0, .int .u8 0, .int .u8 0, .int .u8 0, .int .u8 0, .int .u8 0, .int .u8 0, .int .u8 0, .int .u8 0, .int .u8 0, .int .u8 0, .int .u8 0, .int .u8 0, .int .u8 0, .int .u8 0, .int .u8 0, .int .u8 0, .int .u8 0, .int .u8 0] := rfl
  have f1 := BArr.new w 40 zero32
  have b1 := below_alloc w (.cells (bvs zero32).toArray 40)
  rw [e0] at f1 b1
  clear e0
  obtain ⟨w1, hw1⟩ : ∃ w1, w1 = w.alloc (.cells #[.int .u8 0, .int .u8 0, .int .u8 0, .int .u8 0, .int .u8 0, .int .u8 0, .int .u8 0, .int .u8 0, .int .u8 0, .int .u8 0, .int .u8 0, .int .u8 0, .int .u8 0, .int .u8 0, .int .u8 0, .int .u8 0, .int .u8 0, .int .u8 0, .int .u8 0, .int .u8 0, .int .u8 0, .int .u8 0, .int .u8 0, .int .u8 0, .int .u8 0, .int .u8 0, .int .u8 0, .int .u8 0, .int .u8 0, .int .u8 0, .int .u8 0, .int .u8 0] 40) := ⟨_, rfl⟩
  rw [← hw1] at f1 b1
  obtain ⟨k, hk0⟩ : ∃ k, cutN n = k := ⟨_, rfl⟩
  have hKn := cutN_lt h2
  have hKp := cutN_pos n
  rw [hk0] at hKn hKp
  obtain ⟨L1, hL1⟩ : ∃ L1, rt (nth ys) 0 k = L1 := ⟨_, rfl⟩
  obtain ⟨L2, hL2⟩ : ∃ L2, rt (nth ys) k (n - k) = L2 := ⟨_, rfl⟩
  obtain ⟨R, hR⟩ : ∃ R, nodeL L1 L2 = R := ⟨_, rfl⟩
  have hrt : rt (nth ys) 0 n = R := by rw [rt_cut _ 0 h2, hk0, Nat.zero_add, hL1, hL2, hR]
  have hnl : ∀ j, j < n → (nth ys j).length = 32 := fun j hj => nth_length hin.len hj
  have hnb : ∀ j, ∀ x ∈ nth ys j, x < 256 := fun j => nth_lt hx j
  have hRl : R.length = 32 := by rw [← hR]; exact nodeL_length _ _
  have hL1l : L1.length = 32 := by rw [← hL1]; exact rt_length _ _ _ fun j hj => hnl _ (by omega)
  have hL2l : L2.length = 32 := by rw [← hL2]; exact rt_length _ _ _ fun j hj => hnl _ (by omega)
  have hL1b : ∀ x ∈ L1, x < 256 := by rw [← hL1]; exact rt_lt _ _ _ fun j _ => hnb _
  have hL2b : ∀ x ∈ L2, x < 256 := by rw [← hL2]; exact rt_lt _ _ _ fun j _ => hnb _
  have C1 := Lib.hid (fun (W : World) (hW : Below w1.heap.size w1 W) => later (v' := sv L1) hW (by rw [rt_take, hL1]) (ih (some ad) k c (ys.take (32 * k)) W (((hin.take (by omega)).below b1).below hW) (fun x hx' => hx x (List.mem_of_mem_take hx')) (by omega) hKn))
  have C2 := Lib.hid (fun (W : World) (hW : Below w1.heap.size w1 W) => later (v' := sv L2) hW (by rw [rt_drop, hL2]) (ih (some (ad.add (k * 32))) (n - k) (c - k) (ys.drop (32 * k)) W (((hin.drop_ k (by omega)).below b1).below hW) (fun x hx' => hx x (List.mem_of_mem_drop hx')) (by omega) (by omega)))
  have CN := Lib.hid (fun (W : World) (hW : Below w1.heap.size w1 W) => later (v' := sv R) hW (by rw [hR]) (refNode_any L1 L2 W hL1l hL2l hL1b hL2b))
  have CC := Lib.hid (refCut_any n w1 h2 hn)
  rw [hk0] at CC
  rw [hrt]
  have s1 := run_take_u64 (ad := ad) (n := n) (c := c) (k := k) (by omega) hc
  have s2 := run_drop_u64 (ad := ad) (n := n) (c := c) (k := k) hKn hc
  have HF := Lib.hid (And.intro f1 b1)
  have HW := Lib.hid hw1
  have i0 : ((n : Int) == 0) = false := by simp; omega
  have i1 : ((n : Int) == 1) = false := by simp; omega
  have iw : IntKind.u64.wrap (n : Int) = (n : Int) := by rw [IntKind.wrap_u64]; omega
  clear f1 b1 hw1 hk0 hKn hKp hL1 hL2 hR hrt hnl hnb hL1l hL2l hL1b hL2b ih hin hx
  go_enter Tryz.func8, Tryz.ntmps8
  go_upto_region 1 with fail
  rw [← HW.out]
  go_wp2_with fail
  refine CC.out.mono ?_
  rintro e w2 ⟨rfl, rfl⟩
  go_upto_region 6 with fail
  refine wp_region_quiet_tail (C := fun w' => Below w2.heap.size w2 w') 9 (by kernel_rfl) (by kernel_rfl) ((Below.refl _ _).drew) ?_
  simp only [List.take_succ_cons, List.take_zero, List.drop_succ_cons, List.drop_zero]
  iterate 3 (refine wpQuiet_step (fun K hK => ?_); go_simp; refine ⟨_, fun _ _ => rfl, hK _ ?_⟩; clear hK K)
  refine wpQuiet_step (fun K hK => ?_)
  go_simp
  refine ⟨sv L1, fun W hW => C1.out W hW, hK _ ?_⟩
  clear hK K
  iterate 3 (refine wpQuiet_step (fun K hK => ?_); go_simp; refine ⟨_, fun _ _ => rfl, hK _ ?_⟩; clear hK K)
  refine wpQuiet_step (fun K hK => ?_)
  go_simp
  refine ⟨sv L2, fun W hW => C2.out W hW, hK _ ?_⟩
  clear hK K
  refine wpQuiet_step (fun K hK => ?_)
  go_simp
  refine ⟨sv R, fun W hW => CN.out W hW, hK _ ?_⟩
  clear hK K
  refine wpQuiet_nil ?_
  intro w3 hb3
  have f3 := HF.out.1.below hb3
  have HZ32 := Lib.hid (show zero32.length = 32 from rfl)
  refine wpList_store_sum rfl (.tmp 2) (.tmp 26) rfl w.heap.size rfl zero32 R HZ32 hRl f3 rfl ?_
  go_wp2
  refine bodyPost_ret_by (results_cell_row (p := 2) (ty := 40) (by kernel_rfl) _ _ w.heap.size 40 (bvs R).toArray (0, 0) _ rfl (f3.setRow _) Tryz.underlying40 rfl (by rw [List.size_toArray, bvs_length, hRl]; exact sizeSum)) rfl ?_
  exact ⟨rfl, below_setRow (below_on HF.out.2 (Nat.le_refl _) hb3) (by omega) _⟩

theorem refRoot_any : ∀ (n : Nat) (A : Option Addr) (c : Nat) (ys : List Nat) (w : World), InS w A n ys → (∀ x ∈ ys, x < 256) → n ≤ c → n ≤ 65536 →
    Calls Tryz.prog 8 #[.slice A n c] w fun e w' => e = .returned (sv (rt (nth ys) 0 n)) ∧ Below w.heap.size w w' := by
  intro n
  induction n using Nat.strongRecOn with
  | ind n ih =>
    intro A c ys w hin hx hc hn
    by_cases h2 : n ≤ 1
    · exact refRoot_few A n c ys w hin h2
    · obtain ⟨ad, rfl⟩ := hin.some_ (by omega)
      exact refRoot_step ad n c ys w hin hx hc (by omega) hn fun A' n' c' zs w' h1 h3 h4 h5 => ih n' h5 A' c' zs w' h1 h3 h4 (by omega)

end Go.Proofs.YtijiolebcnlfgaaGreatDoor

/-
  almonerref09.Sums: the roots of the whole trees.
-/
namespace Go.Proofs.YtijiolebcnlfgaaGreatDoor
open Go.RowKit

def slenG : Value → Nat
  | .slice _ n _ => n
  | _ => 0

theorem one_flat3 (X : List Nat) : [X].flatten = X := by simp

set_option maxRecDepth 100000 in
set_option maxHeartbeats 4000000 in
theorem refSums_any (A : Option Addr) (n c : Nat) (ys : List Nat) (w : World) (hin : InS w A n ys) (hx : ∀ x ∈ ys, x < 256) (hc : n ≤ c) (hn : n ≤ 65536) :
    Calls Tryz.prog 10 #[.slice A n c] w fun e w' => ∃ A' c', e = .returned (.slice A' (pop n) c') ∧ w'.ownsRow w.heap.size 40 32 (.slice A' (pop n) c') (pop n) (bvs (fr (nth ys) 0 n).flatten) ∧ Below w.heap.size w w' := by
  have HI := Lib.hid (And.intro hin hx)
  clear hin hx
  go_enter Tryz.func10, Tryz.ntmps10
  go_wp2
  go_loopw [0, 3, 4] (fun l o _ wr => ∃ (i r d m : Nat) (B Ao : Option Addr) (co : Nat) (P : List (List Nat)), l = .slice B r d ∧ o = .slice Ao m co ∧ i + r = n ∧ r ≤ d ∧
    Hid (InS w B r (ys.drop (32 * i)) ∧ fr (nth ys) 0 n = P ++ fr (nth ys) i r ∧ P.length = m ∧ wr.ownsRow w.heap.size 40 32 (.slice Ao m co) m (bvs P.flatten) ∧ Below w.heap.size w wr)) (fun l _ _ _ => slenG l)
  case atStart => exact ⟨0, n, c, 0, A, none, 0, [], rfl, rfl, by omega, hc, Lib.hid ⟨by simpa using HI.out.1, by simp, rfl, own_none _ _ _ _, Below.refl _ _⟩⟩
  case round =>
    obtain ⟨i, r, d, m, B, Ao, co, P, rfl, rfl, hir, hrd, HR⟩ := hrel
    by_cases hr0 : 0 < r
    · have hri : (0 : Int) < (r : Int) := by omega
      go_wp2
      go_loopw [4] (fun k wq => ∃ e : Nat, k = .int .i64 ((2 ^ e : Nat) : Int) ∧ 2 ^ e ≤ r ∧ wq = wr) (fun k _ => r - (intOf k).toNat)
      case atStart => exact ⟨0, rfl, hr0, rfl⟩
      case round =>
        obtain ⟨e, rfl, he, rfl⟩ := hrel
        by_cases h2 : 2 * 2 ^ e ≤ r
        · obtain ⟨K, hK⟩ : ∃ K, 2 ^ e = K := ⟨_, rfl⟩
          have hK2 : 2 ^ (e + 1) = 2 * K := by rw [Nat.pow_succ, hK, Nat.mul_comm]
          have hKp : 0 < K := by rw [← hK]; exact Nat.two_pow_pos e
          rw [hK] at he h2 ⊢
          have HKK := Lib.hid (And.intro hK hK2)
          have hle : (2 : Int) * (K : Int) ≤ (r : Int) := by omega
          clear hK hK2
          go_wp2
          go_roundw
          case rel => exact ⟨e + 1, by rw [HKK.out.2]; go_num, by rw [HKK.out.2]; exact h2, trivial⟩
          case measure => simp [intOf]; omega
        · have hfr := fr_at (nth ys) i he (by omega)
          obtain ⟨K, hK⟩ : ∃ K, 2 ^ e = K := ⟨_, rfl⟩
          have hKp : 0 < K := by rw [← hK]; exact Nat.two_pow_pos e
          rw [hK] at he h2 hfr ⊢
          obtain ⟨ad, rfl⟩ := HR.out.1.some_ hr0
          have hle : ¬ ((2 : Int) * (K : Int) ≤ (r : Int)) := by omega
          have hTk := fun W => run_take_sums (ad := ad) (n := r) (c := d) (k := K) he hrd W
          obtain ⟨B', hB', hBe⟩ := cut_nameS (A := some ad) (n := r) (c := d) (k := K) he
          have i2 : InS w B' (r - K) (ys.drop (32 * (i + K))) := by
            have := HR.out.1.cut (k := K) (c := d) he hrd
            rw [← hBe, List.drop_drop, ← Nat.mul_add] at this
            exact this
          have CR := Lib.hid (refRoot_any K (some ad) d ((ys.drop (32 * i)).take (32 * K)) wr ((HR.out.1.below HR.out.2.2.2.2).take he) (fun x hx' => HI.out.2 x (List.mem_of_mem_drop (List.mem_of_mem_take hx'))) (by omega) (by omega))
          rw [rt_take, rt_drop] at CR
          have hRl : (rt (nth ys) i K).length = 32 := rt_length _ i K fun j hj => nth_length HI.out.1.len (by omega)
          obtain ⟨R, hR⟩ : ∃ R, rt (nth ys) i K = R := ⟨_, rfl⟩
          rw [hR] at CR hRl hfr
          have hm1 : m + 1 ≤ 1000000000 := by have h1 := HR.out.2.2.1; have h2 := congrArg List.length HR.out.2.1; rw [fr_length, List.length_append, h1] at h2; have := pop_le n; omega
          have H2 := Lib.hid (And.intro i2 hfr)
          clear hBe i2 hfr hR hK
          go_wp2_with fail
          refine CR.out.mono ?_
          rintro e2 w3 ⟨rfl, hb3⟩
          have hb4 := below_on HR.out.2.2.2.2 (Nat.le_refl _) hb3
          have O3 := own_on (own_on HR.out.2.2.2.1 hb3) (below_alloc w3 (.cells (bvs R).toArray 40))
          have B3 := below_on hb4 (Nat.le_refl _) (below_alloc w3 (.cells (bvs R).toArray 40))
          have H3 := Lib.hid (And.intro O3 B3)
          clear CR hb3 hb4 O3 B3
          go_wp2_with (first
            | (refine wpList_step fun K hK => ?_; rw [if_pos (by rfl)]; refine wp_sums (K := K) _ [R] 1 rfl rfl (by simp <;> rfl) (by intro x hx; simp at hx; rw [hx]; exact hRl) (by omega) (by omega) ?_; rw [one_flat3]; refine hK _ _ ?_; clear hK K)
            | (refine wpList_step fun K hK => ?_; refine step_sapp (K := K) (by rfl) _ _ (by rfl) w.heap.size Ao m co P.flatten (by rfl) H3.out.1 (some ⟨w3.heap.size, 0, none⟩) 1 1 R (by rfl) ⟨by rw [hRl], (In.new' w3 R 40).rd⟩ (fun e => by cases e) hm1 H3.out.2.size ?_; intro A5 c5 w5 ow5 nx5; have H5 := Lib.hid (And.intro ow5 (And.intro (nx5.below H3.out.1 H3.out.2 (Nat.le_refl _) H3.out.2.size) nx5)); clear ow5 nx5; refine hK _ _ ?_; clear hK K))
          go_roundw
          case rel =>
            refine ⟨i + K, r - K, d - K, m + 1, B', A5, c5, P ++ [R], rfl, rfl, by omega, by omega, Lib.hid ⟨?_, ?_, ?_, ?_, H5.out.2.1⟩⟩
            · exact H2.out.1
            · rw [HR.out.2.1, H2.out.2, List.append_assoc]; rfl
            · rw [List.length_append, HR.out.2.2.1]; rfl
            · rw [List.flatten_append, one_flat3]; exact H5.out.1
          case measure => simp [slenG]; omega
    · obtain rfl : r = 0 := by omega
      have e1 := HR.out.2.1
      rw [fr_nil, List.append_nil] at e1
      have e2 : m = pop n := by rw [← HR.out.2.2.1, ← e1, fr_length]
      go_wp2
      go_ret
      exact ⟨Ao, co, by rw [e2]; rfl, by rw [e1, ← e2]; exact HR.out.2.2.2.1, HR.out.2.2.2.2⟩

end Go.Proofs.YtijiolebcnlfgaaGreatDoor

/-
  SameSums.
-/
namespace Go.Proofs.YtijiolebcnlfgaaGreatDoor
open Go.RowKit

set_option maxRecDepth 100000 in
set_option maxHeartbeats 1000000 in
theorem sameSums_yes (A A2 : Option Addr) (n c c2 : Nat) (ys : List Nat) (w : World) (hin : InS w A n ys) (hin2 : InS w A2 n ys) (hn : n ≤ 200000000000000) :
    Calls Tryz.prog 9 #[.slice A n c, .slice A2 n c2] w fun e w' => e = .returned (.bool true) ∧ ∃ q, w' = w.drewN q := by
  have dn : ((n : Int) != (n : Int)) = false := by simp
  go_enter Tryz.func9, Tryz.ntmps9
  go_wp2
  go_loopw [5] (fun i wr => ∃ j : Nat, j ≤ n ∧ i = .int .i64 (j : Int) ∧ ∃ q, wr = w.drewN q) (fun i _ => n - (intOf i).toNat)
  case atStart => exact ⟨0, Nat.zero_le _, rfl, 0, rfl⟩
  case round =>
    obtain ⟨j, hj, rfl, q, rfl⟩ := hrel
    by_cases hlt : j < n
    · obtain ⟨ad, rfl, hl, hat⟩ := hin.at_ hlt
      obtain ⟨ad2, rfl, _, hat2⟩ := hin2.at_ hlt
      have i1 : (j : Int) < (n : Int) := by omega
      go_wp2
      refine wp_region_quiet_lit (by kernel_rfl) (by kernel_rfl) ?_
      iterate 3 quiet_step (fail)
      refine wpQuiet_step (fun K hK => ?_)
      refine quiet_load_sum rfl (.tmp 19) rfl (ad.add (j * 32)) rfl (nth ys j) hl (fun W hW => by obtain ⟨m, rfl⟩ := hW; exact hat) ?_
      go_simp
      refine hK _ ?_
      clear hK K
      iterate 3 quiet_step (fail)
      refine wpQuiet_step (fun K hK => ?_)
      refine quiet_load_sum rfl (.tmp 23) rfl (ad2.add (j * 32)) rfl (nth ys j) hl (fun W hW => by obtain ⟨m, rfl⟩ := hW; exact hat2) ?_
      go_simp
      refine hK _ ?_
      clear hK K
      have hne := run_neq_sum (nth ys j) (nth ys j) hl hl
      simp only [decide_true, Bool.not_true] at hne
      have hgd := fun x y => run_guard_neq x y (nth ys j) (nth ys j)
      quiet_step (fail)
      refine wpQuiet_nil ?_
      rintro _ ⟨nq, rfl⟩
      rw [World.drewN_drewN]
      clear hne hgd
      go_wp2
      go_roundw
      case rel => exact ⟨j + 1, by omega, by go_num, q + nq, rfl⟩
      case measure => simp [intOf]; omega
    · go_wp2
      go_ret
      exact ⟨rfl, q, rfl⟩

end Go.Proofs.YtijiolebcnlfgaaGreatDoor

/-
  almonerlaw09.FrontsPlay.
-/
namespace Go.Proofs.YtijiolebcnlfgaaGreatDoor
open Go.RowKit

set_option maxRecDepth 100000 in
set_option maxHeartbeats 4000000 in
theorem play_else (w : World) (A : Option Addr) (n c : Nat) (h : 70 < n) :
    Calls Tryz.prog 3 #[.slice A n c] w fun e w' => e = .returned (.bool true) ∧ Below w.heap.size w w' := by
  have h1 : (70 : Int) < (n : Int) := by omega
  go_enter Tryz.func3, Tryz.ntmps3
  go_wp2_with fail
  go_ret
  exact ⟨rfl, Below.refl _ _⟩

set_option maxRecDepth 100000 in
set_option maxHeartbeats 4000000 in
theorem play_law_some (w : World) (hk : Knows w) (hs : Starts w) (A : Option Addr) (n c : Nat) (zs : List Nat) (h : CameS w A n c zs) (hn : n ≤ 70) :
    Calls Tryz.prog 3 #[.slice A n c] w fun e w' => e = .returned (.bool true) ∧ Below w.heap.size w w' := by
  have C0 := Lib.hid (new_front_at (nth zs) w)
  have h1 : ¬ ((70 : Int) < (n : Int)) := by omega
  have HC := Lib.hid h
  have HF := Lib.hid (sums_of h.in_ h.lt)
  have hTk := Lib.hid (fun (k : Nat) (hk : k ≤ n) (W : World) => run_take_sumsO (A := A) (n := n) (c := c) (k := k) hk h.cap h.nil W)
  clear h
  go_enter Tryz.func3, Tryz.ntmps3
  go_wp2_with fail
  refine C0.out.mono ?_
  rintro e w1 ⟨rfl, hf1, hb1⟩
  have H1 := Lib.hid (And.intro hf1 hb1)
  clear hf1 hb1 C0
  go_upto_region 5 with fail
  obtain ⟨w2, hw2⟩ : ∃ w2, w2 = w1.alloc (.cells #[.int .i64 0, .slice none 0 0, .slice none 0 0, .slice none 0 0, .slice none 0 0, .slice none 0 0, .slice none 0 0, .slice none 0 0, .slice none 0 0, .slice none 0 0] 35) := ⟨_, rfl⟩
  have b2 : Below w1.heap.size w1 w2 := by rw [hw2]; exact below_alloc _ _
  have k2 : BookAt w2 w1.heap.size 0 (.slice none 0 0) (.slice none 0 0) := by rw [hw2]; exact World.alloc_heap_new w1 _
  have P0 := Lib.hid (show PlayS w w2 w.heap.size w1.heap.size (nth zs) 0 0 [] (.slice none 0 0) from by
    have hne : w.heap.size ≠ w1.heap.size := by have := H1.out.1.lt; omega
    have b02 := below_on H1.out.2 (Nat.le_refl _) b2
    exact ⟨⟨none, 0, H1.out.1.below b2, fun ad e => by cases e⟩,
      ⟨k2, own_none _ _ _ _, own_none _ _ _ _, ⟨fun i k hk => by simp at hk, fun i j h1 h2 hi => by simp at hi⟩, ⟨fun i k hk => by simp at hk, fun i j h1 h2 hi => by simp at hi⟩, by omega, by omega, fun i k hk => by simp at hk, fun i k hk => by simp at hk, H1.out.2.size, b02.size⟩,
      b02, Nat.le_refl _, hne⟩)
  rw [← hw2]
  clear hw2 b2 k2 H1
  obtain ⟨g, hg⟩ : ∃ g, w.heap.size = g := ⟨_, rfl⟩
  obtain ⟨kb, hkb⟩ : ∃ kb, w1.heap.size = kb := ⟨_, rfl⟩
  have P1 : Hid (PlayS w w2 g kb (nth zs) 0 0 [] (.slice none 0 0)) := by rw [← hg, ← hkb]; exact P0
  rw [hkb, hg]
  have HG := Lib.hid hg
  clear P0 hg hkb
  go_wp2
  go_loopw [5, 6] (fun i _ wr => ∃ (j p : Nat) (hs : List Held) (ss : Value), j ≤ n + 1 ∧ i = .int .i64 (j : Int) ∧ p = min j n ∧ Hid (PlayS w wr g kb (nth zs) p j hs ss)) (fun i _ _ => n + 1 - (intOf i).toNat)
  case atStart => exact ⟨0, 0, [], .slice none 0 0, Nat.zero_le _, rfl, by omega, P1⟩
  case round =>
    clear P1
    obtain ⟨j, p, hs', ss, hj, rfl, hp, HP⟩ := hrel
    by_cases hlt : j ≤ n
    · obtain rfl : p = j := by omega
      clear hp
      have hji : (p : Int) ≤ (n : Int) := by omega
      have CS := Lib.hid (sums_front HP.out.front.front (by omega))
      go_wp2_with fail
      refine CS.out.mono ?_
      rintro e w3 ⟨Ax, cx, rfl, ho3, hb3⟩
      have HP3 := Lib.hid (HP.out.below hb3)
      have HX := Lib.hid (And.intro ho3 HP.out.far)
      clear ho3 hb3 CS
      have hpn := pop_le p
      obtain ⟨R, hR⟩ : ∃ R, rt (nth zs) 0 p = R := ⟨_, rfl⟩
      have hRl : R.length = 32 := by rw [← hR]; exact rt_length _ 0 p fun i hi => by rw [Nat.zero_add]; exact HF.out.len i (by omega)
      have hin := fun (W : World) (hW : Below w3.heap.size w3 W) => (HC.out.in_.take hlt).below (below_on HP3.out.bel (Nat.le_refl _) hW)
      have ltz : ∀ x ∈ zs.take (32 * p), x < 256 := fun x hx => HC.out.lt x (List.mem_of_mem_take hx)
      have hpc : p ≤ c := Nat.le_trans hlt HC.out.cap
      have C1 := Lib.hid (fun (W : World) (hW : Below w3.heap.size w3 W) => (size_front (HP3.out.below hW).front.front).mono (R' := fun e w' => e = .returned (.int .u64 (p : Int)) ∧ Below w3.heap.size w3 w') fun e w' ⟨he, hw⟩ => ⟨he, by rw [hw]; exact hW⟩)
      have C2 := Lib.hid (fun (W : World) (hW : Below w3.heap.size w3 W) => later (v' := sv R) hW (by rw [hR]) (root_front (HP3.out.below hW).front.front (HF.out.mono hlt) (by omega) (hk.below (below_on HP3.out.bel (Nat.le_refl _) hW)) (hs.below (below_on HP3.out.bel (Nat.le_refl _) hW))))
      have C3 := Lib.hid (fun (W : World) (hW : Below w3.heap.size w3 W) => later (v' := sv R) hW (by rw [rt_take, hR]) (refRoot_any p A c (zs.take (32 * p)) W (hin W hW) ltz hpc (by omega)))
      have efr : fr (nth (zs.take (32 * p))) 0 p = fr (nth zs) 0 p := fr_congr _ _ p 0 0 fun j hj => by rw [Nat.zero_add]; exact nth_take hj
      have C4 := Lib.hid (fun (W : World) (hW : Below w3.heap.size w3 W) => refSums_any A p c (zs.take (32 * p)) W (hin W hW) ltz hpc (by omega))
      rw [efr] at C4
      have hT2 := hTk.out p hlt
      have q1 := run_neq_sum R R hRl hRl
      rw [decide_eq_true rfl] at q1
      have q2 := run_guard_neq
      have hw6 : IntKind.u64.wrap (p : Int) = (p : Int) := by rw [IntKind.wrap_u64]; omega
      have HIN := Lib.hid hT2
      clear hin ltz efr hR hT2
      go_upto_region 9 with fail
      refine wp_region_held_drew (S := fun W => Below w3.heap.size w3 W) (by kernel_rfl) ((Below.refl _ _).drew) (fun hS0 => ?_)
      change wpAnyH _ _ _ _ _ _ _ _ w3.drew
      refine' wpAnyH_take (i := 0) (oi := _) (v := _) ?hir0 (by kernel_rfl) ?hfr0 ?hrr0 ?hQr0 ?hyr0 hS0 ?restr0
      case hir0 => (simp only [List.getElem?_toArray, List.getElem?_cons_zero]; rfl)
      case hfr0 => kernel_rfl
      case hrr0 => kernel_rfl
      case hQr0 => exact fun _ _ _ h => h
      case hyr0 => refine Or.inl ⟨by rfl, ?_⟩; intro W hSw; go_simp; try with_reducible rfl
      try simp only [Act.put, List.setIfInBounds_toArray, List.set_cons_zero, List.set_cons_succ]
      refine' wpAnyH_take (i := 2) (oi := _) (v := _) ?hir2 (by kernel_rfl) ?hfr2 ?hrr2 ?hQr2 ?hyr2 hS0 ?restr2
      case hir2 => (simp only [List.getElem?_toArray, List.getElem?_cons_zero, List.getElem?_cons_succ]; rfl)
      case hfr2 => kernel_rfl
      case hrr2 => kernel_rfl
      case hQr2 => exact fun _ _ _ h => h
      case hyr2 => refine Or.inl ⟨by rfl, ?_⟩; intro W hSw; go_simp; try with_reducible rfl
      try simp only [Act.put, List.setIfInBounds_toArray, List.set_cons_zero, List.set_cons_succ]
      refine' wpAnyH_take (i := 3) (oi := _) (v := _) ?hir3 (by kernel_rfl) ?hfr3 ?hrr3 ?hQr3 ?hyr3 hS0 ?restr3
      case hir3 => (simp only [List.getElem?_toArray, List.getElem?_cons_zero, List.getElem?_cons_succ]; rfl)
      case hfr3 => kernel_rfl
      case hrr3 => kernel_rfl
      case hQr3 => exact fun _ _ _ h => h
      case hyr3 => refine Or.inl ⟨by rfl, ?_⟩; intro W hSw; go_simp; try with_reducible rfl
      try simp only [Act.put, List.setIfInBounds_toArray, List.set_cons_zero, List.set_cons_succ]
      refine wpAnyH_ready (rs := [1]) (by kernel_rfl) (by simp) ?_
      refine' AllReadyH.cons (o := _) ?hir1 (fun K hK => ?_) AllReadyH.nil
      case hir1 => (simp only [List.getElem?_toArray, List.getElem?_cons_zero, List.getElem?_cons_succ]; rfl)
      go_simp
      go_at_call 6
      refine (C1.out _ hS0).mono ?_
      rintro e Wr2 ⟨rfl, hBr1⟩
      refine hK.out _ _ hBr1 (fun _ => ?_)
      clear hK K
      try simp only [Act.put, List.setIfInBounds_toArray, List.set_cons_zero, List.set_cons_succ]
      refine' wpAnyH_take (i := 4) (oi := _) (v := _) ?hir4 (by kernel_rfl) ?hfr4 ?hrr4 ?hQr4 ?hyr4 hBr1 ?restr4
      case hir4 => (simp only [List.getElem?_toArray, List.getElem?_cons_zero, List.getElem?_cons_succ]; rfl)
      case hfr4 => kernel_rfl
      case hrr4 => kernel_rfl
      case hQr4 => exact fun _ _ _ h => h
      case hyr4 => refine Or.inl ⟨by rfl, ?_⟩; intro W hSw; go_simp; try with_reducible rfl
      try simp only [Act.put, List.setIfInBounds_toArray, List.set_cons_zero, List.set_cons_succ]
      refine' wpAnyH_take (i := 5) (oi := _) (v := _) ?hir5 (by kernel_rfl) ?hfr5 ?hrr5 ?hQr5 ?hyr5 hBr1 ?restr5
      case hir5 => (simp only [List.getElem?_toArray, List.getElem?_cons_zero, List.getElem?_cons_succ]; rfl)
      case hfr5 => kernel_rfl
      case hrr5 => kernel_rfl
      case hQr5 => exact fun _ _ _ h => h
      case hyr5 => refine Or.inl ⟨by rfl, ?_⟩; intro W hSw; go_simp; try with_reducible rfl
      try simp only [Act.put, List.setIfInBounds_toArray, List.set_cons_zero, List.set_cons_succ]
      refine' wpAnyH_take (i := 6) (oi := _) (v := _) ?hir6 (by kernel_rfl) ?hfr6 ?hrr6 ?hQr6 ?hyr6 hBr1 ?restr6
      case hir6 => (simp only [List.getElem?_toArray, List.getElem?_cons_zero, List.getElem?_cons_succ]; rfl)
      case hfr6 => kernel_rfl
      case hrr6 => kernel_rfl
      case hQr6 => exact fun _ _ _ h => h
      case hyr6 => refine Or.inl ⟨by rfl, ?_⟩; intro W hSw; go_simp; try with_reducible rfl
      try simp only [Act.put, List.setIfInBounds_toArray, List.set_cons_zero, List.set_cons_succ]
      refine' wpAnyH_take (i := 8) (oi := _) (v := _) ?hir8 (by kernel_rfl) ?hfr8 ?hrr8 ?hQr8 ?hyr8 hBr1 ?restr8
      case hir8 => (simp only [List.getElem?_toArray, List.getElem?_cons_zero, List.getElem?_cons_succ]; rfl)
      case hfr8 => kernel_rfl
      case hrr8 => kernel_rfl
      case hQr8 => exact fun _ _ _ h => h
      case hyr8 => refine Or.inl ⟨by rfl, ?_⟩; intro W hSw; go_simp; try with_reducible rfl
      try simp only [Act.put, List.setIfInBounds_toArray, List.set_cons_zero, List.set_cons_succ]
      refine' wpAnyH_take (i := 9) (oi := _) (v := _) ?hir9 (by kernel_rfl) ?hfr9 ?hrr9 ?hQr9 ?hyr9 hBr1 ?restr9
      case hir9 => (simp only [List.getElem?_toArray, List.getElem?_cons_zero, List.getElem?_cons_succ]; rfl)
      case hfr9 => kernel_rfl
      case hrr9 => kernel_rfl
      case hQr9 => exact fun _ _ _ h => h
      case hyr9 => refine Or.inl ⟨by rfl, ?_⟩; intro W hSw; go_simp; try with_reducible rfl
      try simp only [Act.put, List.setIfInBounds_toArray, List.set_cons_zero, List.set_cons_succ]
      refine' wpAnyH_take (i := 10) (oi := _) (v := .slice A p c) ?hir10 (by kernel_rfl) ?hfr10 ?hrr10 ?hQr10 ?hyr10 hBr1 ?restr10
      case hir10 => (simp only [List.getElem?_toArray, List.getElem?_cons_zero, List.getElem?_cons_succ]; rfl)
      case hfr10 => kernel_rfl
      case hrr10 => kernel_rfl
      case hQr10 => exact fun _ _ _ h => h
      case hyr10 => refine yields_high (by rfl) _ _ rfl rfl rfl ?_; exact HIN.out
      try simp only [Act.put, List.setIfInBounds_toArray, List.set_cons_zero, List.set_cons_succ]
      refine wpAnyH_ready (rs := [7]) (by kernel_rfl) (by simp) ?_
      refine' AllReadyH.cons (o := _) ?hir7 (fun K hK => ?_) AllReadyH.nil
      case hir7 => (simp only [List.getElem?_toArray, List.getElem?_cons_zero, List.getElem?_cons_succ]; rfl)
      go_simp
      go_at_call 7
      refine (C2.out _ hBr1).mono ?_
      rintro e Wr4 ⟨rfl, hBr3⟩
      refine hK.out _ _ hBr3 (fun _ => ?_)
      clear hK K
      try simp only [Act.put, List.setIfInBounds_toArray, List.set_cons_zero, List.set_cons_succ]
      refine wpAnyH_ready (rs := [11]) (by kernel_rfl) (by simp) ?_
      refine' AllReadyH.cons (o := _) ?hir11 (fun K hK => ?_) AllReadyH.nil
      case hir11 => (simp only [List.getElem?_toArray, List.getElem?_cons_zero, List.getElem?_cons_succ]; rfl)
      go_simp
      go_at_call 8
      refine (C3.out _ hBr3).mono ?_
      rintro e Wr6 ⟨rfl, hBr5⟩
      refine hK.out _ _ hBr5 (fun _ => ?_)
      clear hK K
      try simp only [Act.put, List.setIfInBounds_toArray, List.set_cons_zero, List.set_cons_succ]
      refine' wpAnyH_take (i := 12) (oi := _) (v := _) ?hir12 (by kernel_rfl) ?hfr12 ?hrr12 ?hQr12 ?hyr12 hBr5 ?restr12
      case hir12 => (simp only [List.getElem?_toArray, List.getElem?_cons_zero, List.getElem?_cons_succ]; rfl)
      case hfr12 => kernel_rfl
      case hrr12 => kernel_rfl
      case hQr12 => exact fun _ _ _ h => h
      case hyr12 => refine Or.inl ⟨by rfl, ?_⟩; intro W hSw; go_simp; try with_reducible rfl
      try simp only [Act.put, List.setIfInBounds_toArray, List.set_cons_zero, List.set_cons_succ]
      refine' wpAnyH_take (i := 13) (oi := _) (v := _) ?hir13 (by kernel_rfl) ?hfr13 ?hrr13 ?hQr13 ?hyr13 hBr5 ?restr13
      case hir13 => (simp only [List.getElem?_toArray, List.getElem?_cons_zero, List.getElem?_cons_succ]; rfl)
      case hfr13 => kernel_rfl
      case hrr13 => kernel_rfl
      case hQr13 => exact fun _ _ _ h => h
      case hyr13 => refine Or.inl ⟨by rfl, ?_⟩; intro W hSw; go_simp; try with_reducible rfl
      try simp only [Act.put, List.setIfInBounds_toArray, List.set_cons_zero, List.set_cons_succ]
      refine' wpAnyH_take (i := 14) (oi := _) (v := _) ?hir14 (by kernel_rfl) ?hfr14 ?hrr14 ?hQr14 ?hyr14 hBr5 ?restr14
      case hir14 => (simp only [List.getElem?_toArray, List.getElem?_cons_zero, List.getElem?_cons_succ]; rfl)
      case hfr14 => kernel_rfl
      case hrr14 => kernel_rfl
      case hQr14 => exact fun _ _ _ h => h
      case hyr14 => refine Or.inl ⟨by rfl, ?_⟩; intro W hSw; go_simp; try with_reducible rfl
      try simp only [Act.put, List.setIfInBounds_toArray, List.set_cons_zero, List.set_cons_succ]
      refine' wpAnyH_take (i := 15) (oi := _) (v := _) ?hir15 (by kernel_rfl) ?hfr15 ?hrr15 ?hQr15 ?hyr15 hBr5 ?restr15
      case hir15 => (simp only [List.getElem?_toArray, List.getElem?_cons_zero, List.getElem?_cons_succ]; rfl)
      case hfr15 => kernel_rfl
      case hrr15 => kernel_rfl
      case hQr15 => exact fun _ _ _ h => h
      case hyr15 => refine Or.inl ⟨by rfl, ?_⟩; intro W hSw; go_simp; try with_reducible rfl
      try simp only [Act.put, List.setIfInBounds_toArray, List.set_cons_zero, List.set_cons_succ]
      refine' wpAnyH_take (i := 16) (oi := _) (v := _) ?hir16 (by kernel_rfl) ?hfr16 ?hrr16 ?hQr16 ?hyr16 hBr5 ?restr16
      case hir16 => (simp only [List.getElem?_toArray, List.getElem?_cons_zero, List.getElem?_cons_succ]; rfl)
      case hfr16 => kernel_rfl
      case hrr16 => kernel_rfl
      case hQr16 => exact fun _ _ _ h => h
      case hyr16 => refine Or.inl ⟨by rfl, ?_⟩; intro W hSw; go_simp; try with_reducible rfl
      try simp only [Act.put, List.setIfInBounds_toArray, List.set_cons_zero, List.set_cons_succ]
      refine' wpAnyH_take (i := 17) (oi := _) (v := _) ?hir17 (by kernel_rfl) ?hfr17 ?hrr17 ?hQr17 ?hyr17 hBr5 ?restr17
      case hir17 => (simp only [List.getElem?_toArray, List.getElem?_cons_zero, List.getElem?_cons_succ]; rfl)
      case hfr17 => kernel_rfl
      case hrr17 => kernel_rfl
      case hQr17 => exact fun _ _ _ h => h
      case hyr17 => refine Or.inl ⟨by rfl, ?_⟩; intro W hSw; go_simp; try with_reducible rfl
      try simp only [Act.put, List.setIfInBounds_toArray, List.set_cons_zero, List.set_cons_succ]
      refine' wpAnyH_take (i := 18) (oi := _) (v := .slice A p c) ?hir18 (by kernel_rfl) ?hfr18 ?hrr18 ?hQr18 ?hyr18 hBr5 ?restr18
      case hir18 => (simp only [List.getElem?_toArray, List.getElem?_cons_zero, List.getElem?_cons_succ]; rfl)
      case hfr18 => kernel_rfl
      case hrr18 => kernel_rfl
      case hQr18 => exact fun _ _ _ h => h
      case hyr18 => refine yields_high (by rfl) _ _ rfl rfl rfl ?_; exact HIN.out
      try simp only [Act.put, List.setIfInBounds_toArray, List.set_cons_zero, List.set_cons_succ]
      refine wpAnyH_ready (rs := [19]) (by kernel_rfl) (by simp) ?_
      refine' AllReadyH.cons (o := _) ?hir19 (fun K hK => ?_) AllReadyH.nil
      case hir19 => (simp only [List.getElem?_toArray, List.getElem?_cons_zero, List.getElem?_cons_succ]; rfl)
      go_simp
      go_at_call 10
      refine (C4.out _ hBr5).mono ?_
      rintro e W8 ⟨A8, c8, rfl, ho8, hb8⟩
      have hB8 := below_on hBr5 (Nat.le_refl _) hb8
      have CSM := Lib.hid (sameSums_yes Ax A8 (pop p) cx c8 (fr (nth zs) 0 p).flatten W8 ((InS.of_own HX.out.1).below hB8) (InS.of_own ho8) (by omega))
      refine hK.out _ _ hB8 (fun _ => ?_)
      clear hK K ho8 hb8
      try simp only [Act.put, List.setIfInBounds_toArray, List.set_cons_zero, List.set_cons_succ]
      refine wpAnyH_ready (rs := [20]) (by kernel_rfl) (by simp) ?_
      refine' AllReadyH.cons (o := _) ?hir20 (fun K hK => ?_) AllReadyH.nil
      case hir20 => (simp only [List.getElem?_toArray, List.getElem?_cons_zero, List.getElem?_cons_succ]; rfl)
      go_simp
      go_at_call 9
      refine CSM.out.mono ?_
      rintro e W9 ⟨rfl, q9, hq9⟩
      have hB9 : Below w3.heap.size w3 W9 := by rw [hq9]; exact ⟨hB8.os, hB8.tape, hB8.output, hB8.size, hB8.block⟩
      clear hq9
      refine hK.out _ _ hB9 (fun _ => ?_)
      clear hK K
      try simp only [Act.put, List.setIfInBounds_toArray, List.set_cons_zero, List.set_cons_succ]
      refine' wpAnyH_take (i := 21) (oi := _) (v := _) ?hir21 (by kernel_rfl) ?hfr21 ?hrr21 ?hQr21 ?hyr21 hB9 ?restr21
      case hir21 => (simp only [List.getElem?_toArray, List.getElem?_cons_zero, List.getElem?_cons_succ]; rfl)
      case hfr21 => kernel_rfl
      case hrr21 => kernel_rfl
      case hQr21 => exact fun _ _ _ h => h
      case hyr21 => refine Or.inl ⟨by rfl, ?_⟩; intro W hSw; go_simp; try with_reducible rfl
      try simp only [Act.put, List.setIfInBounds_toArray, List.set_cons_zero, List.set_cons_succ]
      refine' wpAnyH_take (i := 22) (oi := _) (v := _) ?hir22 (by kernel_rfl) ?hfr22 ?hrr22 ?hQr22 ?hyr22 hB9 ?restr22
      case hir22 => (simp only [List.getElem?_toArray, List.getElem?_cons_zero, List.getElem?_cons_succ]; rfl)
      case hfr22 => kernel_rfl
      case hrr22 => kernel_rfl
      case hQr22 => exact fun _ _ _ h => h
      case hyr22 => refine Or.inl ⟨by rfl, ?_⟩; intro W hSw; go_simp; try with_reducible rfl
      try simp only [Act.put, List.setIfInBounds_toArray, List.set_cons_zero, List.set_cons_succ]
      refine wpAnyH_done (by kernel_rfl) ?_ _
      have HP9 := Lib.hid (HP3.out.below hB9)
      have CB := Lib.hid (play_book HP9.out (own_on HX.out.1 hB9) HP.out.kept.base HX.out.2 (by omega) (by omega))
      clear C1 C2 C3 C4 CSM hB9 hB8 q1 q2 hS0
      go_wp2_with fail
      refine CB.out.mono ?_
      rintro e w5 ⟨rfl, ss', hp5⟩
      have HP5 := Lib.hid hp5
      clear hp5 CB
      by_cases hjn : p < n
      · have hjn2 : (p : Int) < (n : Int) := by omega
        obtain ⟨ad, rfl, hl, hat⟩ := HC.out.in_.at_ hjn
        obtain ⟨s, hsj⟩ : ∃ s, nth zs p = s := ⟨_, rfl⟩
        rw [hsj] at hl hat
        have HAt := Lib.hid (hat.below HP5.out.bel)
        have CA := Lib.hid (play_add HP5.out (HF.out.mono (by omega)) (by omega) hk hs hsj)
        clear hsj hat
        go_wp2_with (refine wpList_load_sum_g (by rfl) (.tmp 52) rfl (ad.add (p * 32)) rfl s hl HAt.out ?_)
        refine CA.out.mono ?_
        rintro e w6 ⟨rfl, hp6⟩
        have HP6 := Lib.hid hp6
        clear hp6 CA
        go_wp2_with fail
        go_roundw
        case rel => exact ⟨p + 1, p + 1, _, ss', by omega, by go_num, by omega, HP6⟩
        case measure => simp [intOf]; omega
      · have hjn2 : ¬ ((p : Int) < (n : Int)) := by omega
        go_wp2_with fail
        go_roundw
        case rel => exact ⟨p + 1, p, _, ss', by omega, by go_num, by omega, HP5⟩
        case measure => simp [intOf]; omega
    · have hji : ¬ ((j : Int) ≤ (n : Int)) := by omega
      have CA := Lib.hid (apart_any kb j w.heap.size 0 j (.slice none 0 0) ss [] hs' _ HP.out.kept)
      have hbel := HP.out.bel
      go_wp2_with fail
      refine CA.out.mono ?_
      rintro e w3 ⟨rfl, hb3⟩
      have HB := Lib.hid (hbel.trans hb3)
      go_wp2_with fail
      go_ret
      exact ⟨rfl, HB.out⟩

theorem frontsPlay_law (w : World) (hk : Knows w) (hs : Starts w) {A : Option Addr} {n c : Nat} {zs : List Nat} (h : CameS w A n c zs) :
    Calls Tryz.prog 3 #[.slice A n c] w fun e w' => e = .returned (.bool true) ∧ Below w.heap.size w w' := by
  by_cases h1 : 70 < n
  · exact play_else w A n c h1
  · exact play_law_some w hk hs A n c zs h (by omega)

end Go.Proofs.YtijiolebcnlfgaaGreatDoor

/-
  Five listed variables: two of them are package shas'.
-/
namespace Go.Proofs.YtijiolebcnlfgaaGreatDoor
open Go.ChangeShapes Go.WideShapes Go.ChangeAt Go.RowKit

def laid5 : List (String × DataW Unit) := [("math/bits.deBruijn32tab", Rows.laid_math_bits_deBruijn32tab), ("math/bits.deBruijn64tab", Rows.laid_math_bits_deBruijn64tab), ("internal/strconv.uint64pow10", Rows.laid_internal_strconv_uint64pow10), ("almoner/shas.start", Rows.laid_almoner_shas_start), ("almoner/shas.added", Rows.laid_almoner_shas_added)]
def isShas (x : String × DataW Unit) : Bool := ["almoner/shas.start", "almoner/shas.added"].contains x.1
theorem laid5_shas : laid5.filter isShas = laid2 := by
  unfold laid5 laid2 isShas
  simp [List.filter]

theorem of_laid5 {W : World} (h : laidMetH Tryz.prog laid5 W) : Starts W ∧ Knows W := by
  have h3 := h.filter isShas
  rw [laid5_shas] at h3
  exact of_laid h3

end Go.Proofs.YtijiolebcnlfgaaGreatDoor
