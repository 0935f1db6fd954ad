/-
  slices.Chunk: pieces of 5552 bytes, one behind the other.
-/
import Derived.RangeFuncNested
import Derived.RangeFuncBound
import Derived.RangeFuncCalls
import Derived.RangeFuncLeaves
import Derived.Shelf.Abstract
import Derived.WalkKit
import Derived.OwnWalkIn
import Derived.TacticsInMore
import Derived.LoopNIn
import Derived.LoopIn
import Derived.Test.YthbgcijkpincfaaGreatDoorLMem
namespace Go.Proofs.YthbgcijkpincfaaGreatDoor
open Go.RowKit Go.Shelf

attribute [local go_sem] Oper.semAt_some

/-- Blocks B and C hold what they held. -/
def Keeps2 (B C : Nat) (W W' : World) : Prop := W'.heap[B]? = W.heap[B]? ∧ W'.heap[C]? = W.heap[C]?

/-- Piece number k of n bytes; how many pieces there are. -/
def ckLen (n k : Nat) : Nat := min 5552 (n - 5552 * k)
def ck (A : Option Addr) (n k : Nat) : Value := .slice (A.map (·.add (5552 * k))) (ckLen n k) (ckLen n k)
def cks (n : Nat) : Nat := (n + 5551) / 5552

theorem range_prefix {k m : Nat} (h : k < m) : List.range k ++ [k] <+: List.range m :=
  ⟨(List.range (m - (k + 1))).map (k + 1 + ·), by rw [← List.range_succ, ← List.range_add, show k + 1 + (m - (k + 1)) = m by omega]⟩
theorem cut_piece {a : Addr} {n c p e : Nat} (hnc : n ≤ c) (h : p + e ≤ n) (he : 0 < e) (W : World) :
    (Instr.slice 50 (.slice (some a) n c) (some (.int .i64 (p : Int))) (some (.int .i64 ((p : Int) + (e : Int)))) (some (.int .i64 ((p : Int) + (e : Int))))).run Tryz.prog W = .ok (.slice (some (a.add p)) e e) W := by
  obtain ⟨i0, hi, hz0, hz1, hz2⟩ := info_parts infoByte
  have hel : Tryz.prog.elem 50 = 5 := by kernel_rfl
  rw [run_slice_lhm W 50 (some a) n c (by rw [hel]; exact Tryz.underlying50) .i64 .i64 .i64 (p : Int) ((p : Int) + (e : Int)) ((p : Int) + (e : Int)) (by omega) (by omega) (by omega) (by omega), hel]
  have e1 : ((p : Int) + (e : Int)).toNat = p + e := by omega
  simp [sizeOf, typeInfo, hi, hz1, sliced, e1]
  omega

set_option maxRecDepth 100000 in
set_option maxHeartbeats 1000000 in
theorem chunk1_in (F : Fence) (m : Nat) (hf : F.fn 279) (hro : F.round = none) (hm : 1 ≤ m) (l Bs Bn n c : Nat) (a : Addr) (hnc : n ≤ c) (hc : n ≤ 140737488355328) (J Jx : List Nat → World → Prop) (B0 : Nat) (hJ : AbidesFrom B0 J)
    (hY : ∀ pre x W, J pre W → pre.length < cks n → YieldAt F (m - 1) Tryz.prog l #[ck (some a) n x] W fun e W' =>
      (e = .returned (.bool true) ∧ J (pre ++ [x]) W' ∧ Keeps2 Bs Bn W W') ∨ (e = .returned (.bool false) ∧ Jx (pre ++ [x]) W'))
    (W : World) (hBs : Boxed W Bs 50 (.slice (some a) n c)) (hBn : Boxed W Bn 3 (.int .i64 5552)) (h0 : J [] W) :
    CallsIn F m Tryz.prog 279 #[.func (.yield l) #[] #[], .pointer (some ⟨Bs, 0, none⟩), .pointer (some ⟨Bn, 0, none⟩)] W fun e W' => (∃ v, e = .returned v) ∧
      ((∃ ys, ys = List.range (cks n) ∧ J ys W') ∨ (∃ pre, pre <+: List.range (cks n) ∧ Jx pre W')) := by
  refine callsIn_of_wp Tryz.func279 rfl hf ?_ hro
  simp only [Tryz.ntmps279, List.size_toArray, List.length_cons, List.length_nil, Nat.reduceAdd, Nat.reduceSub, Array.replicate_succ, Array.replicate_zero, List.push_toArray, List.append_toArray, List.nil_append, List.cons_append]
  gi_wp2
  gi_loopw [4] (fun i wr => ∃ (k : Nat), k ≤ cks n ∧ i = .int .i64 ((5552 * k : Nat) : Int) ∧ J (List.range k) wr ∧ Boxed wr Bs 50 (.slice (some a) n c) ∧ Boxed wr Bn 3 (.int .i64 5552))
    (fun i _ => cks n * 5552 - (intOf i).toNat)
  case atStart =>
    exact ⟨0, Nat.zero_le _, rfl, h0, hBs, hBn⟩
  case round =>
    obtain ⟨k, hk, rfl, hJs, bs, bn⟩ := hrel
    have cs := bs.cell
    have cn := bn.cell
    by_cases hlt : k < cks n
    · have hJd : J (List.range k) wr.drew := hJ _ _ _ none hJs ⟨rfl, rfl, rfl, Nat.le_refl _, fun _ _ _ => rfl⟩ (fun r e => by cases e)
      obtain ⟨fn, tmps, assign, body, hy, hR⟩ := hY (List.range k) k wr.drew hJd (by simpa using hlt)
      have h1 : 5552 * k < n := by unfold cks at hlt; omega
      have hck : ∀ p e, p = 5552 * k → e = ckLen n k → ck (some a) n k = .slice (some (a.add p)) e e := by rintro p e rfl rfl; rfl
      have he : ∀ e, e = ckLen n k → 5552 * k + e ≤ n ∧ 0 < e ∧ e ≤ 5552 ∧ (if ((n - 5552 * k : Nat) : Int) < 5552 then ((n - 5552 * k : Nat) : Int) else 5552) = (e : Int) := by
        rintro e rfl
        unfold ckLen
        refine ⟨by omega, by omega, by omega, ?_⟩
        split <;> omega
      obtain ⟨e, hee⟩ : ∃ e, e = ckLen n k := ⟨_, rfl⟩
      obtain ⟨p, hp⟩ : ∃ p, p = 5552 * k := ⟨_, rfl⟩
      obtain ⟨e1, e2, e3, hif⟩ := he e hee
      have hcks := hck p e hp hee
      rw [← hp] at e1 hif h1 ⊢
      rw [hcks] at hy
      obtain ⟨B, hcut, _⟩ := cut_name (A := some a) (n := n) (c := c) (k := p) (by omega)
      obtain ⟨q, hq⟩ : ∃ q, q = n - p := ⟨_, rfl⟩
      rw [← hq] at hif hcut
      have hcut2 := fun W => cut_piece (a := a) hnc e1 e2 W
      have HP := Lib.hid hp
      have HE := Lib.hid hee
      have HQ := Lib.hid hq
      clear hp hee hq hck he hcks
      gi_wp2
      gi_region
      all_goals
        gi_wp2
        refine hR.mono ?_
        rintro e W3 (⟨rfl, hJ3, hk3⟩ | ⟨rfl, hJx3⟩)
        · have bs3 : Boxed W3 Bs 50 (.slice (some a) n c) := hk3.1.trans bs
          have bn3 : Boxed W3 Bn 3 (.int .i64 5552) := hk3.2.trans bn
          have cn3 := bn3.cell
          gi_wp2
          go_roundw
          case rel => exact ⟨k + 1, by omega, by rw [HP.out]; go_num, by rw [List.range_succ]; exact hJ3, bs3, bn3⟩
          case measure => simp [intOf]; have := HP.out; unfold cks at *; omega
        · gi_wp2
          refine bodyPost_ret (results_none rfl _ _ _) rfl ?_
          exact ⟨⟨_, rfl⟩, .inr ⟨List.range k ++ [k], range_prefix hlt, hJx3⟩⟩
    · obtain rfl : k = cks n := by omega
      have h1 : n ≤ 5552 * cks n := by unfold cks; omega
      gi_wp2
      go_end0
      exact ⟨⟨_, rfl⟩, .inl ⟨_, rfl, hJs⟩⟩

set_option maxRecDepth 100000 in
set_option maxHeartbeats 1000000 in
theorem chunk1_nil_in (F : Fence) (m : Nat) (hf : F.fn 279) (hro : F.round = none) (l Bs Bn c : Nat) (A : Option Addr) (J : List Nat → World → Prop)
    (W : World) (hBs : Boxed W Bs 50 (.slice A 0 c)) (h0 : J [] W) :
    CallsIn F m Tryz.prog 279 #[.func (.yield l) #[] #[], .pointer (some ⟨Bs, 0, none⟩), .pointer (some ⟨Bn, 0, none⟩)] W fun e W' => (∃ v, e = .returned v) ∧ J [] W' := by
  refine callsIn_of_wp Tryz.func279 rfl hf ?_ hro
  simp only [Tryz.ntmps279, List.size_toArray, List.length_cons, List.length_nil, Nat.reduceAdd, Nat.reduceSub, Array.replicate_succ, Array.replicate_zero, List.push_toArray, List.append_toArray, List.nil_append, List.cons_append]
  have cs := hBs.cell
  gi_wp2
  gi_loopw [4] (fun i wr => i = .int .i64 0 ∧ J [] wr ∧ Boxed wr Bs 50 (.slice A 0 c)) (fun _ _ => 0)
  case atStart => exact ⟨rfl, h0, hBs⟩
  case round =>
    obtain ⟨rfl, hJs, hb⟩ := hrel
    have cs := hb.cell
    gi_wp2
    go_end0
    exact ⟨⟨_, rfl⟩, hJs⟩

set_option maxRecDepth 100000 in
set_option maxHeartbeats 400000 in
/-- Chunk hands back a function value that has captured both boxes. -/
theorem chunk_in (F : Fence) (m : Nat) (hf : F.fn 246) (hro : F.round = none) (A : Option Addr) (n c : Nat) (w : World) :
    CallsIn F m Tryz.prog 246 #[.slice A n c, .int .i64 5552] w fun e w' =>
      e = .returned (.func (.func 279) #[] #[.pointer (some ⟨w.heap.size, 0, none⟩), .pointer (some ⟨w.heap.size + 1, 0, none⟩)]) ∧
      (w.alloc (.cells #[.slice A n c] 50)).alloc (.cells #[.int .i64 5552] 3) = w' := by
  refine callsIn_of_wp Tryz.func246 rfl hf ?_ hro
  simp only [Tryz.ntmps246, List.size_toArray, List.length_cons, List.length_nil, Nat.reduceAdd, Nat.reduceSub, Array.replicate_succ, Array.replicate_zero, List.push_toArray, List.append_toArray, List.nil_append, List.cons_append]
  gi_wp2
  go_ret
  exact ⟨rfl, rfl⟩

theorem cks_zero : cks 0 = 0 := rfl

/-- The iterator's contract: all pieces, in their order. -/
theorem chunk_stops (F : Fence) (m : Nat) (hf : F.fn 279) (hro : F.round = none) (hm : 1 ≤ m) (Bs Bn n c : Nat) (A : Option Addr) (hA : A = none → n = 0) (hnc : n ≤ c) (hc : n ≤ 140737488355328) (w : World)
    (hb : Boxed w Bs 50 (.slice A n c)) (hN : Boxed w Bn 3 (.int .i64 5552)) :
    SeqStopsK F m Tryz.prog 279 #[.pointer (some ⟨Bs, 0, none⟩), .pointer (some ⟨Bn, 0, none⟩)] (fun x : Nat => #[ck A n x]) (Keeps2 Bs Bn) (fun ys => ys = List.range (cks n)) (fun pre => pre <+: List.range (cks n)) (cks n) w := fun l J Jx W hW hJ _ hY h0 => by
  have b1 : Boxed W Bs 50 (.slice A n c) := (hW.block Bs hb.lt).trans hb
  have b2 : Boxed W Bn 3 (.int .i64 5552) := (hW.block Bn hN.lt).trans hN
  cases A with
  | none =>
    obtain rfl := hA rfl
    exact (chunk1_nil_in F m hf hro l Bs Bn c none J W b1 h0).mono fun e W' ⟨he, hj⟩ => ⟨he, .inl ⟨_, rfl, hj⟩⟩
  | some a => exact chunk1_in F m hf hro hm l Bs Bn n c a hnc hc J Jx W.heap.size hJ hY W b1 b2 h0

end Go.Proofs.YthbgcijkpincfaaGreatDoor
