/-
  nums.digits.
-/
import Derived.RangeFuncNested
import Derived.RangeFuncBound
import Derived.RangeFuncCalls
import Derived.RangeFuncLeaves
import Derived.Shelf.Abstract
import Derived.WalkKit
import Derived.OwnWalkIn
import Derived.TacticsInMore
import Derived.LoopNIn
import Derived.LoopIn
import Derived.Maps.AppendAt
import Derived.Test.YthbgcijkpincfaaGreatDoorLMem
namespace Go.Proofs.YthbgcijkpincfaaGreatDoor
open Go.RowKit Go.Shelf

attribute [local go_sem] Oper.semAt_some

/-- Block B holds what it held. -/
def KeepsB (B : Nat) (W W' : World) : Prop := W'.heap[B]? = W.heap[B]?

set_option maxRecDepth 100000 in
set_option maxHeartbeats 400000 in
theorem it_in (F : Fence) (n : Nat) (h19 : F.fn 308) (hro : F.round = none) (hn : 1 ≤ n) (l Bb Bn k N : Nat) (hk8 : k ≤ 8) (J Jx : List Nat → World → Prop)
    (hY : ∀ pre x W, J pre W → pre.length < k → YieldAt F (n - 1) Tryz.prog l #[bv x] W fun e W' =>
      (e = .returned (.bool true) ∧ J (pre ++ [x]) W' ∧ KeepsB Bn W W') ∨ (e = .returned (.bool false) ∧ Jx (pre ++ [x]) W'))
    (W : World) (hBb : W.cell? ⟨Bb, 0, none⟩ = some (.int .i64 (k : Int))) (hBn : Boxed W Bn 126 (.int .u64 (N : Int))) (h0 : J [] W) :
    CallsIn F n Tryz.prog 308 #[.func (.yield l) #[] #[], .pointer (some ⟨Bb, 0, none⟩), .pointer (some ⟨Bn, 0, none⟩)] W fun e W' => (∃ v, e = .returned v) ∧
      ((∃ ys, ys = dg N k ∧ J ys W') ∨ (∃ pre, pre <+: dg N k ∧ Jx pre W')) := by
  refine callsIn_of_wp Tryz.func308 rfl h19 ?_ hro
  simp only [Tryz.ntmps308, List.size_toArray, List.length_cons, List.length_nil, Nat.reduceAdd, Nat.reduceSub, Array.replicate_succ, Array.replicate_zero, List.push_toArray, List.append_toArray, List.nil_append, List.cons_append]
  gi_wp2
  gi_loopw [4] (fun p wr => ∃ (pre : List Nat) (i : Nat), p = .int .i64 ((i : Int) - 1) ∧ i ≤ k ∧ dg N k = pre ++ dg N i ∧ J pre wr ∧ Boxed wr Bn 126 (.int .u64 (N : Int)))
    (fun p _ => (intOf p + 1).toNat)
  case atStart =>
    exact ⟨[], k, rfl, Nat.le_refl _, rfl, h0, hBn⟩
  case round =>
    obtain ⟨pre, i, rfl, hi, hx, hJs, hbx⟩ := hrel
    cases i with
    | zero =>
      gi_wp2
      go_end0
      exact ⟨⟨_, rfl⟩, .inl ⟨pre, by simp [hx, dg], hJs⟩⟩
    | succ i =>
      have hc := hbx.cell
      have hlen : pre.length < k := by
        have := congrArg List.length hx
        rw [List.length_append, dg_length, dg_length] at this
        omega
      obtain ⟨fn, tmps, assign, body, hy, hR⟩ := hY pre (N / 256 ^ i % 256) wr hJs hlen
      rw [bv_digit] at hy
      have HX := Lib.hid hx
      clear hx
      gi_wp2
      refine hR.mono ?_
      rintro e W3 (⟨rfl, hJ3, hk3⟩ | ⟨rfl, hJx3⟩)
      · have hbx3 : Boxed W3 Bn 126 (.int .u64 (N : Int)) := hk3.trans hbx
        gi_wp2
        go_roundw
        case rel => exact ⟨pre ++ [N / 256 ^ i % 256], i, by go_num, by omega, by rw [HX.out]; simp [dg], hJ3, hbx3⟩
        case measure => simp [intOf]
      · gi_wp2
        refine bodyPost_ret (results_none rfl _ _ _) rfl ?_
        exact ⟨⟨_, rfl⟩, .inr ⟨pre ++ [N / 256 ^ i % 256], ⟨dg N i, by rw [HX.out]; simp [dg]⟩, hJx3⟩⟩

set_option maxRecDepth 100000 in
set_option maxHeartbeats 400000 in
/-- digits hands back a function value that has captured both boxes. -/
theorem digits_in (F : Fence) (n : Nat) (h18 : F.fn 275) (hro : F.round = none) (N k : Int) (w : World) :
    CallsIn F n Tryz.prog 275 #[.int .u64 N, .int .i64 k] w fun e w' =>
      e = .returned (.func (.func 308) #[] #[.pointer (some ⟨w.heap.size + 1, 0, none⟩), .pointer (some ⟨w.heap.size, 0, none⟩)]) ∧
      (w.alloc (.cells #[.int .u64 N] 126)).alloc (.cells #[.int .i64 k] 3) = w' := by
  refine callsIn_of_wp Tryz.func275 rfl h18 ?_ hro
  simp only [Tryz.ntmps275, List.size_toArray, List.length_cons, List.length_nil, Nat.reduceAdd, Nat.reduceSub, Array.replicate_succ, Array.replicate_zero, List.push_toArray, List.append_toArray, List.nil_append, List.cons_append]
  gi_wp2
  go_ret
  exact ⟨rfl, rfl⟩

/-- The iterator's contract: all digits, in their order. -/
theorem digits_stops (F : Fence) (n : Nat) (h19 : F.fn 308) (hro : F.round = none) (hn : 1 ≤ n) (Bb Bn k N : Nat) (hk8 : k ≤ 8) (w : World)
    (hb : Boxed w Bb 3 (.int .i64 (k : Int))) (hN : Boxed w Bn 126 (.int .u64 (N : Int))) :
    SeqStopsK F n Tryz.prog 308 #[.pointer (some ⟨Bb, 0, none⟩), .pointer (some ⟨Bn, 0, none⟩)] (fun x : Nat => #[bv x]) (KeepsB Bn) (fun ys => ys = dg N k) (fun pre => pre <+: dg N k) k w := fun l J Jx W hW _ _ hY h0 =>
  it_in F n h19 hro hn l Bb Bn k N hk8 J Jx hY W ((hW.cell (p := ⟨Bb, 0, none⟩) hb.lt).trans hb.cell) ((hW.block Bn hN.lt).trans hN) h0

end Go.Proofs.YthbgcijkpincfaaGreatDoor
