/-
  slices.Chunk of sectors: pieces of 64 bytes, one behind the other.
-/
import Derived.RangeFuncNested
import Derived.RangeFuncBound
import Derived.RangeFuncCalls
import Derived.RangeFuncLeaves
import Derived.Shelf.Abstract
import Derived.WalkKit
import Derived.OwnWalkIn
import Derived.TacticsInMore
import Derived.LoopNIn
import Derived.LoopIn
import Derived.Test.YtjkohceigdfmjaaDoorSumChunk
import Derived.Test.YtjkohceigdfmjaaDoorTSeq
namespace Go.Proofs.YtjkohceigdfmjaaDoor
open Go.RowKit Go.Shelf

attribute [local go_sem] Oper.semAt_some

/-- Piece number k. -/
def pk (a : Addr) (k : Nat) : Value := .slice (some (a.add (64 * k))) 64 64

set_option maxRecDepth 100000 in
set_option maxHeartbeats 400000 in
/-- Chunk hands back a function value that has captured both boxes. -/
theorem chunk64_in (F : Fence) (m : Nat) (hf : F.fn 60) (hro : F.round = none) (A : Option Addr) (n c : Nat) (w : World) :
    CallsIn F m Tryd.prog 60 #[.slice A n c, .int .i64 64] w fun e w' =>
      e = .returned (.func (.func 67) #[] #[.pointer (some ⟨w.heap.size, 0, none⟩), .pointer (some ⟨w.heap.size + 1, 0, none⟩)]) ∧
      (w.alloc (.cells #[.slice A n c] 35)).alloc (.cells #[.int .i64 64] 3) = w' := by
  refine callsIn_of_wp Tryd.func60 rfl hf ?_ hro
  simp only [Tryd.ntmps60, List.size_toArray, List.length_cons, List.length_nil, Nat.reduceAdd, Nat.reduceSub, Array.replicate_succ, Array.replicate_zero, List.push_toArray, List.append_toArray, List.nil_append, List.cons_append]
  gi_wp2
  go_ret
  exact ⟨rfl, rfl⟩

/-- Both boxes hold what the iterator has captured. -/
def Boxes (Bs Bn n c : Nat) (a : Addr) (W : World) : Prop := Boxed W Bs 35 (.slice (some a) n c) ∧ Boxed W Bn 3 (.int .i64 64)

set_option maxRecDepth 100000 in
set_option maxHeartbeats 1000000 in
theorem chunk64_seq (F : Fence) (m : Nat) (hf : F.fn 67) (hro : F.round = none) (hm : 1 ≤ m) (Bs Bn q c : Nat) (a : Addr) (hnc : 64 * q ≤ c) (hc : q ≤ 1000) (W : World) (hb : Boxes Bs Bn (64 * q) c a W) :
    SeqR F m Tryd.prog 67 #[] #[.pointer (some ⟨Bs, 0, none⟩), .pointer (some ⟨Bn, 0, none⟩)] (fun x : Nat => #[pk a x]) (fun _ => False) (fun pre x _ => pre = List.range x ∧ x < q) (fun _ W => Boxes Bs Bn (64 * q) c a W)
      (fun xs _ => xs = List.range q) (fun pre _ => ∃ k, k < q ∧ pre = List.range (k + 1)) W := by
  intro l J Jx hJ _ hY h0
  refine callsIn_of_wp Tryd.func67 rfl hf ?_ hro
  simp only [Tryd.ntmps67, List.size_toArray, List.length_cons, List.length_nil, Nat.reduceAdd, Nat.reduceSub, Array.replicate_succ, Array.replicate_zero, List.push_toArray, List.append_toArray, List.nil_append, List.cons_append]
  gi_wp2
  gi_loopw [4] (fun i wr => ∃ (k : Nat), k ≤ q ∧ i = .int .i64 ((64 * k : Nat) : Int) ∧ J (List.range k) wr ∧ Boxes Bs Bn (64 * q) c a wr)
    (fun i _ => q * 64 - (intOf i).toNat)
  case atStart =>
    exact ⟨0, Nat.zero_le _, rfl, h0, hb⟩
  case round =>
    obtain ⟨k, hk, rfl, hJs, bs, bn⟩ := hrel
    have cs := bs.cell
    have cn := bn.cell
    by_cases hlt : k < q
    · have hJd : J (List.range k) wr.drew := hJ _ _ _ none hJs ⟨rfl, rfl, rfl, Nat.le_refl _, fun _ _ _ => rfl⟩ (fun r e => by cases e)
      obtain ⟨fn, tmps, assign, body, hy, hR⟩ := hY (List.range k) k wr.drew hJd ⟨rfl, hlt⟩
      obtain ⟨n, hn⟩ : ∃ n, 64 * q = n := ⟨_, rfl⟩
      obtain ⟨p, hp⟩ : ∃ p, 64 * k = p := ⟨_, rfl⟩
      have hn9 : n ≤ 64000 := by omega
      obtain ⟨e, he⟩ : ∃ e, 64 = e := ⟨_, rfl⟩
      have h1 : p + e ≤ n := by omega
      have e2 : 0 < e := by omega
      have e3 : e ≤ 64 := by omega
      have hpn : p < n := by omega
      have hcks : pk a k = .slice (some (a.add p)) e e := by rw [← hp, ← he]; rfl
      rw [hcks] at hy
      rw [hn] at bs cs hnc ⊢
      rw [hp] at ⊢
      obtain ⟨B, hcut, _⟩ := cut_name (A := some a) (n := n) (c := c) (k := p) (by omega)
      obtain ⟨t, ht⟩ : ∃ t, t = n - p := ⟨_, rfl⟩
      rw [← ht] at hcut
      have hif : (if (t : Int) < 64 then (t : Int) else 64) = (e : Int) := by rw [if_neg (by omega)]; omega
      have hcut2 := fun W => cut_piece (a := a) (p := p) (e := e) hnc h1 (by omega) W
      have HE := Lib.hid he
      have HP := Lib.hid hp
      have HQ := Lib.hid ht
      have HN := Lib.hid hn
      clear hp ht hcks hn he
      gi_wp2
      gi_region
      all_goals
        gi_wp2
        refine hR.mono ?_
        rintro e W3 (⟨rfl, hJ3, hk3⟩ | ⟨rfl, hJx3⟩)
        · have bs3 := hk3.1.1
          have bn3 := hk3.1.2
          have cn3 := bn3.cell
          gi_wp2
          go_roundw
          case rel => exact ⟨k + 1, by omega, by rw [show ((64 * (k + 1) : Nat) : Int) = (p : Int) + 64 from by have := HP.out; omega], by rw [List.range_succ]; exact hJ3, by rw [← HN.out]; exact bs3, bn3⟩
          case measure => simp [intOf]; have := HP.out; omega
        · gi_wp2
          refine bodyPost_ret (results_none rfl _ _ _) rfl ?_
          exact ⟨⟨_, rfl⟩, .inr ⟨List.range k ++ [k], ⟨k, hlt, by rw [List.range_succ]⟩, hJx3.1⟩⟩
    · obtain rfl : k = q := by omega
      have h1 : ¬ ((64 * k : Nat) : Int) < ((64 * k : Nat) : Int) := by omega
      gi_wp2
      go_end0
      exact ⟨⟨_, rfl⟩, .inl hJs⟩

end Go.Proofs.YtjkohceigdfmjaaDoor
