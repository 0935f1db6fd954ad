/-
  slices.Backward over sums: the last one first.
-/
import Derived.Test.YtllohbgejjbagaaDoorGIn
import Derived.Test.YtllohbgejjbagaaDoorGPure
import Derived.Test.YtllohbgejjbagaaDoorVTools
namespace Go.Proofs.YtllohbgejjbagaaDoor
open Go.RowKit Go.Shelf

attribute [local go_sem] Oper.semAt_some

/-- The blocks that stood at the start, and the box, hold what they held. -/
def KeepsBk (B0 Bs : Nat) (W W' : World) : Prop := ∀ b, (b < B0 ∨ b = Bs) → W'.heap[b]? = W.heap[b]?
theorem KeepsBk.refl (B0 Bs : Nat) (W : World) : KeepsBk B0 Bs W W := fun _ _ => rfl
theorem KeepsBk.trans {B0 Bs : Nat} {X Y Z : World} (h : KeepsBk B0 Bs X Y) (k : KeepsBk B0 Bs Y Z) : KeepsBk B0 Bs X Z := fun b hb => (k b hb).trans (h b hb)

/-- What is handed over: a place, and the sum there. -/
abbrev BackP := { p : Nat × List Nat // p.2.length = 32 ∧ ∀ y ∈ p.2, y < 256 }
def encB (x : BackP) : Array Value := #[.int .i64 (x.1.1 : Int), sv x.1.2]

set_option maxRecDepth 100000 in
set_option maxHeartbeats 1000000 in
theorem back1_in (F : Fence) (m : Nat) (hf : F.fn 84) (hro : F.round = none) (hm : 1 ≤ m) (l Bs B0 n c : Nat) (A : Option Addr) (ss : List (List Nat)) (hlen : ss.length = n)
    (h32 : ∀ s ∈ ss, s.length = 32) (hlt : ∀ s ∈ ss, ∀ x ∈ s, x < 256) (hn : n ≤ 1000000) (J Jx : List BackP → World → Prop) (W0 : World)
    (hY : ∀ pre x W, J pre W → pre.length < n → YieldAt F (m - 1) Tryd.prog l (encB x) W fun e W' =>
      (e = .returned (.bool true) ∧ J (pre ++ [x]) W' ∧ KeepsBk B0 Bs W W') ∨ (e = .returned (.bool false) ∧ Jx (pre ++ [x]) W'))
    (hBs : Boxed W0 Bs 37 (.slice A n c)) (hT : ∀ W, KeepsBk B0 Bs W0 W → InS W A n ss.flatten) (h0 : J [] W0) :
    CallsIn F m Tryd.prog 84 #[.func (.yield l) #[] #[], .pointer (some ⟨Bs, 0, none⟩)] W0 fun e W' => (∃ v, e = .returned v) ∧
      ((∃ xs : List BackP, xs.map (·.1.2) = ss.reverse ∧ J xs W') ∨ (∃ pre : List BackP, True ∧ Jx pre W')) := by
  have HT := Lib.hid hT
  have HS := Lib.hid (And.intro h32 hlt)
  clear hT h32 hlt
  refine callsIn_of_wp Tryd.func84 rfl hf ?_ hro
  simp only [Tryd.ntmps84, List.size_toArray, List.length_cons, List.length_nil, Nat.reduceAdd, Nat.reduceSub, Array.replicate_succ, Array.replicate_zero, List.push_toArray, List.append_toArray, List.nil_append, List.cons_append]
  have cs := hBs.cell
  have HB := Lib.hid hBs
  have HL := Lib.hid hlen
  clear hBs hlen
  gi_wp2
  gi_loopw [3] (fun i wr => ∃ (k : Nat) (pre : List BackP), k ≤ n ∧ i = .int .i64 ((n : Int) - 1 - (k : Int)) ∧ pre.length = k ∧ pre.map (·.1.2) = ss.reverse.take k ∧ J pre wr ∧ KeepsBk B0 Bs W0 wr)
    (fun i _ => (intOf i + 1).toNat)
  case atStart =>
    exact ⟨0, [], Nat.zero_le _, by go_num, rfl, rfl, h0, KeepsBk.refl _ _ _⟩
  case round =>
    clear cs
    obtain ⟨k, pre, hk, rfl, hpl, hpm, hJs, hkp⟩ := hrel
    have bs : Boxed wr Bs 37 (.slice A n c) := (hkp Bs (.inr rfl)).trans HB.out
    have cs := bs.cell
    by_cases hlt : k < n
    · obtain ⟨q, hq⟩ : ∃ q : Nat, (n : Int) - 1 - (k : Int) = (q : Int) := ⟨n - 1 - k, by omega⟩
      have hqn : q < n := by omega
      obtain ⟨ad, rfl, hsl, hat⟩ := (HT.out wr hkp).at_ hqn
      obtain ⟨s, hs⟩ : ∃ s, nth ss.flatten q = s := ⟨_, rfl⟩
      rw [hs] at hsl hat
      have hsq : ss[q]? = some s := by
        have h1 : ss[q]? = some (ss[q]'(by rw [HL.out]; exact hqn)) := List.getElem?_eq_getElem _
        rw [h1, ← hs, nth_flatten ss HS.out.1 q _ h1]
      have hsm : s ∈ ss := List.mem_of_getElem? hsq
      have hrev : ss.reverse.take (k + 1) = ss.reverse.take k ++ [s] := by
        rw [List.take_add_one, List.getElem?_reverse (by rw [HL.out]; omega), HL.out, show n - 1 - k = q by omega, hsq]; rfl
      obtain ⟨x, hx⟩ : ∃ x : BackP, x = ⟨(q, s), hsl, HS.out.2 s hsm⟩ := ⟨_, rfl⟩
      obtain ⟨fn, tmps, assign, body, hy, hR⟩ := hY pre x wr hJs (by omega)
      have hye : encB x = #[.int .i64 (q : Int), sv s] := by rw [hx]; rfl
      rw [hye] at hy
      have hx2 : x.1.2 = s := by rw [hx]
      have HK := Lib.hid (And.intro hkp (And.intro hpl (And.intro hpm (And.intro hrev hx2))))
      have HQ := Lib.hid hq
      have HAt := Lib.hid hat
      have hnq : ¬ ((q : Int) < 0) := by omega
      rw [hq]
      clear hkp hpl hpm hrev hx2 hq hat hsq hsm hs hx hye
      gi_wp2_with (refine wpListIn_load_sum rfl (.tmp 15) rfl (ad.add (q * 32)) rfl s hsl HAt.out ?_)
      refine hR.mono ?_
      rintro e W3 (⟨rfl, hJ3, hk3⟩ | ⟨rfl, hJx3⟩)
      · gi_wp2
        go_roundw
        case rel =>
          refine ⟨k + 1, pre ++ [x], by omega, by have := HQ.out; go_num, by rw [List.length_append, HK.out.2.1]; rfl, ?_, hJ3, HK.out.1.trans hk3⟩
          rw [List.map_append, HK.out.2.2.1, HK.out.2.2.2.1, List.map_singleton, HK.out.2.2.2.2]
        case measure => simp [intOf]
      · gi_wp2
        refine bodyPost_ret (results_none rfl _ _ _) rfl ?_
        exact ⟨⟨_, rfl⟩, .inr ⟨pre ++ [x], trivial, hJx3⟩⟩
    · obtain rfl : k = n := by omega
      have hneg : (k : Int) - 1 - (k : Int) = -1 := by omega
      rw [hneg]
      rw [List.take_of_length_le (by rw [List.length_reverse, HL.out]; omega)] at hpm
      clear hneg
      gi_wp2
      go_end0
      exact ⟨⟨_, rfl⟩, .inl ⟨pre, hpm, hJs⟩⟩

set_option maxRecDepth 100000 in
set_option maxHeartbeats 400000 in
/-- Backward hands back a function value that has captured the box. -/
theorem back_in (F : Fence) (m : Nat) (hf : F.fn 73) (hro : F.round = none) (A : Option Addr) (n c : Nat) (w : World) :
    CallsIn F m Tryd.prog 73 #[.slice A n c] w fun e w' =>
      e = .returned (.func (.func 84) #[] #[.pointer (some ⟨w.heap.size, 0, none⟩)]) ∧ w.alloc (.cells #[.slice A n c] 37) = w' := by
  refine callsIn_of_wp Tryd.func73 rfl hf ?_ hro
  simp only [Tryd.ntmps73, List.size_toArray, List.length_cons, List.length_nil, Nat.reduceAdd, Nat.reduceSub, Array.replicate_succ, Array.replicate_zero, List.push_toArray, List.append_toArray, List.nil_append, List.cons_append]
  gi_wp2
  go_ret
  exact ⟨rfl, rfl⟩

/-- The iterator's contract: all of them, the last one first. -/
theorem back_stops (F : Fence) (m : Nat) (hf : F.fn 84) (hro : F.round = none) (hm : 1 ≤ m) (Bs B0 n c : Nat) (A : Option Addr) (ss : List (List Nat)) (hlen : ss.length = n)
    (h32 : ∀ s ∈ ss, s.length = 32) (hlt : ∀ s ∈ ss, ∀ x ∈ s, x < 256) (hn : n ≤ 1000000) (w : World) (hBs : Boxed w Bs 37 (.slice A n c)) (hB : B0 ≤ w.heap.size) (hT : ∀ W, KeepsBk B0 Bs w W → InS W A n ss.flatten) :
    SeqStopsK F m Tryd.prog 84 #[.pointer (some ⟨Bs, 0, none⟩)] encB (KeepsBk B0 Bs) (fun xs : List BackP => xs.map (·.1.2) = ss.reverse) (fun _ => True) n w := fun l J Jx W hW _ _ hY h0 => by
  have hk : KeepsBk B0 Bs w W := fun b hb => hW.block b (by rcases hb with h | h; exact Nat.lt_of_lt_of_le h hB; subst h; exact hBs.lt)
  exact back1_in F m hf hro hm l Bs B0 n c A ss hlen h32 hlt hn J Jx W hY ((hk Bs (.inr rfl)).trans hBs) (fun W' h => hT W' (hk.trans h)) h0

end Go.Proofs.YtllohbgejjbagaaDoor
