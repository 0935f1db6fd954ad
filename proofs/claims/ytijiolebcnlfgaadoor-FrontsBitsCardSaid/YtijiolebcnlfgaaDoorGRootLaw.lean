/-
  almonerlaw09.FrontsRoot.
-/
import Derived.Test.YtijiolebcnlfgaaDoorGAlive
import Derived.Test.YtijiolebcnlfgaaDoorLRowS
namespace Go.Proofs.YtijiolebcnlfgaaDoor
open Go.RowKit

theorem sums_of {w : World} {A : Option Addr} {n : Nat} {ys : List Nat} (h : InS w A n ys) (hx : ∀ x ∈ ys, x < 256) : Sums32 (nth ys) n := ⟨fun _ hj => nth_length h.len hj, fun j _ => nth_lt hx j⟩

/-- A front of the first j sums, laid since w. -/
structure Grown_ (w W : World) (g : Nat) (f : Nat → List Nat) (j : Nat) : Prop where
  front : Front W g f j
  bel : Below w.heap.size w W
  ge : w.heap.size ≤ g
theorem Grown_.below {w W W' : World} {g j : Nat} {f : Nat → List Nat} (h : Grown_ w W g f j) (hb : Below W.heap.size W W') : Grown_ w W' g f j := ⟨h.front.below hb, below_on h.bel (Nat.le_refl _) hb, h.ge⟩
theorem grown_add {w W : World} {g j n : Nat} {f : Nat → List Nat} (h : Grown_ w W g f j) (hf : Sums32 f n) (hj : j < n) (hn : n ≤ 999999) (hk : Knows w) (hs : Starts w) {s : List Nat} (hsj : f j = s) :
    Calls Tryd.prog 7 #[.pointer (some ⟨g, 0, none⟩), sv s] W fun e W' => e = .returned (.int .i64 0) ∧ Grown_ w W' g f (j + 1) ∧ But (fun b => b = g) W W' := by
  subst hsj
  exact (add_front h.front (hf.mono (by omega)) (by omega) (hk.below h.bel) (hs.below h.bel)).mono fun e W' ⟨he, hf', hb⟩ => ⟨he, ⟨hf', h.bel.trans (hb.below h.bel.size fun b hb => by rw [hb]; exact h.ge), h.ge⟩, hb⟩

set_option maxRecDepth 100000 in
set_option maxHeartbeats 4000000 in
theorem root_else (w : World) (hk : Knows w) (hs : Starts w) (A : Option Addr) (n c z : Nat) (h : 150 < n) :
    Calls Tryd.prog 4 #[.slice A n c, .int .u8 (z : Int)] w fun e w' => e = .returned (.bool true) ∧ Below w.heap.size w w' := by
  have C := Lib.hid (galive_any w hk hs)
  have h1 : (150 : Int) < (n : Int) := by omega
  go_enter Tryd.func4, Tryd.ntmps4
  go_wp2_with fail
  refine C.out.mono ?_
  rintro e w2 ⟨rfl, hb⟩
  go_wp2_with fail
  go_ret
  exact ⟨rfl, hb⟩

set_option maxRecDepth 100000 in
set_option maxHeartbeats 4000000 in
theorem root_law_some (w : World) (hk : Knows w) (hs : Starts w) (A : Option Addr) (n c z : Nat) (ys : List Nat) (h : CameS w A n c ys) (hn : n ≤ 150) (hz : z < 256) :
    Calls Tryd.prog 4 #[.slice A n c, .int .u8 (z : Int)] w fun e w' => e = .returned (.bool true) ∧ Below w.heap.size w w' := by
  have hf := sums_of h.in_ h.lt
  have C0 := Lib.hid (new_front (nth ys) w)
  have h1 : ¬ ((150 : Int) < (n : Int)) := by omega
  have HC := Lib.hid h
  have HF := Lib.hid hf
  obtain ⟨m, hm⟩ : ∃ m, z % 4 = m := ⟨_, rfl⟩
  have hm4 : m < 4 := by omega
  have ht : Int.tmod (z : Int) 4 = (m : Int) := by rw [Int.tmod_eq_emod_of_nonneg (by omega)]; omega
  have ht2 : (z : Int) % 4 = (m : Int) := by omega
  clear h hf hm
  go_enter Tryd.func4, Tryd.ntmps4
  go_wp2_with fail
  refine C0.out.mono ?_
  rintro e w1 ⟨rfl, hf1, hb1⟩
  have G1 := Lib.hid (show Grown_ w w1 w.heap.size (nth ys) 0 from ⟨hf1, hb1, Nat.le_refl _⟩)
  clear hf1 hb1 C0
  obtain ⟨g, hg⟩ : ∃ g, w.heap.size = g := ⟨_, rfl⟩
  rw [hg] at G1 ⊢
  have HG := Lib.hid hg
  clear hg
  go_wp2
  go_loopw [6, 7] (fun i _ wr => ∃ j : Nat, j ≤ n ∧ i = .int .i64 (j : Int) ∧ Hid (Grown_ w wr g (nth ys) j)) (fun i _ _ => n - (intOf i).toNat)
  case atStart => exact ⟨0, Nat.zero_le _, rfl, G1⟩
  case round =>
    clear G1
    obtain ⟨j, hj, rfl, HJ⟩ := hrel
    by_cases hlt : j < n
    · have hji : (j : Int) < (n : Int) := by omega
      go_wp2
      go_loopw [7] (fun k wr => ∃ q : Nat, q ≤ m ∧ k = .int .i64 (q : Int) ∧ Hid (Grown_ w wr g (nth ys) j)) (fun k _ => m - (intOf k).toNat)
      case atStart => exact ⟨0, Nat.zero_le _, rfl, HJ⟩
      case round =>
        clear HJ
        obtain ⟨q, hq, rfl, HJ⟩ := hrel
        by_cases hqm : q < m
        · have hqi : (q : Int) < (m : Int) := by omega
          have CR := Lib.hid (root_front HJ.out.front (HF.out.mono hj) (by omega) (hk.below HJ.out.bel) (hs.below HJ.out.bel))
          go_wp2_with fail
          refine CR.out.mono ?_
          rintro e w2 ⟨rfl, hb2⟩
          have HJ2 := Lib.hid (HJ.out.below hb2)
          have CS := Lib.hid (sums_front HJ2.out.front (by omega))
          clear hb2 CR
          go_wp2_with fail
          refine CS.out.mono ?_
          rintro e w3 ⟨A3, c3, rfl, _, hb3⟩
          have HJ3 := Lib.hid (HJ2.out.below hb3)
          clear hb3 CS
          go_wp2_with fail
          go_roundw
          case rel => exact ⟨q + 1, by omega, by go_num, HJ3⟩
          case measure => simp [intOf]; omega
        · have hqi : ¬ ((q : Int) < (m : Int)) := by omega
          obtain ⟨ad, rfl, hl, hat⟩ := HC.out.in_.at_ hlt
          obtain ⟨s, hsj⟩ : ∃ s, nth ys j = s := ⟨_, rfl⟩
          rw [hsj] at hl hat
          have HAt := Lib.hid (hat.below HJ.out.bel)
          have CA := Lib.hid (grown_add HJ.out HF.out hlt (by omega) hk hs hsj)
          clear hsj hat
          go_wp2_with (refine wpList_load_sum rfl (.tmp 33) rfl (ad.add (j * 32)) rfl s hl HAt.out ?_)
          refine CA.out.mono ?_
          rintro e w4 ⟨rfl, g4, _⟩
          have G4 := Lib.hid g4
          clear g4 CA
          go_wp2_with fail
          go_roundw
          case rel => exact ⟨j + 1, by omega, by go_num, G4⟩
          case measure => simp [intOf]; omega
    · obtain rfl : j = n := by omega
      have hji : ¬ ((j : Int) < (j : Int)) := by omega
      have CA := Lib.hid (galive_any _ (hk.below HJ.out.bel) (hs.below HJ.out.bel))
      have hRl : (rt (nth ys) 0 j).length = 32 := rt_length _ 0 j fun i hi => by rw [Nat.zero_add]; exact HF.out.len i hi
      obtain ⟨R, hR⟩ : ∃ R, rt (nth ys) 0 j = R := ⟨_, rfl⟩
      have HR := Lib.hid hR
      rw [hR] at hRl
      have q1 := run_eql_sum R R hRl hRl
      rw [decide_eq_true rfl] at q1
      have q2 := run_guard_eql
      have hwj : IntKind.u64.wrap (j : Int) = (j : Int) := by rw [IntKind.wrap_u64]; omega
      clear hR
      go_wp2_with fail
      refine CA.out.mono ?_
      rintro e w2 ⟨rfl, hb2⟩
      have H2 := Lib.hid (HJ.out.below hb2)
      have C2 := Lib.hid (root_front H2.out.front HF.out (by omega) (hk.below H2.out.bel) (hs.below H2.out.bel))
      rw [HR.out] at C2
      clear CA hb2
      go_wp2_with fail
      refine C2.out.mono ?_
      rintro e w3 ⟨rfl, hb3⟩
      have H3 := Lib.hid (H2.out.below hb3)
      have C3 := Lib.hid (root_any A j c ys w3 (HC.out.in_.below H3.out.bel) HC.out.lt HC.out.cap (by omega) (hk.below H3.out.bel) (hs.below H3.out.bel))
      rw [HR.out] at C3
      clear C2 hb3
      go_wp2_with fail
      refine C3.out.mono ?_
      rintro e w4 ⟨rfl, hb4⟩
      have H4 := Lib.hid (H3.out.below hb4)
      have C4 := Lib.hid (size_front H4.out.front)
      clear C3 hb4
      go_wp2_with fail
      refine C4.out.mono ?_
      rintro e w5 ⟨rfl, rfl⟩
      go_wp2_with fail
      go_ret
      exact ⟨rfl, by rw [HG.out]; have := H4.out.bel; rw [HG.out] at this; exact this⟩

theorem frontsRoot_law (w : World) (hk : Knows w) (hs : Starts w) {A : Option Addr} {n c z : Nat} {ys : List Nat} (h : CameS w A n c ys) (hz : z < 256) :
    Calls Tryd.prog 4 #[.slice A n c, .int .u8 (z : Int)] w fun e w' => e = .returned (.bool true) ∧ Below w.heap.size w w' := by
  by_cases hn : 150 < n
  · exact root_else w hk hs A n c z hn
  · exact root_law_some w hk hs A n c z ys h (by omega) hz

end Go.Proofs.YtijiolebcnlfgaaDoor
