/-
  macs.Same: it tells whether two sums are the same.
-/
import Derived.Test.YtoojlpbfldnkpaaDoorLSum
import Derived.Deep.QuietTactic
import Derived.BigQuiet
namespace Go.Proofs.YtoojlpbfldnkpaaDoor
open Go.RowKit

theorem xor_byte {a b : Nat} (ha : a < 256) (hb : b < 256) : a ^^^ b < 256 := Nat.xor_lt_two_pow (n := 8) ha hb
theorem or_byte {a b : Nat} (ha : a < 256) (hb : b < 256) : a ||| b < 256 := Nat.or_lt_two_pow (n := 8) ha hb
theorem unlike_step {a x y : Nat} (ha : a < 256) (hx : x < 256) (hy : y < 256) :
    bits .or .u8 (a : Int) (bits .xor .u8 (x : Int) (y : Int)) = ((a ||| (x ^^^ y) : Nat) : Int) := by
  rw [u8_xor_nat _ _ hx hy, u8_or_nat _ _ ha (xor_byte hx hy)]
theorem or_zero_iff (a b : Nat) : a ||| b = 0 ↔ a = 0 ∧ b = 0 := Nat.or_eq_zero_iff
theorem xor_zero_iff (a b : Nat) : a ^^^ b = 0 ↔ a = b := by
  constructor
  · intro h
    have h2 : a ^^^ b ^^^ b = b := by rw [h, Nat.zero_xor]
    rwa [Nat.xor_assoc, Nat.xor_self, Nat.xor_zero] at h2
  · rintro rfl; exact Nat.xor_self a
theorem take_both {s t : List Nat} {j x y : Nat} (hx : s[j]? = some x) (hy : t[j]? = some y) : (s.take (j + 1) = t.take (j + 1)) ↔ (s.take j = t.take j ∧ x = y) := by
  rw [take_snoc_of hx, take_snoc_of hy]
  constructor
  · intro h
    have := List.append_inj' h rfl
    exact ⟨this.1, by simpa using this.2⟩
  · rintro ⟨h, rfl⟩; rw [h]

theorem add_zero_off (g j : Nat) : (⟨g, 0, none⟩ : Addr).add j = ⟨g, j, none⟩ := by unfold Addr.add; split <;> simp_all

set_option maxRecDepth 100000 in
set_option maxHeartbeats 1000000 in
theorem same_any (s t : List Nat) (w : World) (hs : s.length = 32) (ht : t.length = 32) (ls : ∀ x ∈ s, x < 256) (lt : ∀ x ∈ t, x < 256) :
    Calls Tryd.prog 27 #[sv s, sv t] w fun e w' => e = .returned (.bool (decide (s = t))) ∧ Below w.heap.size w w' := by
  obtain ⟨W, hW⟩ : ∃ W, W = (w.alloc (.cells (bvs s).toArray 54)).alloc (.cells (bvs t).toArray 54) := ⟨_, rfl⟩
  have i1 : In W (some ⟨w.heap.size, 0, none⟩) 32 s := by rw [hW, ← hs]; exact (In.new' w s 54).below (below_alloc _ _)
  have i2 : In W (some ⟨w.heap.size + 1, 0, none⟩) 32 t := by
    have := In.new' (w.alloc (.cells (bvs s).toArray 54)) t 54
    rw [World.size_alloc, ht] at this
    rw [hW]; exact this
  have bel : Below w.heap.size w W := by rw [hW]; exact (below_alloc w _).alloc (by simp) _
  have HL := Lib.hid (And.intro hs (And.intro ht (And.intro ls lt)))
  have HI := Lib.hid (And.intro i1 (And.intro i2 bel))
  clear hs ht ls lt i1 i2 bel
  go_enter Tryd.func27, Tryd.ntmps27
  unfold sv
  go_wp2
  rw [← hW]
  go_loopw [5, 7] (fun u i wr => ∃ j a : Nat, j ≤ 32 ∧ i = .int .i64 (j : Int) ∧ u = .int .u8 (a : Int) ∧ a < 256 ∧ (a = 0 ↔ s.take j = t.take j) ∧ ∃ q, wr = W.drewN q) (fun _ i _ => 32 - (intOf i).toNat)
  case atStart => exact ⟨0, 0, by omega, rfl, rfl, by omega, by simp, 0, rfl⟩
  case round =>
    obtain ⟨j, a, hj, rfl, rfl, ha, hiff, q, rfl⟩ := hrel
    clear hW
    by_cases hlt : j < 32
    · obtain ⟨ad, x, e1, hx, hc1⟩ := HI.out.1.at_ hlt
      obtain ⟨ad2, y, e2, hy, hc2⟩ := HI.out.2.1.at_ hlt
      cases e1
      cases e2
      rw [add_zero_off] at hc1 hc2
      have bx : x < 256 := HL.out.2.2.1 x (List.mem_of_getElem? hx)
      have b_y : y < 256 := HL.out.2.2.2 y (List.mem_of_getElem? hy)
      have HX := Lib.hid (And.intro hx (And.intro hy hiff))
      clear hx hy hiff
      have q1 := unlike_step ha bx b_y
      go_wp2
      go_quiet (fail)
      rw [World.drewN_drewN]
      go_wp2
      go_roundw
      case rel =>
        refine ⟨j + 1, a ||| (x ^^^ y), by omega, by go_num, rfl, or_byte ha (xor_byte bx b_y), ?_, q + nq, rfl⟩
        rw [or_zero_iff, xor_zero_iff, HX.out.2.2, take_both HX.out.1 HX.out.2.1]
      case measure => simp [intOf]; omega
    · obtain rfl : j = 32 := by omega
      rw [List.take_of_length_le (by rw [HL.out.1]; omega), List.take_of_length_le (by rw [HL.out.2.1]; omega)] at hiff
      have e : ((a : Int) == 0) = decide (s = t) := by
        rw [Bool.eq_iff_iff, beq_iff_eq, decide_eq_true_eq, ← hiff]; omega
      go_wp2
      go_ret
      exact ⟨rfl, ⟨HI.out.2.2.os, HI.out.2.2.tape, HI.out.2.2.output, HI.out.2.2.size, HI.out.2.2.block⟩⟩

end Go.Proofs.YtoojlpbfldnkpaaDoor
