/-
  fronts.merged: how many bits of the size are set, from the lowest one on.
-/
import Derived.Test.YtllohbgejjbagaaDoorGPure
import Derived.Test.YtllohbgejjbagaaDoorGIn
import Derived.WalkMore
namespace Go.Proofs.YtllohbgejjbagaaDoor
open Go.RowKit

/-- Bit k of a number, as the walk has it. -/
theorem bit_at (n k : Nat) (hn : n < 1000000) : bits .and .u64 ((n : Int) / 2 ^ k) 1 = ((n / 2 ^ k % 2 : Nat) : Int) := by
  have h : (n : Int) / 2 ^ k = ((n / 2 ^ k : Nat) : Int) := by norm_cast
  have hlt : n / 2 ^ k ≤ n := Nat.div_le_self _ _
  rw [h, show (1 : Int) = ((1 : Nat) : Int) from rfl, u64_and_nat _ _ (by omega) (by omega), Nat.and_one_is_mod]

theorem ones_more {n k : Nat} (hm : n % 2 ^ k = 2 ^ k - 1) (hb : n / 2 ^ k % 2 = 1) : n % 2 ^ (k + 1) = 2 ^ (k + 1) - 1 := by
  have hp := Nat.two_pow_pos k
  rw [Nat.pow_succ, Nat.mod_mul, hm, hb]
  omega
theorem ones_end {n k : Nat} (hm : n % 2 ^ k = 2 ^ k - 1) (hb : n / 2 ^ k % 2 = 0) : n % (2 * 2 ^ k) = 2 ^ k - 1 := by
  rw [Nat.mul_comm, Nat.mod_mul, hm, hb]
  omega
theorem ones_few {n k : Nat} (hb : n / 2 ^ k % 2 = 1) (hn : n < 1000000) : k < 20 := by
  apply Nat.lt_of_not_le
  intro h
  have h1 : 2 ^ 20 ≤ 2 ^ k := Nat.pow_le_pow_right (by omega) h
  have h2 : n / 2 ^ k = 0 := Nat.div_eq_of_lt (by have : (2 : Nat) ^ 20 = 1048576 := by decide
                                                  omega)
  rw [h2] at hb
  omega

set_option maxRecDepth 100000 in
set_option maxHeartbeats 1000000 in
theorem merged_any (n : Nat) (w : World) (hn : n < 1000000) :
    Calls Tryd.prog 52 #[.int .u64 (n : Int)] w fun e w' => ∃ k : Nat, e = .returned (.int .i64 (k : Int)) ∧ n % (2 * 2 ^ k) = 2 ^ k - 1 ∧ w' = w := by
  go_enter Tryd.func52, Tryd.ntmps52
  go_wp2
  go_step3
  go_wp2
  go_step3
  go_wp2
  go_loopw [3] (fun i wr => ∃ k : Nat, k ≤ 20 ∧ i = .int .i64 (k : Int) ∧ n % 2 ^ k = 2 ^ k - 1 ∧ wr = w) (fun i _ => 20 - (intOf i).toNat)
  case atStart => exact ⟨0, by omega, rfl, by simp [Nat.mod_one], rfl⟩
  case round =>
    obtain ⟨k, hk, rfl, hm, rfl⟩ := hrel
    have hb := bit_at n k hn
    rcases (show n / 2 ^ k % 2 = 0 ∨ n / 2 ^ k % 2 = 1 by omega) with h0 | h0
    · rw [h0] at hb
      have HE := Lib.hid (ones_end hm h0)
      clear hm h0
      go_wp2
      try rw [Exit.noGoto_ret]
      go_ret
      exact ⟨k, rfl, HE.out, rfl⟩
    · rw [h0] at hb
      have hk2 := ones_few h0 hn
      have HE := Lib.hid (ones_more hm h0)
      clear hm h0
      go_wp2
      go_roundw
      case rel => exact ⟨k + 1, by omega, by go_num, HE.out, trivial⟩
      case measure => simp [intOf]; omega

/-- There is just one such number. -/
theorem ones_unique {n j k : Nat} (hj : n % (2 * 2 ^ j) = 2 ^ j - 1) (hk : n % (2 * 2 ^ k) = 2 ^ k - 1) : j = k := by
  have key : ∀ {a b : Nat}, a < b → n % (2 * 2 ^ a) = 2 ^ a - 1 → n % (2 * 2 ^ b) = 2 ^ b - 1 → False := by
    intro a b hab ha hb
    obtain ⟨d, rfl⟩ : ∃ d, b = a + 1 + d := ⟨b - (a + 1), by omega⟩
    have e1 : 2 * 2 ^ (a + 1 + d) = 2 * 2 ^ a * (2 * 2 ^ d) := by rw [Nat.pow_add, Nat.pow_succ, Nat.mul_comm (2 ^ a) 2]; rw [Nat.mul_left_comm]
    have e2 : 2 ^ (a + 1 + d) = 2 * 2 ^ a * 2 ^ d := by rw [Nat.pow_add, Nat.pow_succ, Nat.mul_comm (2 ^ a) 2]
    have h1 := Nat.mod_mul_right_mod n (2 * 2 ^ a) (2 * 2 ^ d)
    rw [← e1, hb, ha, e2] at h1
    have hp := Nat.two_pow_pos a
    have hd := Nat.two_pow_pos d
    have h2 : 2 * 2 ^ a * 2 ^ d - 1 = (2 * 2 ^ a - 1) + 2 * 2 ^ a * (2 ^ d - 1) := by
      obtain ⟨e, he⟩ : ∃ e, 2 ^ d = e + 1 := ⟨2 ^ d - 1, by omega⟩
      rw [he, Nat.add_sub_cancel, Nat.mul_succ]
      omega
    rw [h2, Nat.add_mul_mod_self_left, Nat.mod_eq_of_lt (by omega)] at h1
    omega
  rcases Nat.lt_trichotomy j k with h | h | h
  · exact (key h hj hk).elim
  · exact h
  · exact (key h hk hj).elim
theorem ones_some : ∀ n : Nat, ∃ k, n % (2 * 2 ^ k) = 2 ^ k - 1 := by
  intro n
  induction n using Nat.strongRecOn with
  | ind n ih =>
    by_cases h0 : n % 2 = 0
    · exact ⟨0, by simpa using h0⟩
    · obtain ⟨k, hk⟩ := ih (n / 2) (by omega)
      refine ⟨k + 1, ?_⟩
      have hp := Nat.two_pow_pos k
      have e : 2 * 2 ^ (k + 1) = 2 * (2 * 2 ^ k) := by rw [Nat.pow_succ, Nat.mul_comm (2 ^ k) 2]
      rw [e, Nat.mod_mul, hk, Nat.pow_succ]
      omega
theorem merged_at {n k : Nat} (hk : n % (2 * 2 ^ k) = 2 ^ k - 1) (w : World) (hn : n < 1000000) : Calls Tryd.prog 52 #[.int .u64 (n : Int)] w fun e w' => e = .returned (.int .i64 (k : Int)) ∧ w' = w :=
  (merged_any n w hn).mono fun e w' ⟨j, he, hj, hw⟩ => ⟨by rw [he, ones_unique hj hk], hw⟩

end Go.Proofs.YtllohbgejjbagaaDoor
