/-
  nums.Get.
-/
import Derived.Test.YthbgcijkpincfaaGreatDoorLMem
namespace Go.Proofs.YthbgcijkpincfaaGreatDoor
open Go.RowKit

set_option maxRecDepth 100000 in
set_option maxHeartbeats 400000 in
theorem get_arg (A : Option Addr) (n c : Nat) (bytes : Int) (w : World) (h : bytes < 0 ∨ 8 < bytes) :
    Calls Tryz.prog 321 #[.slice A n c, .int .i64 bytes] w fun e w' => e = .returned (.tuple #[.int .u64 0, .int .i64 1]) ∧ w = w' := by
  rcases h with h | h
  · go_enter Tryz.func321, Tryz.ntmps321
    go_wp2
    go_ret2
    exact ⟨rfl, rfl⟩
  · have h0 : ¬ bytes < 0 := by omega
    go_enter Tryz.func321, Tryz.ntmps321
    go_wp2
    go_ret2
    exact ⟨rfl, rfl⟩

set_option maxRecDepth 100000 in
set_option maxHeartbeats 400000 in
theorem get_short (A : Option Addr) (n c k : Nat) (w : World) (hk : k ≤ 8) (hn : n < k) :
    Calls Tryz.prog 321 #[.slice A n c, .int .i64 (k : Int)] w fun e w' => e = .returned (.tuple #[.int .u64 0, .int .i64 5]) ∧ w = w' := by
  go_enter Tryz.func321, Tryz.ntmps321
  go_wp2
  go_ret2
  exact ⟨rfl, rfl⟩

set_option maxRecDepth 100000 in
set_option maxHeartbeats 400000 in
theorem get_ok (A : Option Addr) (n c k : Nat) (xs : List Nat) (w : World) (hin : In w A n xs) (hb : ∀ x ∈ xs, x < 256) (hk : k ≤ 8) (hn : k ≤ n) (hc : n ≤ c) :
    Calls Tryz.prog 321 #[.slice A n c, .int .i64 (k : Int)] w fun e w' => e = .returned (.tuple #[.int .u64 (val (xs.take k) : Int), .int .i64 0]) ∧ w = w' := by
  have HB := Lib.hid hb
  clear hb
  have d0 : decide ((k : Int) < 0) = false := by simp
  have d1 : decide (8 < (k : Int)) = false := by simp; omega
  have d2 : decide (n < k) = false := by simp; omega
  go_enter Tryz.func321, Tryz.ntmps321
  go_wp2
  go_loop [6, 23] (fun t i => ∃ j : Nat, j ≤ k ∧ i = .int .i64 (j : Int) ∧ t = .int .u64 (val (xs.take j) : Int)) (fun _ i => k - (intOf i).toNat)
  case atStart => exact ⟨0, Nat.zero_le _, rfl, rfl⟩
  case round =>
    obtain ⟨j, hj, rfl, rfl⟩ := hrel
    by_cases hlt : j < k
    · obtain ⟨ad, x, rfl, hx, hcell⟩ := hin.at_ (show j < n by omega)
      have HX := Lib.hid hx
      clear hx
      have hj8 : j < 8 := by omega
      go_wp2
      go_round
      case rel => exact ⟨j + 1, by omega, by go_num, by rw [val_step HX.out HB.out hj8]⟩
      case measure => simp [intOf]; omega
    · go_wp2
      go_ret2
      have e : j = k := by omega
      exact ⟨by rw [e]; rfl, rfl⟩

end Go.Proofs.YthbgcijkpincfaaGreatDoor
