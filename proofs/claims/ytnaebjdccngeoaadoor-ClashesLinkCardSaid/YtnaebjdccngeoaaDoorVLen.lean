/-
  How many bits a number below 65536 has; how many leaves a left side has.
-/
import Derived.Test.YtnaebjdccngeoaaDoorVPure
import Derived.Lib.Strings
import Derived.Lib.Slices
import Derived.Lib.Small
import Derived.Lib.Walk
import Derived.Lib.BitFns
namespace Go.Proofs.YtnaebjdccngeoaaDoor
open Go.RowKit

theorem tab_len : ∀ n : Fin 256, (Lib.len8tab[n.val]'(by rw [Lib.len8tab_size]; exact n.isLt)).toNat = Lib.bitLen n.val := by decide +kernel

set_option maxRecDepth 100000 in
set_option maxHeartbeats 1000000 in
theorem len64_low (x : Nat) (w : World) (hx : x < 256) :
    Calls Tryd.prog 91 #[.int .u64 (x : Int)] w fun e w' => e = .returned (.int .i64 (Lib.bitLen x)) ∧ w' = w := by
  have h1 : decide (4294967296 ≤ (x : Int)) = false := by simp; omega
  have h2 : decide (65536 ≤ (x : Int)) = false := by simp; omega
  have h3 : decide (256 ≤ (x : Int)) = false := by simp; omega
  go_enter Tryd.func91, Tryd.ntmps91
  go_wp2
  all_goals (go_ret; refine ⟨congrArg Ending.returned (congrArg (Value.int IntKind.i64) ?_), rfl⟩)
  have hv := tab_len ⟨x, hx⟩
  have hle := Lib.bitLen_le8 ⟨x, hx⟩
  dsimp only at hv hle
  rw [hv]
  simp only [wrap64]
  omega

set_option maxRecDepth 100000 in
set_option maxHeartbeats 1000000 in
theorem len64_mid (x : Nat) (w : World) (hx : x < 65536) (h0 : 256 ≤ x) :
    Calls Tryd.prog 91 #[.int .u64 (x : Int)] w fun e w' => e = .returned (.int .i64 (Lib.bitLen x)) ∧ w' = w := by
  have h1 : decide (4294967296 ≤ (x : Int)) = false := by simp; omega
  have h2 : decide (65536 ≤ (x : Int)) = false := by simp; omega
  have h3 : decide (256 ≤ (x : Int)) = true := by simp; omega
  go_enter Tryd.func91, Tryd.ntmps91
  go_wp2
  · go_ret
    refine ⟨congrArg Ending.returned (congrArg (Value.int IntKind.i64) ?_), rfl⟩
    have hq : x / 256 < 256 := by omega
    have hv := tab_len ⟨x / 256, hq⟩
    have hle := Lib.bitLen_le8 ⟨x / 256, hq⟩
    have hs := Lib.bitLen_shift8 x h0 (by omega)
    dsimp only at hv hle
    rw [hv, hs]
    simp only [wrap64]
    omega
  · exfalso
    rename_i hh
    have := Lib.len8tab_size
    omega

theorem len64_any (x : Nat) (w : World) (hx : x < 65536) :
    Calls Tryd.prog 91 #[.int .u64 (x : Int)] w fun e w' => e = .returned (.int .i64 (Lib.bitLen x)) ∧ w' = w := by
  by_cases h : x < 256
  · exact len64_low x w h
  · exact len64_mid x w hx (by omega)

set_option maxRecDepth 100000 in
set_option maxHeartbeats 1000000 in
theorem len_any (x : Nat) (w : World) (hx : x < 65536) :
    Calls Tryd.prog 74 #[.int .u64 (x : Int)] w fun e w' => e = .returned (.int .i64 (Lib.bitLen x)) ∧ w' = w := by
  have C := Lib.hid (len64_any x w hx)
  go_enter Tryd.func74, Tryd.ntmps74
  go_wp2_with fail
  refine C.out.mono ?_
  rintro e w1 ⟨rfl, rfl⟩
  go_wp2_with fail
  go_ret
  exact ⟨rfl, rfl⟩

theorem bitLen_log {x : Nat} (h0 : 0 < x) (hx : x < 18446744073709551616) : Lib.bitLen x = Nat.log2 x + 1 := by
  have h1 : 2 ^ Nat.log2 x ≤ x := Nat.log2_self_le (by omega)
  have h2 : x < 2 ^ (Nat.log2 x + 1) := Nat.lt_log2_self
  rw [Lib.bitLen_shift (Nat.log2 x) x h1 hx]
  have h3 : x / 2 ^ Nat.log2 x = 1 := by
    rw [Nat.pow_succ] at h2
    have hp := Nat.two_pow_pos (Nat.log2 x)
    exact Nat.le_antisymm (Nat.lt_succ_iff.1 ((Nat.div_lt_iff_lt_mul hp).2 (by omega))) ((Nat.le_div_iff_mul_le hp).2 (by omega))
  rw [h3]
  rfl

theorem wrap_pow {b : Nat} (hb : b < 16) : wrap64 ((2 : Int) ^ b) = ((2 ^ b : Nat) : Int) := by
  have e : (2 : Int) ^ b = ((2 ^ b : Nat) : Int) := by simp
  have hle : 2 ^ b ≤ 2 ^ 16 := Nat.pow_le_pow_right (by omega) (by omega)
  rw [e]
  generalize 2 ^ b = q at hle
  simp only [wrap64]
  omega

set_option maxRecDepth 100000 in
set_option maxHeartbeats 1000000 in
theorem left_any (m : Nat) (w : World) (h2 : 2 ≤ m) (hm : m ≤ 65536) :
    Calls Tryd.prog 44 #[.int .i64 (m : Int)] w fun e w' => e = .returned (.int .i64 (cutN m : Int)) ∧ w' = w := by
  have C := Lib.hid (len_any (m - 1) w (by omega))
  obtain ⟨b, hb0⟩ : ∃ b, Nat.log2 (m - 1) = b := ⟨_, rfl⟩
  have hb : Lib.bitLen (m - 1) = b + 1 := by rw [bitLen_log (by omega) (by omega), hb0]
  have hb16 : b < 16 := by rw [← hb0]; exact (Nat.log2_lt (by omega)).2 (by omega)
  rw [hb] at C
  have hcut : cutN m = 2 ^ b := by rw [cutN, hb0]
  have hm1 : (m : Int) - 1 = ((m - 1 : Nat) : Int) := by omega
  have HC := Lib.hid hcut
  clear hcut hb hb0
  go_enter Tryd.func44, Tryd.ntmps44
  go_wp2_with fail
  refine C.out.mono ?_
  rintro e w1 ⟨rfl, rfl⟩
  go_wp2_with fail
  go_ret
  exact ⟨by rw [HC.out, wrap_pow hb16]; rfl, rfl⟩

end Go.Proofs.YtnaebjdccngeoaaDoor
