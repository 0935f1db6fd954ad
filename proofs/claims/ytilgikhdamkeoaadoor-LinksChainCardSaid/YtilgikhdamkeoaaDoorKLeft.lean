/-
  links.left: how many leaves a left side has.
-/
import Derived.Test.YtilgikhdamkeoaaDoorWLen64
namespace Go.Proofs.YtilgikhdamkeoaaDoor
open Go.RowKit

set_option maxRecDepth 100000 in
set_option maxHeartbeats 1000000 in
theorem kleft_any (m : Nat) (w : World) (h2 : 2 ≤ m) (hm : m < 18446744073709551616) :
    Calls Tryd.prog 21 #[.int .u64 (m : Int)] w fun e w' => e = .returned (.int .u64 (cutN m : Int)) ∧ w' = w := by
  have C := Lib.hid (len64_all (m - 1) w (by omega))
  obtain ⟨b, hb0⟩ : ∃ b, Nat.log2 (m - 1) = b := ⟨_, rfl⟩
  have hb : Lib.bitLen (m - 1) = b + 1 := by rw [bitLen_log (by omega) (by omega), hb0]
  have hb64 : b < 64 := by rw [← hb0]; exact (Nat.log2_lt (by omega)).2 (by omega)
  rw [hb] at C
  have hcut : cutN m = 2 ^ b := by rw [cutN, hb0]
  have hm1 : (m : Int) - 1 = ((m - 1 : Nat) : Int) := by omega
  have hlt : 2 ^ b < 18446744073709551616 := Nat.lt_of_lt_of_le (Nat.pow_lt_pow_right (by omega) hb64) (Nat.le_refl (2 ^ 64))
  have HC := Lib.hid (And.intro hcut hlt)
  have HL := Lib.hid hb64
  clear hcut hb hb0 hlt
  go_enter Tryd.func21, Tryd.ntmps21
  go_wp2_with fail
  refine C.out.mono ?_
  rintro e w1 ⟨rfl, rfl⟩
  have hb64' : b < 64 := HL.out
  go_wp2_with fail
  go_ret
  exact ⟨by rw [HC.out.1, wrapU_pow HC.out.2]; rfl, rfl⟩

end Go.Proofs.YtilgikhdamkeoaaDoor
