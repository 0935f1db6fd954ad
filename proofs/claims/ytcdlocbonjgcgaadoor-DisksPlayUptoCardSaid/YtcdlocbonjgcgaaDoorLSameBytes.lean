/-
  SameBytes.
-/
import Derived.Test.YtcdlocbonjgcgaaDoorLMem
import Derived.Deep.QuietTactic
import Derived.BigQuiet
namespace Go.Proofs.YtcdlocbonjgcgaaDoor
open Go.RowKit

set_option maxRecDepth 100000 in
set_option maxHeartbeats 400000 in
theorem sameBytes_yes (A A2 : Option Addr) (n c c2 : Nat) (xs : List Nat) (w : World) (hin : In w A n xs) (hin2 : In w A2 n xs) (hn : n ≤ 200000000000000) :
    Calls Tryd.prog 10 #[.slice A n c, .slice A2 n c2] w fun e w' => e = .returned (.bool true) ∧ ∃ q, w' = w.drewN q := by
  have dn : ((n : Int) != (n : Int)) = false := by simp
  go_enter Tryd.func10, Tryd.ntmps10
  go_wp2
  go_loopw [5] (fun i wr => ∃ j : Nat, j ≤ n ∧ i = .int .i64 (j : Int) ∧ ∃ q, wr = w.drewN q) (fun i _ => n - (intOf i).toNat)
  case atStart => exact ⟨0, Nat.zero_le _, rfl, 0, rfl⟩
  case round =>
    obtain ⟨j, hj, rfl, q, rfl⟩ := hrel
    by_cases hlt : j < n
    · obtain ⟨ad, x, rfl, hx, hc1⟩ := hin.at_ hlt
      obtain ⟨ad2, x2, rfl, hx2, hc2⟩ := hin2.at_ hlt
      obtain rfl : x2 = x := by rw [hx] at hx2; injection hx2 with h; exact h.symm
      clear hx hx2
      have i1 : (j : Int) < (n : Int) := by omega
      go_wp2
      go_quiet (fail)
      rw [World.drewN_drewN]
      go_wp2
      go_roundw
      case rel => exact ⟨j + 1, by omega, by go_num, q + nq, rfl⟩
      case measure => simp [intOf]; omega
    · go_wp2
      go_ret
      exact ⟨rfl, q, rfl⟩

end Go.Proofs.YtcdlocbonjgcgaaDoor
