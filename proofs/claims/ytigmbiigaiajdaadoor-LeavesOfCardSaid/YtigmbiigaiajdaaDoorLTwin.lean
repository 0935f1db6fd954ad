/-
  LeftBytes: it is still that copy.
-/
import Derived.Test.YtigmbiigaiajdaaDoorLTwinB
namespace Go.Proofs.YtigmbiigaiajdaaDoor
open Go.RowKit


set_option maxRecDepth 100000 in
set_option maxHeartbeats 1000000 in
theorem leftBytes_yes (A : Option Addr) (g n c : Nat) (xs : List Nat) (w : World) (ht : Twin w g n xs) (hin2 : In w A n xs) (hn : n ≤ 1000000000) :
    Calls Tryd.prog 16 #[.slice (some ⟨g, 0, none⟩) n (n + 1), .slice A n c] w fun e w' => e = .returned (.bool true) ∧ ∃ q, w' = w.drewN q := by
  have dn : ((n : Int) != (n : Int)) = false := by simp
  have hin := ht.in_
  have hlast := ht.last
  go_enter Tryd.func16, Tryd.ntmps16
  go_wp2
  go_loopw [5] (fun i wr => ∃ j : Nat, j ≤ n ∧ i = .int .i64 (j : Int) ∧ ∃ q, wr = w.drewN q) (fun i _ => n - (intOf i).toNat)
  case atStart => exact ⟨0, Nat.zero_le _, rfl, 0, rfl⟩
  case round =>
    obtain ⟨j, hj, rfl, q, rfl⟩ := hrel
    by_cases hlt : j < n
    · obtain ⟨ad, x, e1, hx, hc1⟩ := hin.at_ hlt
      obtain ⟨ad2, x2, rfl, hx2, hc2⟩ := hin2.at_ hlt
      obtain rfl : x2 = x := by rw [hx] at hx2; injection hx2 with h; exact h.symm
      cases e1
      rw [show (⟨g, 0, none⟩ : Addr).add j = ⟨g, j, none⟩ from by unfold Addr.add; split <;> simp_all] at hc1
      clear hx hx2
      have i1 : (j : Int) < (n : Int) := by omega
      go_wp2
      go_quiet (fail)
      rw [World.drewN_drewN]
      go_wp2
      go_roundw
      case rel => exact ⟨j + 1, by omega, by go_num, q + nq, rfl⟩
      case measure => simp [intOf]; omega
    · obtain rfl : j = n := by omega
      go_wp2
      go_ret
      exact ⟨rfl, q, rfl⟩

end Go.Proofs.YtigmbiigaiajdaaDoor
