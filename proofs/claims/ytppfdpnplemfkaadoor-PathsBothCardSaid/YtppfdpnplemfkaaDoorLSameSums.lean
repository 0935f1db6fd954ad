/-
  SameSums.
-/
import Derived.Test.YtppfdpnplemfkaaDoorLSum
import Derived.Deep.QuietTactic
import Derived.BigQuiet
import Derived.Test.YtppfdpnplemfkaaDoorLSums
namespace Go.Proofs.YtppfdpnplemfkaaDoor
open Go.RowKit

set_option maxRecDepth 100000 in
set_option maxHeartbeats 1000000 in
theorem sameSums_yes (A A2 : Option Addr) (n c c2 : Nat) (ys : List Nat) (w : World) (hin : InS w A n ys) (hin2 : InS w A2 n ys) (hn : n ≤ 200000000000000) :
    Calls Tryd.prog 10 #[.slice A n c, .slice A2 n c2] w fun e w' => e = .returned (.bool true) ∧ ∃ q, w' = w.drewN q := by
  have dn : ((n : Int) != (n : Int)) = false := by simp
  go_enter Tryd.func10, Tryd.ntmps10
  go_wp2
  go_loopw [5] (fun i wr => ∃ j : Nat, j ≤ n ∧ i = .int .i64 (j : Int) ∧ ∃ q, wr = w.drewN q) (fun i _ => n - (intOf i).toNat)
  case atStart => exact ⟨0, Nat.zero_le _, rfl, 0, rfl⟩
  case round =>
    obtain ⟨j, hj, rfl, q, rfl⟩ := hrel
    by_cases hlt : j < n
    · obtain ⟨ad, rfl, hl, hat⟩ := hin.at_ hlt
      obtain ⟨ad2, rfl, _, hat2⟩ := hin2.at_ hlt
      have i1 : (j : Int) < (n : Int) := by omega
      go_wp2
      refine wp_region_quiet_lit (by kernel_rfl) (by kernel_rfl) ?_
      iterate 3 quiet_step (fail)
      refine wpQuiet_step (fun K hK => ?_)
      refine quiet_load_sum rfl (.tmp 19) rfl (ad.add (j * 32)) rfl (nth ys j) hl (fun W hW => by obtain ⟨m, rfl⟩ := hW; exact hat) ?_
      go_simp
      refine hK _ ?_
      clear hK K
      iterate 3 quiet_step (fail)
      refine wpQuiet_step (fun K hK => ?_)
      refine quiet_load_sum rfl (.tmp 23) rfl (ad2.add (j * 32)) rfl (nth ys j) hl (fun W hW => by obtain ⟨m, rfl⟩ := hW; exact hat2) ?_
      go_simp
      refine hK _ ?_
      clear hK K
      have hne := run_neq_sum (nth ys j) (nth ys j) hl hl
      simp only [decide_true, Bool.not_true] at hne
      have hgd := fun x y => run_guard_neq x y (nth ys j) (nth ys j)
      quiet_step (fail)
      refine wpQuiet_nil ?_
      rintro _ ⟨nq, rfl⟩
      rw [World.drewN_drewN]
      clear hne hgd
      go_wp2
      go_roundw
      case rel => exact ⟨j + 1, by omega, by go_num, q + nq, rfl⟩
      case measure => simp [intOf]; omega
    · go_wp2
      go_ret
      exact ⟨rfl, q, rfl⟩

end Go.Proofs.YtppfdpnplemfkaaDoor
