/-
  SameBytes of two lists that are not the same.
-/
import Derived.Test.YtfniddnfkciblaaDoorLMem
import Derived.Deep.QuietTactic
import Derived.BigQuiet
namespace Go.Proofs.YtfniddnfkciblaaDoor
open Go.RowKit

set_option maxRecDepth 100000 in
set_option maxHeartbeats 400000 in
theorem sameBytes_no (A A2 : Option Addr) (n m c c2 : Nat) (xs ys : List Nat) (w : World) (hin : In w A n xs) (hin2 : In w A2 m ys) (hn : n ≤ 200000000000000) (hne : xs ≠ ys) :
    Calls Tryd.prog 10 #[.slice A n c, .slice A2 m c2] w fun e w' => e = .returned (.bool false) ∧ ∃ q, w' = w.drewN q := by
  by_cases hnm : n = m
  · subst hnm
    have dn : ((n : Int) != (n : Int)) = false := by simp
    have HN := Lib.hid hne
    clear hne
    go_enter Tryd.func10, Tryd.ntmps10
    go_wp2
    go_loopw [5] (fun i wr => ∃ j : Nat, j ≤ n ∧ i = .int .i64 (j : Int) ∧ (∃ q, wr = w.drewN q) ∧ xs.take j = ys.take j) (fun i _ => n - (intOf i).toNat)
    case atStart => exact ⟨0, Nat.zero_le _, rfl, ⟨0, rfl⟩, rfl⟩
    case round =>
      obtain ⟨j, hj, rfl, ⟨q, rfl⟩, ht⟩ := hrel
      have HT := Lib.hid ht
      clear ht
      by_cases hlt : j < n
      · obtain ⟨ad, x, rfl, hx, hc1⟩ := hin.at_ hlt
        obtain ⟨ad2, x2, rfl, hx2, hc2⟩ := hin2.at_ hlt
        have HX := Lib.hid (And.intro hx hx2)
        clear hx hx2
        have i1 : (j : Int) < (n : Int) := by omega
        by_cases hxx : x = x2
        · subst hxx
          go_wp2
          go_quiet (fail)
          rw [World.drewN_drewN]
          go_wp2
          go_roundw
          case rel => exact ⟨j + 1, by omega, by go_num, ⟨q + nq, rfl⟩, by rw [take_snoc_of HX.out.1, take_snoc_of HX.out.2, HT.out]⟩
          case measure => simp [intOf]; omega
        · have dx : ((x : Int) != (x2 : Int)) = true := by simp; omega
          clear hxx
          go_wp2
          go_quiet (fail)
          rw [World.drewN_drewN]
          go_wp2
          go_ret
          exact ⟨rfl, q + nq, rfl⟩
      · exfalso
        refine HN.out ?_
        have := HT.out
        rwa [List.take_of_length_le (by rw [hin.len]; omega), List.take_of_length_le (by rw [hin2.len]; omega)] at this
  · have dn : ((n : Int) != (m : Int)) = true := by simp; omega
    clear hnm
    go_enter Tryd.func10, Tryd.ntmps10
    go_wp2
    go_ret
    exact ⟨rfl, 0, rfl⟩

end Go.Proofs.YtfniddnfkciblaaDoor
