/-
  disks: a Turn that is not done: ErrArg.
-/
import Derived.Test.YtcdlocbonjgcgaaDoorDTurn
namespace Go.Proofs.YtcdlocbonjgcgaaDoor
open Go.RowKit

set_option maxRecDepth 100000 in
set_option maxHeartbeats 2000000 in
theorem turn_bad {w : World} {g : Nat} {F : Nat → Prop} {s : St} (z t : Int) (y : Nat) (hz : ¬ (0 ≤ z ∧ z < (s.sure.length : Int) ∧ 0 ≤ t ∧ t < 64)) (h : Disk w g F s) :
    Calls Tryd.prog 20 #[.pointer (some ⟨g, 0, none⟩), .int .i64 z, .int .i64 t, .int .u8 (y : Int)] w fun e w' => e = .returned (.int .i64 1) ∧ w = w' := by
  have hd := isThere_yes h
  have hh := has_any z h
  clear h
  by_cases h1 : 0 ≤ z ∧ z < (s.sure.length : Int)
  · rw [show decide (0 ≤ z ∧ z < (s.sure.length : Int)) = true by simpa using h1] at hh
    by_cases h3 : t < 0
    · have q3 : decide (t < 0) = true := by simpa using h3
      clear hz h1
      go_enter Tryd.func20, Tryd.ntmps20
      go_wp2_with fail
      refine hd.mono ?_
      rintro e w1 ⟨rfl, rfl⟩
      go_wp2_with fail
      refine hh.mono ?_
      rintro e w1 ⟨rfl, rfl⟩
      go_wp2
      go_ret
      exact ⟨rfl, rfl⟩
    · have q3 : decide (t < 0) = false := by simpa using h3
      have h4 : 64 ≤ t := by omega
      clear hz h1
      go_enter Tryd.func20, Tryd.ntmps20
      go_wp2_with fail
      refine hd.mono ?_
      rintro e w1 ⟨rfl, rfl⟩
      go_wp2_with fail
      refine hh.mono ?_
      rintro e w1 ⟨rfl, rfl⟩
      go_wp2
      go_ret
      exact ⟨rfl, rfl⟩
  · rw [show decide (0 ≤ z ∧ z < (s.sure.length : Int)) = false by simpa using h1] at hh
    clear hz h1
    go_enter Tryd.func20, Tryd.ntmps20
    go_wp2_with fail
    refine hd.mono ?_
    rintro e w1 ⟨rfl, rfl⟩
    go_wp2_with fail
    refine hh.mono ?_
    rintro e w1 ⟨rfl, rfl⟩
    go_wp2
    go_ret
    exact ⟨rfl, rfl⟩

end Go.Proofs.YtcdlocbonjgcgaaDoor
