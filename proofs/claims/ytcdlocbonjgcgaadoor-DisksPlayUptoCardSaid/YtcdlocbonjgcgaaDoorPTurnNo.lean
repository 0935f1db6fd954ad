/-
  The document's own disk (almonerref05): a Turn that is not done.
-/
import Derived.Test.YtcdlocbonjgcgaaDoorPSync
namespace Go.Proofs.YtcdlocbonjgcgaaDoor
open Go.RowKit

set_option maxRecDepth 100000 in
set_option maxHeartbeats 1000000 in
theorem rturn_blown {w : World} {g : Nat} {F : Nat → Prop} {s : St} {n k y : Nat} (hn : n < s.sure.length) (hk : k < 64) (hbl : s.blown = true) (h : RDisk w g F s) :
    Calls Tryd.prog 21 #[.pointer (some ⟨g, 0, none⟩), .int .i64 (n : Int), .int .i64 (k : Int), .int .u8 (y : Int)] w fun e w' => e = .returned (.int .i64 9) ∧ w = w' := by
  obtain ⟨_, _, ⟨sv, lv, h⟩, _⟩ := h
  have hni : (n : Int) < (s.sure.length : Int) := by omega
  have hki : (k : Int) < 64 := by omega
  obtain ⟨⟨A, c, rfl⟩, _⟩ := h.lens
  have c0 := h.c0
  have c3 := h.c3
  rw [hbl] at c3
  clear h hbl
  go_enter Tryd.func21, Tryd.ntmps21
  go_wp2
  go_ret
  exact ⟨rfl, rfl⟩

set_option maxRecDepth 100000 in
set_option maxHeartbeats 2000000 in
theorem rturn_bad {w : World} {g : Nat} {F : Nat → Prop} {s : St} (z t : Int) (y : Nat) (hz : ¬ (0 ≤ z ∧ z < (s.sure.length : Int) ∧ 0 ≤ t ∧ t < 64)) (h : RDisk w g F s) :
    Calls Tryd.prog 21 #[.pointer (some ⟨g, 0, none⟩), .int .i64 z, .int .i64 t, .int .u8 (y : Int)] w fun e w' => e = .returned (.int .i64 1) ∧ w = w' := by
  obtain ⟨_, _, ⟨sv, lv, h⟩, _⟩ := h
  obtain ⟨⟨A, c, rfl⟩, _⟩ := h.lens
  have c0 := h.c0
  clear h
  by_cases h1 : z < 0
  · have q : decide (z < 0) = true := by simpa using h1
    clear hz
    go_enter Tryd.func21, Tryd.ntmps21
    go_wp2
    go_ret
    exact ⟨rfl, rfl⟩
  · have q : decide (z < 0) = false := by simpa using h1
    by_cases h2 : (s.sure.length : Int) ≤ z
    · clear hz
      go_enter Tryd.func21, Tryd.ntmps21
      go_wp2
      go_ret
      exact ⟨rfl, rfl⟩
    · have q2 : decide ((s.sure.length : Int) ≤ z) = false := by simpa using h2
      by_cases h3 : t < 0
      · have q3 : decide (t < 0) = true := by simpa using h3
        clear hz
        go_enter Tryd.func21, Tryd.ntmps21
        go_wp2
        go_ret
        exact ⟨rfl, rfl⟩
      · have q3 : decide (t < 0) = false := by simpa using h3
        have h4 : 64 ≤ t := by omega
        clear hz
        go_enter Tryd.func21, Tryd.ntmps21
        go_wp2
        go_ret
        exact ⟨rfl, rfl⟩

end Go.Proofs.YtcdlocbonjgcgaaDoor
