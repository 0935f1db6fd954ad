/-
  almonerlaw14.KeysEmpty.
-/
import Derived.Test.YtnaebjdccngeoaaDoorJAlive
namespace Go.Proofs.YtnaebjdccngeoaaDoor
open Go.RowKit

theorem clamp_self (z : Int) : clampN ((clampN z : Nat) : Int) = clampN z := by
  have h := clampN_le z
  by_cases h2 : ((clampN z : Nat) : Int) < 256
  · rw [clamp_mid (by omega) h2]; omega
  · rw [clamp_big (by omega)]; omega
theorem empty_self (z : Int) : emptyZ ((clampN z : Nat) : Int) = emptyZ z := by unfold emptyZ; rw [clamp_self]
theorem empty_at {d : Nat} (h : d ≤ 256) : emptyZ (d : Int) = emptyU (256 - d) := by
  unfold emptyZ
  by_cases h2 : (d : Int) < 256
  · rw [clamp_mid (by omega) h2]; rfl
  · rw [clamp_big (by omega)]; congr 1; omega
theorem empty_up {d : Nat} (h : d < 256) : emptyZ (d : Int) = sideL (emptyZ ((d + 1 : Nat) : Int)) (emptyZ ((d + 1 : Nat) : Int)) := by
  rw [empty_at (by omega), empty_at (by omega), show 256 - d = (256 - (d + 1)) + 1 by omega]; rfl

set_option maxRecDepth 100000 in
set_option maxHeartbeats 4000000 in
theorem keysEmpty_law (w : World) (hk : Knows w) (hks : Starts w) {z : Int} (_ : -9223372036854775808 ≤ z ∧ z ≤ 9223372036854775807) :
    Calls Tryd.prog 6 #[.int .i64 z] w fun e w' => e = .returned (.bool true) ∧ Below w.heap.size w w' := by
  have hle := clampN_le z
  have hmin : max 0 (min 256 z) = ((clampN z : Nat) : Int) := by
    by_cases h : z < 0
    · rw [clamp_neg h]; omega
    · by_cases h2 : z < 256
      · rw [clamp_mid (by omega) h2]; omega
      · rw [clamp_big (by omega)]; omega
  have hsame := empty_self z
  obtain ⟨d, hd⟩ : ∃ d, clampN z = d := ⟨_, rfl⟩
  rw [hd] at hle hmin hsame
  obtain ⟨s, hs0⟩ : ∃ s, emptyZ z = s := ⟨_, rfl⟩
  have ls : s.length = 32 := by rw [← hs0]; exact emptyZ_length z
  have CA := Lib.hid (fun (W : World) (hW : Below w.heap.size w W) => jalive_any W (hk.below hW) (hks.below hW))
  have CE := Lib.hid (fun (W : World) (hW : Below w.heap.size w W) => show Calls Tryd.prog 21 #[.int .i64 z] W fun e w' => e = .returned (sv s) ∧ Below W.heap.size W w' from by
    rw [← hs0]; exact jempty_any z W (hk.below hW) (hks.below hW) (by omega))
  have CD := Lib.hid (fun (W : World) (hW : Below w.heap.size w W) => show Calls Tryd.prog 21 #[.int .i64 (d : Int)] W fun e w' => e = .returned (sv s) ∧ Below W.heap.size W w' from by
    rw [← hs0, ← hsame]; exact jempty_any (d : Int) W (hk.below hW) (hks.below hW) (by omega))
  rw [hs0] at hsame
  have q0 := jneq_run s ls
  have q1 := jeql_run s ls
  have q2 := run_guard_neq
  have q3 := run_guard_eql
  by_cases h256 : d = 256
  · subst h256
    clear hk hks hs0 hd hsame
    go_enter Tryd.func6, Tryd.ntmps6
    go_wp2_with fail
    refine (CE.out w (Below.refl _ _)).mono ?_
    rintro e w0 ⟨rfl, hb0⟩
    have hB0 := below_on (Below.refl _ _) (Nat.le_refl _) hb0
    clear hb0
    go_wp2_with fail
    refine (CD.out w0 hB0).mono ?_
    rintro e w1 ⟨rfl, hb1⟩
    have hB1 := below_on hB0 (Nat.le_refl _) hb1
    clear hb1
    go_wp2_with fail
    refine (CA.out w1 hB1).mono ?_
    rintro e w2 ⟨rfl, hb2⟩
    have hB2 := below_on hB1 (Nat.le_refl _) hb2
    clear hb2
    go_wp2_with fail
    go_ret
    exact ⟨rfl, hB2⟩
  · have hc : ((d : Int) == 256) = false := by simp; omega
    have hup := empty_up (d := d) (by omega)
    obtain ⟨d1, hd1⟩ : ∃ d1, d + 1 = d1 := ⟨_, rfl⟩
    rw [hd1] at hup
    obtain ⟨t, ht⟩ : ∃ t, emptyZ (d1 : Int) = t := ⟨_, rfl⟩
    have hw1 : (d : Int) + 1 = (d1 : Int) := by omega
    have CN := Lib.hid (fun (W : World) (hW : Below w.heap.size w W) => show Calls Tryd.prog 21 #[.int .i64 (d1 : Int)] W fun e w' => e = .returned (sv t) ∧ Below W.heap.size W w' from by
      rw [← ht]; exact jempty_any _ W (hk.below hW) (hks.below hW) (by omega))
    rw [ht, hsame] at hup
    have CS := Lib.hid (fun (W : World) (hW : Below w.heap.size w W) => show Calls Tryd.prog 25 #[sv t, sv t] W fun e w' => e = .returned (sv s) ∧ Below W.heap.size W w' from by
      rw [hup]; exact jside_any t t W (by rw [← ht]; exact emptyZ_length _) (by rw [← ht]; exact emptyZ_length _) (by rw [← ht]; exact emptyZ_lt _) (by rw [← ht]; exact emptyZ_lt _) (hk.below hW) (hks.below hW))
    clear hup ht hd1 h256
    clear hk hks hs0 hd hsame
    go_enter Tryd.func6, Tryd.ntmps6
    go_wp2_with fail
    refine (CE.out w (Below.refl _ _)).mono ?_
    rintro e w0 ⟨rfl, hb0⟩
    have hB0 := below_on (Below.refl _ _) (Nat.le_refl _) hb0
    clear hb0
    go_wp2_with fail
    refine (CD.out w0 hB0).mono ?_
    rintro e w1 ⟨rfl, hb1⟩
    have hB1 := below_on hB0 (Nat.le_refl _) hb1
    clear hb1
    go_wp2_with fail
    refine (CA.out w1 hB1).mono ?_
    rintro e w2 ⟨rfl, hb2⟩
    have hB2 := below_on hB1 (Nat.le_refl _) hb2
    clear hb2
    go_wp2_with fail
    refine (CD.out w2 hB2).mono ?_
    rintro e w3 ⟨rfl, hb3⟩
    have hB3 := below_on hB2 (Nat.le_refl _) hb3
    clear hb3
    go_wp2_with fail
    refine (CN.out w3 hB3).mono ?_
    rintro e w4 ⟨rfl, hb4⟩
    have hB4 := below_on hB3 (Nat.le_refl _) hb4
    clear hb4
    go_wp2_with fail
    refine (CN.out w4 hB4).mono ?_
    rintro e w5 ⟨rfl, hb5⟩
    have hB5 := below_on hB4 (Nat.le_refl _) hb5
    clear hb5
    go_wp2_with fail
    refine (CS.out w5 hB5).mono ?_
    rintro e w6 ⟨rfl, hb6⟩
    have hB6 := below_on hB5 (Nat.le_refl _) hb6
    clear hb6
    go_wp2_with fail
    go_ret
    exact ⟨rfl, hB6⟩

end Go.Proofs.YtnaebjdccngeoaaDoor
