/-
  How many bits a number of 64 bits has; how many leaves a left side has.
-/
import Derived.Test.YtilgikhdamkeoaaDoorVLen
import Derived.Test.YtilgikhdamkeoaaDoorWPure
namespace Go.Proofs.YtilgikhdamkeoaaDoor
open Go.RowKit

set_option maxRecDepth 100000 in
set_option maxHeartbeats 1000000 in
theorem len64_010 (x : Nat) (w : World) (hx : x < 18446744073709551616) (hA : x < 4294967296) (hB : 65536 ≤ x) (hC : x / 65536 < 256) :
    Calls Tryd.prog 31 #[.int .u64 (x : Int)] w fun e w' => e = .returned (.int .i64 (Lib.bitLen x)) ∧ w' = w := by
  have h1 : decide (4294967296 ≤ (x : Int)) = false := by simp; omega
  have h2 : decide (65536 ≤ (x : Int)) = true := by simp; omega
  have h3 : decide (256 ≤ (x : Int) / 65536) = false := by simp; omega
  have hq : x / 65536 < 256 := by omega
  have hv := tab_len ⟨x / 65536, hq⟩
  have hle := Lib.bitLen_le8 ⟨x / 65536, hq⟩
  have HS := Lib.hid (show Lib.bitLen x = 16 + Lib.bitLen (x / 65536) from by rw [Lib.bitLen_shift16 (x) hB (by omega)])
  dsimp only at hv hle
  have HV := Lib.hid (And.intro hv hle)
  clear hv hle
  go_enter Tryd.func31, Tryd.ntmps31
  go_wp2
  · go_ret
    refine ⟨congrArg Ending.returned (congrArg (Value.int IntKind.i64) ?_), rfl⟩
    have hv := HV.out.1
    have hle := HV.out.2
    rw [hv, HS.out]
    have _u := hC
    clear _u
    revert hle
    generalize Lib.bitLen (x / 65536) = q
    clear h1 h2 h3 hq hv HS HV hA hB hC hx
    intro hle
    simp only [wrap64]
    omega
  · exfalso
    rename_i hh
    have := Lib.len8tab_size
    omega

set_option maxRecDepth 100000 in
set_option maxHeartbeats 1000000 in
theorem len64_011 (x : Nat) (w : World) (hx : x < 18446744073709551616) (hA : x < 4294967296) (hB : 65536 ≤ x) (hC : 256 ≤ x / 65536) :
    Calls Tryd.prog 31 #[.int .u64 (x : Int)] w fun e w' => e = .returned (.int .i64 (Lib.bitLen x)) ∧ w' = w := by
  have h1 : decide (4294967296 ≤ (x : Int)) = false := by simp; omega
  have h2 : decide (65536 ≤ (x : Int)) = true := by simp; omega
  have h3 : decide (256 ≤ (x : Int) / 65536) = true := by simp; omega
  have hq : x / 65536 / 256 < 256 := by omega
  have hv := tab_len ⟨x / 65536 / 256, hq⟩
  have hle := Lib.bitLen_le8 ⟨x / 65536 / 256, hq⟩
  have HS := Lib.hid (show Lib.bitLen x = 24 + Lib.bitLen (x / 65536 / 256) from by rw [Lib.bitLen_shift16 (x) hB (by omega), Lib.bitLen_shift8 (x / 65536) hC (by omega)]; omega)
  dsimp only at hv hle
  have HV := Lib.hid (And.intro hv hle)
  clear hv hle
  go_enter Tryd.func31, Tryd.ntmps31
  go_wp2
  · go_ret
    refine ⟨congrArg Ending.returned (congrArg (Value.int IntKind.i64) ?_), rfl⟩
    have hv := HV.out.1
    have hle := HV.out.2
    rw [hv, HS.out]
    have _u := hC
    clear _u
    revert hle
    generalize Lib.bitLen (x / 65536 / 256) = q
    clear h1 h2 h3 hq hv HS HV hA hB hC hx
    intro hle
    simp only [wrap64]
    omega
  · exfalso
    rename_i hh
    have := Lib.len8tab_size
    omega

set_option maxRecDepth 100000 in
set_option maxHeartbeats 1000000 in
theorem len64_100 (x : Nat) (w : World) (hx : x < 18446744073709551616) (hA : 4294967296 ≤ x) (hB : x / 4294967296 < 65536) (hC : x / 4294967296 < 256) :
    Calls Tryd.prog 31 #[.int .u64 (x : Int)] w fun e w' => e = .returned (.int .i64 (Lib.bitLen x)) ∧ w' = w := by
  have h1 : decide (4294967296 ≤ (x : Int)) = true := by simp; omega
  have h2 : decide (65536 ≤ (x : Int) / 4294967296) = false := by simp; omega
  have h3 : decide (256 ≤ (x : Int) / 4294967296) = false := by simp; omega
  have hq : x / 4294967296 < 256 := by omega
  have hv := tab_len ⟨x / 4294967296, hq⟩
  have hle := Lib.bitLen_le8 ⟨x / 4294967296, hq⟩
  have HS := Lib.hid (show Lib.bitLen x = 32 + Lib.bitLen (x / 4294967296) from by rw [Lib.bitLen_shift32 x hA hx])
  dsimp only at hv hle
  have HV := Lib.hid (And.intro hv hle)
  clear hv hle
  go_enter Tryd.func31, Tryd.ntmps31
  go_wp2
  · go_ret
    refine ⟨congrArg Ending.returned (congrArg (Value.int IntKind.i64) ?_), rfl⟩
    have hv := HV.out.1
    have hle := HV.out.2
    rw [hv, HS.out]
    have _u := hB
    clear _u
    revert hle
    generalize Lib.bitLen (x / 4294967296) = q
    clear h1 h2 h3 hq hv HS HV hA hB hC hx
    intro hle
    simp only [wrap64]
    omega
  · exfalso
    rename_i hh
    have := Lib.len8tab_size
    omega

set_option maxRecDepth 100000 in
set_option maxHeartbeats 1000000 in
theorem len64_101 (x : Nat) (w : World) (hx : x < 18446744073709551616) (hA : 4294967296 ≤ x) (hB : x / 4294967296 < 65536) (hC : 256 ≤ x / 4294967296) :
    Calls Tryd.prog 31 #[.int .u64 (x : Int)] w fun e w' => e = .returned (.int .i64 (Lib.bitLen x)) ∧ w' = w := by
  have h1 : decide (4294967296 ≤ (x : Int)) = true := by simp; omega
  have h2 : decide (65536 ≤ (x : Int) / 4294967296) = false := by simp; omega
  have h3 : decide (256 ≤ (x : Int) / 4294967296) = true := by simp; omega
  have hq : x / 4294967296 / 256 < 256 := by omega
  have hv := tab_len ⟨x / 4294967296 / 256, hq⟩
  have hle := Lib.bitLen_le8 ⟨x / 4294967296 / 256, hq⟩
  have HS := Lib.hid (show Lib.bitLen x = 40 + Lib.bitLen (x / 4294967296 / 256) from by rw [Lib.bitLen_shift32 x hA hx, Lib.bitLen_shift8 (x / 4294967296) hC (by omega)]; omega)
  dsimp only at hv hle
  have HV := Lib.hid (And.intro hv hle)
  clear hv hle
  go_enter Tryd.func31, Tryd.ntmps31
  go_wp2
  · go_ret
    refine ⟨congrArg Ending.returned (congrArg (Value.int IntKind.i64) ?_), rfl⟩
    have hv := HV.out.1
    have hle := HV.out.2
    rw [hv, HS.out]
    have _u := hC
    clear _u
    revert hle
    generalize Lib.bitLen (x / 4294967296 / 256) = q
    clear h1 h2 h3 hq hv HS HV hA hB hC hx
    intro hle
    simp only [wrap64]
    omega
  · exfalso
    rename_i hh
    have := Lib.len8tab_size
    omega

set_option maxRecDepth 100000 in
set_option maxHeartbeats 1000000 in
theorem len64_110 (x : Nat) (w : World) (hx : x < 18446744073709551616) (hA : 4294967296 ≤ x) (hB : 65536 ≤ x / 4294967296) (hC : x / 4294967296 / 65536 < 256) :
    Calls Tryd.prog 31 #[.int .u64 (x : Int)] w fun e w' => e = .returned (.int .i64 (Lib.bitLen x)) ∧ w' = w := by
  have h1 : decide (4294967296 ≤ (x : Int)) = true := by simp; omega
  have h2 : decide (65536 ≤ (x : Int) / 4294967296) = true := by simp; omega
  have h3 : decide (256 ≤ (x : Int) / 4294967296 / 65536) = false := by simp; omega
  have hq : x / 4294967296 / 65536 < 256 := by omega
  have hv := tab_len ⟨x / 4294967296 / 65536, hq⟩
  have hle := Lib.bitLen_le8 ⟨x / 4294967296 / 65536, hq⟩
  have HS := Lib.hid (show Lib.bitLen x = 48 + Lib.bitLen (x / 4294967296 / 65536) from by rw [Lib.bitLen_shift32 x hA hx, Lib.bitLen_shift16 (x / 4294967296) hB (by omega)]; omega)
  dsimp only at hv hle
  have HV := Lib.hid (And.intro hv hle)
  clear hv hle
  go_enter Tryd.func31, Tryd.ntmps31
  go_wp2
  · go_ret
    refine ⟨congrArg Ending.returned (congrArg (Value.int IntKind.i64) ?_), rfl⟩
    have hv := HV.out.1
    have hle := HV.out.2
    rw [hv, HS.out]
    have _u := hC
    clear _u
    revert hle
    generalize Lib.bitLen (x / 4294967296 / 65536) = q
    clear h1 h2 h3 hq hv HS HV hA hB hC hx
    intro hle
    simp only [wrap64]
    omega
  · exfalso
    rename_i hh
    have := Lib.len8tab_size
    omega

set_option maxRecDepth 100000 in
set_option maxHeartbeats 1000000 in
theorem len64_111 (x : Nat) (w : World) (hx : x < 18446744073709551616) (hA : 4294967296 ≤ x) (hB : 65536 ≤ x / 4294967296) (hC : 256 ≤ x / 4294967296 / 65536) :
    Calls Tryd.prog 31 #[.int .u64 (x : Int)] w fun e w' => e = .returned (.int .i64 (Lib.bitLen x)) ∧ w' = w := by
  have h1 : decide (4294967296 ≤ (x : Int)) = true := by simp; omega
  have h2 : decide (65536 ≤ (x : Int) / 4294967296) = true := by simp; omega
  have h3 : decide (256 ≤ (x : Int) / 4294967296 / 65536) = true := by simp; omega
  have hq : x / 4294967296 / 65536 / 256 < 256 := by omega
  have hv := tab_len ⟨x / 4294967296 / 65536 / 256, hq⟩
  have hle := Lib.bitLen_le8 ⟨x / 4294967296 / 65536 / 256, hq⟩
  have HS := Lib.hid (show Lib.bitLen x = 56 + Lib.bitLen (x / 4294967296 / 65536 / 256) from by rw [Lib.bitLen_shift32 x hA hx, Lib.bitLen_shift16 (x / 4294967296) hB (by omega), Lib.bitLen_shift8 (x / 4294967296 / 65536) hC (by omega)]; omega)
  dsimp only at hv hle
  have HV := Lib.hid (And.intro hv hle)
  clear hv hle
  go_enter Tryd.func31, Tryd.ntmps31
  go_wp2
  · go_ret
    refine ⟨congrArg Ending.returned (congrArg (Value.int IntKind.i64) ?_), rfl⟩
    have hv := HV.out.1
    have hle := HV.out.2
    rw [hv, HS.out]
    have _u := hC
    clear _u
    revert hle
    generalize Lib.bitLen (x / 4294967296 / 65536 / 256) = q
    clear h1 h2 h3 hq hv HS HV hA hB hC hx
    intro hle
    simp only [wrap64]
    omega
  · exfalso
    rename_i hh
    have := Lib.len8tab_size
    omega

theorem len64_all (x : Nat) (w : World) (hx : x < 18446744073709551616) :
    Calls Tryd.prog 31 #[.int .u64 (x : Int)] w fun e w' => e = .returned (.int .i64 (Lib.bitLen x)) ∧ w' = w := by
  by_cases h0 : x < 65536
  · exact len64_any x w h0
  · by_cases hA : x < 4294967296
    · by_cases hC : x / 65536 < 256
      · exact len64_010 x w hx hA (by omega) hC
      · exact len64_011 x w hx hA (by omega) (by omega)
    · by_cases hB : x / 4294967296 < 65536
      · by_cases hC : x / 4294967296 < 256
        · exact len64_100 x w hx (by omega) hB hC
        · exact len64_101 x w hx (by omega) hB (by omega)
      · by_cases hC : x / 4294967296 / 65536 < 256
        · exact len64_110 x w hx (by omega) (by omega) hC
        · exact len64_111 x w hx (by omega) (by omega) (by omega)

theorem wrapU_pow {b : Nat} (h : 2 ^ b < 18446744073709551616) : IntKind.u64.wrap ((2 : Int) ^ b) = ((2 ^ b : Nat) : Int) := by
  have e : (2 : Int) ^ b = ((2 ^ b : Nat) : Int) := by simp
  rw [e]
  generalize 2 ^ b = q at h
  rw [IntKind.wrap_u64]
  omega

end Go.Proofs.YtilgikhdamkeoaaDoor
