/-
  shas: turned, mixedFar, mixedNear, mixedE, mixedA.
-/
import Derived.Test.YthbgcijkpincfaaDoorLMem
import Derived.Test.YthbgcijkpincfaaDoorShaPure
import Derived.Laws.ShiftsVar
namespace Go.Proofs.YthbgcijkpincfaaDoor
open Go.RowKit

theorem ret_int {k : IntKind} {a b : Int} (h : a = b) : Ending.returned (.int k a) = .returned (.int k b) := by rw [h]
theorem and31 (n m : Nat) (h0 : 0 < n) (hn : n + m = 32) : bits .and .u64 (IntKind.u64.wrap (-(n : Int))) 31 = (m : Int) := by
  have e : IntKind.u64.wrap (-(n : Int)) = ((18446744073709551616 - n : Nat) : Int) := by rw [IntKind.wrap_u64]; omega
  rw [e, show (31 : Int) = ((31 : Nat) : Int) from rfl, u64_and_nat _ _ (by omega) (by omega), nat_mask5]
  omega

set_option maxHeartbeats 400000 in
theorem rotate_any (x n : Nat) (w : World) (hx : x < 4294967296) (h0 : 0 < n) (hn : n < 32) :
    Calls Tryd.prog 73 #[.int .u32 (x : Int), .int .i64 (-(n : Int))] w fun e w' => e = .returned (.int .u32 (rotr x n : Nat)) ∧ w = w' := by
  obtain ⟨m, hm⟩ : ∃ m, n + m = 32 := ⟨32 - n, by omega⟩
  have h1 := and31 n m h0 hm
  have H := Lib.hid hm
  have m1 : 0 < m := by omega
  have m2 : m < 32 := by omega
  clear hm
  go_enter Tryd.func73, Tryd.ntmps73
  go_wp2
  go_ret
  refine ⟨ret_int ?_, rfl⟩
  show bits BinOp.or IntKind.u32 (↑x * 2 ^ m % 4294967296) (↑x / 2 ^ (32 - m)) = _
  have e1 : (↑x * 2 ^ m % 4294967296 : Int) = ((x * 2 ^ m % 4294967296 : Nat) : Int) := by simp
  have e2 : (↑x / 2 ^ (32 - m) : Int) = ((x / 2 ^ (32 - m) : Nat) : Int) := by simp
  have hm := H.out
  rw [e1, e2, u32_or_nat _ _ (Nat.mod_lt _ (by omega)) (div_lt32 _ hx), rotr, show 32 - n = m by omega, show 32 - m = n by omega]

set_option maxHeartbeats 400000 in
theorem turned_any (x n : Nat) (w : World) (hx : x < 4294967296) (h0 : 0 < n) (hn : n < 32) :
    Calls Tryd.prog 72 #[.int .u32 (x : Int), .int .i64 (n : Int)] w fun e w' => e = .returned (.int .u32 (rotr x n : Nat)) ∧ w = w' := by
  go_enter Tryd.func72, Tryd.ntmps72
  go_wp2_with fail
  refine (rotate_any x n _ hx h0 hn).mono ?_
  rintro e w' ⟨rfl, rfl⟩
  go_wp2
  go_ret
  exact ⟨rfl, rfl⟩

theorem turned_c (x n : Nat) (k : Int) (hk : k = (n : Int)) (w : World) (hx : x < 4294967296) (h0 : 0 < n) (hn : n < 32) :
    Calls Tryd.prog 72 #[.int .u32 (x : Int), .int .i64 k] w fun e w' => e = .returned (.int .u32 (rotr x n : Nat)) ∧ w = w' := by
  subst hk
  exact turned_any x n w hx h0 hn

theorem xor3 {a b c : Nat} (ha : a < 4294967296) (hb : b < 4294967296) (hc : c < 4294967296) :
    bits .xor .u32 (bits .xor .u32 (a : Int) (b : Int)) (c : Int) = ((a ^^^ b ^^^ c : Nat) : Int) := by
  rw [u32_xor_nat _ _ ha hb, u32_xor_nat _ _ (xor_lt32 ha hb) hc]

set_option maxHeartbeats 400000 in
theorem mixedE_any (x : Nat) (w : World) (hx : x < 4294967296) :
    Calls Tryd.prog 69 #[.int .u32 (x : Int)] w fun e w' => e = .returned (.int .u32 (mixE x : Nat)) ∧ w = w' := by
  go_enter Tryd.func69, Tryd.ntmps69
  go_wp2_with fail
  refine (turned_c x 6 6 rfl _ hx (by omega) (by omega)).mono ?_
  rintro e w' ⟨rfl, rfl⟩
  go_wp2_with fail
  refine (turned_c x 11 11 rfl _ hx (by omega) (by omega)).mono ?_
  rintro e w' ⟨rfl, rfl⟩
  go_wp2_with fail
  refine (turned_c x 25 25 rfl _ hx (by omega) (by omega)).mono ?_
  rintro e w' ⟨rfl, rfl⟩
  go_wp2
  go_ret
  exact ⟨ret_int (xor3 (rotr_lt _ hx) (rotr_lt _ hx) (rotr_lt _ hx)), rfl⟩

set_option maxHeartbeats 400000 in
theorem mixedA_any (x : Nat) (w : World) (hx : x < 4294967296) :
    Calls Tryd.prog 70 #[.int .u32 (x : Int)] w fun e w' => e = .returned (.int .u32 (mixA x : Nat)) ∧ w = w' := by
  go_enter Tryd.func70, Tryd.ntmps70
  go_wp2_with fail
  refine (turned_c x 2 2 rfl _ hx (by omega) (by omega)).mono ?_
  rintro e w' ⟨rfl, rfl⟩
  go_wp2_with fail
  refine (turned_c x 13 13 rfl _ hx (by omega) (by omega)).mono ?_
  rintro e w' ⟨rfl, rfl⟩
  go_wp2_with fail
  refine (turned_c x 22 22 rfl _ hx (by omega) (by omega)).mono ?_
  rintro e w' ⟨rfl, rfl⟩
  go_wp2
  go_ret
  exact ⟨ret_int (xor3 (rotr_lt _ hx) (rotr_lt _ hx) (rotr_lt _ hx)), rfl⟩

set_option maxHeartbeats 400000 in
theorem mixedFar_any (x : Nat) (w : World) (hx : x < 4294967296) :
    Calls Tryd.prog 67 #[.int .u32 (x : Int)] w fun e w' => e = .returned (.int .u32 (far x : Nat)) ∧ w = w' := by
  go_enter Tryd.func67, Tryd.ntmps67
  go_wp2_with fail
  refine (turned_c x 7 7 rfl _ hx (by omega) (by omega)).mono ?_
  rintro e w' ⟨rfl, rfl⟩
  go_wp2_with fail
  refine (turned_c x 18 18 rfl _ hx (by omega) (by omega)).mono ?_
  rintro e w' ⟨rfl, rfl⟩
  go_wp2
  go_ret
  exact ⟨ret_int (xor3 (c := x / 8) (rotr_lt _ hx) (rotr_lt _ hx) (div_lt32 _ hx)), rfl⟩

set_option maxHeartbeats 400000 in
theorem mixedNear_any (x : Nat) (w : World) (hx : x < 4294967296) :
    Calls Tryd.prog 68 #[.int .u32 (x : Int)] w fun e w' => e = .returned (.int .u32 (near x : Nat)) ∧ w = w' := by
  go_enter Tryd.func68, Tryd.ntmps68
  go_wp2_with fail
  refine (turned_c x 17 17 rfl _ hx (by omega) (by omega)).mono ?_
  rintro e w' ⟨rfl, rfl⟩
  go_wp2_with fail
  refine (turned_c x 19 19 rfl _ hx (by omega) (by omega)).mono ?_
  rintro e w' ⟨rfl, rfl⟩
  go_wp2
  go_ret
  exact ⟨ret_int (xor3 (c := x / 1024) (rotr_lt _ hx) (rotr_lt _ hx) (div_lt32 _ hx)), rfl⟩

end Go.Proofs.YthbgcijkpincfaaDoor
