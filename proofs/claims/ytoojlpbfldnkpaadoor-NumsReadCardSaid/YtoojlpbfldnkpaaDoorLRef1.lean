/-
  The document's own answers of layer 1: power, Get, there, GetBytes.
-/
import Derived.Test.YtoojlpbfldnkpaaDoorLMem
import Derived.Deep.QuietTactic
import Derived.BigQuiet
namespace Go.Proofs.YtoojlpbfldnkpaaDoor
open Go.RowKit

/-- A callee that leaves the world alone, met in a second region that only reads. -/
theorem quiet_again {P : Program} {f : FuncId} {args : Array Value} {w : World} {a n : Nat} {v : Value} (h : Calls P f args (w.drewN (a + n)) fun e w' => e = .returned v ∧ w' = w.drewN (a + n)) :
    Calls P f args (w.drewN (a + n)) fun e w'' => e = .returned v ∧ ∃ m, w'' = w.drewN (a + m) := h.mono fun _ _ ⟨he, hm⟩ => ⟨he, n, hm⟩

set_option maxRecDepth 100000 in
set_option maxHeartbeats 400000 in
theorem power_any (p P : Nat) (hp : p ≤ 7) (hP : 256 ^ p = P) (w : World) :
    Calls Tryd.prog 31 #[.int .i64 (p : Int)] w fun e w' => e = .returned (.int .u64 (P : Int)) ∧ w' = w := by
  have HP := Lib.hid hP
  clear hP
  go_enter Tryd.func31, Tryd.ntmps31
  go_wp2
  go_loop [3, 4] (fun t i => ∃ j Q : Nat, j ≤ p ∧ i = .int .i64 (j : Int) ∧ t = .int .u64 (Q : Int) ∧ 256 ^ j = Q) (fun _ i => p - (intOf i).toNat)
  case atStart => exact ⟨0, 1, Nat.zero_le _, rfl, rfl, rfl⟩
  case round =>
    obtain ⟨j, Q, hj, rfl, rfl, hQ⟩ := hrel
    by_cases hlt : j < p
    · have hb : Q ≤ 281474976710656 := by
        rw [← hQ]
        exact Nat.le_trans (Nat.pow_le_pow_right (by omega) (show j ≤ 6 by omega)) (by decide)
      have HQ := Lib.hid hQ
      clear hQ
      go_wp2
      go_round
      case rel => exact ⟨j + 1, 256 * Q, by omega, by go_num, by go_num, by rw [Nat.pow_succ, HQ.out]; omega⟩
      case measure => simp [intOf]; omega
    · obtain rfl : j = p := by omega
      obtain rfl : Q = P := hQ.symm.trans HP.out
      go_wp2
      go_ret
      exact ⟨rfl, rfl⟩

theorem fold_acc (ys : List Nat) : ∀ a, ys.foldl (fun n d => n * 256 + d) a = a * 256 ^ ys.length + val ys := by
  induction ys with
  | nil => intro a; simp [val]
  | cons d ys ih =>
    intro a
    have h0 : val (d :: ys) = d * 256 ^ ys.length + val ys := by
      have := ih (0 * 256 + d)
      simpa [val] using this
    rw [List.foldl_cons, ih, h0, List.length_cons, Nat.pow_succ, Nat.add_mul, Nat.mul_assoc, Nat.mul_comm 256 (256 ^ ys.length)]
    omega
theorem val_cons (d : Nat) (ys : List Nat) : val (d :: ys) = d * 256 ^ ys.length + val ys := by
  have := fold_acc ys (0 * 256 + d)
  simpa [val] using this
theorem drop_one {xs : List Nat} {k x : Nat} (h : xs[k]? = some x) : xs.drop k = x :: xs.drop (k + 1) := by
  have hl := (List.getElem?_eq_some_iff.1 h)
  rw [List.drop_eq_getElem_cons hl.1, hl.2]

set_option maxRecDepth 100000 in
set_option maxHeartbeats 400000 in
theorem refGet_arg (A : Option Addr) (n c : Nat) (bytes : Int) (w : World) (h : bytes < 0 ∨ 8 < bytes) :
    Calls Tryd.prog 13 #[.slice A n c, .int .i64 bytes] w fun e w' => e = .returned (.tuple #[.int .u64 0, .int .i64 1]) ∧ w = w' := by
  rcases h with h | h
  · go_enter Tryd.func13, Tryd.ntmps13
    go_wp2
    go_ret2
    exact ⟨rfl, rfl⟩
  · have h0 : ¬ bytes < 0 := by omega
    go_enter Tryd.func13, Tryd.ntmps13
    go_wp2
    go_ret2
    exact ⟨rfl, rfl⟩

set_option maxRecDepth 100000 in
set_option maxHeartbeats 400000 in
theorem refGet_short (A : Option Addr) (n c k : Nat) (w : World) (hk : k ≤ 8) (hn : n < k) :
    Calls Tryd.prog 13 #[.slice A n c, .int .i64 (k : Int)] w fun e w' => e = .returned (.tuple #[.int .u64 0, .int .i64 5]) ∧ w = w' := by
  go_enter Tryd.func13, Tryd.ntmps13
  go_wp2
  go_ret2
  exact ⟨rfl, rfl⟩

set_option maxRecDepth 100000 in
set_option maxHeartbeats 1000000 in
theorem refGet_ok (A : Option Addr) (n c k : Nat) (xs : List Nat) (w : World) (hin : In w A n xs) (hb : ∀ x ∈ xs, x < 256) (hk : k ≤ 8) (hn : k ≤ n) :
    Calls Tryd.prog 13 #[.slice A n c, .int .i64 (k : Int)] w fun e w' => e = .returned (.tuple #[.int .u64 (val (xs.take k) : Int), .int .i64 0]) ∧ ∃ q, w' = w.drewN q := by
  have d0 : decide ((k : Int) < 0) = false := by simp
  have d1 : decide (8 < (k : Int)) = false := by simp; omega
  have d2 : decide (n < k) = false := by simp; omega
  have hin' := hin.take hn
  have hbk : ∀ x ∈ xs.take k, x < 256 := fun x hx => hb x (List.mem_of_mem_take hx)
  have HB := Lib.hid hbk
  clear hb hbk hin
  generalize xs.take k = ys at *
  go_enter Tryd.func13, Tryd.ntmps13
  go_wp2
  go_loopw [6, 7] (fun t i wr => ∃ p S : Nat, p ≤ k ∧ i = .int .i64 (p : Int) ∧ t = .int .u64 (S : Int) ∧ val (ys.drop (k - p)) = S ∧ ∃ q, wr = w.drewN q) (fun _ i _ => k - (intOf i).toNat)
  case atStart => exact ⟨0, 0, Nat.zero_le _, rfl, rfl, by rw [Nat.sub_zero, List.drop_of_length_le (by rw [hin'.len]; omega)]; rfl, 0, rfl⟩
  case round =>
    obtain ⟨p, S, hp, rfl, rfl, hS, q, rfl⟩ := hrel
    by_cases hlt : p < k
    · obtain ⟨j, hj⟩ : ∃ j, k - 1 - p = j := ⟨_, rfl⟩
      obtain ⟨ad, x, rfl, hx, hcell⟩ := hin'.at_ (show j < k by omega)
      have hx256 : x < 256 := HB.out x (List.mem_of_getElem? hx)
      obtain ⟨P, hP⟩ : ∃ P, 256 ^ p = P := ⟨_, rfl⟩
      have hPb : P ≤ 72057594037927936 := by
        rw [← hP]
        exact Nat.le_trans (Nat.pow_le_pow_right (by omega) (show p ≤ 7 by omega)) (by decide)
      have hP1 : 1 ≤ P := by rw [← hP]; exact Nat.pow_pos (by omega)
      have hlen : (ys.drop (k - p)).length = p := by rw [List.length_drop, hin'.len]; omega
      have hSb : S < P := by
        have := val_lt (ys.drop (k - p)) (fun y hy => HB.out y (List.mem_of_mem_drop hy))
        rw [hlen, hP, hS] at this
        exact this
      have hS2 : val (ys.drop (k - (p + 1))) = x * P + S := by
        have e : k - (p + 1) + 1 = k - p := by omega
        rw [show j = k - (p + 1) by omega] at hx
        rw [drop_one hx, val_cons, e, hlen, hP, hS]
      have hxP : x * P ≤ 255 * P := Nat.mul_le_mul_right _ (by omega)
      have C1 := Lib.hid (fun W => power_any p P (by omega) hP W)
      have HS2 := Lib.hid hS2
      clear hS2 hS hP hlen hx
      obtain ⟨M, hM⟩ : ∃ M, x * P = M := ⟨_, rfl⟩
      rw [hM] at hxP HS2
      have k1 : IntKind.i64.wrap ((k : Int) - 1) = (k : Int) - 1 := IntWalk.i64_in _ (by omega)
      have k2 : IntKind.i64.wrap ((k : Int) - 1 - (p : Int)) = (j : Int) := by
        rw [show (k : Int) - 1 - (p : Int) = (j : Int) by omega]
        exact IntWalk.i64_in _ (by omega)
      have k3 : (j : Int) < (n : Int) := by omega
      clear hj
      have k6 : IntKind.u64.wrap (x : Int) = (x : Int) := by rw [IntKind.wrap_u64]; omega
      have k7 : IntKind.u64.wrap ((x : Int) * (P : Int)) = (M : Int) := by
        rw [show (x : Int) * (P : Int) = ((x * P : Nat) : Int) from by simp, hM, IntKind.wrap_u64]; omega
      have k8 : IntKind.u64.wrap ((S : Int) + (M : Int)) = (S : Int) + (M : Int) := by rw [IntKind.wrap_u64]; omega
      clear hM
      go_wp2
      go_quiet ((go_at_call 31; exact quiet_again (C1.out _)))
      rw [World.drewN_drewN]
      clear k1 k2 k3 k6 k7 k8
      go_wp2
      go_roundw
      case rel => exact ⟨p + 1, S + M, by omega, by go_num, by go_num, by rw [HS2.out]; omega, q + nq, rfl⟩
      case measure => simp [intOf]; omega
    · obtain rfl : p = k := by omega
      rw [Nat.sub_self, List.drop_zero] at hS
      have HS := Lib.hid hS
      clear hS
      go_wp2
      go_ret2
      exact ⟨by rw [HS.out]; rfl, q, rfl⟩

end Go.Proofs.YtoojlpbfldnkpaaDoor
