/-
  nums.Get: the number whose digits the first bytes are, or refused.
-/
import Derived.Test.YtfgjkddfomddlaaNumsPut
import Derived.Laws.BitsAllLaws
namespace Go.Proofs.Ytfgjkddfomddlaa
open Go.RowKit

/-- The number whose digits to the base 256 these are, the highest first. -/
def val (xs : List Nat) : Nat := xs.foldl (fun n d => n * 256 + d) 0
theorem val_snoc (xs : List Nat) (d : Nat) : val (xs ++ [d]) = val xs * 256 + d := by simp [val, List.foldl_append]
theorem fold_lt (xs : List Nat) (h : ∀ x ∈ xs, x < 256) : ∀ a, xs.foldl (fun n d => n * 256 + d) a < (a + 1) * 256 ^ xs.length := by
  induction xs with
  | nil => intro a; simp
  | cons d xs ih =>
    intro a
    have h1 := ih (fun x hx => h x (by simp [hx])) (a * 256 + d)
    have h2 := h d (by simp)
    rw [List.foldl_cons, List.length_cons, Nat.pow_succ, Nat.mul_comm (256 ^ xs.length) 256, ← Nat.mul_assoc]
    refine Nat.lt_of_lt_of_le h1 (Nat.mul_le_mul_right _ ?_)
    omega
theorem val_lt (xs : List Nat) (h : ∀ x ∈ xs, x < 256) : val xs < 256 ^ xs.length := by
  have := fold_lt xs h 0
  simpa [val] using this

theorem or_low (a x : Nat) (hx : x < 256) : a * 256 ||| x = a * 256 + x := by
  have := Nat.two_pow_add_eq_or_of_lt (i := 8) (b := x) (by omega) a
  rw [Nat.mul_comm a 256]
  exact this.symm

/-- One digit more. -/
theorem or_step (a x : Nat) (ha : a < 72057594037927936) (hx : x < 256) :
    bits .or .u64 (IntKind.u64.wrap ((a : Int) * 256)) (IntKind.u64.wrap (x : Int)) = ((a * 256 + x : Nat) : Int) := by
  have e1 : IntKind.u64.wrap ((a : Int) * 256) = ((a * 256 : Nat) : Int) := by rw [IntKind.wrap_u64]; omega
  have e2 : IntKind.u64.wrap (x : Int) = ((x : Nat) : Int) := by rw [IntKind.wrap_u64]; omega
  rw [e1, e2, u64_or_nat _ _ (by omega) (by omega), or_low a x hx]

theorem take_snoc_of {xs : List Nat} {j x : Nat} (h : xs[j]? = some x) : xs.take (j + 1) = xs.take j ++ [x] := by
  rw [List.take_add_one, h]; rfl

theorem val_step {xs : List Nat} {j x : Nat} (h : xs[j]? = some x) (hb : ∀ y ∈ xs, y < 256) (hj : j < 8) :
    bits .or .u64 (IntKind.u64.wrap ((val (xs.take j) : Int) * 256)) (IntKind.u64.wrap (x : Int)) = (val (xs.take (j + 1)) : Int) := by
  have hx : x < 256 := hb x (List.mem_of_getElem? h)
  have h1 := val_lt (xs.take j) (fun y hy => hb y (List.mem_of_mem_take hy))
  have h2 : (xs.take j).length ≤ 7 := by rw [List.length_take]; omega
  have h3 : 256 ^ (xs.take j).length ≤ 256 ^ 7 := Nat.pow_le_pow_right (by omega) h2
  rw [or_step _ _ (by have : (256 : Nat) ^ 7 = 72057594037927936 := by decide
                      omega) hx, take_snoc_of h, val_snoc]

set_option maxHeartbeats 400000 in
theorem get_arg (A : Option Addr) (n c : Nat) (bytes : Int) (w : World) (h : bytes < 0 ∨ 8 < bytes) :
    Calls Try.prog 10 #[.slice A n c, .int .i64 bytes] w fun e w' => e = .returned (.tuple #[.int .u64 0, .int .i64 1]) ∧ w = w' := by
  rcases h with h | h
  · go_enter Try.func10, Try.ntmps10
    go_wp2
    go_ret2
    exact ⟨rfl, rfl⟩
  · have h0 : ¬ bytes < 0 := by omega
    go_enter Try.func10, Try.ntmps10
    go_wp2
    go_ret2
    exact ⟨rfl, rfl⟩

set_option maxHeartbeats 400000 in
theorem get_short (A : Option Addr) (n c k : Nat) (w : World) (hk : k ≤ 8) (hn : n < k) :
    Calls Try.prog 10 #[.slice A n c, .int .i64 (k : Int)] w fun e w' => e = .returned (.tuple #[.int .u64 0, .int .i64 5]) ∧ w = w' := by
  go_enter Try.func10, Try.ntmps10
  go_wp2
  go_ret2
  exact ⟨rfl, rfl⟩

set_option maxHeartbeats 400000 in
theorem get_ok (A : Option Addr) (n c k : Nat) (xs : List Nat) (w : World) (hin : In w A n xs) (hb : ∀ x ∈ xs, x < 256) (hk : k ≤ 8) (hn : k ≤ n) (hc : n ≤ c) :
    Calls Try.prog 10 #[.slice A n c, .int .i64 (k : Int)] w fun e w' => e = .returned (.tuple #[.int .u64 (val (xs.take k) : Int), .int .i64 0]) ∧ w = w' := by
  have HB := Lib.hid hb
  clear hb
  have d0 : decide ((k : Int) < 0) = false := by simp
  have d1 : decide (8 < (k : Int)) = false := by simp; omega
  have d2 : decide (n < k) = false := by simp; omega
  go_enter Try.func10, Try.ntmps10
  go_wp2
  go_loop [6, 23] (fun t i => ∃ j : Nat, j ≤ k ∧ i = .int .i64 (j : Int) ∧ t = .int .u64 (val (xs.take j) : Int)) (fun _ i => k - (intOf i).toNat)
  case atStart => exact ⟨0, Nat.zero_le _, rfl, rfl⟩
  case round =>
    obtain ⟨j, hj, rfl, rfl⟩ := hrel
    by_cases hlt : j < k
    · obtain ⟨ad, x, rfl, hx, hcell⟩ := hin.at_ (show j < n by omega)
      have HX := Lib.hid hx
      clear hx
      have hj8 : j < 8 := by omega
      go_wp2
      go_round
      case rel => exact ⟨j + 1, by omega, by go_num, by rw [val_step HX.out HB.out hj8]⟩
      case measure => simp [intOf]; omega
    · go_wp2
      go_ret2
      have e : j = k := by omega
      exact ⟨by rw [e]; rfl, rfl⟩

end Go.Proofs.Ytfgjkddfomddlaa
