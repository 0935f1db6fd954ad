/-
  NumsNext: one more changes the last byte that is not 255, makes those behind it 0, and leaves those ahead of it.
-/
import Derived.Test.YtfgjkddfomddlaaNumsAlive
namespace Go.Proofs.Ytfgjkddfomddlaa
open Go.RowKit

theorem dg_get (n k i : Nat) (h : i < k) : (dg n k)[i]? = some (n / 256 ^ (k - 1 - i) % 256) := by
  induction k generalizing i with
  | zero => omega
  | succ k ih =>
    cases i with
    | zero => simp [dg]
    | succ i =>
      rw [show k + 1 - 1 - (i + 1) = k - 1 - i by omega, dg, List.getElem?_cons_succ]
      exact ih i (by omega)

/-- Are the lowest t digits of n all 255? -/
def cy (n t : Nat) : Bool := decide ((n + 1) % 256 ^ t = 0)

theorem succ_div (n P : Nat) (hP : 0 < P) : ((n + 1) % P = 0 ∧ (n + 1) / P = n / P + 1) ∨ ((n + 1) % P ≠ 0 ∧ (n + 1) / P = n / P) := by
  have h1 := Nat.div_add_mod n P
  have h2 := Nat.mod_lt n hP
  by_cases h : n % P + 1 = P
  · left
    have e : n + 1 = P * (n / P + 1) := by rw [Nat.mul_add, Nat.mul_one]; omega
    rw [e]
    exact ⟨Nat.mul_mod_right _ _, Nat.mul_div_cancel_left _ hP⟩
  · right
    have e : n + 1 = (n % P + 1) + P * (n / P) := by omega
    constructor
    · rw [e, Nat.add_mul_mod_self_left, Nat.mod_eq_of_lt (by omega)]; omega
    · rw [e, Nat.add_mul_div_left _ _ hP, Nat.div_eq_of_lt (by omega)]; omega

theorem cy_yes {n t : Nat} (h : cy n t = true) : (n + 1) / 256 ^ t % 256 = (n / 256 ^ t % 256 + 1) % 256 := by
  have hP : 0 < 256 ^ t := Nat.pow_pos (by omega)
  rcases succ_div n _ hP with ⟨_, h2⟩ | ⟨h1, _⟩
  · rw [h2]; omega
  · exact absurd (of_decide_eq_true h) h1
theorem cy_no {n t : Nat} (h : cy n t = false) : (n + 1) / 256 ^ t % 256 = n / 256 ^ t % 256 := by
  have hP : 0 < 256 ^ t := Nat.pow_pos (by omega)
  rcases succ_div n _ hP with ⟨h1, _⟩ | ⟨_, h2⟩
  · exact absurd h1 (of_decide_eq_false h)
  · rw [h2]
theorem cy_succ (n t : Nat) : cy n (t + 1) = (cy n t && decide (n / 256 ^ t % 256 = 255)) := by
  have hP : 0 < 256 ^ t := Nat.pow_pos (by omega)
  unfold cy
  rw [Nat.pow_succ, Bool.eq_iff_iff]
  simp only [decide_eq_true_eq, Bool.and_eq_true]
  rw [Nat.mod_mul]
  rcases succ_div n _ hP with ⟨h1, h2⟩ | ⟨h1, h2⟩
  · rw [h1, h2]
    constructor
    · intro h
      have h3 : (n / 256 ^ t + 1) % 256 = 0 := by
        rcases Nat.eq_zero_or_pos ((n / 256 ^ t + 1) % 256) with h4 | h4
        · exact h4
        · have := Nat.mul_pos hP h4
          omega
      exact ⟨rfl, by omega⟩
    · rintro ⟨_, h⟩
      have h3 : (n / 256 ^ t + 1) % 256 = 0 := by omega
      rw [h3]
      rfl
  · constructor
    · intro h; exact absurd (by omega) h1
    · rintro ⟨h, _⟩; exact absurd h h1

theorem wrap_digit (n t : Nat) (ht : t < 8) : n % 18446744073709551616 / 256 ^ t % 256 = n / 256 ^ t % 256 := by
  have e : 18446744073709551616 = 256 ^ t * (256 * 256 ^ (7 - t)) := by
    rw [← Nat.mul_assoc, ← Nat.pow_succ, ← Nat.pow_add, show t + 1 + (7 - t) = 8 by omega]
  rw [e, Nat.mod_mul_right_div_self, Nat.mod_mul_right_mod]

theorem dg_wrap (n k : Nat) (hk : k ≤ 8) : dg (n % 18446744073709551616) k = dg n k := by
  induction k with
  | zero => rfl
  | succ k ih => rw [dg, dg, ih (by omega), wrap_digit n k (by omega)]

theorem put_nil (N k : Nat) (hk : k ≤ 8) (w : World) :
    Calls Try.prog 7 #[.slice none 0 0, .int .u64 (N : Int), .int .i64 (k : Int)] w (Gives w.heap.size w k (dg N k)) := by
  have := put_any none 0 0 [] N (k : Int) k (kk_nat k hk) w (In.none_ _ _) (by omega)
  rw [Nat.zero_add] at this
  exact this

set_option maxRecDepth 100000 in
set_option maxHeartbeats 1000000 in
theorem next_any (n b : Nat) (hb : b < 256) (w : World) :
    Calls Try.prog 3 #[.int .u64 (n : Int), .int .u8 (b : Int)] w fun e w' => e = .returned (.bool true) ∧ Below w.heap.size w w' := by
  obtain ⟨k, hk, hk1, hk8⟩ : ∃ k : Nat, 1 + (b : Int) % 8 = (k : Int) ∧ 1 ≤ k ∧ k ≤ 8 := ⟨1 + b % 8, by omega, by omega, by omega⟩
  have HK := Lib.hid hk
  clear hk
  go_enter Try.func3, Try.ntmps3
  go_wp2_with fail
  rw [HK.out]
  refine (put_nil n k hk8 _).mono ?_
  rintro e w1 ⟨A1, c1, rfl, ho1, hb1⟩
  have i1 : In w1 A1 k (dg n k) := In.of_own ho1
  clear ho1
  have C2 := Lib.hid (put_nil ((n + 1) % 18446744073709551616) k hk8 w1)
  rw [dg_wrap (n + 1) k hk8] at C2
  rw [show (((n + 1) % 18446744073709551616 : Nat) : Int) = IntKind.u64.wrap ((n : Int) + 1) by rw [IntKind.wrap_u64]; omega] at C2
  go_wp2_with fail
  refine (C2.out).mono ?_
  clear C2
  rintro e w2 ⟨A2, c2, rfl, ho2, hb2⟩
  have i2 : In w2 A2 k (dg (n + 1) k) := In.of_own ho2
  have i3 := i1.below hb2
  have H := below_on hb1 (Nat.le_refl _) hb2
  clear ho2 hb1 hb2 i1
  have dk : ((k : Int) != (k : Int)) = false := by simp
  go_wp2_with fail
  go_loop [8, 9] (fun cr i => ∃ j : Nat, j ≤ k ∧ i = .int .i64 ((j : Int) - 1) ∧ cr = .bool (cy n (k - j))) (fun _ i => (intOf i + 1).toNat)
  case atStart => exact ⟨k, Nat.le_refl _, rfl, by rw [Nat.sub_self]; simp [cy, Nat.mod_one]⟩
  case round =>
    obtain ⟨j, hj, rfl, rfl⟩ := hrel
    cases j with
    | zero =>
      go_wp2_with fail
      refine (alive_any _).mono ?_
      rintro e w3 ⟨rfl, hb3⟩
      go_wp2_with fail
      go_ret
      exact ⟨rfl, below_on H (Nat.le_refl _) hb3⟩
    | succ j =>
      obtain ⟨ad, x, rfl, hx, hcell⟩ := i3.at_ (show j < k by omega)
      obtain ⟨ad2, y, rfl, hy, hcell2⟩ := i2.at_ (show j < k by omega)
      rw [dg_get _ _ _ (by omega)] at hx hy
      injection hx with hx
      injection hy with hy
      obtain ⟨t, ht⟩ : ∃ t, k - (j + 1) = t := ⟨_, rfl⟩
      rw [show k - 1 - j = t by omega] at hx hy
      have hx255 : x ≤ 255 := by omega
      have HS := Lib.hid (cy_succ n t)
      rw [hx] at HS
      have ht1 : k - j = t + 1 := by omega
      have HT := Lib.hid ht1
      rw [ht]
      clear ht ht1
      cases hcy : cy n t with
      | true =>
        have e := cy_yes hcy
        rw [hx, hy] at e
        subst e
        clear hx hy
        rw [hcy] at HS
        clear hcy
        go_wp2_with fail
        go_round
        case rel => exact ⟨j, by omega, rfl, by rw [HT.out, HS.out, Bool.true_and]; exact congrArg Value.bool (by rw [Bool.eq_iff_iff]; simp; omega)⟩
        case measure => simp [intOf]
      | false =>
        have e := cy_no hcy
        rw [hx, hy] at e
        subst e
        clear hx hy
        rw [hcy] at HS
        clear hcy
        have dxx : ((y : Int) != (y : Int)) = false := by simp
        go_wp2_with fail
        go_round
        case rel => exact ⟨j, by omega, rfl, by rw [HT.out, HS.out, Bool.false_and]⟩
        case measure => simp [intOf]

end Go.Proofs.Ytfgjkddfomddlaa
