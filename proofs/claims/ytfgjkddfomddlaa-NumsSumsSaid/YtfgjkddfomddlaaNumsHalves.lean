/-
  NumsHalves: the bytes of a number are those of its higher part, and behind these those of its lower one.
-/
import Derived.Test.YtfgjkddfomddlaaNumsTold
namespace Go.Proofs.Ytfgjkddfomddlaa
open Go.RowKit

theorem dg_split (n a b : Nat) : dg n (a + b) = dg (n / 256 ^ b) a ++ dg n b := by
  induction a with
  | zero => simp [dg]
  | succ a ih =>
    rw [show a + 1 + b = (a + b) + 1 by omega, dg, dg, ih, Nat.div_div_eq_div_mul, ← Nat.pow_add, Nat.add_comm b a]
    rfl

theorem own_nil {w : World} {base : Nat} {e : TypeId} {size : Nat} {A : Option Addr} {n c : Nat} {xs : List Value} (h : w.ownsRow base e size (.slice A n c) n xs) : A = none → c = 0 := by
  intro hA
  rcases h.2 with ⟨e1, _⟩ | ⟨g, cap, cur, e1, _⟩
  · injection e1
  · rw [hA] at e1; cases e1

theorem hi_nat (n low : Nat) : (n : Int) / 2 ^ (8 * low) = ((n / 256 ^ low : Nat) : Int) := by
  rw [Int.pow_mul]
  simp

theorem take_all (n k : Nat) : (dg n k).take k = dg n k := List.take_of_length_le (Nat.le_of_eq (dg_length n k))
theorem take_high (n k low : Nat) (h : low ≤ k) : (dg n k).take (k - low) = dg (n / 256 ^ low) (k - low) := by
  have e := dg_split n (k - low) low
  rw [show k - low + low = k by omega] at e
  rw [e, List.take_append, dg_length, Nat.sub_self, take_all]
  simp
theorem drop_low (n k low : Nat) (h : low ≤ k) : (dg n k).drop (k - low) = dg n low := by
  have e := dg_split n (k - low) low
  rw [show k - low + low = k by omega] at e
  rw [e, drop_dg]

/-- What the higher part and the lower one come to. -/
theorem halves_fin {n k low X Y Z : Nat} (h : low ≤ k) (hk : k ≤ 8) (hX : val ((dg n k).take k) = X) (hY : val ((dg n k).take (k - low)) = Y) (hZ : val (((dg n k).drop (k - low)).take low) = Z) :
    ((X : Int) == bits .or .u64 (IntKind.u64.wrap ((Y : Int) * 2 ^ (8 * low))) (Z : Int)) = true := by
  rw [take_all, val_dg] at hX
  rw [take_high n k low h, val_dg] at hY
  rw [drop_low n k low h, take_all, val_dg] at hZ
  have e1 : 256 ^ k = 256 ^ low * 256 ^ (k - low) := by rw [← Nat.pow_add, show low + (k - low) = k by omega]
  have e2 : X = 256 ^ low * Y + Z := by rw [← hX, ← hY, ← hZ, e1, Nat.mod_mul]; omega
  have hZl : Z < 256 ^ low := by rw [← hZ]; exact Nat.mod_lt _ (Nat.pow_pos (by omega))
  have hXl : X < 18446744073709551616 := by
    have h1 : X < 256 ^ k := by rw [← hX]; exact Nat.mod_lt _ (Nat.pow_pos (by omega))
    have h2 : 256 ^ k ≤ 256 ^ 8 := Nat.pow_le_pow_right (by omega) hk
    have h3 : (256 : Nat) ^ 8 = 18446744073709551616 := by decide
    omega
  have e3 : (2 : Nat) ^ (8 * low) = 256 ^ low := by rw [Nat.pow_mul]
  have e4 : (Y : Int) * 2 ^ (8 * low) = ((256 ^ low * Y : Nat) : Int) := by
    rw [← e3]
    simp [Int.mul_comm]
  have e5 : IntKind.u64.wrap ((256 ^ low * Y : Nat) : Int) = ((256 ^ low * Y : Nat) : Int) := by rw [IntKind.wrap_u64]; omega
  have e6 := Nat.two_pow_add_eq_or_of_lt (i := 8 * low) (b := Z) (by rw [e3]; exact hZl) Y
  rw [e3] at e6
  rw [e4, e5, u64_or_nat _ _ (by omega) (by omega), ← e6, e2]
  simp

set_option maxRecDepth 100000 in
set_option maxHeartbeats 1000000 in
theorem halves_low (n k low b c : Nat) (hb : b < 256) (hc : c < 256) (hk : (b : Int) % 9 = (k : Int)) (hlo : (c : Int) % ((k : Int) + 1) = (low : Int)) (h8 : low < 8) (w : World) :
    Calls Try.prog 4 #[.int .u64 (n : Int), .int .u8 (b : Int), .int .u8 (c : Int)] w fun e w' => e = .returned (.bool true) ∧ Below w.heap.size w w' := by
  have R := Nat.le_refl w.heap.size
  have hk8 : k ≤ 8 := by omega
  have hlk : low ≤ k := by
    have := Int.emod_lt_of_pos (c : Int) (show (0 : Int) < (k : Int) + 1 by omega)
    omega
  go_enter Try.func4, Try.ntmps4
  go_wp2_with fail
  rw [hk, hlo, hi_nat]
  clear hk hlo
  refine (put_nil n k hk8 _).mono ?_
  rintro e w1 ⟨A1, c1, rfl, ho1, hb1⟩
  have i1 : In w1 A1 k (dg n k) := In.of_own ho1
  have l1 := own_cap ho1
  have z1 := own_nil ho1
  clear ho1
  have C2 := Lib.hid (put_nil (n / 256 ^ low) (k - low) (by omega) w1)
  rw [show ((k - low : Nat) : Int) = (k : Int) - (low : Int) by omega] at C2
  go_wp2_with fail
  refine (C2.out).mono ?_
  clear C2
  rintro e w2 ⟨A2, c2, rfl, ho2, hb2⟩
  have i2 : In w2 A2 (k - low) (dg (n / 256 ^ low) (k - low)) := In.of_own ho2
  clear ho2
  have C3 := Lib.hid (put_any A2 (k - low) c2 _ n (low : Int) low (kk_nat low (by omega)) w2 i2 (by omega))
  rw [← dg_split, show k - low + low = k by omega] at C3
  go_wp2_with fail
  refine (C3.out).mono ?_
  clear C3
  rintro e w3 ⟨A3, c3, rfl, ho3, hb3⟩
  have i3 : In w3 A3 k (dg n k) := In.of_own ho3
  have i4 := (i1.below hb2).below hb3
  have H := below_on (below_on hb1 R hb2) R hb3
  clear ho3 hb1 hb2 hb3 i1 i2
  go_wp2_with fail
  refine (looseN (sameBytes_yes A3 A1 k c3 c1 (dg n k) _ i3 i4 (by omega))).mono ?_
  rintro e w4 ⟨rfl, hb4⟩
  have i5 := i4.below hb4
  replace H := below_on H R hb4
  clear i3 i4 hb4
  have G1 := Lib.hid (loose (get_ok A1 k c1 k (dg n k) w4 i5 (dg_lt n k) hk8 (Nat.le_refl _) l1))
  generalize hX : val ((dg n k).take k) = X at G1
  go_wp2_with fail
  refine (G1.out).mono ?_
  clear G1
  rintro e w5 ⟨rfl, hb5⟩
  have i6 := i5.below hb5
  replace H := below_on H R hb5
  clear i5 hb5
  have G2 := Lib.hid (loose (get_ok A1 k c1 (k - low) (dg n k) w5 i6 (dg_lt n k) (by omega) (by omega) l1))
  generalize hY : val ((dg n k).take (k - low)) = Y at G2
  rw [show ((k - low : Nat) : Int) = (k : Int) - (low : Int) by omega] at G2
  have HX := Lib.hid hX
  have HY := Lib.hid hY
  clear hX hY
  go_wp2_with fail
  refine (G2.out).mono ?_
  clear G2
  rintro e w6 ⟨rfl, hb6⟩
  have i7 := i6.below hb6
  replace H := below_on H R hb6
  clear i6 hb6
  have f1 : 0 ≤ (k : Int) - (low : Int) := by omega
  have f2 : (k : Int) - (low : Int) ≤ (k : Int) := by omega
  have f3 : ((k : Int) - (low : Int)).toNat = k - low := by omega
  have i8 := i7.cut (k := k - low) (c := c1) (by omega) l1
  have G3 := Lib.hid (loose (get_ok _ (k - (k - low)) (c1 - (k - low)) low _ w6 i8 (fun x hx => dg_lt n k x (List.mem_of_mem_drop hx)) (by omega) (by omega) (by omega)))
  generalize hZ : val (((dg n k).drop (k - low)).take low) = Z at G3
  have HZ := Lib.hid hZ
  clear hZ i7 i8
  by_cases hcc : c1 = k - low
  · rw [if_pos hcc] at G3
    have hcc0 : c1 - (k - low) = 0 := by omega
    rw [hcc0] at G3
    clear hcc0
    go_wp2_with fail
    refine (G3.out).mono ?_
    clear G3
    rintro e w7 ⟨rfl, hb7⟩
    replace H := below_on H R hb7
    clear hb7 f1 f2 f3
    go_wp2_with fail
    refine (alive_any _).mono ?_
    rintro e w8 ⟨rfl, hb8⟩
    go_wp2_with fail
    go_ret
    exact ⟨congrArg (fun b => Ending.returned (.bool b)) (halves_fin hlk hk8 HX.out HY.out HZ.out), below_on H R hb8⟩
  · rw [if_neg hcc] at G3
    go_wp2_with fail
    refine (G3.out).mono ?_
    clear G3
    rintro e w7 ⟨rfl, hb7⟩
    replace H := below_on H R hb7
    clear hb7 f1 f2 f3
    go_wp2_with fail
    refine (alive_any _).mono ?_
    rintro e w8 ⟨rfl, hb8⟩
    go_wp2_with fail
    go_ret
    exact ⟨congrArg (fun b => Ending.returned (.bool b)) (halves_fin hlk hk8 HX.out HY.out HZ.out), below_on H R hb8⟩

theorem eight_fin {n X Z : Nat} (hX : val ((dg n 8).take 8) = X) (hZ : val ((dg n 8).take 8) = Z) : ((X : Int) == bits .or .u64 0 (Z : Int)) = true := by
  rw [take_all, val_dg] at hX hZ
  have e : X = Z := hX.symm.trans hZ
  have hl : Z < 18446744073709551616 := by
    have h3 : (256 : Nat) ^ 8 = 18446744073709551616 := by decide
    rw [h3] at hZ
    omega
  have h := u64_or_nat 0 Z (by omega) hl
  rw [Nat.zero_or] at h
  rw [show (0 : Int) = ((0 : Nat) : Int) from rfl, h, e]
  simp

set_option maxRecDepth 100000 in
set_option maxHeartbeats 1000000 in
theorem halves_eight (n b c : Nat) (hb : b < 256) (hc : c < 256) (hk : (b : Int) % 9 = 8) (hlo : (c : Int) % 9 = 8) (w : World) :
    Calls Try.prog 4 #[.int .u64 (n : Int), .int .u8 (b : Int), .int .u8 (c : Int)] w fun e w' => e = .returned (.bool true) ∧ Below w.heap.size w w' := by
  have R := Nat.le_refl w.heap.size
  go_enter Try.func4, Try.ntmps4
  go_wp2_with fail
  try rw [hk]
  try rw [hlo]
  clear hk hlo
  refine (put_nil n 8 (by omega) _).mono ?_
  rintro e w1 ⟨A1, c1, rfl, ho1, hb1⟩
  have i1 : In w1 A1 8 (dg n 8) := In.of_own ho1
  have l1 := own_cap ho1
  clear ho1
  go_wp2_with fail
  refine (put_nil 0 0 (by omega) _).mono ?_
  rintro e w2 ⟨A2, c2, rfl, ho2, hb2⟩
  have i2 : In w2 A2 0 [] := In.of_own ho2
  clear ho2
  go_wp2_with fail
  refine (put_any A2 0 c2 [] n 8 8 rfl w2 i2 (by omega)).mono ?_
  rintro e w3 ⟨A3, c3, rfl, ho3, hb3⟩
  have i3 : In w3 A3 8 (dg n 8) := In.of_own ho3
  have i4 := (i1.below hb2).below hb3
  have H := below_on (below_on hb1 R hb2) R hb3
  clear ho3 hb1 hb2 hb3 i1 i2
  go_wp2_with fail
  refine (looseN (sameBytes_yes A3 A1 8 c3 c1 (dg n 8) _ i3 i4 (by omega))).mono ?_
  rintro e w4 ⟨rfl, hb4⟩
  have i5 := i4.below hb4
  replace H := below_on H R hb4
  clear i3 i4 hb4
  have G1 := Lib.hid (loose (get_ok A1 8 c1 8 (dg n 8) w4 i5 (dg_lt n 8) (by omega) (Nat.le_refl _) l1))
  generalize hX : val ((dg n 8).take 8) = X at G1
  have HX := Lib.hid hX
  clear hX
  go_wp2_with fail
  refine (G1.out).mono ?_
  clear G1
  rintro e w5 ⟨rfl, hb5⟩
  have i6 := i5.below hb5
  replace H := below_on H R hb5
  clear i5 hb5
  go_wp2_with fail
  refine (loose (get_ok A1 8 c1 0 (dg n 8) _ i6 (dg_lt n 8) (by omega) (by omega) l1)).mono ?_
  rintro e w6 ⟨rfl, hb6⟩
  have i7 := i6.below hb6
  replace H := below_on H R hb6
  clear i6 hb6
  have G3 := Lib.hid (loose (get_ok A1 8 c1 8 (dg n 8) w6 i7 (dg_lt n 8) (by omega) (Nat.le_refl _) l1))
  generalize hZ : val ((dg n 8).take 8) = Z at G3
  have HZ := Lib.hid hZ
  clear hZ i7
  have hc0 : ¬ c1 = 0 := by omega
  go_wp2_with fail
  refine (G3.out).mono ?_
  clear G3
  rintro e w7 ⟨rfl, hb7⟩
  replace H := below_on H R hb7
  clear hb7
  go_wp2_with fail
  refine (alive_any _).mono ?_
  rintro e w8 ⟨rfl, hb8⟩
  go_wp2_with fail
  go_ret
  exact ⟨congrArg (fun b => Ending.returned (.bool b)) (eight_fin HX.out HZ.out), below_on H R hb8⟩

end Go.Proofs.Ytfgjkddfomddlaa
