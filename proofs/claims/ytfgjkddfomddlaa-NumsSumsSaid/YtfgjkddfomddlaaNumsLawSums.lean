/-
  NumsSums: of sums ahead of which fewer are told the first ones are got; what stands behind is a row of the others; of one that is cut nothing is.
-/
import Derived.Test.YtfgjkddfomddlaaNumsSame2
import Derived.Deep.RegionLaw
namespace Go.Proofs.Ytfgjkddfomddlaa
open Go.RowKit

theorem run_app (w : World) (ty : TypeId) (base : Nat) (A : Option Addr) (n c : Nat) (xs : List Nat) (hown : w.ownsRow base 5 1 (.slice A n c) n (bvs xs))
    (A2 : Option Addr) (m c2 : Nat) (ys : List Nat) (hin : In w A2 m ys) (hnil : A2 = none → c2 = 0) (hle : n + m ≤ 140737488355328) (hbase : base ≤ w.heap.size) :
    ∃ A' c' w', (Builtin.append_ #[23, 23] ty #[.slice A n c, .slice A2 m c2]).run Try.prog w = .ok (.slice A' (n + m) c') w' ∧
      w'.ownsRow base 5 1 (.slice A' (n + m) c') (n + m) (bvs (xs ++ ys)) ∧ Below base w w' := by
  obtain ⟨i0, hi, hz0, hz1, hz2⟩ := info_parts infoByte
  cases A2 with
  | none =>
    obtain rfl := hnil rfl
    have hy : ys = [] := by
      cases ys with
      | nil => rfl
      | cons y ys =>
        obtain ⟨ad, e, _⟩ := hin.rd 0 y rfl
        cases e
    subst hy
    obtain rfl : m = 0 := hin.len.symm
    exact ⟨A, c, w, run_append_owned_none (P := Try.prog) (w := w) base 23 ty 5 i0 1 Try.underlying23 hi _ n (bvs xs) hown, by simpa using hown, Below.refl _ _⟩
  | some ad =>
    obtain ⟨v', w', hr, h2, h3, _⟩ := run_append_own (P := Try.prog) w base 23 ty 5 i0 _ 1 1 Try.underlying23 hi hz0 hz1 hz2 rfl (by decide) _ n (bvs xs) hown ad m c2 (bvs ys) (by rw [bvs_length, hin.len]; simp)
      (fun j u hu => by
        rw [bvs_get] at hu
        obtain ⟨y, hy, rfl⟩ := Option.map_eq_some_iff.1 hu
        obtain ⟨ad', e, hc⟩ := hin.rd j y hy
        cases e
        exact hc) (bvs_oneCell ys) (by unfold maxLen; omega) (by omega) hbase
    rw [← bvs_append] at h2
    obtain ⟨A', c', rfl⟩ := own_form h2
    exact ⟨A', c', w', hr, h2, (Below.refl _ _).grown h3 hbase fun k hk => (hown.lt k hk).1⟩

theorem step_app {ops : Array Oper} {o : Oper} {a : Act} {w : World} {K : Act → World → Prop} {Q : Exit → Act → World → Prop} {E : Prop} (hgd : o.guard = none) (s x : Operand)
    (ho : o.op = .call { callee := .builtin .append, args := #[s, x], argTypes := #[23, 23] })
    (base : Nat) (A : Option Addr) (n c : Nat) (xs : List Nat) (hs : a.eval s = .slice A n c) (hown : w.ownsRow base 5 1 (.slice A n c) n (bvs xs))
    (A2 : Option Addr) (m c2 : Nat) (ys : List Nat) (hx : a.eval x = .slice A2 m c2) (hin : In w A2 m ys) (hnil : A2 = none → c2 = 0) (hle : n + m ≤ 140737488355328) (hbase : base ≤ w.heap.size)
    (h : ∀ A' c' w', w'.ownsRow base 5 1 (.slice A' (n + m) c') (n + m) (bvs (xs ++ ys)) → Below base w w' → K (a.put o.dst (.slice A' (n + m) c')) w') :
    if Region.wanted o (yielded ops a.tmps) = true then Oper.wp Try.prog o a w K Q else E := by
  have hw : Region.wanted o (yielded ops a.tmps) = true := by simp [Region.wanted, hgd]
  rw [if_pos hw]
  obtain ⟨A', c', w', hr, h2, h3⟩ := run_app w o.type base A n c xs hown A2 m c2 ys hin hnil hle hbase
  unfold Oper.wp execOp
  simp only [ho, resolve, invoke, builtin, Sem.run_bind, Sem.run_pure, Result.andThen_ok, List.map_toArray, List.map_cons, List.map_nil, hs, hx, hr]
  exact h A' c' w' h2 h3

theorem InS.take {w : World} {A : Option Addr} {n : Nat} {ys : List Nat} (h : InS w A n ys) {k : Nat} (hk : k ≤ n) : InS w A k (ys.take (32 * k)) :=
  ⟨by rw [List.length_take, h.len]; omega, h.rd.take _⟩
theorem InS.of_own {w : World} {base : Nat} {A : Option Addr} {n c : Nat} {ys : List Nat} {e : TypeId} (h : w.ownsRow base e 32 (.slice A n c) n (bvs ys)) : InS w A n ys := by
  refine ⟨by have := h.1; rw [bvs_length] at this; omega, fun j x hx => ?_⟩
  rcases h.2 with ⟨e1, h0⟩ | ⟨g, cap, cur, e1, _⟩
  · have hl := h.1
    rw [bvs_length, h0] at hl
    have : ys = [] := List.eq_nil_of_length_eq_zero (by omega)
    subst this
    simp at hx
  · cases e1
    exact ⟨_, rfl, h.cells rfl j _ (by rw [bvs_get, hx]; rfl)⟩
theorem InS.cut {w : World} {A : Option Addr} {n : Nat} {ys : List Nat} (h : InS w A n ys) {k c : Nat} (hk : k ≤ n) (hc : n ≤ c) :
    InS w (if c = k then A else A.map (·.add (k * 32))) (n - k) (ys.drop (32 * k)) := by
  refine ⟨by rw [List.length_drop, h.len]; omega, ?_⟩
  by_cases hn : n = k
  · have : ys.drop (32 * k) = [] := List.eq_nil_of_length_eq_zero (by rw [List.length_drop, h.len]; omega)
    rw [this]
    exact Rd.nil _ _
  · rw [if_neg (by omega)]
    obtain ⟨ad, rfl, _⟩ := h.rd.at_ (show 0 < ys.length by rw [h.len]; omega)
    have := h.rd.drop (32 * k)
    rw [Nat.mul_comm k 32]
    exact this

/-- A slice of bytes from k on, its address under a name: nobody asks whether the room behind it is empty. -/
theorem cut_name {A : Option Addr} {n c k : Nat} (hk : k ≤ n) :
    ∃ B, (∀ W : World, (Instr.slice 23 (.slice A n c) (some (.int .i64 (k : Int))) none none).run Try.prog W = .ok (.slice B (n - k) (c - k)) W) ∧
      B = (if c = k then A else A.map (·.add k)) := by
  refine ⟨_, fun W => ?_, rfl⟩
  obtain ⟨i0, hi, hz0, hz1, hz2⟩ := info_parts infoByte
  have he : Try.prog.elem 23 = 5 := by kernel_rfl
  rw [run_slice_l W 23 A n c (by rw [he]; exact Try.underlying23) .i64 (k : Int) (by omega) (by omega), he]
  simp [sizeOf, typeInfo, hi, hz1, sliced]

/-- The same of sums. -/
theorem cut_nameS {A : Option Addr} {n c k : Nat} (hk : k ≤ n) :
    ∃ B, (∀ W : World, (Instr.slice 37 (.slice A n c) (some (.int .i64 (k : Int))) none none).run Try.prog W = .ok (.slice B (n - k) (c - k)) W) ∧
      B = (if c = k then A else A.map (·.add (k * 32))) := by
  refine ⟨_, fun W => ?_, rfl⟩
  obtain ⟨i0, hi, hz0, hz1, hz2⟩ := info_parts infoSum
  have he : Try.prog.elem 37 = 47 := by kernel_rfl
  rw [run_slice_l W 37 A n c (by rw [he]; exact Try.underlying37) .i64 (k : Int) (by omega) (by omega), he]
  simp [sizeOf, typeInfo, hi, hz1, sliced]

set_option maxRecDepth 100000 in
set_option maxHeartbeats 1000000 in
theorem sums_long (A : Option Addr) (n c : Nat) (t u : Int) (w : World) (h : 600 < n) :
    Calls Try.prog 6 #[.slice A n c, .int .u16 t, .int .u16 u] w fun e w' => e = .returned (.bool true) ∧ Below w.heap.size w w' := by
  go_enter Try.func6, Try.ntmps6
  go_wp2_with fail
  refine (alive_any _).mono ?_
  rintro e w3 ⟨rfl, hb3⟩
  go_wp2_with fail
  go_ret
  exact ⟨rfl, hb3⟩

set_option maxRecDepth 100000 in
set_option maxHeartbeats 1000000 in
theorem sums_any (A : Option Addr) (n c t u k v : Nat) (ys : List Nat) (w : World) (hin : InS w A n ys) (hx : ∀ x ∈ ys, x < 256) (hc : n ≤ c) (h : n ≤ 600) (ht : t < 65536) (hu : u < 65536)
    (hk : (t : Int) % ((n : Int) + 1) = (k : Int)) (hv : (u : Int) % (2 + 32 * (n : Int)) = (v : Int)) :
    Calls Try.prog 6 #[.slice A n c, .int .u16 (t : Int), .int .u16 (u : Int)] w fun e w' => e = .returned (.bool true) ∧ Below w.heap.size w w' := by
  have R := Nat.le_refl w.heap.size
  have hkn : k ≤ n := by
    have := Int.emod_lt_of_pos (t : Int) (show (0 : Int) < (n : Int) + 1 by omega)
    omega
  have hvl : v < 2 + 32 * n := by
    have := Int.emod_lt_of_pos (u : Int) (show (0 : Int) < 2 + 32 * (n : Int) by omega)
    omega
  have HV := Lib.hid hv
  clear hv
  go_enter Try.func6, Try.ntmps6
  go_wp2_with fail
  try rw [hk]
  clear hk
  have P1 := Lib.hid (putSums_any none A 0 0 n c [] ys w (In.none_ _ _) hin hc (by omega) (by omega))
  rw [Nat.zero_add, List.nil_append] at P1
  refine (P1.out).mono ?_
  clear P1
  rintro e w1 ⟨A1, c1, rfl, ho1, hb1⟩
  have i1 : In w1 A1 (2 + 32 * n) (dg n 2 ++ ys) := In.of_own ho1
  have l1 := own_cap ho1
  have z1 := own_nil ho1
  have j1 := hin.below hb1
  clear ho1
  obtain ⟨B2, hs2, hB2⟩ := cut_name (A := A1) (c := c1) (show 2 ≤ 2 + 32 * n by omega)
  have i2 := i1.cut (k := 2) (show 2 ≤ 2 + 32 * n by omega) l1
  rw [← hB2, drop_dg, show 2 + 32 * n - 2 = 32 * n by omega] at i2
  have z2 : B2 = none → c1 - 2 = 0 := by
    intro e
    rw [hB2] at e
    split at e
    · omega
    · cases hA1 : A1 with
      | none => have := z1 hA1; omega
      | some a => rw [hA1] at e; cases e
  rw [show ((2 : Nat) : Int) = 2 from rfl] at hs2
  clear hB2
  have i3 : In w1.drew B2 (32 * n) ys := ⟨i2.len, i2.rd⟩
  clear i2
  go_wp2_with fail
  have kw : IntKind.u64.wrap (k : Int) = (k : Int) := by rw [IntKind.wrap_u64]; omega
  go_region_law (first
    | (go_simp; go_at_call 7; refine (put_nil k 2 (by omega) _).mono ?_; rintro e w2 ⟨A2, c2, rfl, ho2, hb2⟩)
    | (refine step_app rfl (.tmp 40) (.tmp 42) rfl w1.heap.size A2 2 c2 (dg k 2) (by rfl) ho2 B2 (32 * n) (c1 - 2) ys (by rfl) (i3.below hb2) z2 (by omega) hb2.size ?_; intro A3 c3 w3 ho3 hb3)
    | (go_simp; go_at_call 13; refine (getSums_ok A3 (2 + 32 * n) c3 k (dg k 2 ++ ys) w3 (In.of_own ho3) (bytes_append (dg_lt k 2) hx) (by omega) (own_cap ho3) (val_told k 2 ys (by omega)) (by omega) (by omega) (by omega)).mono ?_; rintro e w4 ⟨A4, c4, rfl, ho4, hb4⟩))
  rw [drop_dg] at ho4
  have j4 : InS w4 A4 k (ys.take (32 * k)) := InS.of_own ho4
  have H1 : Below w1.heap.size w1 w4 := below_on ((((Below.refl _ w1).drew).trans hb2).trans hb3) (Nat.le_refl _) hb4
  have H := below_on hb1 R H1
  have j5 := (j1.below H1).take hkn
  have j6 := j1.below H1
  have i6 := i1.below H1
  clear H1 hb1 hb2 hb3 hb4 ho2 ho3 ho4 i1 i3 j1 kw hs2 z2
  have t1 : (k : Int) ≤ (c : Int) := by omega
  go_wp2_with fail
  refine (looseN (sameSums_yes A4 A k c4 c (ys.take (32 * k)) _ j4 j5 (by omega))).mono ?_
  rintro e w5 ⟨rfl, hb5⟩
  replace H := below_on H R hb5
  replace j6 := j6.below hb5
  replace i6 := i6.below hb5
  clear hb5 j4 j5
  obtain ⟨m, hm⟩ : ∃ m, n = k + m := ⟨n - k, by omega⟩
  obtain ⟨B3, hs3, hB3⟩ := cut_name (A := A1) (c := c1) (show 2 + 32 * k ≤ 2 + 32 * n by omega)
  have i7 := i6.cut (k := 2 + 32 * k) (c := c1) (by omega) l1
  rw [← hB3, ← List.drop_drop, drop_dg, show 2 + 32 * n - (2 + 32 * k) = 32 * m by omega] at i7
  have z3 : B3 = none → c1 - (2 + 32 * k) = 0 := by
    intro e
    rw [hB3] at e
    split at e
    · omega
    · cases hA1 : A1 with
      | none => have := z1 hA1; omega
      | some a => rw [hA1] at e; cases e
  rw [show ((2 + 32 * k : Nat) : Int) = 2 + 32 * (k : Int) by omega, show 2 + 32 * n - (2 + 32 * k) = 32 * m by omega] at hs3
  have i8 : In w5.drew B3 (32 * m) (ys.drop (32 * k)) := ⟨i7.len, i7.rd⟩
  clear hB3 i7
  have m1 : (n : Int) - (k : Int) = (m : Int) := by omega
  have m2 : m ≤ n := by omega
  have HM := Lib.hid hm
  clear hm
  go_wp2_with fail
  have mw : IntKind.i64.wrap (m : Int) = (m : Int) := IntWalk.i64_in _ (by omega)
  have mv : IntKind.u64.wrap (m : Int) = (m : Int) := by rw [IntKind.wrap_u64]; omega
  go_region_law (first
    | (go_simp; go_at_call 7; refine (put_nil m 2 (by omega) _).mono ?_; rintro e w6 ⟨A6, c6, rfl, ho6, hb6⟩)
    | (refine step_app rfl (.tmp 71) (.tmp 74) rfl w5.heap.size A6 2 c6 (dg m 2) (by rfl) ho6 B3 (32 * m) (c1 - (2 + 32 * k)) (ys.drop (32 * k)) (by rfl) (i8.below hb6) z3 (by omega) hb6.size ?_; intro A7 c7 w7 ho7 hb7)
    | (go_simp; go_at_call 13; refine (getSums_ok A7 (2 + 32 * m) c7 m (dg m 2 ++ ys.drop (32 * k)) w7 (In.of_own ho7) (bytes_append (dg_lt m 2) (fun x hx' => hx x (List.mem_of_mem_drop hx'))) (by omega) (own_cap ho7) (val_told m 2 _ (by omega)) (by omega) (by omega) (by omega)).mono ?_; rintro e w8 ⟨A8, c8, rfl, ho8, hb8⟩))
  rw [drop_dg, List.take_of_length_le (by rw [List.length_drop, hin.len]; have := HM.out; omega)] at ho8
  have j8 : InS w8 A8 m (ys.drop (32 * k)) := InS.of_own ho8
  have H1 : Below w5.heap.size w5 w8 := below_on ((((Below.refl _ w5).drew).trans hb6).trans hb7) (Nat.le_refl _) hb8
  replace H := below_on H R H1
  replace j6 := j6.below H1
  replace i6 := i6.below H1
  clear H1 hb6 hb7 hb8 ho6 ho7 ho8 i8 mw mv hs3 z3
  obtain ⟨B9, hs9, hB9⟩ := cut_nameS (A := A) (c := c) hkn
  have j9 := j6.cut (k := k) (c := c) hkn hc
  rw [← hB9, show n - k = m by have := HM.out; omega] at j9
  rw [show n - k = m by have := HM.out; omega] at hs9
  clear hB9 j6
  have S9 : Hid (Calls Try.prog 13 #[.slice A1 v c1] w8 fun e w' => e = .returned (.tuple #[.slice none 0 0, .int .i64 0, .int .i64 5]) ∧ Below w8.heap.size w8 w') := by
    by_cases h2 : v < 2
    · exact loose3 (getSums_short2 A1 v c1 w8 h2)
    · refine loose3 (getSums_short A1 v c1 n ((dg n 2 ++ ys).take v) w8 (i6.take (by omega)) (fun x hx' => bytes_append (dg_lt n 2) hx x (List.mem_of_mem_take hx')) (by omega) (by omega) ?_ (by omega) (by omega) (by omega))
      rw [List.take_take, Nat.min_eq_left (by omega)]
      exact val_told n 2 ys (by omega)
  have hv := HV.out
  have v1 : 0 ≤ (v : Int) := by omega
  have v2 : (v : Int) ≤ (c1 : Int) := by omega
  clear i6
  go_wp2_with fail
  refine (S9.out).mono ?_
  rintro e w9 ⟨rfl, hb9⟩
  replace H := below_on H R hb9
  replace j8 := j8.below hb9
  replace j9 := j9.below hb9
  clear hb9 S9 hv v1 v2 HV
  go_wp2_with fail
  refine (alive_any _).mono ?_
  rintro e w10 ⟨rfl, hb10⟩
  replace H := below_on H R hb10
  replace j8 := j8.below hb10
  replace j9 := j9.below hb10
  clear hb10
  have q1 : ((2 + 32 * (m : Int) : Int) == 2 + 32 * (m : Int)) = true := by simp
  go_wp2_with fail
  refine (looseN (sameSums_yes A8 B9 m c8 (c - k) (ys.drop (32 * k)) _ j8 j9 (by omega))).mono ?_
  rintro e w11 ⟨rfl, hb11⟩
  go_wp2_with fail
  go_ret
  exact ⟨rfl, below_on H R hb11⟩

end Go.Proofs.Ytfgjkddfomddlaa
