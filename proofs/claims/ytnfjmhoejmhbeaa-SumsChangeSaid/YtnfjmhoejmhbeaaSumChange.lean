/-
  SumsChange: two neighbours change their places.
-/
import Derived.Test.YtnfjmhoejmhbeaaSumAlive
import Derived.Test.YtnfjmhoejmhbeaaSumMine
import Derived.Test.YtnfjmhoejmhbeaaLRow
import Derived.Test.YtnfjmhoejmhbeaaSumHalves
import Derived.Deep.Cut
import Derived.Deep.QuietTactic
import Derived.BigQuiet
namespace Go.Proofs.Ytnfjmhoejmhbeaa
open Go.RowKit

/-- One cell is read, in every world of a class. -/
theorem quiet_load_byte {ops : Array Oper} {o : Oper} {a : Act} {C : World → Prop} {K : Act → Prop} {E : Prop} (hw : Region.wanted o (yielded ops a.tmps) = true) (x : Operand) (ho : o.op = .load 5 x)
    (ad : Addr) (hx : a.eval x = .pointer (some ad)) (v : Value) (hc : ∀ w, C w → w.cell? ad = some v) (h : K (a.put o.dst v)) :
    if Region.wanted o (yielded ops a.tmps) = true then o.quiet Try.prog a C K else E := by
  rw [if_pos hw]
  refine ⟨v, fun w hC => ?_, h⟩
  have hagg : (isAgg 5).run Try.prog w = .ok false w := by
    unfold isAgg
    rw [Sem.run_bind, run_underlying Try.underlying5 w]
    rfl
  unfold Oper.quietAt execOp
  have hl : (loadVar 5 ad).run Try.prog w = .ok v w := by simp [loadVar, Sem.run_bind, hagg, hc w hC]
  simp only [ho, hx, Instr.loadAt, Instr.sureAddr, Sem.run_bind, Sem.run_pure, Result.andThen_ok, hl]
  exact ⟨rfl, rfl⟩

theorem split_two_at {xs : List Nat} {k x y : Nat} (h1 : xs[k]? = some x) (h2 : xs[k + 1]? = some y) : xs = xs.take k ++ x :: y :: xs.drop (k + 2) := by
  have e := List.take_append_drop k xs
  rw [drop_cons_of h1, drop_cons_of h2] at e
  exact e.symm
theorem set_two_at {xs : List Nat} {k x y : Nat} (h1 : xs[k]? = some x) (h2 : xs[k + 1]? = some y) : (xs.set k y).set (k + 1) x = xs.take k ++ y :: x :: xs.drop (k + 2) := by
  have hk : k < xs.length := (List.getElem?_eq_some_iff.1 h1).1
  have hl : (xs.take k).length = k := by rw [List.length_take]; omega
  obtain ⟨ps, hps⟩ : ∃ ps, xs.take k = ps := ⟨_, rfl⟩
  obtain ⟨qs, hqs⟩ : ∃ qs, xs.drop (k + 2) = qs := ⟨_, rfl⟩
  have e := split_two_at h1 h2
  rw [hps, hqs] at e
  rw [hps] at hl
  rw [hps, hqs, e, List.set_append_right _ _ (by omega), hl, Nat.sub_self, List.set_cons_zero, List.set_append_right _ _ (by omega), hl, show k + 1 - k = 0 + 1 by omega, List.set_cons_succ, List.set_cons_zero]

set_option maxRecDepth 100000 in
set_option maxHeartbeats 2000000 in
theorem sumsChange_law (w : World) {A : Option Addr} {n c : Nat} {xs : List Nat} (h : Came w A n c xs) {at_ : Nat} (hat : at_ < 65536) :
    Calls Try.prog 6 #[.slice A n c, .int .u16 (at_ : Int)] w fun e w' => e = .returned (.bool true) ∧ Below w.heap.size w w' := by
  go_enter Try.func6, Try.ntmps6
  by_cases hn : 2 ≤ n ∧ n ≤ 50000
  · obtain ⟨hn0, hn1⟩ := hn
    obtain ⟨k, hk⟩ : ∃ k, at_ % (n - 1) = k := ⟨_, rfl⟩
    have hkn : k < n - 1 := by rw [← hk]; exact Nat.mod_lt _ (by omega)
    have q0 : Int.tmod (at_ : Int) ((n : Int) - 1) = (k : Int) := by
      rw [Int.tmod_eq_emod_of_nonneg (by omega), ← hk, show (n : Int) - 1 = ((n - 1 : Nat) : Int) by omega]; simp
    obtain ⟨k1, hk1⟩ : ∃ k1, k + 1 = k1 := ⟨_, rfl⟩
    have q01 : (k : Int) + 1 = (k1 : Int) := by omega
    have hk1n : k1 < n := by omega
    obtain ⟨ad, x, rfl, hxk, hcell⟩ := h.in_.at_ (show k < n by omega)
    obtain ⟨ad', y, e, hyk, hcell'⟩ := h.in_.at_ hk1n
    cases e
    have hx256 : x < 256 := h.lt x (List.mem_of_getElem? hxk)
    have hy256 : y < 256 := h.lt y (List.mem_of_getElem? hyk)
    have hsp := split_two_at hxk (by rw [hk1]; exact hyk)
    have hst := set_two_at hxk (by rw [hk1]; exact hyk)
    rw [hk1] at hst
    have hlow := swap_low (xs.take k) (xs.drop (k + 2)) x y
    have hhigh := swap_high (xs.take k) (xs.drop (k + 2)) (y := y) hx256
    have hsame := swap_same (xs.take k) (xs.drop (k + 2)) hx256 hy256
    rw [← hsp, ← hst] at hlow hhigh hsame
    have hlt : ∀ v ∈ (xs.set k y).set k1 x, v < 256 := fun v hv => (List.mem_or_eq_of_mem_set hv).elim (fun hv => (List.mem_or_eq_of_mem_set hv).elim (h.lt v) (fun e => by omega)) (fun e => by omega)
    clear hsp hst
    obtain ⟨m, hm⟩ : ∃ m, ofL xs = m := ⟨_, rfl⟩
    obtain ⟨r, hr⟩ : ∃ r, ofL ((xs.set k y).set k1 x) = r := ⟨_, rfl⟩
    have lm : m < 4294967296 := by rw [← hm]; exact onL_lt 1 xs
    have lr : r < 4294967296 := by rw [← hr]; exact onL_lt 1 _
    have C1 := Lib.hid (fun W (b : Below w.heap.size w W) => of_any (some ad) n c xs W (h.in_.below b) h.lt (fun e => by cases e) h.cap (by omega))
    have C2 := Lib.hid (fun W g d (b : Mine W g n d ((xs.set k y).set k1 x)) => of_any (some ⟨g, 0, none⟩) n d ((xs.set k y).set k1 x) W b.in_ hlt (fun e => by cases e) b.cap (by omega))
    have HB := Lib.hid (fun W (b : Below w.heap.size w W) => (b.cell (p := ad.add k) (by rw [block_add]; have := World.block_lt_of_cell? w _ hcell; rw [block_add] at this; exact this)).trans hcell)
    have HB1 := Lib.hid (fun W (b : Below w.heap.size w W) => (b.cell (p := ad.add k1) (by rw [block_add]; have := World.block_lt_of_cell? w _ hcell'; rw [block_add] at this; exact this)).trans hcell')
    rw [hm] at C1
    rw [hr] at C2
    rw [hm, hr] at hlow hhigh hsame
    obtain ⟨ml, hml⟩ : ∃ l, m % 65536 = l := ⟨_, rfl⟩
    obtain ⟨mh, hmh⟩ : ∃ l, m / 65536 = l := ⟨_, rfl⟩
    obtain ⟨rh, hrh⟩ : ∃ l, r / 65536 = l := ⟨_, rfl⟩
    obtain ⟨mo, hmo⟩ : ∃ l, 65521 + y - x = l := ⟨_, rfl⟩
    rw [hml] at hlow
    rw [hmh, hrh, hmo] at hhigh
    have bl : ml < 65536 ∧ mh < 65536 ∧ rh < 65536 ∧ mo < 65536 * 2 := by omega
    have q1 : (65521 : Int) + (y : Int) - (x : Int) = (mo : Int) := by omega
    have q2 : (m : Int) % 65536 = (ml : Int) := by omega
    have q3 : (r : Int) % 65536 = (ml : Int) := by omega
    have q4 : (m : Int) / 65536 = (mh : Int) := by omega
    have q5 : (r : Int) / 65536 = (rh : Int) := by omega
    have q6 : ((mh : Int) + (mo : Int)) % 65521 = (rh : Int) := by omega
    have HI := Lib.hid h.in_
    have Q := Lib.hid (And.intro q1 (And.intro q2 (And.intro q3 (And.intro q4 (And.intro q5 (And.intro q6 (And.intro bl hsame)))))))
    have HK := Lib.hid (And.intro hxk hyk)
    clear hm hr hml hmh hrh hmo hlow hhigh hsame bl q1 q2 q3 q4 q5 q6 hxk hyk h hk hk1
    go_upto_region 5 with (at_builtin; refine wpList_app _ rfl (.const (.slice none 0 0)) (.tmp 25) rfl w.heap.size none 0 0 [] rfl (World.ownsRow_nil _ _ _ _) (some ad) n c xs rfl HI.out (fun e => by cases e) (by omega) (Nat.le_refl _) ?_; intro A3 c3 w3 ho3 hb3; rw [List.nil_append, Nat.zero_add] at ho3; obtain ⟨g, rfl, hg, mine⟩ := mine_of ho3 (by omega); clear ho3)
    have hc3 := HB1.out _ hb3
    have cg := mine.cell HK.out.1
    have fg := mine.free k
    have mine4 := mine.set k y
    have bel4 : Below w.heap.size w (w3.setCell ⟨g, k, none⟩ (.int .u8 (y : Int))) := hb3.setCell (by show w.heap.size ≤ g; exact hg) _
    have HM := Lib.hid mine4
    have HB4 := Lib.hid bel4
    clear mine mine4 bel4 hb3 hcell hcell'
    go_upto_region 6 with (fail)
    obtain ⟨w4, hw4⟩ : ∃ w4, w4 = w3.setCell ⟨g, k, none⟩ (.int .u8 (y : Int)) := ⟨_, rfl⟩
    rw [← hw4] at HM HB4 ⊢
    clear hw4 cg fg hc3
    have hc4 := HB.out _ HB4.out
    have cg := HM.out.cell (k := k1) (x := y) (by rw [List.getElem?_set_ne (by omega)]; exact HK.out.2)
    have fg := HM.out.free k1
    have HM5 := Lib.hid (HM.out.set k1 x)
    have bel5 : Below w.heap.size w (w4.setCell ⟨g, k1, none⟩ (.int .u8 (x : Int))) := HB4.out.setCell (by show w.heap.size ≤ g; exact hg) _
    have HB5 := Lib.hid bel5
    clear bel5
    go_upto_region 7 with (fail)
    obtain ⟨w5, hw5⟩ : ∃ w5, w5 = w4.setCell ⟨g, k1, none⟩ (.int .u8 (x : Int)) := ⟨_, rfl⟩
    rw [← hw5] at HM5 HB5 ⊢
    clear hw5 cg fg hc4 HM HB4
    go_upto_region 9 with (first
      | (go_at_call 10; refine (C1.out _ HB5.out).mono ?_; rintro e w6 ⟨rfl, b6⟩; have bel6 := below_then HB5.out (Nat.le_refl _) b6; have mine6 := HM5.out.below b6)
      | (go_at_call 10; refine (C2.out _ _ _ mine6).mono ?_; rintro e w7 ⟨rfl, b7⟩; have bel7 := below_then bel6 (Nat.le_refl _) b7))
    have hc7 := HB.out _ bel7
    have hd7 := HB1.out _ bel7
    have HB7 := Lib.hid bel7
    have q1 := Q.out.1
    clear b6 bel6 mine6 b7 bel7 q0 hlt hat
    go_quiet (fail)
    have HB8 : Hid (Below w.heap.size w (w7.drewN nq)) := Lib.hid (by have := HB7.out; exact ⟨this.os, this.tape, this.output, this.size, this.block⟩)
    obtain ⟨w8, hw8⟩ : ∃ w8, w8 = w7.drewN nq := ⟨_, rfl⟩
    rw [← hw8] at HB8 ⊢
    clear hw8 hc7 hd7 HB7 q1
    have q2 := Q.out.2.1
    have q3 := Q.out.2.2.1
    have q4 := Q.out.2.2.2.1
    have q5 := Q.out.2.2.2.2.1
    have q6 := Q.out.2.2.2.2.2.1
    have b1 := Q.out.2.2.2.2.2.2.1.1
    have b2 := Q.out.2.2.2.2.2.2.1.2.1
    have b3 := Q.out.2.2.2.2.2.2.1.2.2.1
    have b4 := Q.out.2.2.2.2.2.2.1.2.2.2
    have CX := Lib.hid (fun (W : World) (hC : Below w8.heap.size w8 W) => HB.out W (below_then HB8.out (Nat.le_refl _) hC))
    have CY := Lib.hid (fun (W : World) (hC : Below w8.heap.size w8 W) => HB1.out W (below_then HB8.out (Nat.le_refl _) hC))
    have CA := Lib.hid (fun (W : World) (hC : Below w8.heap.size w8 W) => (alive_any W).mono fun e w'' (hh : e = .returned (.bool true) ∧ Below W.heap.size W w'') => (⟨hh.1, below_then hC (Nat.le_refl _) hh.2⟩ : e = .returned (.bool true) ∧ Below w8.heap.size w8 w''))
    have e1 : ((m : Int) == (r : Int)) = decide (x = y) := by
      have := Q.out.2.2.2.2.2.2.2
      by_cases hxy : x = y
      · rw [decide_eq_true hxy, this.2 hxy]; simp
      · rw [decide_eq_false hxy]
        have : ¬ m = r := fun e => hxy (this.1 e)
        simp; omega
    have e2 : ((x : Int) == (y : Int)) = decide (x = y) := by
      by_cases hxy : x = y
      · rw [decide_eq_true hxy, hxy]; simp
      · rw [decide_eq_false hxy]; simp; omega
    have t2 : Int.tmod (m : Int) 65536 = (ml : Int) := by rw [Int.tmod_eq_emod_of_nonneg (by omega)]; exact q2
    have t3 : Int.tmod (r : Int) 65536 = (ml : Int) := by rw [Int.tmod_eq_emod_of_nonneg (by omega)]; exact q3
    have t4 : Int.tdiv (m : Int) 65536 = (mh : Int) := by rw [Int.tdiv_eq_ediv_of_nonneg (by omega)]; exact q4
    have t5 : Int.tdiv (r : Int) 65536 = (rh : Int) := by rw [Int.tdiv_eq_ediv_of_nonneg (by omega)]; exact q5
    obtain ⟨su, hsu⟩ : ∃ su, mh + mo = su := ⟨_, rfl⟩
    have t6 : IntKind.u32.wrap ((mh : Int) + (mo : Int)) = (su : Int) := by rw [IntKind.wrap_u32]; omega
    have t7 : Int.tmod (su : Int) 65521 = (rh : Int) := by rw [Int.tmod_eq_emod_of_nonneg (by omega), ← q6, ← hsu]; simp
    have t8 : IntKind.i64.wrap (k1 : Int) = (k1 : Int) := by rw [IntKind.wrap_i64]; omega
    have kn : k < n := by omega
    have v1 : IntKind.u32.wrap (ml : Int) = (ml : Int) := by rw [IntKind.wrap_u32]; omega
    have v2 : IntKind.u32.wrap (mh : Int) = (mh : Int) := by rw [IntKind.wrap_u32]; omega
    have v3 : IntKind.u32.wrap (rh : Int) = (rh : Int) := by rw [IntKind.wrap_u32]; omega
    have v4 : IntKind.u32.wrap (mo : Int) = (mo : Int) := by rw [IntKind.wrap_u32]; omega
    clear q2 q3 q4 q5 q6 hsu
    obtain ⟨bb, hbb⟩ : ∃ b, decide (x = y) = b := ⟨_, rfl⟩
    rw [hbb] at e1 e2
    clear hbb hn0 hn1 C1 C2 HI
    go_wp2_with fail
    refine wp_region_quiet (C := fun w' => Below w8.heap.size w8 w') (by kernel_rfl) (by kernel_rfl) ((Below.refl _ _).drew) ?_
    refine wpQuiet_step (fun K hK => ?_)
    go_simp
    refine ⟨.bool true, CA.out, hK _ ?_⟩
    clear hK K
    repeat (refine wpQuiet_step (fun K hK => ?_); go_simp; refine ⟨_, fun _ _ => rfl, hK _ ?_⟩; clear hK K)
    refine wpQuiet_step (fun K hK => ?_)
    refine quiet_load_byte (by rfl) (.tmp 84) rfl (ad.add k) rfl (.int .u8 (x : Int)) CX.out (hK _ ?_)
    clear hK K
    repeat (refine wpQuiet_step (fun K hK => ?_); go_simp; refine ⟨_, fun _ _ => rfl, hK _ ?_⟩; clear hK K)
    refine wpQuiet_step (fun K hK => ?_)
    refine quiet_load_byte (by rfl) (.tmp 89) rfl (ad.add k1) rfl (.int .u8 (y : Int)) CY.out (hK _ ?_)
    clear hK K
    repeat (refine wpQuiet_step (fun K hK => ?_); go_simp; refine ⟨_, fun _ _ => rfl, hK _ ?_⟩; clear hK K)
    refine wpQuiet_nil ?_
    intro w9 hb9
    go_wp2_with fail
    go_ret
    exact ⟨rfl, below_then HB8.out (Nat.le_refl _) hb9⟩
  · by_cases h0 : n < 2
    · clear hn
      go_wp2_with fail
      refine (alive_any _).mono ?_
      rintro e w2 ⟨rfl, b2⟩
      go_wp2_with fail
      go_ret
      exact ⟨rfl, b2⟩
    · have h5 : ¬ n ≤ 50000 := by omega
      clear hn
      go_wp2_with fail
      refine (alive_any _).mono ?_
      rintro e w2 ⟨rfl, b2⟩
      go_wp2_with fail
      go_ret
      exact ⟨rfl, b2⟩

end Go.Proofs.Ytnfjmhoejmhbeaa
