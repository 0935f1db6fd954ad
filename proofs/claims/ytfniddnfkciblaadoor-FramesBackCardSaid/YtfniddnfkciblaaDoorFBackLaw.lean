/-
  FramesBack: what is put is got, whatever stands behind it; cut anywhere it is too short.
-/
import Derived.Test.YtfniddnfkciblaaDoorFAlive
import Derived.Test.YtfniddnfkciblaaDoorLRow
import Derived.Test.YtfniddnfkciblaaDoorLSameBytes
import Derived.Deep.RegionLaw
import Derived.Deep.Cut
namespace Go.Proofs.YtfniddnfkciblaaDoor
open Go.RowKit

/-- 'append(s, l...)' in a region that draws, the length under a name. -/
theorem step_app_to {ops : Array Oper} {o : Oper} {a : Act} {w : World} {K : Act → World → Prop} {Q : Exit → Act → World → Prop} {E : Prop} (hw : Region.wanted o (yielded ops a.tmps) = true) (s x : Operand)
    (ho : o.op = .call { callee := .builtin .append, args := #[s, x], argTypes := #[23, 23] })
    (base : Nat) (A : Option Addr) (n c : Nat) (xs : List Nat) (hs : a.eval s = .slice A n c) (hown : w.ownsRow base 5 1 (.slice A n c) n (bvs xs))
    (A2 : Option Addr) (m c2 : Nat) (ys : List Nat) (hx : a.eval x = .slice A2 m c2) (hin : In w A2 m ys) (hnil : A2 = none → c2 = 0) (k : Nat) (hk : n + m = k) (hle : n + m ≤ 140737488355328) (hbase : base ≤ w.heap.size)
    (h : ∀ A' c' w', w'.ownsRow base 5 1 (.slice A' k c') k (bvs (xs ++ ys)) → Below base w w' → K (a.put o.dst (.slice A' k c')) w') :
    if Region.wanted o (yielded ops a.tmps) = true then Oper.wp Tryd.prog o a w K Q else E := by
  subst hk
  rw [if_pos hw]
  obtain ⟨A', c', w', hr, h2, h3⟩ := run_app w o.type base A n c xs hown A2 m c2 ys hin hnil hle hbase
  unfold Oper.wp execOp
  simp only [ho, resolve, invoke, builtin, Sem.run_bind, Sem.run_pure, Result.andThen_ok, List.map_toArray, List.map_cons, List.map_nil, hs, hx, hr]
  exact h A' c' w' h2 h3

theorem back_get (E : Errs) {num : Nat} (hnum : num < 18446744073709551616) {n : Nat} {xs : List Nat} (hl : xs.length = n) (hn : n ≤ 256) (hx : ∀ x ∈ xs, x < 256) (zs : List Nat) (hz : ∀ x ∈ zs, x < 256) (A : Option Addr) (K c : Nat) (w : World) (hE : Laid w E)
    (hin : In w A K (frameL num xs ++ zs)) (hA : A = none → c = 0) (hc : K ≤ c) (hK : K ≤ 1000000000000) :
    Calls Tryd.prog 9 #[.slice A K c] w fun e w' => ∃ A' c', e = .returned (.tuple #[.int .u64 (num : Int), .slice A' n c', .int .i64 ((secs n : Nat) : Int), .int .i64 0]) ∧ In w' A' n xs ∧ Below w.heap.size w w' :=
  (get_frame E A K c _ w hE hin (bytes_append (frameL_lt num xs hx) hz) (fun e => by have := hA e; omega) hc hK).mono fun e w' ⟨hb, h⟩ => by
    have h1 := cutL_frame (num := num) (b := xs) (ys := zs) hnum (by omega)
    have h2 := numOf_frame (num := num) (b := xs) (ys := zs) hnum
    have h3 := cntOf_frame (num := num) (b := xs) (ys := zs) (by omega)
    have h4 := recOf_frame (num := num) (b := xs) (ys := zs) (by omega)
    rcases h with ⟨b, hc, _⟩ | ⟨_, A', c', he, ho⟩
    · rw [h1] at hc; cases hc
    · rw [h2, h3, hl] at he
      rw [h3, h4, hl] at ho
      exact ⟨A', c', he, In.of_own ho, hb⟩
theorem back_cut (E : Errs) {num : Nat} {xs : List Nat} (hn : xs.length ≤ 256) (hx : ∀ x ∈ xs, x < 256) (A : Option Addr) (k c : Nat) (w : World) (hE : Laid w E) (hk : k < (frameL num xs).length)
    (hin : In w A k ((frameL num xs).take k)) (hA : A = none → c = 0) (hc : k ≤ c) (hK : k ≤ 1000000000000) :
    Calls Tryd.prog 9 #[.slice A k c] w fun e w' => e = .returned (.tuple #[.int .u64 0, .slice none 0 0, .int .i64 0, .int .i64 5]) ∧ Below w.heap.size w w' :=
  (get_frame E A k c _ w hE hin (fun x h => frameL_lt num xs hx x (List.mem_of_mem_take h)) (fun e => by have := hA e; omega) hc hK).mono fun e w' ⟨hb, h⟩ => by
    have h1 := cutL_cut (num := num) hn hk
    rcases h with ⟨b, hc, he⟩ | ⟨hc, _⟩
    · rw [h1] at hc; cases hc; exact ⟨he, hb⟩
    · rw [h1] at hc; cases hc

set_option maxRecDepth 100000 in
set_option maxHeartbeats 2000000 in
theorem framesBack_law (w : World) (E : Errs) (hE : Laid w E) {num : Nat} (hnum : num < 18446744073709551616) {A : Option Addr} {n c : Nat} {xs : List Nat} (hx : Came w A n c xs) {B : Option Addr} {m d : Nat} {zs : List Nat} (hz : Came w B m d zs) {q : Nat} (hq : q < 65536) (hm63 : m ≤ 9223372036854775807) :
    Calls Tryd.prog 3 #[.int .u64 (num : Int), .slice A n c, .agg #[.slice B m d, .int .u16 (q : Int)]] w fun e W' => e = .returned (.bool true) ∧ Below w.heap.size w W' := by
  have HE := Lib.hid hE
  have HX := Lib.hid hx
  have HZ := Lib.hid hz
  clear hE hx hz
  have hw1 := below_alloc w (.cells #[.slice B m d, .int .u16 (q : Int)] 26)
  have hrow := World.alloc_heap_new w (.cells #[.slice B m d, .int .u16 (q : Int)] 26)
  by_cases hn : 256 < n
  · have C1 := Lib.hid (fun W => put_great num n c A W hn)
    have hni : (256 : Int) < (n : Int) := by omega
    go_enter Tryd.func3, Tryd.ntmps3
    go_wp2_with fail
    obtain ⟨w1, hw⟩ : ∃ w1, w.alloc (.cells #[.slice B m d, .int .u16 (q : Int)] 26) = w1 := ⟨_, rfl⟩
    rw [hw] at hw1 ⊢
    have B1 := Lib.hid hw1
    clear hw hrow hw1
    refine (C1.out _).mono ?_
    rintro e w2 ⟨rfl, rfl⟩
    go_wp2_with fail
    refine (alive_any E _ (HE.out.below B1.out)).mono ?_
    rintro e w3 ⟨rfl, hb3⟩
    have B3 := Lib.hid (below_next B1.out (Nat.le_refl _) hb3)
    clear hb3
    go_wp2_with fail
    go_ret
    exact ⟨rfl, B3.out⟩
  · have hn2 : n ≤ 256 := by omega
    have C1 := Lib.hid (fun (W : World) (hb : Below w.heap.size w W) => put_frame num n c A xs W hn2 (HX.out.in_.below hb) HX.out.lt (fun e => by have := HX.out.nil e; have := HX.out.cap; omega) HX.out.cap)
    unfold PutPost at C1
    have hfl := frameL_length num xs
    rw [HX.out.in_.len] at hfl
    have hs1 := secs_pos n
    have hs2 := secs_ge n
    have hs3 := secs_lt n
    have hs5 := secs_le n hn2
    have CG := Lib.hid (fun (A' : Option Addr) (K c' : Nat) (W : World) (hE : Laid W E) (hin : In W A' K (frameL num xs ++ zs)) => back_get E hnum HX.out.in_.len hn2 HX.out.lt zs HZ.out.lt A' K c' W hE hin)
    have CC := Lib.hid (fun (A' : Option Addr) (k c' : Nat) (W : World) (hE : Laid W E) => back_cut E (num := num) (xs := xs) (by rw [HX.out.in_.len]; exact hn2) HX.out.lt A' k c' W hE)
    obtain ⟨sq, hsq⟩ : ∃ sq, secs n = sq := ⟨_, rfl⟩
    rw [hsq] at C1 hfl hs1 hs2 hs3 hs5 CG
    obtain ⟨L, hL⟩ : ∃ L, 64 * sq = L := ⟨_, rfl⟩
    rw [hL] at C1 hfl hs2 hs3
    rw [hfl] at CC
    have hL1 : 0 < L := by omega
    have hL2 : L ≤ 320 := by omega
    have hLi : 64 * (sq : Int) = (L : Int) := by omega
    clear hsq
    have HFL := Lib.hid hfl
    clear hfl
    by_cases hm : 3000 < m
    · have hmi : (3000 : Int) < (m : Int) := by omega
      have hL0 : (0 : Int) < (L : Int) := by omega
      go_enter Tryd.func3, Tryd.ntmps3
      go_wp2_with fail
      obtain ⟨w1, hw⟩ : ∃ w1, w.alloc (.cells #[.slice B m d, .int .u16 (q : Int)] 26) = w1 := ⟨_, rfl⟩
      rw [hw] at hw1 hrow ⊢
      have B1 := Lib.hid hw1
      obtain ⟨T, hT⟩ : ∃ T, w.heap.size = T := ⟨_, rfl⟩
      rw [hT] at hrow ⊢
      refine (C1.out _ B1.out).mono ?_
      rintro e w2 ⟨A2, c2, rfl, ho2, hb2⟩
      have hrow2 : w2.heap[T]? = some (.cells #[.slice B m d, .int .u16 (q : Int)] 26 (0, 0)) := (hb2.block T (Array.getElem?_eq_some_iff.1 hrow).1).trans hrow
      have a0 : w2.cell? ⟨T, 0, none⟩ = some (.slice B m d) := by rw [cell_of_row _ T 0 _ _ _ hrow2]; rfl
      have B2 := Lib.hid (below_next B1.out (Nat.le_refl _) hb2)
      clear hw hrow hw1 hT ho2 hb2 hrow2
      go_wp2_with fail
      refine (alive_any E _ (HE.out.below B2.out)).mono ?_
      rintro e w3 ⟨rfl, hb3⟩
      have B3 := Lib.hid (below_next B2.out (Nat.le_refl _) hb3)
      clear hb3
      go_wp2_with fail
      go_ret
      exact ⟨rfl, B3.out⟩
    · have hmi : ¬ (3000 : Int) < (m : Int) := by omega
      have hm2 : m ≤ 3000 := by omega
      have dm : decide ((3000 : Int) < (m : Int)) = false := by simp; omega
      have dL : ((L : Int) == 0) = false := by simp; omega
      go_enter Tryd.func3, Tryd.ntmps3
      go_wp2_with fail
      obtain ⟨w1, hw⟩ : ∃ w1, w.alloc (.cells #[.slice B m d, .int .u16 (q : Int)] 26) = w1 := ⟨_, rfl⟩
      rw [hw] at hw1 hrow ⊢
      have B1 := Lib.hid hw1
      obtain ⟨T, hT⟩ : ∃ T, w.heap.size = T := ⟨_, rfl⟩
      rw [hT] at hrow ⊢
      refine (C1.out _ B1.out).mono ?_
      rintro e w2 ⟨A2, c2, rfl, ho2, hb2⟩
      have hrow2 : w2.heap[T]? = some (.cells #[.slice B m d, .int .u16 (q : Int)] 26 (0, 0)) := (hb2.block T (Array.getElem?_eq_some_iff.1 hrow).1).trans hrow
      have a0 : w2.cell? ⟨T, 0, none⟩ = some (.slice B m d) := by rw [cell_of_row _ T 0 _ _ _ hrow2]; rfl
      have HA1 : Hid (∀ W : World, Below w2.heap.size w2 W → W.cell? ⟨T, 0, none⟩ = some (.slice B m d) ∧ W.cell? ⟨T, 1, none⟩ = some (.int .u16 (q : Int))) := fun W hb => by
        have hr := (hb.block T (Array.getElem?_eq_some_iff.1 hrow2).1).trans hrow2
        exact ⟨by rw [cell_of_row _ T 0 _ _ _ hr]; rfl, by rw [cell_of_row _ T 1 _ _ _ hr]; rfl⟩
      have B2 := Lib.hid (below_next B1.out (Nat.le_refl _) hb2)
      have I2 := Lib.hid (In.of_own ho2)
      have hcap2 : L ≤ c2 := own_cap ho2
      have N2 := Lib.hid (own_nil ho2)
      have J2 := Lib.hid (HZ.out.in_.below B2.out)
      clear hw hrow hw1 hT ho2 hb2 hrow2
      obtain ⟨K, hK⟩ : ∃ K, L + m = K := ⟨_, rfl⟩
      have HKK := Lib.hid hK
      clear hK
      go_wp2_with fail
      go_region_law (first
        | (refine step_app_to (by rfl) (.const (.slice none 0 0)) (.tmp 61) (by rfl) w2.heap.size none 0 0 [] (by rfl) (World.ownsRow_nil _ _ _ _) A2 L c2 (frameL num xs) (by rfl) (by exact ⟨I2.out.len, I2.out.rd⟩) N2.out L (by omega) (by omega) (by exact Nat.le_refl _) ?_; intro A3 c3 w3 ho3 hb3; have q3 := (HA1.out w3 (by exact (Below.refl _ w2).drew.trans hb3)).1)
        | (refine step_app_to (by rfl) (.tmp 62) (.tmp 64) (by rfl) w2.heap.size A3 L c3 (frameL num xs) (by rfl) (by exact ho3) B m d zs (by rfl) (by exact J2.out.below (by exact (Below.refl _ w2).drew.trans hb3)) HZ.out.nil K HKK.out (by omega) (by exact hb3.size) ?_; intro A4 c4 w4 ho4 hb4)
        | (go_simp; go_at_call 9; refine (CG.out A4 K c4 w4 (HE.out.below (by exact below_next B2.out (Nat.le_refl _) (((Below.refl _ w2).drew.trans hb3).trans hb4))) (In.of_own ho4) (own_nil ho4) (own_cap ho4) (by have := HKK.out; omega)).mono ?_; rintro e w5 ⟨A5, c5, rfl, hi5, hb5⟩))
      all_goals
        have D5 : Hid (Below w2.heap.size w2 w5) := below_next (((Below.refl _ w2).drew.trans hb3).trans hb4) (Nat.le_refl _) hb5
        have B5 : Hid (Below w.heap.size w w5) := below_next B2.out (Nat.le_refl _) D5.out
        have I5 := Lib.hid hi5
        have a5 := (HA1.out w5 D5.out).2
        clear ho3 hb3 q3 ho4 hb4 hi5 hb5 CG
        obtain ⟨k, hk⟩ : ∃ k, q % L = k := ⟨_, rfl⟩
        have hkL : k < L := by rw [← hk]; exact Nat.mod_lt _ hL1
        have hkt : Int.tmod (q : Int) (L : Int) = (k : Int) := by rw [Int.tmod_eq_emod_of_nonneg (by omega), ← hk]; simp
        have hki : (k : Int) ≤ (L : Int) := by omega
        have hkc : k ≤ c2 := by omega
        have dL0 : ((L : Int) == 0) = false := by simp; omega
        have C5 := Lib.hid (CC.out A2 k c2 w5 (HE.out.below B5.out) hkL (((I2.out.take (Nat.le_of_lt hkL))).below D5.out) N2.out hkc (by omega))
        clear hk CC
        go_wp2_with fail
        refine C5.out.mono ?_
        rintro e w6 ⟨rfl, hb6⟩
        have B6 := Lib.hid (below_next B5.out (Nat.le_refl _) hb6)
        have I6 := Lib.hid (I5.out.below hb6)
        clear hb6
        go_wp2_with fail
        refine (alive_any E _ (HE.out.below B6.out)).mono ?_
        rintro e w7 ⟨rfl, hb7⟩
        have B7 := Lib.hid (below_next B6.out (Nat.le_refl _) hb7)
        have I7 := Lib.hid (I6.out.below hb7)
        have J7 := Lib.hid (HX.out.in_.below B7.out)
        clear hb7
        have f1 : ((L : Int) - 64 < 18 + (n : Int)) := by omega
        have f2 : (18 + (n : Int) ≤ (L : Int)) := by omega
        have f3 : (sq : Int) ≤ 5 := by omega
        go_wp2_with fail
        refine (looseN (sameBytes_yes _ _ n _ _ _ _ I7.out J7.out (by omega))).mono ?_
        rintro e w8 ⟨rfl, hb8⟩
        have B8 := Lib.hid (below_next B7.out (Nat.le_refl _) hb8)
        clear hb8
        go_wp2_with fail
        go_ret
        exact ⟨rfl, B8.out⟩

end Go.Proofs.YtfniddnfkciblaaDoor
