/-
  almonerlaw14.KeysSums.
-/
import Derived.Test.YtnaebjdccngeoaaDoorJAlive
import Derived.Test.YtnaebjdccngeoaaDoorJOf
import Derived.Test.YtnaebjdccngeoaaDoorJAsked
import Derived.Test.YtnaebjdccngeoaaDoorLLitConv
namespace Go.Proofs.YtnaebjdccngeoaaDoor
open Go.RowKit

theorem own_byteJ (W : World) (x base : Nat) (z : Int) (hz : z = (x : Int)) (hb : base ≤ W.heap.size) : (W.alloc (.cells #[.int .u8 z] 5)).ownsRow base 5 1 (.slice (some ⟨W.heap.size, 0, none⟩) 1 1) 1 (bvs [x]) := by
  subst hz
  exact ⟨rfl, .inr ⟨W.heap.size, 1, #[.int .u8 (x : Int)], rfl, hb, World.alloc_heap_new W _, Nat.le_refl _, by unfold maxLen; omega, rfl, rfl⟩⟩

set_option maxRecDepth 100000 in
set_option maxHeartbeats 8000000 in
theorem keysSums_law (w : World) (hk : Knows w) (hks : Starts w) {t n c : Nat} {z d : Int} {a b v : List Nat} {A : Option Addr} (ht : t < 4294967296) (hz : -9223372036854775808 ≤ z ∧ z ≤ 9223372036854775807) (_ : -9223372036854775808 ≤ d ∧ d ≤ 9223372036854775807)
    (la : a.length = 32) (ba : ∀ x ∈ a, x < 256) (lb : b.length = 32) (bb : ∀ x ∈ b, x < 256) (hv : Came w A n c v) :
    Calls Tryd.prog 7 #[.agg (askedL t z d a b A n c).toArray] w fun e w' => e = .returned (.bool true) ∧ Below w.heap.size w w' := by
  obtain ⟨g, hg⟩ : ∃ g, w.heap.size = g := ⟨_, rfl⟩
  have c1 := asked_new w (t := t) (z := z) (d := d) (A := A) (n := n) (c := c) la lb
  have b1 := below_alloc w (.cells (askedL t z d a b A n c).toArray 43)
  obtain ⟨w1, hw1⟩ : ∃ x, x = w.alloc (.cells (askedL t z d a b A n c).toArray 43) := ⟨_, rfl⟩
  rw [← hw1] at c1 b1
  have b01 := b1
  rw [hg] at c1 b01
  have HW := Lib.hid hw1
  have HG := Lib.hid hg
  have HC := Lib.hid (fun (W : World) (hW : Below w1.heap.size w1 W) => show AskedAt W g t z d a b A n c from c1.below hW)
  have H1 := Lib.hid b01
  have CA := Lib.hid (fun (W : World) (hW : Below w1.heap.size w1 W) => jalive_any W ((hk.below b1).below hW) ((hks.below b1).below hW))
  have hcn := c1.v
  have HL := Lib.hid (And.intro la (And.intro ba (And.intro lb bb)))
  have HV := Lib.hid (hv.below b1)
  have HK := Lib.hid (And.intro (hk.below b1) (hks.below b1))
  rw [hg]
  clear hw1 hg c1 b1 b01 hk hks la ba lb bb hv
  by_cases hbig : 20000 < n
  · have hb2 : (20000 : Int) < (n : Int) := by omega
    go_enter Tryd.func7, Tryd.ntmps7
    go_upto_region 1 with fail
    rw [← HW.out]
    rw [HG.out]
    go_wp2_with fail
    refine (CA.out w1 (Below.refl _ _)).mono ?_
    rintro e w2 ⟨rfl, hb2⟩
    go_wp2_with fail
    go_ret
    exact ⟨rfl, below_on H1.out (Nat.le_of_eq HG.out.symm) hb2⟩
  · have hb2 : ¬ (20000 : Int) < (n : Int) := by omega
    have hsl := run_arr_all Tryd.underlying36
    go_enter Tryd.func7, Tryd.ntmps7
    go_upto_region 1 with fail
    rw [← HW.out]
    rw [HG.out]
    go_upto_region 3 with fail
    clear hcn
    go_cut [3] from 11 to 17 (fun s3 wx => ∃ A' c', s3 = .slice A' 65 c' ∧ Hid (In wx A' 65 ([4] ++ a ++ b) ∧ 65 ≤ c' ∧ Below w1.heap.size w1 wx))
    case first =>
      have hSx1 : Below w1.heap.size w1 w1.drew := (Below.refl _ _).drew
      refine wp_region_held_drew (S := fun W => Below w1.heap.size w1 W) (by kernel_rfl) (hSx1) (fun _ => ?_)
      change wpAnyH _ _ _ _ _ _ _ _ w1.drew
      generalize w1.drew = Wx2 at hSx1 ⊢
      refine' wpAnyH_take (i := 1) (oi := _) (v := _) ?hix3 (by kernel_rfl) ?hfx3 ?hrx3 ?hQx3 ?hyx3 (hSx1) ?restx3
      case hix3 => (simp only [List.getElem?_toArray, List.getElem?_cons_zero, List.getElem?_cons_succ]; rfl)
      case hfx3 => kernel_rfl
      case hrx3 => kernel_rfl
      case hQx3 => exact fun _ _ _ h => h
      case hyx3 => refine Or.inl ⟨by rfl, ?_⟩; intro W hSw; go_simp; try with_reducible rfl
      try simp only [Act.put, List.setIfInBounds_toArray, List.set_cons_zero, List.set_cons_succ]
      refine' wpAnyH_take (i := 2) (oi := _) (v := _) ?hix4 (by kernel_rfl) ?hfx4 ?hrx4 ?hQx4 ?hyx4 (hSx1) ?restx4
      case hix4 => (simp only [List.getElem?_toArray, List.getElem?_cons_zero, List.getElem?_cons_succ]; rfl)
      case hfx4 => kernel_rfl
      case hrx4 => kernel_rfl
      case hQx4 => exact fun _ _ _ h => h
      case hyx4 => refine Or.inl ⟨by rfl, ?_⟩; intro W hSw; go_simp; try with_reducible rfl
      try simp only [Act.put, List.setIfInBounds_toArray, List.set_cons_zero, List.set_cons_succ]
      refine' wpAnyH_take (i := 4) (oi := _) (v := _) ?hix5 (by kernel_rfl) ?hfx5 ?hrx5 ?hQx5 ?hyx5 (hSx1) ?restx5
      case hix5 => (simp only [List.getElem?_toArray, List.getElem?_cons_zero, List.getElem?_cons_succ]; rfl)
      case hfx5 => kernel_rfl
      case hrx5 => kernel_rfl
      case hQx5 => exact fun _ _ _ h => h
      case hyx5 => refine Or.inl ⟨by rfl, ?_⟩; intro W hSw; go_simp; try with_reducible rfl
      try simp only [Act.put, List.setIfInBounds_toArray, List.set_cons_zero, List.set_cons_succ]
      refine' wpAnyH_take (i := 5) (oi := _) (v := _) ?hix6 (by kernel_rfl) ?hfx6 ?hrx6 ?hQx6 ?hyx6 (hSx1) ?restx6
      case hix6 => (simp only [List.getElem?_toArray, List.getElem?_cons_zero, List.getElem?_cons_succ]; rfl)
      case hfx6 => kernel_rfl
      case hrx6 => kernel_rfl
      case hQx6 => exact fun _ _ _ h => h
      case hyx6 => refine Or.inl ⟨by rfl, ?_⟩; intro W hSw; go_simp; try with_reducible rfl
      try simp only [Act.put, List.setIfInBounds_toArray, List.set_cons_zero, List.set_cons_succ]
      refine wpAnyH_ready (rs := [0]) (by kernel_rfl) (by simp) ?_
      refine' (AllReadyH.cons (o := _) ?hix7 (fun K hK => ?_) AllReadyH.nil)
      case hix7 => (simp only [List.getElem?_toArray, List.getElem?_cons_zero]; rfl)
      go_simp
      have hBx8 := Below.alloc hSx1 (Below.size hSx1) (.cells #[.int .u8 4] 5)
      have hOx10 := (show (Wx2.alloc (.cells #[.int .u8 4] 5)).ownsRow w1.heap.size 5 1 (.slice (some ⟨Wx2.heap.size, 0, none⟩) 1 1) 1 (bvs [4]) from own_byteJ Wx2 4 w1.heap.size 4 rfl (Below.size hSx1))
      have hbx11 := below_alloc Wx2 (.cells #[.int .u8 4] 5)
      clear hbx11
      refine hK.out _ _ (hBx8) (fun _ => ?_)
      clear hK K
      try simp only [Act.put, List.setIfInBounds_toArray, List.set_cons_zero, List.set_cons_succ]
      generalize (Wx2.alloc (.cells #[.int .u8 4] 5)) = Wx9 at hBx8 hOx10 ⊢
      refine wpAnyH_ready (rs := [3]) (by kernel_rfl) (by simp) ?_
      refine' (AllReadyH.cons (o := _) ?hix12 (fun K hK => ?_) AllReadyH.nil)
      case hix12 => (simp only [List.getElem?_toArray, List.getElem?_cons_zero, List.getElem?_cons_succ]; rfl)
      refine step_app_at (by rfl) (.tmp 11) (.tmp 13) (by rfl) w1.heap.size (some ⟨Wx2.heap.size, 0, none⟩) 1 1 ([4]) (by rfl) hOx10 (some ⟨g, 3, none⟩) 32 32 (a) (by rfl) (⟨HL.out.1, fun j x hj => ⟨_, rfl, (HC.out Wx9 (id hBx8)).l j x hj⟩⟩) (fun e => by cases e) (by omega) (Below.size hBx8) ?_
      intro Ax13 cx14 Wx15 owx16 nxx17
      have hBx18 := nxx17.below hOx10 hBx8 (Nat.le_refl _) (Below.size hBx8)
      refine hK.out _ _ hBx18 (fun _ => ?_)
      clear hK K nxx17
      try simp only [Act.put, List.setIfInBounds_toArray, List.set_cons_zero, List.set_cons_succ]
      refine wpAnyH_ready (rs := [6]) (by kernel_rfl) (by simp) ?_
      refine' (AllReadyH.cons (o := _) ?hix19 (fun K hK => ?_) AllReadyH.nil)
      case hix19 => (simp only [List.getElem?_toArray, List.getElem?_cons_zero, List.getElem?_cons_succ]; rfl)
      refine step_app_at (by rfl) (.tmp 14) (.tmp 16) (by rfl) w1.heap.size Ax13 33 cx14 ([4] ++ a) (by rfl) owx16 (some ⟨g, 35, none⟩) 32 32 (b) (by rfl) (⟨HL.out.2.2.1, fun j x hj => ⟨_, rfl, (HC.out Wx15 (id hBx18)).r j x hj⟩⟩) (fun e => by cases e) (by omega) (Below.size hBx18) ?_
      intro Ax20 cx21 Wx22 owx23 nxx24
      have hBx25 := nxx24.below owx16 hBx18 (Nat.le_refl _) (Below.size hBx18)
      refine hK.out _ _ hBx25 (fun _ => ?_)
      clear hK K nxx24
      try simp only [Act.put, List.setIfInBounds_toArray, List.set_cons_zero, List.set_cons_succ]
      refine' wpAnyH_take (i := 7) (oi := _) (v := _) ?hix26 (by kernel_rfl) ?hfx26 ?hrx26 ?hQx26 ?hyx26 (hBx25) ?restx26
      case hix26 => (simp only [List.getElem?_toArray, List.getElem?_cons_zero, List.getElem?_cons_succ]; rfl)
      case hfx26 => kernel_rfl
      case hrx26 => kernel_rfl
      case hQx26 => exact fun _ _ _ h => h
      case hyx26 => refine Or.inl ⟨by rfl, ?_⟩; intro W hSw; go_simp; try with_reducible rfl
      try simp only [Act.put, List.setIfInBounds_toArray, List.set_cons_zero, List.set_cons_succ]
      refine wpAnyH_done (by kernel_rfl) ?_ _
      go_wp2_with fail
      go_meet
      case rel => exact ⟨_, _, rfl, Lib.hid ⟨In.of_own owx23, own_cap owx23, hBx25⟩⟩
    case rest =>
    obtain ⟨X, cX, rfl, HX⟩ := hcut
    have HB3 := Lib.hid HX.out.2.2
    obtain ⟨w3, hw3⟩ : ∃ x, wc = x := ⟨_, rfl⟩
    rw [hw3] at HX HB3 ⊢
    clear hw3
    have HY5 := Lib.hid (fun (W : World) (hW : Below w3.heap.size w3 W) => show W.cell? ⟨g, 67, none⟩ = some (.slice A n c) from (HC.out W (below_on HB3.out (Nat.le_refl _) hW)).v)
    go_upto_region 4 with fail
    go_cut [4] from 18 to 24 (fun s4 wx => ∃ A' c', s4 = .slice A' (33 + n) c' ∧ Hid (In wx A' (33 + n) ([3] ++ a ++ v) ∧ 33 + n ≤ c' ∧ Below w3.heap.size w3 wx))
    case first =>
      have hSy1 : Below w3.heap.size w3 w3.drew := (Below.refl _ _).drew
      refine wp_region_held_drew (S := fun W => Below w3.heap.size w3 W) (by kernel_rfl) (hSy1) (fun _ => ?_)
      change wpAnyH _ _ _ _ _ _ _ _ w3.drew
      generalize w3.drew = Wy2 at hSy1 ⊢
      refine' wpAnyH_take (i := 1) (oi := _) (v := _) ?hiy3 (by kernel_rfl) ?hfy3 ?hry3 ?hQy3 ?hyy3 (hSy1) ?resty3
      case hiy3 => (simp only [List.getElem?_toArray, List.getElem?_cons_zero, List.getElem?_cons_succ]; rfl)
      case hfy3 => kernel_rfl
      case hry3 => kernel_rfl
      case hQy3 => exact fun _ _ _ h => h
      case hyy3 => refine Or.inl ⟨by rfl, ?_⟩; intro W hSw; go_simp; try with_reducible rfl
      try simp only [Act.put, List.setIfInBounds_toArray, List.set_cons_zero, List.set_cons_succ]
      refine' wpAnyH_take (i := 2) (oi := _) (v := _) ?hiy4 (by kernel_rfl) ?hfy4 ?hry4 ?hQy4 ?hyy4 (hSy1) ?resty4
      case hiy4 => (simp only [List.getElem?_toArray, List.getElem?_cons_zero, List.getElem?_cons_succ]; rfl)
      case hfy4 => kernel_rfl
      case hry4 => kernel_rfl
      case hQy4 => exact fun _ _ _ h => h
      case hyy4 => refine Or.inl ⟨by rfl, ?_⟩; intro W hSw; go_simp; try with_reducible rfl
      try simp only [Act.put, List.setIfInBounds_toArray, List.set_cons_zero, List.set_cons_succ]
      refine' wpAnyH_take (i := 4) (oi := _) (v := _) ?hiy5 (by kernel_rfl) ?hfy5 ?hry5 ?hQy5 ?hyy5 (hSy1) ?resty5
      case hiy5 => (simp only [List.getElem?_toArray, List.getElem?_cons_zero, List.getElem?_cons_succ]; rfl)
      case hfy5 => kernel_rfl
      case hry5 => kernel_rfl
      case hQy5 => exact fun _ _ _ h => h
      case hyy5 => refine Or.inl ⟨by rfl, ?_⟩; intro W hSw; go_simp; try with_reducible rfl
      try simp only [Act.put, List.setIfInBounds_toArray, List.set_cons_zero, List.set_cons_succ]
      refine' wpAnyH_take (i := 5) (oi := _) (v := .slice A n c) ?hiy6 (by kernel_rfl) ?hfy6 ?hry6 ?hQy6 ?hyy6 (hSy1) ?resty6
      case hiy6 => (simp only [List.getElem?_toArray, List.getElem?_cons_zero, List.getElem?_cons_succ]; rfl)
      case hfy6 => kernel_rfl
      case hry6 => kernel_rfl
      case hQy6 => exact fun _ _ _ h => h
      case hyy6 => refine Or.inl ⟨by rfl, ?_⟩; intro W hSw; have hcc := HY5.out W hSw; go_simp; try with_reducible rfl
      try simp only [Act.put, List.setIfInBounds_toArray, List.set_cons_zero, List.set_cons_succ]
      refine wpAnyH_ready (rs := [0]) (by kernel_rfl) (by simp) ?_
      refine' (AllReadyH.cons (o := _) ?hiy7 (fun K hK => ?_) AllReadyH.nil)
      case hiy7 => (simp only [List.getElem?_toArray, List.getElem?_cons_zero]; rfl)
      go_simp
      have hBy8 := Below.alloc hSy1 (Below.size hSy1) (.cells #[.int .u8 3] 5)
      have hOy10 := (show (Wy2.alloc (.cells #[.int .u8 3] 5)).ownsRow w3.heap.size 5 1 (.slice (some ⟨Wy2.heap.size, 0, none⟩) 1 1) 1 (bvs [3]) from own_byteJ Wy2 3 w3.heap.size 3 rfl (Below.size hSy1))
      have hby11 := below_alloc Wy2 (.cells #[.int .u8 3] 5)
      clear hby11
      refine hK.out _ _ (hBy8) (fun _ => ?_)
      clear hK K
      try simp only [Act.put, List.setIfInBounds_toArray, List.set_cons_zero, List.set_cons_succ]
      generalize (Wy2.alloc (.cells #[.int .u8 3] 5)) = Wy9 at hBy8 hOy10 ⊢
      refine wpAnyH_ready (rs := [3]) (by kernel_rfl) (by simp) ?_
      refine' (AllReadyH.cons (o := _) ?hiy12 (fun K hK => ?_) AllReadyH.nil)
      case hiy12 => (simp only [List.getElem?_toArray, List.getElem?_cons_zero, List.getElem?_cons_succ]; rfl)
      refine step_app_at (by rfl) (.tmp 18) (.tmp 20) (by rfl) w3.heap.size (some ⟨Wy2.heap.size, 0, none⟩) 1 1 ([3]) (by rfl) hOy10 (some ⟨g, 3, none⟩) 32 32 (a) (by rfl) (⟨HL.out.1, fun j x hj => ⟨_, rfl, (HC.out Wy9 (below_on HB3.out (Nat.le_refl _) hBy8)).l j x hj⟩⟩) (fun e => by cases e) (by omega) (Below.size hBy8) ?_
      intro Ay13 cy14 Wy15 owy16 nxy17
      have hBy18 := nxy17.below hOy10 hBy8 (Nat.le_refl _) (Below.size hBy8)
      refine hK.out _ _ hBy18 (fun _ => ?_)
      clear hK K nxy17
      try simp only [Act.put, List.setIfInBounds_toArray, List.set_cons_zero, List.set_cons_succ]
      refine wpAnyH_ready (rs := [6]) (by kernel_rfl) (by simp) ?_
      refine' (AllReadyH.cons (o := _) ?hiy19 (fun K hK => ?_) AllReadyH.nil)
      case hiy19 => (simp only [List.getElem?_toArray, List.getElem?_cons_zero, List.getElem?_cons_succ]; rfl)
      refine step_app_at (by rfl) (.tmp 21) (.tmp 23) (by rfl) w3.heap.size Ay13 33 cy14 ([3] ++ a) (by rfl) owy16 A n c (v) (by rfl) (((HV.out.below HB3.out).below hBy18).in_) (HV.out.nil) (by omega) (Below.size hBy18) ?_
      intro Ay20 cy21 Wy22 owy23 nxy24
      have hBy25 := nxy24.below owy16 hBy18 (Nat.le_refl _) (Below.size hBy18)
      refine hK.out _ _ hBy25 (fun _ => ?_)
      clear hK K nxy24
      try simp only [Act.put, List.setIfInBounds_toArray, List.set_cons_zero, List.set_cons_succ]
      refine' wpAnyH_take (i := 7) (oi := _) (v := _) ?hiy26 (by kernel_rfl) ?hfy26 ?hry26 ?hQy26 ?hyy26 (hBy25) ?resty26
      case hiy26 => (simp only [List.getElem?_toArray, List.getElem?_cons_zero, List.getElem?_cons_succ]; rfl)
      case hfy26 => kernel_rfl
      case hry26 => kernel_rfl
      case hQy26 => exact fun _ _ _ h => h
      case hyy26 => refine Or.inl ⟨by rfl, ?_⟩; intro W hSw; go_simp; try with_reducible rfl
      try simp only [Act.put, List.setIfInBounds_toArray, List.set_cons_zero, List.set_cons_succ]
      refine wpAnyH_done (by kernel_rfl) ?_ _
      go_wp2_with fail
      go_meet
      case rel => exact ⟨_, _, rfl, Lib.hid ⟨In.of_own owy23, own_cap owy23, hBy25⟩⟩
    case rest =>
    obtain ⟨Y, cY, rfl, HY⟩ := hcut
    have HB4 := Lib.hid (below_on HB3.out (Nat.le_refl _) HY.out.2.2)
    have HX4 := Lib.hid (show In wc X 65 ([4] ++ a ++ b) from HX.out.1.below HY.out.2.2)
    obtain ⟨w4, hw4⟩ : ∃ x, wc = x := ⟨_, rfl⟩
    rw [hw4] at HY HB4 HX4 ⊢
    clear hw4
    obtain ⟨zb, hzb⟩ : ∃ zb : Nat, IntKind.u8.wrap z = (zb : Int) := ⟨(z % 256).toNat, by rw [IntKind.wrap_u8]; omega⟩
    have hzs : dg (resN z) 1 = [zb] := by
      rw [IntKind.wrap_u8] at hzb
      show [resN z / 1 % 256] = [zb]
      unfold resN
      congr 1
      omega
    have hzlt : zb < 256 := by rw [IntKind.wrap_u8] at hzb; omega
    have HZS := Lib.hid (And.intro hzs hzlt)
    have ht64 : IntKind.u64.wrap (t : Int) = (t : Int) := by rw [IntKind.wrap_u64]; omega
    clear hzs hzlt
    have HT4 := Lib.hid (fun (W : World) (hW : Below w4.heap.size w4 W) => show W.cell? ⟨g, 0, none⟩ = some (.int .u32 (t : Int)) from (HC.out W (below_on HB4.out (Nat.le_refl _) hW)).tenant)
    have HR4 := Lib.hid (fun (W : World) (hW : Below w4.heap.size w4 W) => show W.cell? ⟨g, 1, none⟩ = some (.int .i64 z) from (HC.out W (below_on HB4.out (Nat.le_refl _) hW)).resource)
    go_upto_region 5 with fail
    go_cut [5] from 25 to 35 (fun s5 wx => ∃ A' c', s5 = .slice A' 8 c' ∧ Hid (In wx A' 8 (keyText ++ dg t 4 ++ [zb]) ∧ 8 ≤ c' ∧ Below w4.heap.size w4 wx))
    case first =>
      have hSk1 : Below w4.heap.size w4 w4.drew := (Below.refl _ _).drew
      refine wp_region_held_drew (S := fun W => Below w4.heap.size w4 W) (by kernel_rfl) (hSk1) (fun _ => ?_)
      change wpAnyH _ _ _ _ _ _ _ _ w4.drew
      generalize w4.drew = Wk2 at hSk1 ⊢
      refine' wpAnyH_take (i := 2) (oi := _) (v := _) ?hik3 (by kernel_rfl) ?hfk3 ?hrk3 ?hQk3 ?hyk3 (hSk1) ?restk3
      case hik3 => (simp only [List.getElem?_toArray, List.getElem?_cons_zero, List.getElem?_cons_succ]; rfl)
      case hfk3 => kernel_rfl
      case hrk3 => kernel_rfl
      case hQk3 => exact fun _ _ _ h => h
      case hyk3 => refine Or.inl ⟨by rfl, ?_⟩; intro W hSw; go_simp; try with_reducible rfl
      try simp only [Act.put, List.setIfInBounds_toArray, List.set_cons_zero, List.set_cons_succ]
      refine' wpAnyH_take (i := 3) (oi := _) (v := .int .u32 (t : Int)) ?hik4 (by kernel_rfl) ?hfk4 ?hrk4 ?hQk4 ?hyk4 (hSk1) ?restk4
      case hik4 => (simp only [List.getElem?_toArray, List.getElem?_cons_zero, List.getElem?_cons_succ]; rfl)
      case hfk4 => kernel_rfl
      case hrk4 => kernel_rfl
      case hQk4 => exact fun _ _ _ h => h
      case hyk4 => refine Or.inl ⟨by rfl, ?_⟩; intro W hSw; have hcc := HT4.out W hSw; go_simp; try with_reducible rfl
      try simp only [Act.put, List.setIfInBounds_toArray, List.set_cons_zero, List.set_cons_succ]
      refine' wpAnyH_take (i := 4) (oi := _) (v := _) ?hik5 (by kernel_rfl) ?hfk5 ?hrk5 ?hQk5 ?hyk5 (hSk1) ?restk5
      case hik5 => (simp only [List.getElem?_toArray, List.getElem?_cons_zero, List.getElem?_cons_succ]; rfl)
      case hfk5 => kernel_rfl
      case hrk5 => kernel_rfl
      case hQk5 => exact fun _ _ _ h => h
      case hyk5 => refine Or.inl ⟨by rfl, ?_⟩; intro W hSw; go_simp; try with_reducible rfl
      try simp only [Act.put, List.setIfInBounds_toArray, List.set_cons_zero, List.set_cons_succ]
      refine' wpAnyH_take (i := 6) (oi := _) (v := _) ?hik6 (by kernel_rfl) ?hfk6 ?hrk6 ?hQk6 ?hyk6 (hSk1) ?restk6
      case hik6 => (simp only [List.getElem?_toArray, List.getElem?_cons_zero, List.getElem?_cons_succ]; rfl)
      case hfk6 => kernel_rfl
      case hrk6 => kernel_rfl
      case hQk6 => exact fun _ _ _ h => h
      case hyk6 => refine Or.inl ⟨by rfl, ?_⟩; intro W hSw; go_simp; try with_reducible rfl
      try simp only [Act.put, List.setIfInBounds_toArray, List.set_cons_zero, List.set_cons_succ]
      refine' wpAnyH_take (i := 7) (oi := _) (v := .int .i64 z) ?hik7 (by kernel_rfl) ?hfk7 ?hrk7 ?hQk7 ?hyk7 (hSk1) ?restk7
      case hik7 => (simp only [List.getElem?_toArray, List.getElem?_cons_zero, List.getElem?_cons_succ]; rfl)
      case hfk7 => kernel_rfl
      case hrk7 => kernel_rfl
      case hQk7 => exact fun _ _ _ h => h
      case hyk7 => refine Or.inl ⟨by rfl, ?_⟩; intro W hSw; have hcc := HR4.out W hSw; go_simp; try with_reducible rfl
      try simp only [Act.put, List.setIfInBounds_toArray, List.set_cons_zero, List.set_cons_succ]
      refine' wpAnyH_take (i := 8) (oi := _) (v := _) ?hik8 (by kernel_rfl) ?hfk8 ?hrk8 ?hQk8 ?hyk8 (hSk1) ?restk8
      case hik8 => (simp only [List.getElem?_toArray, List.getElem?_cons_zero, List.getElem?_cons_succ]; rfl)
      case hfk8 => kernel_rfl
      case hrk8 => kernel_rfl
      case hQk8 => exact fun _ _ _ h => h
      case hyk8 => refine Or.inl ⟨by rfl, ?_⟩; intro W hSw; go_simp; try with_reducible rfl
      try simp only [Act.put, List.setIfInBounds_toArray, List.set_cons_zero, List.set_cons_succ]
      refine wpAnyH_ready (rs := [0, 9]) (by kernel_rfl) (by simp) ?_
      refine' (AllReadyH.cons (o := _) ?hik9 (fun K hK => ?_) (AllReadyH.cons (o := _) ?hik10 (fun K hK => ?_) AllReadyH.nil))
      case hik9 => (simp only [List.getElem?_toArray, List.getElem?_cons_zero]; rfl)
      case hik10 => (simp only [List.getElem?_toArray, List.getElem?_cons_zero, List.getElem?_cons_succ]; rfl)
      · skip
        go_simp
        have hBk11 := Below.alloc hSk1 (Below.size hSk1) (.cells #[.int .u8 107, .int .u8 101, .int .u8 121] 5)
        have hKk13 := (show LitAt (Wk2.alloc (.cells #[.int .u8 107, .int .u8 101, .int .u8 121] 5)) Wk2.heap.size keyText (0, 0) from World.alloc_heap_new Wk2 _)
        have hgek14 := (show w4.heap.size ≤ Wk2.heap.size from Below.size hSk1)
        have hnekk15 := trivial
        have hbk16 := below_alloc Wk2 (.cells #[.int .u8 107, .int .u8 101, .int .u8 121] 5)
        clear hbk16
        refine hK.out _ _ (hBk11) (fun _ => ?_)
        clear hK K
        try simp only [Act.put, List.setIfInBounds_toArray, List.set_cons_zero, List.set_cons_succ]
        generalize (Wk2.alloc (.cells #[.int .u8 107, .int .u8 101, .int .u8 121] 5)) = Wk12 at hBk11 hKk13 hgek14 hnekk15 ⊢
        refine wpAnyH_ready (rs := [1, 9]) (by kernel_rfl) (by simp) ?_
        refine' (AllReadyH.cons (o := _) ?hik17 (fun K hK => ?_) (AllReadyH.cons (o := _) ?hik18 (fun K hK => ?_) AllReadyH.nil))
        case hik17 => (simp only [List.getElem?_toArray, List.getElem?_cons_zero, List.getElem?_cons_succ]; rfl)
        case hik18 => (simp only [List.getElem?_toArray, List.getElem?_cons_zero, List.getElem?_cons_succ]; rfl)
        · skip
          rw [if_pos (by rfl)]
          refine step_conv_lit (C := (bvs keyText).toArray) (.tmp 25) (by rfl) (by rfl) hKk13 ?_
          have hKk19 := hKk13.freeze 3
          have hBk20 := below_freeze hBk11 hgek14 3
          refine hK.out _ _ hBk20 (fun _ => ?_)
          clear hK K
          try simp only [Act.put, List.setIfInBounds_toArray, List.set_cons_zero, List.set_cons_succ]
          have e3 : (bvs keyText).toArray.size = 3 := rfl
          rw [e3]
          clear e3
          generalize (Wk12.freeze ⟨Wk2.heap.size, 3, none⟩ 1) = Wk21 at hKk19 hBk20 ⊢
          refine wpAnyH_ready (rs := [5, 9]) (by kernel_rfl) (by simp) ?_
          refine' (AllReadyH.cons (o := _) ?hik22 (fun K hK => ?_) (AllReadyH.cons (o := _) ?hik23 (fun K hK => ?_) AllReadyH.nil))
          case hik22 => (simp only [List.getElem?_toArray, List.getElem?_cons_zero, List.getElem?_cons_succ]; rfl)
          case hik23 => (simp only [List.getElem?_toArray, List.getElem?_cons_zero, List.getElem?_cons_succ]; rfl)
          · skip
            go_simp
            go_at_call 29
            refine (put_any (some ⟨Wk2.heap.size, 0, none⟩) 3 3 keyText t 4 4 rfl Wk21 hKk19.in_ (by omega)).mono ?_
            rintro e Wk26 ⟨A5k27, c5k28, rfl, owk29, hbk24⟩
            have hBk25 := below_on hBk20 (Nat.le_refl _) hbk24
            have hKk30 := hKk19.below hbk24
            have hgek31 := hgek14
            have hnekk32 := hnekk15
            have hOk33 := Joins.ownsRow_le owk29 (Below.size hBk20)
            refine hK.out _ _ (hBk25) (fun _ => ?_)
            clear hK K
            try simp only [Act.put, List.setIfInBounds_toArray, List.set_cons_zero, List.set_cons_succ]
            refine wpAnyH_ready (rs := [9]) (by kernel_rfl) (by simp) ?_
            refine' (AllReadyH.cons (o := _) ?hik34 (fun K hK => ?_) AllReadyH.nil)
            case hik34 => (simp only [List.getElem?_toArray, List.getElem?_cons_zero, List.getElem?_cons_succ]; rfl)
            go_simp
            have hBk35 := Below.alloc hBk25 (Below.size hBk25) (.cells #[.int .u8 (zb : Int)] 5)
            have hNk37 := (show LitAt (Wk26.alloc (.cells #[.int .u8 (zb : Int)] 5)) Wk26.heap.size [zb] (0, 0) from World.alloc_heap_new Wk26 _)
            have hnenk38 := (show Wk2.heap.size ≠ Wk26.heap.size from by have := hKk30.lt; omega)
            have hbk39 := below_alloc Wk26 (.cells #[.int .u8 (zb : Int)] 5)
            have hKk40 := hKk30.below hbk39
            have hgek41 := hgek31
            have hnekk42 := hnekk32
            have hOk43 := own_on hOk33 hbk39
            clear hbk39
            refine hK.out _ _ (hBk35) (fun _ => ?_)
            clear hK K
            try simp only [Act.put, List.setIfInBounds_toArray, List.set_cons_zero, List.set_cons_succ]
            generalize (Wk26.alloc (.cells #[.int .u8 (zb : Int)] 5)) = Wk36 at hBk35 hNk37 hnenk38 hKk40 hgek41 hnekk42 hOk43 ⊢
            refine wpAnyH_ready (rs := [10]) (by kernel_rfl) (by simp) ?_
            refine' (AllReadyH.cons (o := _) ?hik44 (fun K hK => ?_) AllReadyH.nil)
            case hik44 => (simp only [List.getElem?_toArray, List.getElem?_cons_zero, List.getElem?_cons_succ]; rfl)
            refine step_app_at (by rfl) (.tmp 30) (.tmp 34) (by rfl) w4.heap.size A5k27 7 c5k28 (keyText ++ dg t 4) (by rfl) hOk43 (some ⟨Wk26.heap.size, 0, none⟩) 1 1 ([zb]) (by rfl) (hNk37.in_) (fun e => by cases e) (by omega) (Below.size hBk35) ?_
            intro Ak45 ck46 Wk47 owk48 nxk49
            have hBk50 := nxk49.below hOk43 hBk35 (Nat.le_refl _) (Below.size hBk35)
            refine hK.out _ _ hBk50 (fun _ => ?_)
            clear hK K nxk49
            try simp only [Act.put, List.setIfInBounds_toArray, List.set_cons_zero, List.set_cons_succ]
            refine' wpAnyH_take (i := 11) (oi := _) (v := _) ?hik51 (by kernel_rfl) ?hfk51 ?hrk51 ?hQk51 ?hyk51 (hBk50) ?restk51
            case hik51 => (simp only [List.getElem?_toArray, List.getElem?_cons_zero, List.getElem?_cons_succ]; rfl)
            case hfk51 => kernel_rfl
            case hrk51 => kernel_rfl
            case hQk51 => exact fun _ _ _ h => h
            case hyk51 => refine Or.inl ⟨by rfl, ?_⟩; intro W hSw; go_simp; try with_reducible rfl
            try simp only [Act.put, List.setIfInBounds_toArray, List.set_cons_zero, List.set_cons_succ]
            refine wpAnyH_done (by kernel_rfl) ?_ _
            go_wp2_with fail
            go_meet
            case rel => exact ⟨_, _, rfl, Lib.hid ⟨In.of_own owk48, own_cap owk48, hBk50⟩⟩
          · skip
            go_simp
            have hBk52 := Below.alloc hBk20 (Below.size hBk20) (.cells #[.int .u8 (zb : Int)] 5)
            have hNk54 := (show LitAt (Wk21.alloc (.cells #[.int .u8 (zb : Int)] 5)) Wk21.heap.size [zb] (0, 0) from World.alloc_heap_new Wk21 _)
            have hnenk55 := (show Wk2.heap.size ≠ Wk21.heap.size from by have := hKk19.lt; omega)
            have hbk56 := below_alloc Wk21 (.cells #[.int .u8 (zb : Int)] 5)
            have hKk57 := hKk19.below hbk56
            have hgek58 := hgek14
            have hnekk59 := hnekk15
            clear hbk56
            refine hK.out _ _ (hBk52) (fun _ => ?_)
            clear hK K
            try simp only [Act.put, List.setIfInBounds_toArray, List.set_cons_zero, List.set_cons_succ]
            generalize (Wk21.alloc (.cells #[.int .u8 (zb : Int)] 5)) = Wk53 at hBk52 hNk54 hnenk55 hKk57 hgek58 hnekk59 ⊢
            refine wpAnyH_ready (rs := [5]) (by kernel_rfl) (by simp) ?_
            refine' (AllReadyH.cons (o := _) ?hik60 (fun K hK => ?_) AllReadyH.nil)
            case hik60 => (simp only [List.getElem?_toArray, List.getElem?_cons_zero, List.getElem?_cons_succ]; rfl)
            go_simp
            go_at_call 29
            refine (put_any (some ⟨Wk2.heap.size, 0, none⟩) 3 3 keyText t 4 4 rfl Wk53 hKk57.in_ (by omega)).mono ?_
            rintro e Wk63 ⟨A5k64, c5k65, rfl, owk66, hbk61⟩
            have hBk62 := below_on hBk52 (Nat.le_refl _) hbk61
            have hKk67 := hKk57.below hbk61
            have hgek68 := hgek58
            have hnekk69 := hnekk59
            have hNk70 := hNk54.below hbk61
            have hnenk71 := hnenk55
            have hOk72 := Joins.ownsRow_le owk66 (Below.size hBk52)
            refine hK.out _ _ (hBk62) (fun _ => ?_)
            clear hK K
            try simp only [Act.put, List.setIfInBounds_toArray, List.set_cons_zero, List.set_cons_succ]
            refine wpAnyH_ready (rs := [10]) (by kernel_rfl) (by simp) ?_
            refine' (AllReadyH.cons (o := _) ?hik73 (fun K hK => ?_) AllReadyH.nil)
            case hik73 => (simp only [List.getElem?_toArray, List.getElem?_cons_zero, List.getElem?_cons_succ]; rfl)
            refine step_app_at (by rfl) (.tmp 30) (.tmp 34) (by rfl) w4.heap.size A5k64 7 c5k65 (keyText ++ dg t 4) (by rfl) hOk72 (some ⟨Wk21.heap.size, 0, none⟩) 1 1 ([zb]) (by rfl) (hNk70.in_) (fun e => by cases e) (by omega) (Below.size hBk62) ?_
            intro Ak74 ck75 Wk76 owk77 nxk78
            have hBk79 := nxk78.below hOk72 hBk62 (Nat.le_refl _) (Below.size hBk62)
            refine hK.out _ _ hBk79 (fun _ => ?_)
            clear hK K nxk78
            try simp only [Act.put, List.setIfInBounds_toArray, List.set_cons_zero, List.set_cons_succ]
            refine' wpAnyH_take (i := 11) (oi := _) (v := _) ?hik80 (by kernel_rfl) ?hfk80 ?hrk80 ?hQk80 ?hyk80 (hBk79) ?restk80
            case hik80 => (simp only [List.getElem?_toArray, List.getElem?_cons_zero, List.getElem?_cons_succ]; rfl)
            case hfk80 => kernel_rfl
            case hrk80 => kernel_rfl
            case hQk80 => exact fun _ _ _ h => h
            case hyk80 => refine Or.inl ⟨by rfl, ?_⟩; intro W hSw; go_simp; try with_reducible rfl
            try simp only [Act.put, List.setIfInBounds_toArray, List.set_cons_zero, List.set_cons_succ]
            refine wpAnyH_done (by kernel_rfl) ?_ _
            go_wp2_with fail
            go_meet
            case rel => exact ⟨_, _, rfl, Lib.hid ⟨In.of_own owk77, own_cap owk77, hBk79⟩⟩
        · skip
          go_simp
          have hBk81 := Below.alloc hBk11 (Below.size hBk11) (.cells #[.int .u8 (zb : Int)] 5)
          have hNk83 := (show LitAt (Wk12.alloc (.cells #[.int .u8 (zb : Int)] 5)) Wk12.heap.size [zb] (0, 0) from World.alloc_heap_new Wk12 _)
          have hnenk84 := (show Wk2.heap.size ≠ Wk12.heap.size from by have := hKk13.lt; omega)
          have hbk85 := below_alloc Wk12 (.cells #[.int .u8 (zb : Int)] 5)
          have hKk86 := hKk13.below hbk85
          have hgek87 := hgek14
          have hnekk88 := hnekk15
          clear hbk85
          refine hK.out _ _ (hBk81) (fun _ => ?_)
          clear hK K
          try simp only [Act.put, List.setIfInBounds_toArray, List.set_cons_zero, List.set_cons_succ]
          generalize (Wk12.alloc (.cells #[.int .u8 (zb : Int)] 5)) = Wk82 at hBk81 hNk83 hnenk84 hKk86 hgek87 hnekk88 ⊢
          refine wpAnyH_ready (rs := [1]) (by kernel_rfl) (by simp) ?_
          refine' (AllReadyH.cons (o := _) ?hik89 (fun K hK => ?_) AllReadyH.nil)
          case hik89 => (simp only [List.getElem?_toArray, List.getElem?_cons_zero, List.getElem?_cons_succ]; rfl)
          rw [if_pos (by rfl)]
          refine step_conv_lit (C := (bvs keyText).toArray) (.tmp 25) (by rfl) (by rfl) hKk86 ?_
          have hKk90 := hKk86.freeze 3
          have hBk91 := below_freeze hBk81 hgek87 3
          have hNk93 := LitAt.other (k := 3) hNk83 (by first | exact hnekk88 | exact Ne.symm hnekk88 | exact hnenk84 | exact Ne.symm hnenk84)
          refine hK.out _ _ hBk91 (fun _ => ?_)
          clear hK K
          try simp only [Act.put, List.setIfInBounds_toArray, List.set_cons_zero, List.set_cons_succ]
          have e3 : (bvs keyText).toArray.size = 3 := rfl
          rw [e3]
          clear e3
          generalize (Wk82.freeze ⟨Wk2.heap.size, 3, none⟩ 1) = Wk92 at hKk90 hBk91 hNk93 ⊢
          refine wpAnyH_ready (rs := [5]) (by kernel_rfl) (by simp) ?_
          refine' (AllReadyH.cons (o := _) ?hik94 (fun K hK => ?_) AllReadyH.nil)
          case hik94 => (simp only [List.getElem?_toArray, List.getElem?_cons_zero, List.getElem?_cons_succ]; rfl)
          go_simp
          go_at_call 29
          refine (put_any (some ⟨Wk2.heap.size, 0, none⟩) 3 3 keyText t 4 4 rfl Wk92 hKk90.in_ (by omega)).mono ?_
          rintro e Wk97 ⟨A5k98, c5k99, rfl, owk100, hbk95⟩
          have hBk96 := below_on hBk91 (Nat.le_refl _) hbk95
          have hKk101 := hKk90.below hbk95
          have hgek102 := hgek87
          have hnekk103 := hnekk88
          have hNk104 := hNk93.below hbk95
          have hnenk105 := hnenk84
          have hOk106 := Joins.ownsRow_le owk100 (Below.size hBk91)
          refine hK.out _ _ (hBk96) (fun _ => ?_)
          clear hK K
          try simp only [Act.put, List.setIfInBounds_toArray, List.set_cons_zero, List.set_cons_succ]
          refine wpAnyH_ready (rs := [10]) (by kernel_rfl) (by simp) ?_
          refine' (AllReadyH.cons (o := _) ?hik107 (fun K hK => ?_) AllReadyH.nil)
          case hik107 => (simp only [List.getElem?_toArray, List.getElem?_cons_zero, List.getElem?_cons_succ]; rfl)
          refine step_app_at (by rfl) (.tmp 30) (.tmp 34) (by rfl) w4.heap.size A5k98 7 c5k99 (keyText ++ dg t 4) (by rfl) hOk106 (some ⟨Wk12.heap.size, 0, none⟩) 1 1 ([zb]) (by rfl) (hNk104.in_) (fun e => by cases e) (by omega) (Below.size hBk96) ?_
          intro Ak108 ck109 Wk110 owk111 nxk112
          have hBk113 := nxk112.below hOk106 hBk96 (Nat.le_refl _) (Below.size hBk96)
          refine hK.out _ _ hBk113 (fun _ => ?_)
          clear hK K nxk112
          try simp only [Act.put, List.setIfInBounds_toArray, List.set_cons_zero, List.set_cons_succ]
          refine' wpAnyH_take (i := 11) (oi := _) (v := _) ?hik114 (by kernel_rfl) ?hfk114 ?hrk114 ?hQk114 ?hyk114 (hBk113) ?restk114
          case hik114 => (simp only [List.getElem?_toArray, List.getElem?_cons_zero, List.getElem?_cons_succ]; rfl)
          case hfk114 => kernel_rfl
          case hrk114 => kernel_rfl
          case hQk114 => exact fun _ _ _ h => h
          case hyk114 => refine Or.inl ⟨by rfl, ?_⟩; intro W hSw; go_simp; try with_reducible rfl
          try simp only [Act.put, List.setIfInBounds_toArray, List.set_cons_zero, List.set_cons_succ]
          refine wpAnyH_done (by kernel_rfl) ?_ _
          go_wp2_with fail
          go_meet
          case rel => exact ⟨_, _, rfl, Lib.hid ⟨In.of_own owk111, own_cap owk111, hBk113⟩⟩
      · skip
        go_simp
        have hBk115 := Below.alloc hSk1 (Below.size hSk1) (.cells #[.int .u8 (zb : Int)] 5)
        have hNk117 := (show LitAt (Wk2.alloc (.cells #[.int .u8 (zb : Int)] 5)) Wk2.heap.size [zb] (0, 0) from World.alloc_heap_new Wk2 _)
        have hnenk118 := trivial
        have hbk119 := below_alloc Wk2 (.cells #[.int .u8 (zb : Int)] 5)
        clear hbk119
        refine hK.out _ _ (hBk115) (fun _ => ?_)
        clear hK K
        try simp only [Act.put, List.setIfInBounds_toArray, List.set_cons_zero, List.set_cons_succ]
        generalize (Wk2.alloc (.cells #[.int .u8 (zb : Int)] 5)) = Wk116 at hBk115 hNk117 hnenk118 ⊢
        refine wpAnyH_ready (rs := [0]) (by kernel_rfl) (by simp) ?_
        refine' (AllReadyH.cons (o := _) ?hik120 (fun K hK => ?_) AllReadyH.nil)
        case hik120 => (simp only [List.getElem?_toArray, List.getElem?_cons_zero]; rfl)
        go_simp
        have hBk121 := Below.alloc hBk115 (Below.size hBk115) (.cells #[.int .u8 107, .int .u8 101, .int .u8 121] 5)
        have hKk123 := (show LitAt (Wk116.alloc (.cells #[.int .u8 107, .int .u8 101, .int .u8 121] 5)) Wk116.heap.size keyText (0, 0) from World.alloc_heap_new Wk116 _)
        have hgek124 := (show w4.heap.size ≤ Wk116.heap.size from Below.size hBk115)
        have hnekk125 := (show Wk2.heap.size ≠ Wk116.heap.size from by have := hNk117.lt; omega)
        have hbk126 := below_alloc Wk116 (.cells #[.int .u8 107, .int .u8 101, .int .u8 121] 5)
        have hNk127 := hNk117.below hbk126
        have hnenk128 := hnenk118
        clear hbk126
        refine hK.out _ _ (hBk121) (fun _ => ?_)
        clear hK K
        try simp only [Act.put, List.setIfInBounds_toArray, List.set_cons_zero, List.set_cons_succ]
        generalize (Wk116.alloc (.cells #[.int .u8 107, .int .u8 101, .int .u8 121] 5)) = Wk122 at hBk121 hKk123 hgek124 hnekk125 hNk127 hnenk128 ⊢
        refine wpAnyH_ready (rs := [1]) (by kernel_rfl) (by simp) ?_
        refine' (AllReadyH.cons (o := _) ?hik129 (fun K hK => ?_) AllReadyH.nil)
        case hik129 => (simp only [List.getElem?_toArray, List.getElem?_cons_zero, List.getElem?_cons_succ]; rfl)
        rw [if_pos (by rfl)]
        refine step_conv_lit (C := (bvs keyText).toArray) (.tmp 25) (by rfl) (by rfl) hKk123 ?_
        have hKk130 := hKk123.freeze 3
        have hBk131 := below_freeze hBk121 hgek124 3
        have hNk133 := LitAt.other (k := 3) hNk127 (by first | exact hnekk125 | exact Ne.symm hnekk125 | exact hnenk128 | exact Ne.symm hnenk128)
        refine hK.out _ _ hBk131 (fun _ => ?_)
        clear hK K
        try simp only [Act.put, List.setIfInBounds_toArray, List.set_cons_zero, List.set_cons_succ]
        have e3 : (bvs keyText).toArray.size = 3 := rfl
        rw [e3]
        clear e3
        generalize (Wk122.freeze ⟨Wk116.heap.size, 3, none⟩ 1) = Wk132 at hKk130 hBk131 hNk133 ⊢
        refine wpAnyH_ready (rs := [5]) (by kernel_rfl) (by simp) ?_
        refine' (AllReadyH.cons (o := _) ?hik134 (fun K hK => ?_) AllReadyH.nil)
        case hik134 => (simp only [List.getElem?_toArray, List.getElem?_cons_zero, List.getElem?_cons_succ]; rfl)
        go_simp
        go_at_call 29
        refine (put_any (some ⟨Wk116.heap.size, 0, none⟩) 3 3 keyText t 4 4 rfl Wk132 hKk130.in_ (by omega)).mono ?_
        rintro e Wk137 ⟨A5k138, c5k139, rfl, owk140, hbk135⟩
        have hBk136 := below_on hBk131 (Nat.le_refl _) hbk135
        have hNk141 := hNk133.below hbk135
        have hnenk142 := hnenk128
        have hKk143 := hKk130.below hbk135
        have hgek144 := hgek124
        have hnekk145 := hnekk125
        have hOk146 := Joins.ownsRow_le owk140 (Below.size hBk131)
        refine hK.out _ _ (hBk136) (fun _ => ?_)
        clear hK K
        try simp only [Act.put, List.setIfInBounds_toArray, List.set_cons_zero, List.set_cons_succ]
        refine wpAnyH_ready (rs := [10]) (by kernel_rfl) (by simp) ?_
        refine' (AllReadyH.cons (o := _) ?hik147 (fun K hK => ?_) AllReadyH.nil)
        case hik147 => (simp only [List.getElem?_toArray, List.getElem?_cons_zero, List.getElem?_cons_succ]; rfl)
        refine step_app_at (by rfl) (.tmp 30) (.tmp 34) (by rfl) w4.heap.size A5k138 7 c5k139 (keyText ++ dg t 4) (by rfl) hOk146 (some ⟨Wk2.heap.size, 0, none⟩) 1 1 ([zb]) (by rfl) (hNk141.in_) (fun e => by cases e) (by omega) (Below.size hBk136) ?_
        intro Ak148 ck149 Wk150 owk151 nxk152
        have hBk153 := nxk152.below hOk146 hBk136 (Nat.le_refl _) (Below.size hBk136)
        refine hK.out _ _ hBk153 (fun _ => ?_)
        clear hK K nxk152
        try simp only [Act.put, List.setIfInBounds_toArray, List.set_cons_zero, List.set_cons_succ]
        refine' wpAnyH_take (i := 11) (oi := _) (v := _) ?hik154 (by kernel_rfl) ?hfk154 ?hrk154 ?hQk154 ?hyk154 (hBk153) ?restk154
        case hik154 => (simp only [List.getElem?_toArray, List.getElem?_cons_zero, List.getElem?_cons_succ]; rfl)
        case hfk154 => kernel_rfl
        case hrk154 => kernel_rfl
        case hQk154 => exact fun _ _ _ h => h
        case hyk154 => refine Or.inl ⟨by rfl, ?_⟩; intro W hSw; go_simp; try with_reducible rfl
        try simp only [Act.put, List.setIfInBounds_toArray, List.set_cons_zero, List.set_cons_succ]
        refine wpAnyH_done (by kernel_rfl) ?_ _
        go_wp2_with fail
        go_meet
        case rel => exact ⟨_, _, rfl, Lib.hid ⟨In.of_own owk151, own_cap owk151, hBk153⟩⟩
    case rest =>
    obtain ⟨Kk, cK, rfl, HKk⟩ := hcut
    have HB5 := Lib.hid (below_on HB4.out (Nat.le_refl _) HKk.out.2.2)
    have HX5 := Lib.hid (show In wc X 65 ([4] ++ a ++ b) from HX4.out.below HKk.out.2.2)
    have HY5' := Lib.hid (show In wc Y (33 + n) ([3] ++ a ++ v) from HY.out.1.below HKk.out.2.2)
    obtain ⟨w5, hw5⟩ : ∃ x, wc = x := ⟨_, rfl⟩
    rw [hw5] at HKk HB5 HX5 HY5' ⊢
    clear hw5
    have q3 := run_guard_eql
    obtain ⟨sX, hsX⟩ : ∃ s, sideL a b = s := ⟨_, rfl⟩
    have lX : sX.length = 32 := by rw [← hsX]; exact sideL_length _ _
    have CSD := Lib.hid (fun (W : World) (hW : Below w1.heap.size w1 W) => show Calls Tryd.prog 25 #[sv a, sv b] W fun e w' => e = .returned (sv sX) ∧ Below W.heap.size W w' from by
      rw [← hsX]; exact jside_any a b W HL.out.1 HL.out.2.2.1 HL.out.2.1 HL.out.2.2.2 (HK.out.1.below hW) (HK.out.2.below hW))
    have CO1 := Lib.hid (fun (W : World) (hW : Below w5.heap.size w5 W) => show Calls Tryd.prog 30 #[.slice X 65 cX] W fun e w' => e = .returned (sv sX) ∧ Below W.heap.size W w' from by
      have h1 := below_on HB5.out (Nat.le_refl _) hW
      rw [← hsX, show sideL a b = sha ([4] ++ a ++ b) by rw [sideL, List.append_assoc]; rfl]
      exact of_any X 65 cX _ W (HX5.out.below hW) (by
        intro x hx
        rcases List.mem_append.1 hx with hx | hx
        · rcases List.mem_append.1 hx with hx | hx
          · simp at hx; omega
          · exact HL.out.2.1 x hx
        · exact HL.out.2.2.2 x hx) HX.out.2.1 (HK.out.1.below h1) (HK.out.2.below h1) (by omega))
    obtain ⟨sK, hsK⟩ : ∃ s, keyL t z = s := ⟨_, rfl⟩
    have lK : sK.length = 32 := by rw [← hsK]; exact keyL_length _ _
    have CKO := Lib.hid (fun (W : World) (hW : Below w1.heap.size w1 W) => show Calls Tryd.prog 17 #[.int .u32 (t : Int), .int .i64 z] W fun e w' => e = .returned (sv sK) ∧ Below W.heap.size W w' from by
      rw [← hsK]; exact jof_any t z W (HK.out.1.below hW) (HK.out.2.below hW) ht hz)
    have CO3 := Lib.hid (fun (W : World) (hW : Below w5.heap.size w5 W) => show Calls Tryd.prog 30 #[.slice Kk 8 cK] W fun e w' => e = .returned (sv sK) ∧ Below W.heap.size W w' from by
      have h1 := below_on HB5.out (Nat.le_refl _) hW
      rw [← hsK, show keyL t z = sha (keyText ++ dg t 4 ++ [zb]) by rw [keyL, HZS.out.1]; rfl]
      exact of_any Kk 8 cK _ W (HKk.out.1.below hW) (by
        intro x hx
        rcases List.mem_append.1 hx with hx | hx
        · rcases List.mem_append.1 hx with hx | hx
          · simp [keyText] at hx; omega
          · exact dg_lt _ _ x hx
        · have := HZS.out.2; simp at hx; omega) HKk.out.2.1 (HK.out.1.below h1) (HK.out.2.below h1) (by omega))
    have q1 := jeql_run sX lX
    have q2 := jeql_run sK lK
    clear hsX hsK lX lK ht64 hzb
    go_upto_region 6 with fail
    have hvl := HV.out.in_.len
    by_cases hn : n = 0
    · have hn0 : ((n : Int) == 0) = true := by simp; omega
      clear hn hvl
      have hA := HC.out w5 (below_on HB5.out (Nat.le_refl _) (Below.refl _ _))
      have ct := hA.tenant
      have cr := hA.resource
      have cv := hA.v
      go_wp2_with (first | (with_reducible refine wpList_load_sum_g rfl (.tmp 38) rfl ⟨g, 3, none⟩ rfl a HL.out.1 hA.l ?_) | (with_reducible refine wpList_load_sum_g rfl (.tmp 40) rfl ⟨g, 35, none⟩ rfl b HL.out.2.2.1 hA.r ?_) | (with_reducible refine wpList_load_sum_g rfl (.tmp 53) rfl ⟨g, 3, none⟩ rfl a HL.out.1 hA.l ?_))
      clear hA ct cr cv
      refine (CA.out w5 (below_on HB5.out (Nat.le_refl _) (Below.refl _ _))).mono ?_
      rintro e x0 ⟨rfl, hb0⟩
      have hB0 := below_on (Below.refl _ _) (Nat.le_refl _) hb0
      clear hb0
      have hA := HC.out x0 (below_on HB5.out (Nat.le_refl _) hB0)
      have ct := hA.tenant
      have cr := hA.resource
      have cv := hA.v
      go_wp2_with (first | (with_reducible refine wpList_load_sum_g rfl (.tmp 38) rfl ⟨g, 3, none⟩ rfl a HL.out.1 hA.l ?_) | (with_reducible refine wpList_load_sum_g rfl (.tmp 40) rfl ⟨g, 35, none⟩ rfl b HL.out.2.2.1 hA.r ?_) | (with_reducible refine wpList_load_sum_g rfl (.tmp 53) rfl ⟨g, 3, none⟩ rfl a HL.out.1 hA.l ?_))
      clear hA ct cr cv
      refine (CSD.out x0 (below_on HB5.out (Nat.le_refl _) hB0)).mono ?_
      rintro e x1 ⟨rfl, hb1⟩
      have hB1 := below_on hB0 (Nat.le_refl _) hb1
      clear hb1
      have hA := HC.out x1 (below_on HB5.out (Nat.le_refl _) hB1)
      have ct := hA.tenant
      have cr := hA.resource
      have cv := hA.v
      go_wp2_with (first | (with_reducible refine wpList_load_sum_g rfl (.tmp 38) rfl ⟨g, 3, none⟩ rfl a HL.out.1 hA.l ?_) | (with_reducible refine wpList_load_sum_g rfl (.tmp 40) rfl ⟨g, 35, none⟩ rfl b HL.out.2.2.1 hA.r ?_) | (with_reducible refine wpList_load_sum_g rfl (.tmp 53) rfl ⟨g, 3, none⟩ rfl a HL.out.1 hA.l ?_))
      clear hA ct cr cv
      refine (CO1.out x1 hB1).mono ?_
      rintro e x2 ⟨rfl, hb2⟩
      have hB2 := below_on hB1 (Nat.le_refl _) hb2
      clear hb2
      have hA := HC.out x2 (below_on HB5.out (Nat.le_refl _) hB2)
      have ct := hA.tenant
      have cr := hA.resource
      have cv := hA.v
      go_wp2_with (first | (with_reducible refine wpList_load_sum_g rfl (.tmp 38) rfl ⟨g, 3, none⟩ rfl a HL.out.1 hA.l ?_) | (with_reducible refine wpList_load_sum_g rfl (.tmp 40) rfl ⟨g, 35, none⟩ rfl b HL.out.2.2.1 hA.r ?_) | (with_reducible refine wpList_load_sum_g rfl (.tmp 53) rfl ⟨g, 3, none⟩ rfl a HL.out.1 hA.l ?_))
      clear hA ct cr cv
      refine (CKO.out x2 (below_on HB5.out (Nat.le_refl _) hB2)).mono ?_
      rintro e x3 ⟨rfl, hb3⟩
      have hB3 := below_on hB2 (Nat.le_refl _) hb3
      clear hb3
      have hA := HC.out x3 (below_on HB5.out (Nat.le_refl _) hB3)
      have ct := hA.tenant
      have cr := hA.resource
      have cv := hA.v
      go_wp2_with (first | (with_reducible refine wpList_load_sum_g rfl (.tmp 38) rfl ⟨g, 3, none⟩ rfl a HL.out.1 hA.l ?_) | (with_reducible refine wpList_load_sum_g rfl (.tmp 40) rfl ⟨g, 35, none⟩ rfl b HL.out.2.2.1 hA.r ?_) | (with_reducible refine wpList_load_sum_g rfl (.tmp 53) rfl ⟨g, 3, none⟩ rfl a HL.out.1 hA.l ?_))
      clear hA ct cr cv
      refine (CO3.out x3 hB3).mono ?_
      rintro e x4 ⟨rfl, hb4⟩
      have hB4 := below_on hB3 (Nat.le_refl _) hb4
      clear hb4
      have hA := HC.out x4 (below_on HB5.out (Nat.le_refl _) hB4)
      have ct := hA.tenant
      have cr := hA.resource
      have cv := hA.v
      go_wp2_with (first | (with_reducible refine wpList_load_sum_g rfl (.tmp 38) rfl ⟨g, 3, none⟩ rfl a HL.out.1 hA.l ?_) | (with_reducible refine wpList_load_sum_g rfl (.tmp 40) rfl ⟨g, 35, none⟩ rfl b HL.out.2.2.1 hA.r ?_) | (with_reducible refine wpList_load_sum_g rfl (.tmp 53) rfl ⟨g, 3, none⟩ rfl a HL.out.1 hA.l ?_))
      go_ret
      exact ⟨rfl, below_on H1.out (Nat.le_of_eq HG.out.symm) (below_on HB5.out (Nat.le_refl _) hB4)⟩
    · have hn0 : ((n : Int) == 0) = false := by simp; omega
      obtain ⟨sV, hsV⟩ : ∃ s, valueL a v = s := ⟨_, rfl⟩
      have lV : sV.length = 32 := by rw [← hsV]; exact valueL_length _ _
      have CVL := Lib.hid (fun (W : World) (hW : Below w1.heap.size w1 W) => show Calls Tryd.prog 23 #[sv a, .slice A n c] W fun e w' => e = .returned (sv sV) ∧ Below W.heap.size W w' from by
        rw [← hsV]; exact jvalue_any a A n c v W HL.out.1 HL.out.2.1 (HV.out.below hW) (by omega) (HK.out.1.below hW) (HK.out.2.below hW))
      have CO2 := Lib.hid (fun (W : World) (hW : Below w5.heap.size w5 W) => show Calls Tryd.prog 30 #[.slice Y (33 + n) cY] W fun e w' => e = .returned (sv sV) ∧ Below W.heap.size W w' from by
        have h1 := below_on HB5.out (Nat.le_refl _) hW
        rw [← hsV, show valueL a v = sha ([3] ++ a ++ v) by unfold valueL; rw [if_neg (by intro e; rw [e] at hvl; exact hn hvl.symm), List.append_assoc]; rfl]
        exact of_any Y (33 + n) cY _ W (HY5'.out.below hW) (by
          intro x hx
          rcases List.mem_append.1 hx with hx | hx
          · rcases List.mem_append.1 hx with hx | hx
            · simp at hx; omega
            · exact HL.out.2.1 x hx
          · exact HV.out.lt x hx) HY.out.2.1 (HK.out.1.below h1) (HK.out.2.below h1) (by omega))
      have q4 := jeql_run sV lV
      clear hsV lV hn hvl
      have hA := HC.out w5 (below_on HB5.out (Nat.le_refl _) (Below.refl _ _))
      have ct := hA.tenant
      have cr := hA.resource
      have cv := hA.v
      go_wp2_with (first | (with_reducible refine wpList_load_sum_g rfl (.tmp 38) rfl ⟨g, 3, none⟩ rfl a HL.out.1 hA.l ?_) | (with_reducible refine wpList_load_sum_g rfl (.tmp 40) rfl ⟨g, 35, none⟩ rfl b HL.out.2.2.1 hA.r ?_) | (with_reducible refine wpList_load_sum_g rfl (.tmp 53) rfl ⟨g, 3, none⟩ rfl a HL.out.1 hA.l ?_))
      clear hA ct cr cv
      refine (CA.out w5 (below_on HB5.out (Nat.le_refl _) (Below.refl _ _))).mono ?_
      rintro e x0 ⟨rfl, hb0⟩
      have hB0 := below_on (Below.refl _ _) (Nat.le_refl _) hb0
      clear hb0
      have hA := HC.out x0 (below_on HB5.out (Nat.le_refl _) hB0)
      have ct := hA.tenant
      have cr := hA.resource
      have cv := hA.v
      go_wp2_with (first | (with_reducible refine wpList_load_sum_g rfl (.tmp 38) rfl ⟨g, 3, none⟩ rfl a HL.out.1 hA.l ?_) | (with_reducible refine wpList_load_sum_g rfl (.tmp 40) rfl ⟨g, 35, none⟩ rfl b HL.out.2.2.1 hA.r ?_) | (with_reducible refine wpList_load_sum_g rfl (.tmp 53) rfl ⟨g, 3, none⟩ rfl a HL.out.1 hA.l ?_))
      clear hA ct cr cv
      refine (CSD.out x0 (below_on HB5.out (Nat.le_refl _) hB0)).mono ?_
      rintro e x1 ⟨rfl, hb1⟩
      have hB1 := below_on hB0 (Nat.le_refl _) hb1
      clear hb1
      have hA := HC.out x1 (below_on HB5.out (Nat.le_refl _) hB1)
      have ct := hA.tenant
      have cr := hA.resource
      have cv := hA.v
      go_wp2_with (first | (with_reducible refine wpList_load_sum_g rfl (.tmp 38) rfl ⟨g, 3, none⟩ rfl a HL.out.1 hA.l ?_) | (with_reducible refine wpList_load_sum_g rfl (.tmp 40) rfl ⟨g, 35, none⟩ rfl b HL.out.2.2.1 hA.r ?_) | (with_reducible refine wpList_load_sum_g rfl (.tmp 53) rfl ⟨g, 3, none⟩ rfl a HL.out.1 hA.l ?_))
      clear hA ct cr cv
      refine (CO1.out x1 hB1).mono ?_
      rintro e x2 ⟨rfl, hb2⟩
      have hB2 := below_on hB1 (Nat.le_refl _) hb2
      clear hb2
      have hA := HC.out x2 (below_on HB5.out (Nat.le_refl _) hB2)
      have ct := hA.tenant
      have cr := hA.resource
      have cv := hA.v
      go_wp2_with (first | (with_reducible refine wpList_load_sum_g rfl (.tmp 38) rfl ⟨g, 3, none⟩ rfl a HL.out.1 hA.l ?_) | (with_reducible refine wpList_load_sum_g rfl (.tmp 40) rfl ⟨g, 35, none⟩ rfl b HL.out.2.2.1 hA.r ?_) | (with_reducible refine wpList_load_sum_g rfl (.tmp 53) rfl ⟨g, 3, none⟩ rfl a HL.out.1 hA.l ?_))
      clear hA ct cr cv
      refine (CVL.out x2 (below_on HB5.out (Nat.le_refl _) hB2)).mono ?_
      rintro e x3 ⟨rfl, hb3⟩
      have hB3 := below_on hB2 (Nat.le_refl _) hb3
      clear hb3
      have hA := HC.out x3 (below_on HB5.out (Nat.le_refl _) hB3)
      have ct := hA.tenant
      have cr := hA.resource
      have cv := hA.v
      go_wp2_with (first | (with_reducible refine wpList_load_sum_g rfl (.tmp 38) rfl ⟨g, 3, none⟩ rfl a HL.out.1 hA.l ?_) | (with_reducible refine wpList_load_sum_g rfl (.tmp 40) rfl ⟨g, 35, none⟩ rfl b HL.out.2.2.1 hA.r ?_) | (with_reducible refine wpList_load_sum_g rfl (.tmp 53) rfl ⟨g, 3, none⟩ rfl a HL.out.1 hA.l ?_))
      clear hA ct cr cv
      refine (CO2.out x3 hB3).mono ?_
      rintro e x4 ⟨rfl, hb4⟩
      have hB4 := below_on hB3 (Nat.le_refl _) hb4
      clear hb4
      have hA := HC.out x4 (below_on HB5.out (Nat.le_refl _) hB4)
      have ct := hA.tenant
      have cr := hA.resource
      have cv := hA.v
      go_wp2_with (first | (with_reducible refine wpList_load_sum_g rfl (.tmp 38) rfl ⟨g, 3, none⟩ rfl a HL.out.1 hA.l ?_) | (with_reducible refine wpList_load_sum_g rfl (.tmp 40) rfl ⟨g, 35, none⟩ rfl b HL.out.2.2.1 hA.r ?_) | (with_reducible refine wpList_load_sum_g rfl (.tmp 53) rfl ⟨g, 3, none⟩ rfl a HL.out.1 hA.l ?_))
      clear hA ct cr cv
      refine (CKO.out x4 (below_on HB5.out (Nat.le_refl _) hB4)).mono ?_
      rintro e x5 ⟨rfl, hb5⟩
      have hB5 := below_on hB4 (Nat.le_refl _) hb5
      clear hb5
      have hA := HC.out x5 (below_on HB5.out (Nat.le_refl _) hB5)
      have ct := hA.tenant
      have cr := hA.resource
      have cv := hA.v
      go_wp2_with (first | (with_reducible refine wpList_load_sum_g rfl (.tmp 38) rfl ⟨g, 3, none⟩ rfl a HL.out.1 hA.l ?_) | (with_reducible refine wpList_load_sum_g rfl (.tmp 40) rfl ⟨g, 35, none⟩ rfl b HL.out.2.2.1 hA.r ?_) | (with_reducible refine wpList_load_sum_g rfl (.tmp 53) rfl ⟨g, 3, none⟩ rfl a HL.out.1 hA.l ?_))
      clear hA ct cr cv
      refine (CO3.out x5 hB5).mono ?_
      rintro e x6 ⟨rfl, hb6⟩
      have hB6 := below_on hB5 (Nat.le_refl _) hb6
      clear hb6
      have hA := HC.out x6 (below_on HB5.out (Nat.le_refl _) hB6)
      have ct := hA.tenant
      have cr := hA.resource
      have cv := hA.v
      go_wp2_with (first | (with_reducible refine wpList_load_sum_g rfl (.tmp 38) rfl ⟨g, 3, none⟩ rfl a HL.out.1 hA.l ?_) | (with_reducible refine wpList_load_sum_g rfl (.tmp 40) rfl ⟨g, 35, none⟩ rfl b HL.out.2.2.1 hA.r ?_) | (with_reducible refine wpList_load_sum_g rfl (.tmp 53) rfl ⟨g, 3, none⟩ rfl a HL.out.1 hA.l ?_))
      go_ret
      exact ⟨rfl, below_on H1.out (Nat.le_of_eq HG.out.symm) (below_on HB5.out (Nat.le_refl _) hB6)⟩

end Go.Proofs.YtnaebjdccngeoaaDoor
