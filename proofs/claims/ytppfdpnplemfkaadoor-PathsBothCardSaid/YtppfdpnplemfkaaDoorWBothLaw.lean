/-
  almonerlaw10.PathsBoth.
-/
import Derived.Test.YtppfdpnplemfkaaDoorWAlive
import Derived.Test.YtppfdpnplemfkaaDoorWPut
import Derived.Test.YtppfdpnplemfkaaDoorLRowS
import Derived.Test.YtppfdpnplemfkaaDoorLArrArg
namespace Go.Proofs.YtppfdpnplemfkaaDoor
open Go.RowKit

section
variable {w : World} {ys s : List Nat} {z n c : Nat} {A : Option Addr}

set_option maxRecDepth 100000 in
set_option maxHeartbeats 4000000 in
theorem both_else (hk : Knows w) (hs : Starts w) (h : n = 0 ∨ 100 < n) :
    Calls Tryd.prog 5 #[.slice A n c, .agg (bvs s).toArray, .int .u8 (z : Int)] w fun e w' => e = .returned (.bool true) ∧ Below w.heap.size w w' := by
  obtain ⟨w1, hw1⟩ : ∃ w1, w1 = w.alloc (.cells (bvs s).toArray 24) := ⟨_, rfl⟩
  have b1 : Below w.heap.size w w1 := by rw [hw1]; exact below_alloc _ _
  have CA := Lib.hid (walive_any w1 (hk.below b1) (hs.below b1))
  have HB := Lib.hid b1
  have HW := Lib.hid hw1
  clear hw1 b1 hk hs
  by_cases h0 : n = 0
  · subst h0
    go_enter Tryd.func5, Tryd.ntmps5
    go_upto_region 1 with fail
    rw [← HW.out]
    go_wp2_with fail
    refine CA.out.mono ?_
    rintro e w2 ⟨rfl, hb2⟩
    go_wp2_with fail
    go_ret
    exact ⟨rfl, below_on HB.out (Nat.le_refl _) hb2⟩
  · have n0 : ((n : Int) == 0) = false := by simp; omega
    have n1 : (100 : Int) < (n : Int) := by omega
    go_enter Tryd.func5, Tryd.ntmps5
    go_upto_region 1 with fail
    rw [← HW.out]
    go_wp2_with fail
    refine CA.out.mono ?_
    rintro e w2 ⟨rfl, hb2⟩
    go_wp2_with fail
    go_ret
    exact ⟨rfl, below_on HB.out (Nat.le_refl _) hb2⟩

set_option maxRecDepth 100000 in
set_option maxHeartbeats 8000000 in
theorem both_main (hk : Knows w) (hs : Starts w) (cm : CameS w A n c ys) (hsl : s.length = 32) (hsb : ∀ x ∈ s, x < 256) (h0 : 0 < n) (hn : n ≤ 100) (hzb : z < 256) :
    Calls Tryd.prog 5 #[.slice A n c, .agg (bvs s).toArray, .int .u8 (z : Int)] w fun e w' => e = .returned (.bool true) ∧ Below w.heap.size w w' := by
  obtain ⟨w1, hw1⟩ : ∃ w1, w1 = w.alloc (.cells (bvs s).toArray 24) := ⟨_, rfl⟩
  have b1 : Below w.heap.size w w1 := by rw [hw1]; exact below_alloc _ _
  have g1 : BArr w1 w.heap.size 24 s := by rw [hw1]; exact BArr.new _ _ _
  have HW := Lib.hid hw1
  obtain ⟨ad, hA⟩ := cm.in_.some_ h0
  subst hA
  have n0 : ((n : Int) == 0) = false := by simp; omega
  have n1 : ¬ (100 : Int) < (n : Int) := by omega
  have wz : IntKind.i64.wrap (z : Int) = (z : Int) := by rw [IntKind.wrap_i64]; omega
  have H1 := Lib.hid (And.intro b1 g1)
  have HC := Lib.hid (And.intro cm (And.intro hsl (And.intro hsb (And.intro h0 hn))))
  have HK := Lib.hid (And.intro hk hs)
  clear hw1 b1 g1 cm hsl hsb h0 hn hk hs hzb
  go_enter Tryd.func5, Tryd.ntmps5
  go_upto_region 1 with fail
  rw [← HW.out]
  go_wp2_with fail
  go_loopw [7] (fun x wr => ∃ e k : Nat, 2 ^ e = k ∧ k ≤ n ∧ x = .int .i64 (k : Int) ∧ wr = w1) (fun x _ => n - (intOf x).toNat)
  case atStart => exact ⟨0, 1, rfl, HC.out.2.2.2.1, rfl, rfl⟩
  case round =>
    obtain ⟨e, k, he, hkn, rfl, hwr⟩ := hrel
    rw [hwr]
    clear hwr
    have hk0 : 0 < k := by rw [← he]; exact Nat.two_pow_pos e
    by_cases hm : 2 * k ≤ n
    · have hmi : 2 * (k : Int) ≤ (n : Int) := by omega
      have hw2 : IntKind.i64.wrap (2 * (k : Int)) = 2 * (k : Int) := by have := HC.out; rw [IntKind.wrap_i64]; omega
      have HE := Lib.hid (And.intro he hk0)
      clear he hk0
      go_wp2_with fail
      go_roundw
      case rel => exact ⟨e + 1, 2 * k, by rw [Nat.pow_succ, HE.out.1, Nat.mul_comm], hm, by go_num, by first | rfl | trivial⟩
      case measure => simp [intOf]; have := HE.out; omega
    · have hmi : ¬ 2 * (k : Int) ≤ (n : Int) := by omega
      have hw2 : IntKind.i64.wrap (2 * (k : Int)) = 2 * (k : Int) := by have := HC.out; rw [IntKind.wrap_i64]; omega
      obtain ⟨j, hj0⟩ : ∃ j, z % k = j := ⟨_, rfl⟩
      have hjk : j < k := by rw [← hj0]; exact Nat.mod_lt _ hk0
      have ht : Int.tmod (z : Int) (k : Int) = (j : Int) := by rw [Int.tmod_eq_emod_of_nonneg (by omega), ← hj0]; rfl
      have hz : ¬ (k : Int) = 0 := by omega
      have hkz : ¬ k = 0 := by omega
      have cut1 := run_take_sums (ad := ad) (n := n) (c := c) (k := k) hkn HC.out.1.cap
      have hj1 : (0 : Int) ≤ (j : Int) := by omega
      have hj2 : (j : Int) < (k : Int) := by omega
      obtain ⟨X, hX⟩ : ∃ X, ys.take (32 * k) = X := ⟨_, rfl⟩
      have iX := HC.out.1.in_.take hkn
      rw [hX] at iX
      have HX := Lib.hid (And.intro iX (And.intro (fun x (hx : x ∈ X) => show x < 256 from HC.out.1.lt x (List.mem_of_mem_take (by rw [hX]; exact hx))) (And.intro he (And.intro hk0 (And.intro hjk (show k ≤ 100 by have := HC.out; omega))))))
      have hb9 : k + k ≤ 1000000000 := by have := HC.out; omega
      have hb8 : 0 + k ≤ 1000000000 := by have := HC.out; omega
      clear he hk0 hm hj0 hX iX hjk hkn
      go_upto_region 7 with (refine wpList_step fun K hK => ?_; refine step_sapp (K := K) (by rfl) _ _ (by rfl) w1.heap.size none 0 0 [] (by rfl) (own_none _ _ _ _) (some ad) k c X (by rfl) (HX.out.1.below H1.out.1) (fun e => by cases e) hb8 (Nat.le_refl _) ?_; intro A2 c2 w2 o2 nx2; have HN2 := Lib.hid (And.intro o2 (nx2.below (own_none w1 w1.heap.size 24 32) (Below.refl _ _) (Nat.le_refl _) (Nat.le_refl _))); clear o2 nx2; refine hK _ _ ?_; clear hK K)
      have oa2 := HN2.out.1
      rw [Nat.zero_add, List.nil_append] at oa2
      obtain ⟨ga, ca, hga, _, hgal⟩ := oa2.form (by have := HX.out; omega)
      cases hga
      have OA := Lib.hid oa2
      have BA := Lib.hid (below_on H1.out.1 (Nat.le_refl _) HN2.out.2)
      have GS := Lib.hid (H1.out.2.below HN2.out.2)
      clear oa2 HN2 hgal
      go_upto_region 8 with (refine wpList_step fun K hK => ?_; refine step_sapp (K := K) (by rfl) _ _ (by rfl) w2.heap.size none 0 0 [] (by rfl) (own_none _ _ _ _) (some ⟨ga, 0, none⟩) k _ X (by rfl) (InS.of_own OA.out) (fun e => by cases e) hb8 (Nat.le_refl _) ?_; intro A3 c3 w3 o3 nx3; rw [Nat.zero_add, List.nil_append] at o3; have HN3 := Lib.hid (And.intro o3 (nx3.below (own_none w2 w2.heap.size 24 32) (Below.refl _ _) (Nat.le_refl _) (Nat.le_refl _))); clear o3 nx3; refine hK _ _ ?_; clear hK K)
      have ob3 := HN3.out.1
      obtain ⟨gb, cb, hgb, hgb1, hgb2⟩ := ob3.form (by have := HX.out; omega)
      cases hgb
      obtain ⟨cur, hcur, hfit, oput⟩ := own_put (cs := bvs s) (k := j) (show w3.drew.ownsRow w2.heap.size 24 32 (.slice (some ⟨gb, 0, none⟩) k _) k (bvs X) from ob3.drew) HX.out.2.2.2.2.1 (by rw [bvs_length, HC.out.2.1])
      obtain ⟨Y, hY⟩ : ∃ Y, X.take (j * 32) ++ s ++ X.drop (j * 32 + 32) = Y := ⟨_, rfl⟩
      rw [show j * 32 + 32 = j * 32 + s.length by rw [HC.out.2.1]] at hY
      rw [bvs_splice, hY] at oput
      have hYl : Y.length = 32 * k := by rw [← hY]; have := HX.out.1.len; have := HX.out.2.2.2.2.1; have := HC.out.2.1; simp only [List.length_append, List.length_take, List.length_drop]; omega
      have hYb : ∀ x ∈ Y, x < 256 := by
        rw [← hY]
        intro x hx
        rcases List.mem_append.1 hx with hx | hx
        · rcases List.mem_append.1 hx with hx | hx
          · exact HX.out.2.1 x (List.mem_of_mem_take hx)
          · exact HC.out.2.2.1 x hx
        · exact HX.out.2.1 x (List.mem_of_mem_drop hx)
      have hsl := HC.out.2.1
      have PUT := Lib.hid (And.intro hcur (And.intro hfit (And.intro oput (And.intro hYl (And.intro hYb (And.intro hgb1 hgb2))))))
      clear ob3 hcur hfit oput hY hYl hYb hgb1 hgb2
      have GS3 := Lib.hid (GS.out.below HN3.out.2)
      go_wp2_with fail
      refine wp_region_held (S := fun W => BArr W w.heap.size 24 s) (by kernel_rfl) ?_
      change wpAnyH _ _ _ _ _ _ _ _ w3.drew
      have hT0 : BArr w3.drew w.heap.size 24 s := GS3.out
      refine' wpAnyH_take (i := 0) (oi := _) (v := _) ?hip0 (by kernel_rfl) ?hfp0 ?hrp0 ?hQp0 ?hyp0 hT0 ?restp0
      case hip0 => (simp only [List.getElem?_toArray, List.getElem?_cons_zero]; rfl)
      case hfp0 => kernel_rfl
      case hrp0 => kernel_rfl
      case hQp0 => exact fun _ _ _ h => h
      case hyp0 => refine Or.inl ⟨by rfl, ?_⟩; intro W hSw; go_simp; try with_reducible rfl
      try simp only [Act.put, List.setIfInBounds_toArray, List.set_cons_zero, List.set_cons_succ]
      refine' wpAnyH_take (i := 1) (oi := _) (v := _) ?hip1 (by kernel_rfl) ?hfp1 ?hrp1 ?hQp1 ?hyp1 hT0 ?restp1
      case hip1 => (simp only [List.getElem?_toArray, List.getElem?_cons_zero, List.getElem?_cons_succ]; rfl)
      case hfp1 => kernel_rfl
      case hrp1 => kernel_rfl
      case hQp1 => exact fun _ _ _ h => h
      case hyp1 => refine Or.inl ⟨by rfl, ?_⟩; intro W hSw; go_simp; try with_reducible rfl
      try simp only [Act.put, List.setIfInBounds_toArray, List.set_cons_zero, List.set_cons_succ]
      refine' wpAnyH_take (i := 2) (oi := _) (v := _) ?hip2 (by kernel_rfl) ?hfp2 ?hrp2 ?hQp2 ?hyp2 hT0 ?restp2
      case hip2 => (simp only [List.getElem?_toArray, List.getElem?_cons_zero, List.getElem?_cons_succ]; rfl)
      case hfp2 => kernel_rfl
      case hrp2 => kernel_rfl
      case hQp2 => exact fun _ _ _ h => h
      case hyp2 => refine Or.inl ⟨by rfl, ?_⟩; intro W hSw; go_simp; try with_reducible rfl
      try simp only [Act.put, List.setIfInBounds_toArray, List.set_cons_zero, List.set_cons_succ]
      refine' wpAnyH_take (i := 3) (oi := _) (v := _) ?hip3 (by kernel_rfl) ?hfp3 ?hrp3 ?hQp3 ?hyp3 hT0 ?restp3
      case hip3 => (simp only [List.getElem?_toArray, List.getElem?_cons_zero, List.getElem?_cons_succ]; rfl)
      case hfp3 => kernel_rfl
      case hrp3 => kernel_rfl
      case hQp3 => exact fun _ _ _ h => h
      case hyp3 => refine Or.inl ⟨by rfl, ?_⟩; intro W hSw; go_simp; try with_reducible rfl
      try simp only [Act.put, List.setIfInBounds_toArray, List.set_cons_zero, List.set_cons_succ]
      refine' wpAnyH_take (i := 4) (oi := _) (v := _) ?hip4 (by kernel_rfl) ?hfp4 ?hrp4 ?hQp4 ?hyp4 hT0 ?restp4
      case hip4 => (simp only [List.getElem?_toArray, List.getElem?_cons_zero, List.getElem?_cons_succ]; rfl)
      case hfp4 => kernel_rfl
      case hrp4 => kernel_rfl
      case hQp4 => exact fun _ _ _ h => h
      case hyp4 => refine Or.inl ⟨by rfl, ?_⟩; intro W hSw; go_simp; try with_reducible rfl
      try simp only [Act.put, List.setIfInBounds_toArray, List.set_cons_zero, List.set_cons_succ]
      refine' wpAnyH_take (i := 5) (oi := _) (v := sv (s)) ?hip5 (by kernel_rfl) ?hfp5 ?hrp5 ?hQp5 ?hyp5 hT0 ?restp5
      case hip5 => (simp only [List.getElem?_toArray, List.getElem?_cons_zero, List.getElem?_cons_succ]; rfl)
      case hfp5 => kernel_rfl
      case hrp5 => kernel_rfl
      case hQp5 => exact fun _ _ _ h => h
      case hyp5 => refine yields_sum ?_ (.tmp 4) rfl ⟨w.heap.size, 0, none⟩ rfl s hsl (fun W hSw => hSw.at_); rfl
      try simp only [Act.put, List.setIfInBounds_toArray, List.set_cons_zero, List.set_cons_succ]
      refine' wpAnyH_take (i := 6) (oi := _) (v := _) ?hip6 (by kernel_rfl) ?hfp6 ?hrp6 ?hQp6 ?hyp6 hT0 ?restp6
      case hip6 => (simp only [List.getElem?_toArray, List.getElem?_cons_zero, List.getElem?_cons_succ]; rfl)
      case hfp6 => kernel_rfl
      case hrp6 => kernel_rfl
      case hQp6 => exact fun _ _ _ h => h
      case hyp6 => refine Or.inl ⟨by rfl, ?_⟩; intro W hSw; go_simp; try with_reducible rfl
      try simp only [Act.put, List.setIfInBounds_toArray, List.set_cons_zero, List.set_cons_succ]
      refine wpAnyH_ready (rs := [7]) (by kernel_rfl) (by simp) ?_
      refine' AllReadyH.cons (o := _) ?hip7 (fun K hK => ?_) AllReadyH.nil
      case hip7 => (simp only [List.getElem?_toArray, List.getElem?_cons_zero, List.getElem?_cons_succ]; rfl)
      rw [if_pos (by rfl)]
      refine step_store_at 24 (.tmp 47) (.tmp 46) rfl gb (j * 32) (bvs s) cur 24 (by rfl) rfl PUT.out.1 (by rw [bvs_length, hsl]; exact sizeSum) (by rw [bvs_length, hsl]; exact PUT.out.2.1) (bvs_oneCell s) ?_
      refine hK.out _ _ (hT0.setRow_other gb (by have := PUT.out.2.2.2.2.2.1; have := GS.out.lt; omega) _) (fun _ => ?_)
      clear hK K
      refine wpAnyH_done (by kernel_rfl) ?_ _
      have B24 : Below w2.heap.size w2 (w3.drew.setRow gb (splice cur (j * 32) (bvs s)).toArray) := below_setRow HN3.out.2.drew PUT.out.2.2.2.2.2.1 _
      have ob4 := PUT.out.2.2.1
      obtain ⟨w4, hw4⟩ : ∃ w4, w4 = w3.drew.setRow gb (splice cur (j * 32) (bvs s)).toArray := ⟨_, rfl⟩
      rw [← hw4] at B24 ob4 ⊢
      clear hw4
      have R4 := Lib.hid (And.intro (own_on OA.out B24) (And.intro ob4 (below_on BA.out (Nat.le_refl _) B24)))
      obtain ⟨d, hd⟩ : ∃ d, dep j k = d := ⟨_, rfl⟩
      obtain ⟨PX, hPX⟩ : ∃ P, (pathL (nth X) 0 k j).flatten = P := ⟨_, rfl⟩
      obtain ⟨PY, hPY⟩ : ∃ P, (pathL (nth Y) 0 k j).flatten = P := ⟨_, rfl⟩
      obtain ⟨RX, hRX⟩ : ∃ R, rt (nth X) 0 k = R := ⟨_, rfl⟩
      obtain ⟨RY, hRY⟩ : ∃ R, rt (nth Y) 0 k = R := ⟨_, rfl⟩
      have lRX : RX.length = 32 := by rw [← hRX]; exact rt_length _ 0 k fun i hi => by rw [Nat.zero_add]; exact nth_length HX.out.1.len hi
      have lRY : RY.length = 32 := by rw [← hRY]; exact rt_length _ 0 k fun i hi => by rw [Nat.zero_add]; exact nth_length PUT.out.2.2.2.1 hi
      have hXYb : ∀ x ∈ X ++ Y, x < 256 := fun x hx => by rcases List.mem_append.1 hx with h | h; exact HX.out.2.1 x h; exact PUT.out.2.2.2.2.1 x h
      have hd64 : d ≤ 64 := by rw [← hd]; exact dep_64 HX.out.2.2.2.2.1 (by have := HX.out; omega)
      have hd9 : d + 1 ≤ 1000000000 := by omega
      have KW := Lib.hid (fun (W : World) (hW : Below w4.heap.size w4 W) => And.intro (HK.out.1.below (below_on R4.out.2.2 (Nat.le_refl _) hW)) (HK.out.2.below (below_on R4.out.2.2 (Nat.le_refl _) hW)))
      have CX := Lib.hid (fun (W : World) (A : Option Addr) (cA : Nat) (hW : Below w4.heap.size w4 W) (hi : InS W A (k + k) (X ++ Y)) (hc : k + k ≤ cA) => show Calls Tryd.prog 7 #[.slice A (k + k) cA, .int .i64 (j : Int)] W fun e w' => ∃ A' c', e = .returned (.tuple #[.slice A' (d + 1) c', .int .i64 0]) ∧ w'.ownsRow W.heap.size 24 32 (.slice A' (d + 1) c') (d + 1) (bvs (PX ++ RY)) ∧ Below W.heap.size W w' from by
        have := pof_yes (at_ := j) hi hXYb hc (by have := HX.out; omega) (by have := HX.out; omega) (KW.out W hW).1 (KW.out W hW).2
        rw [dep_left HX.out.2.2.1 HX.out.2.2.2.2.1, path_left HX.out.2.2.1 HX.out.1.len HX.out.2.2.2.2.1, List.flatten_append, List.flatten_singleton, hd, hPX, hRY] at this
        exact this)
      obtain ⟨kj, hkj⟩ : ∃ kj, k + j = kj := ⟨_, rfl⟩
      have CZ := Lib.hid (fun (W : World) (A : Option Addr) (cA : Nat) (hW : Below w4.heap.size w4 W) (hi : InS W A (k + k) (X ++ Y)) (hc : k + k ≤ cA) => show Calls Tryd.prog 7 #[.slice A (k + k) cA, .int .i64 (kj : Int)] W fun e w' => ∃ A' c', e = .returned (.tuple #[.slice A' (d + 1) c', .int .i64 0]) ∧ w'.ownsRow W.heap.size 24 32 (.slice A' (d + 1) c') (d + 1) (bvs (PY ++ RX)) ∧ Below W.heap.size W w' from by
        have := pof_yes (at_ := kj) hi hXYb hc (by have := HX.out; omega) (by have := HX.out; omega) (KW.out W hW).1 (KW.out W hW).2
        rw [← hkj, dep_right HX.out.2.2.1, path_right HX.out.2.2.1 HX.out.1.len, List.flatten_append, List.flatten_singleton, hd, hPY, hRX] at this
        rw [← hkj]
        exact this)
      have CY := Lib.hid (fun (W : World) (A : Option Addr) (cA : Nat) (hW : Below w4.heap.size w4 W) (hi : InS W A k X) (hc : k ≤ cA) => show Calls Tryd.prog 7 #[.slice A k cA, .int .i64 (j : Int)] W fun e w' => ∃ A' c', e = .returned (.tuple #[.slice A' d c', .int .i64 0]) ∧ w'.ownsRow W.heap.size 24 32 (.slice A' d c') d (bvs PX) ∧ Below W.heap.size W w' from by
        have := pof_yes (at_ := j) hi HX.out.2.1 hc (by have := HX.out; omega) HX.out.2.2.2.2.1 (KW.out W hW).1 (KW.out W hW).2
        rw [hd, hPX] at this
        exact this)
      have CV := Lib.hid (fun (W : World) (A : Option Addr) (cA : Nat) (hW : Below w4.heap.size w4 W) (hi : InS W A k Y) (hc : k ≤ cA) => show Calls Tryd.prog 7 #[.slice A k cA, .int .i64 (j : Int)] W fun e w' => ∃ A' c', e = .returned (.tuple #[.slice A' d c', .int .i64 0]) ∧ w'.ownsRow W.heap.size 24 32 (.slice A' d c') d (bvs PY) ∧ Below W.heap.size W w' from by
        have := pof_yes (at_ := j) hi PUT.out.2.2.2.2.1 hc (by have := HX.out; omega) HX.out.2.2.2.2.1 (KW.out W hW).1 (KW.out W hW).2
        rw [hd, hPY] at this
        exact this)
      have CRX := Lib.hid (fun (W : World) (A : Option Addr) (cA : Nat) (hk : Knows W ∧ Starts W) (hi : InS W A k X) (hc : k ≤ cA) => show Calls Tryd.prog 8 #[.slice A k cA] W fun e w' => e = .returned (sv RX) ∧ Below W.heap.size W w' from by
        have := root_any A k cA X W hi HX.out.2.1 hc (by have := HX.out; omega) hk.1 hk.2
        rw [hRX] at this
        exact this)
      have CRY := Lib.hid (fun (W : World) (A : Option Addr) (cA : Nat) (hk : Knows W ∧ Starts W) (hi : InS W A k Y) (hc : k ≤ cA) => show Calls Tryd.prog 8 #[.slice A k cA] W fun e w' => e = .returned (sv RY) ∧ Below W.heap.size W w' from by
        have := root_any A k cA Y W hi PUT.out.2.2.2.2.1 hc (by have := HX.out; omega) hk.1 hk.2
        rw [hRY] at this
        exact this)
      have kji : (k : Int) + (j : Int) = (kj : Int) := by omega
      have kjw2 : IntKind.i64.wrap (kj : Int) = (kj : Int) := by have := HX.out; rw [IntKind.wrap_i64]; omega
      have hkj200 : kj ≤ 200 := by have := HX.out; omega
      have HKJ := Lib.hid hkj200
      clear hd hPX hPY hRX hRY hXYb hkj hkj200 hT0 B24 ob4 GS GS3
      have kjw : wrap64 (kj : Int) = (kj : Int) := by have := HKJ.out; simp only [wrap64]; omega
      have HKJW := Lib.hid kjw
      clear kjw
      go_wp2_with (first
        | (refine wpList_step fun K hK => ?_; refine step_sapp (K := K) (by rfl) _ _ (by rfl) w4.heap.size none 0 0 [] (by rfl) (own_none _ _ _ _) (some ⟨ga, 0, none⟩) k _ X (by rfl) (InS.of_own R4.out.1) (fun e => by cases e) hb8 (Nat.le_refl _) ?_; intro A5 c5 w5 o5 nx5; rw [Nat.zero_add, List.nil_append] at o5; have HN5 := Lib.hid (And.intro o5 (nx5.below (own_none w4 w4.heap.size 24 32) (Below.refl _ _) (Nat.le_refl _) (Nat.le_refl _))); clear o5 nx5; refine hK _ _ ?_; clear hK K)
        | (refine wpList_step fun K hK => ?_; refine step_sapp (K := K) (by rfl) _ _ (by rfl) w4.heap.size A5 k c5 X (by rfl) HN5.out.1 (some ⟨gb, 0, none⟩) k _ Y (by rfl) (InS.of_own (own_on R4.out.2.1 HN5.out.2)) (fun e => by cases e) hb9 HN5.out.2.size ?_; intro A6 c6 w6 o6 nx6; have HN6 := Lib.hid (And.intro o6 (And.intro (nx6.below HN5.out.1 HN5.out.2 (Nat.le_refl _) HN5.out.2.size) nx6)); clear o6 nx6; refine hK _ _ ?_; clear hK K))
      refine (CX.out w6 A6 c6 HN6.out.2.1 (InS.of_own HN6.out.1) (own_cap HN6.out.1)).mono ?_
      rintro e w7 ⟨A7, c7, rfl, o7, b7⟩
      have B7 := Lib.hid (below_on HN6.out.2.1 (Nat.le_refl _) b7)
      have O7 := Lib.hid o7
      clear o7 b7 HN5 HN6
      go_wp2_with fail
      refine (CY.out w7 _ _ B7.out (InS.of_own (own_on R4.out.1 B7.out)) (own_cap R4.out.1)).mono ?_
      rintro e w8 ⟨A8, c8, rfl, o8, b8⟩
      have B8 := Lib.hid (And.intro (below_on B7.out (Nat.le_refl _) b8) b8)
      have O8 := Lib.hid o8
      clear o8 b8
      have kjw := HKJW.out
      go_wp2_with (first
        | (refine wpList_step fun K hK => ?_; refine step_sapp (K := K) (by rfl) _ _ (by rfl) w8.heap.size none 0 0 [] (by rfl) (own_none _ _ _ _) (some ⟨ga, 0, none⟩) k _ X (by rfl) (InS.of_own (own_on R4.out.1 B8.out.1)) (fun e => by cases e) hb8 (Nat.le_refl _) ?_; intro A9 c9 w9 o9 nx9; rw [Nat.zero_add, List.nil_append] at o9; have HN9 := Lib.hid (And.intro o9 (nx9.below (own_none w8 w8.heap.size 24 32) (Below.refl _ _) (Nat.le_refl _) (Nat.le_refl _))); clear o9 nx9; refine hK _ _ ?_; clear hK K)
        | (refine wpList_step fun K hK => ?_; refine step_sapp (K := K) (by rfl) _ _ (by rfl) w8.heap.size A9 k c9 X (by rfl) HN9.out.1 (some ⟨gb, 0, none⟩) k _ Y (by rfl) (InS.of_own (own_on R4.out.2.1 (below_on B8.out.1 (Nat.le_refl _) HN9.out.2))) (fun e => by cases e) hb9 HN9.out.2.size ?_; intro A10 c10 w10 o10 nx10; have HN10 := Lib.hid (And.intro o10 (And.intro (nx10.below HN9.out.1 HN9.out.2 (Nat.le_refl _) HN9.out.2.size) nx10)); clear o10 nx10; refine hK _ _ ?_; clear hK K))
      clear kjw
      have B10 := Lib.hid (And.intro (below_on B8.out.1 (Nat.le_refl _) HN10.out.2.1) (And.intro (below_on B8.out.2 (Nat.le_refl _) HN10.out.2.1) HN10.out.2.1))
      refine (CZ.out w10 A10 c10 B10.out.1 (InS.of_own HN10.out.1) (own_cap HN10.out.1)).mono ?_
      rintro e w11 ⟨A11, c11, rfl, o11, b11⟩
      have B11 := Lib.hid (And.intro (below_on B10.out.1 (Nat.le_refl _) b11) (And.intro (below_on B10.out.2.1 (Nat.le_refl _) b11) (below_on B10.out.2.2 (Nat.le_refl _) b11)))
      have O11 := Lib.hid o11
      clear o11 b11 HN9 HN10
      go_wp2_with fail
      refine (CV.out w11 _ _ B11.out.1 (InS.of_own (own_on R4.out.2.1 B11.out.1)) (own_cap R4.out.2.1)).mono ?_
      rintro e w12 ⟨A12, c12, rfl, o12, b12⟩
      have B12 := Lib.hid (And.intro (below_on B11.out.1 (Nat.le_refl _) b12) (And.intro (below_on B11.out.2.1 (Nat.le_refl _) b12) (And.intro (below_on B11.out.2.2 (Nat.le_refl _) b12) b12)))
      have O12 := Lib.hid o12
      clear o12 b12
      go_wp2_with fail
      refine (walive_any w12 (KW.out w12 B12.out.1).1 (KW.out w12 B12.out.1).2).mono ?_
      rintro e w13 ⟨rfl, b13⟩
      go_wp2_with fail
      refine (CRY.out w13 _ _ (KW.out w13 (below_on B12.out.1 (Nat.le_refl _) b13)) (InS.of_own (own_on R4.out.2.1 (below_on B12.out.1 (Nat.le_refl _) b13))) (own_cap R4.out.2.1)).mono ?_
      rintro e w14 ⟨rfl, b14⟩
      have b1314 := below_on b13 (Nat.le_refl _) b14
      obtain ⟨w15, hw15⟩ : ∃ w15, w15 = w14.alloc (.cells (bvs RY).toArray 24) := ⟨_, rfl⟩
      have b15 : Below w12.heap.size w12 w15 := by rw [hw15]; exact b1314.alloc b1314.size _
      have i15 : InS w15 (some ⟨w14.heap.size, 0, none⟩) 1 RY := by rw [hw15]; exact InS.of_own (own_sum w14 RY 0 lRY (Nat.zero_le _))
      have E15 := Lib.hid (And.intro i15 (And.intro (below_on B12.out.1 (Nat.le_refl _) b15) (And.intro (below_on B12.out.2.1 (Nat.le_refl _) b15) (And.intro (below_on B12.out.2.2.1 (Nat.le_refl _) b15) (And.intro (below_on B12.out.2.2.2 (Nat.le_refl _) b15) b15)))))
      have HW15 := Lib.hid hw15
      have oy := Lib.hid (own_on O8.out E15.out.2.2.2.1)
      have oz := Lib.hid (own_on O11.out E15.out.2.2.2.2.1)
      have ov := Lib.hid (own_on O12.out E15.out.2.2.2.2.2)
      clear hw15 i15 b15 b1314 b13 b14
      go_wp2_with (first
        | (refine wpList_step fun K hK => ?_; rw [if_pos (by rfl)]; refine wp_sums (K := K) _ [RY] 1 rfl rfl (by simp <;> rfl) (by intro q hq; simp at hq; rw [hq]; exact lRY) (by decide) (by decide) ?_; rw [show [RY].flatten = RY by simp]; rw [← HW15.out]; refine hK _ _ ?_; clear hK K)
        | (refine wpList_step fun K hK => ?_; refine step_sapp (K := K) (by rfl) _ _ (by rfl) w7.heap.size A8 d c8 PX (by rfl) oy.out (some ⟨w14.heap.size, 0, none⟩) 1 1 RY (by rfl) E15.out.1 (fun e => by cases e) hd9 E15.out.2.2.1.size ?_; intro A16 c16 w16 o16 nx16; have HN16 := Lib.hid (And.intro o16 (And.intro (nx16.below oy.out E15.out.2.2.1 (Nat.le_refl _) E15.out.2.2.1.size) nx16)); clear o16 nx16; refine hK _ _ ?_; clear hK K))
      have x16 := own_on O7.out HN16.out.2.1
      have a16 := own_on (own_on R4.out.1 B7.out) HN16.out.2.1
      have z16 := HN16.out.2.2.keep oz.out (fun q hy hz => by have := (O8.out.lt q hy).2; have := (O11.out.lt q hz).1; have := B10.out.2.2.size; omega)
      have v16 := HN16.out.2.2.keep ov.out (fun q hy hz => by have := (O8.out.lt q hy).2; have := (O12.out.lt q hz).1; have := B11.out.2.2.size; omega)
      have b416 := HN16.out.2.2.below oy.out E15.out.2.1 B7.out.size E15.out.2.1.size
      refine (sameSums_yes A7 A16 (d + 1) c7 c16 (PX ++ RY) w16 (InS.of_own x16) (InS.of_own HN16.out.1) (by omega)).mono ?_
      rintro e w17 ⟨rfl, q17, hq17⟩
      have b17 : Below w16.heap.size w16 w17 := by rw [hq17]; exact ⟨rfl, rfl, rfl, Nat.le_refl _, fun _ _ => rfl⟩
      clear hq17
      go_wp2_with fail
      refine (CRX.out w17 _ _ (KW.out w17 (below_on b416 (Nat.le_refl _) b17)) (InS.of_own (own_on a16 b17)) (own_cap a16)).mono ?_
      rintro e w18 ⟨rfl, b18⟩
      have b1618 := below_on b17 (Nat.le_refl _) b18
      obtain ⟨w19, hw19⟩ : ∃ w19, w19 = w18.alloc (.cells (bvs RX).toArray 24) := ⟨_, rfl⟩
      have b19 : Below w16.heap.size w16 w19 := by rw [hw19]; exact b1618.alloc b1618.size _
      have i19 : InS w19 (some ⟨w18.heap.size, 0, none⟩) 1 RX := by rw [hw19]; exact InS.of_own (own_sum w18 RX 0 lRX (Nat.zero_le _))
      have bel19 := below_on (below_on R4.out.2.2 (Nat.le_refl _) b416) (Nat.le_refl _) b19
      have ov19 := own_on v16 b19
      have oz19 := own_on z16 b19
      have s19 : w11.heap.size ≤ w19.heap.size := Nat.le_trans (Nat.le_trans E15.out.2.2.2.2.1.size HN16.out.2.2.grown.size) b19.size
      have s011 : w.heap.size ≤ w11.heap.size := Nat.le_trans R4.out.2.2.size B11.out.1.size
      have E19 := Lib.hid (And.intro i19 (And.intro bel19 (And.intro ov19 (And.intro oz19 (And.intro s19 s011)))))
      have HW19 := Lib.hid hw19
      clear hw19 i19 bel19 ov19 oz19 s19 s011 b19 b1618 b18 b17 b416 x16 a16 z16 v16
      go_wp2_with (first
        | (refine wpList_step fun K hK => ?_; rw [if_pos (by rfl)]; refine wp_sums (K := K) _ [RX] 1 rfl rfl (by simp <;> rfl) (by intro q hq; simp at hq; rw [hq]; exact lRX) (by decide) (by decide) ?_; rw [show [RX].flatten = RX by simp]; rw [← HW19.out]; refine hK _ _ ?_; clear hK K)
        | (refine wpList_step fun K hK => ?_; refine step_sapp (K := K) (by rfl) _ _ (by rfl) w11.heap.size A12 d c12 PY (by rfl) E19.out.2.2.1 (some ⟨w18.heap.size, 0, none⟩) 1 1 RX (by rfl) E19.out.1 (fun e => by cases e) hd9 E19.out.2.2.2.2.1 ?_; intro A20 c20 w20 o20 nx20; have HN20 := Lib.hid (And.intro o20 (And.intro (nx20.below E19.out.2.2.1 E19.out.2.1 E19.out.2.2.2.2.2 E19.out.2.1.size) nx20)); clear o20 nx20; refine hK _ _ ?_; clear hK K))
      have z20 := HN20.out.2.2.keep E19.out.2.2.2.1 (fun q hv hz => by have := (O12.out.lt q hv).1; have := (O11.out.lt q hz).2; omega)
      refine (sameSums_yes A11 A20 (d + 1) c11 c20 (PY ++ RX) w20 (InS.of_own z20) (InS.of_own HN20.out.1) (by omega)).mono ?_
      rintro e w21 ⟨rfl, q21, hq21⟩
      have b21 : Below w20.heap.size w20 w21 := by rw [hq21]; exact ⟨rfl, rfl, rfl, Nat.le_refl _, fun _ _ => rfl⟩
      clear hq21
      go_wp2_with fail
      go_ret
      exact ⟨rfl, below_on HN20.out.2.1 (Nat.le_refl _) b21⟩
end

theorem pathsBoth_law (w : World) (hk : Knows w) (hs : Starts w) {A : Option Addr} {n c z : Nat} {ys s : List Nat} (cm : CameS w A n c ys) (hsl : s.length = 32) (hsb : ∀ x ∈ s, x < 256) (hz : z < 256) :
    Calls Tryd.prog 5 #[.slice A n c, .agg (bvs s).toArray, .int .u8 (z : Int)] w fun e w' => e = .returned (.bool true) ∧ Below w.heap.size w w' := by
  by_cases h : n = 0 ∨ 100 < n
  · exact both_else hk hs h
  · exact both_main hk hs cm hsl hsb (by omega) (by omega) hz

end Go.Proofs.YtppfdpnplemfkaaDoor
