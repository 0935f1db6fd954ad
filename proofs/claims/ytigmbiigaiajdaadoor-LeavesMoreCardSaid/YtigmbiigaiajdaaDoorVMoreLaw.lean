/-
  almonerlaw08.LeavesMore, on a list of sums and a sum that came in.
-/
import Derived.Test.YtigmbiigaiajdaaDoorVSApp
namespace Go.Proofs.YtigmbiigaiajdaaDoor
open Go.RowKit

set_option maxRecDepth 100000 in
set_option maxHeartbeats 4000000 in
theorem more_else (w : World) (hk : Knows w) (hs : Starts w) (A : Option Addr) (n c : Nat) (s : List Nat) (h : n = 0 ∨ 200 < n) :
    Calls Tryd.prog 6 #[.slice A n c, sv s] w fun e w' => e = .returned (.bool true) ∧ Below w.heap.size w w' := by
  have b1 := below_alloc w (.cells (bvs s).toArray 24)
  obtain ⟨w1, hw1⟩ : ∃ w1, w1 = w.alloc (.cells (bvs s).toArray 24) := ⟨_, rfl⟩
  rw [← hw1] at b1
  have HW := Lib.hid (And.intro b1 hw1)
  have C := Lib.hid (alive_any w1 (hk.below b1) (hs.below b1))
  clear b1 hw1
  unfold sv
  go_enter Tryd.func6, Tryd.ntmps6
  go_upto_region 1 with fail
  rw [← HW.out.2]
  rcases h with h | h
  · subst h
    go_wp2_with fail
    refine C.out.mono ?_
    rintro e w2 ⟨rfl, hb⟩
    go_wp2_with fail
    go_ret
    exact ⟨rfl, below_on HW.out.1 (Nat.le_refl _) hb⟩
  · have h2 : ((n : Int) == 0) = false := by simp; omega
    have h3 : decide ((200 : Int) < (n : Int)) = true := by simp; omega
    go_wp2_with fail
    refine C.out.mono ?_
    rintro e w2 ⟨rfl, hb⟩
    go_wp2_with fail
    go_ret
    exact ⟨rfl, below_on HW.out.1 (Nat.le_refl _) hb⟩

theorem rt_behind (a s : List Nat) (e k : Nat) (he : 2 ^ e = k) (ha : a.length = 32 * k) (hl : s.length = 32) : rt (nth (a ++ s)) 0 (k + 1) = nodeL (rt (nth a) 0 k) s := by
  have hk : 0 < k := by rw [← he]; exact Nat.two_pow_pos e
  have hc : cutN (k + 1) = k := by rw [← he]; exact cutN_of (by omega) (by omega)
  rw [rt_cut _ 0 (by omega), hc, show k + 1 - k = 1 by omega, rt_one, Nat.zero_add]
  congr 1
  · refine rt_congr _ _ k 0 0 fun j hj => ?_
    rw [Nat.zero_add, nth, nth, List.drop_append_of_le_length (by omega), List.take_append_of_le_length (by rw [List.length_drop]; omega)]
  · rw [nth, ← ha, List.drop_left', List.take_of_length_le (by omega)]
    rfl
theorem rt_twice (a : List Nat) (e k : Nat) (he : 2 ^ e = k) (ha : a.length = 32 * k) : rt (nth (a ++ a)) 0 (k + k) = nodeL (rt (nth a) 0 k) (rt (nth a) 0 k) := by
  have hk : 0 < k := by rw [← he]; exact Nat.two_pow_pos e
  have hc : cutN (k + k) = k := by rw [← he]; exact cutN_of (by omega) (by omega)
  rw [rt_cut _ 0 (by omega), hc, show k + k - k = k by omega, Nat.zero_add]
  congr 1
  · refine rt_congr _ _ k 0 0 fun j hj => ?_
    rw [Nat.zero_add, nth, nth, List.drop_append_of_le_length (by omega), List.take_append_of_le_length (by rw [List.length_drop]; omega)]
  · refine rt_congr _ _ k k 0 fun j hj => ?_
    rw [Nat.zero_add, nth, nth, show 32 * (k + j) = a.length + 32 * j by omega, List.drop_length_add_append]

set_option maxRecDepth 100000 in
set_option maxHeartbeats 4000000 in
theorem more_some (w : World) (hk : Knows w) (hs : Starts w) (A : Option Addr) (n c : Nat) (ys s : List Nat) (hc0 : CameS w A n c ys) (hl : s.length = 32) (ll : ∀ x ∈ s, x < 256) (h0 : 0 < n) (h200 : n ≤ 200) :
    Calls Tryd.prog 6 #[.slice A n c, sv s] w fun e w' => e = .returned (.bool true) ∧ Below w.heap.size w w' := by
  obtain ⟨ad, rfl⟩ := hc0.in_.some_ h0
  have b1 := below_alloc w (.cells (bvs s).toArray 24)
  have f1 := BArr.new w 24 s
  obtain ⟨w1, hw1⟩ : ∃ w1, w1 = w.alloc (.cells (bvs s).toArray 24) := ⟨_, rfl⟩
  rw [← hw1] at b1 f1
  have HW := Lib.hid (And.intro b1 (And.intro hw1 f1))
  have HC := Lib.hid (And.intro hc0 (And.intro hl ll))
  have i1 : ((n : Int) == 0) = false := by simp; omega
  have i2 : decide ((200 : Int) < (n : Int)) = false := by simp; omega
  clear b1 hw1 hc0 hl ll f1
  unfold sv
  go_enter Tryd.func6, Tryd.ntmps6
  go_upto_region 1 with fail
  rw [← HW.out.2.1]
  go_wp2_with fail
  go_loopw [5] (fun i wr => ∃ e k : Nat, 2 ^ e = k ∧ k ≤ n ∧ i = .int .i64 (k : Int) ∧ wr = w1) (fun i _ => n + 1 - (intOf i).toNat)
  case atStart => exact ⟨0, 1, rfl, by omega, rfl, rfl⟩
  case round =>
    obtain ⟨e, k, he, hlt, rfl, rfl⟩ := hrel
    have hw2 : wrap64 (2 * (k : Int)) = 2 * (k : Int) := by simp only [wrap64]; omega
    by_cases hmore : 2 * k ≤ n
    · have hi : decide (2 * (k : Int) ≤ (n : Int)) = true := by simp; omega
      have HP := Lib.hid he
      clear he
      go_wp2
      go_roundw
      case rel => exact ⟨e + 1, 2 * k, by rw [Nat.pow_succ, HP.out, Nat.mul_comm], hmore, by go_num, trivial⟩
      case measure => simp [intOf]; have := Nat.two_pow_pos e; have := HP.out; omega
    · have hi : decide (2 * (k : Int) ≤ (n : Int)) = false := by simp; omega
      have hkp : 0 < k := by rw [← he]; exact Nat.two_pow_pos e
      obtain ⟨a, ha0⟩ : ∃ a, ys.take (32 * k) = a := ⟨_, rfl⟩
      have ia : InS wr (some ad) k a := by rw [← ha0]; exact (HC.out.1.in_.take hlt).below HW.out.1
      have la : ∀ x ∈ a, x < 256 := by rw [← ha0]; exact fun x hx => HC.out.1.lt x (List.mem_of_mem_take hx)
      have s1 := run_take_sums (ad := ad) (n := n) (c := c) (k := k) hlt HC.out.1.cap
      have hcap := HC.out.1.cap
      obtain ⟨R, hR⟩ : ∃ R, rt (nth a) 0 k = R := ⟨_, rfl⟩
      have lR : R.length = 32 := by rw [← hR]; exact rt_length _ _ _ fun j hj => nth_length ia.len (by omega)
      have bR : ∀ x ∈ R, x < 256 := by rw [← hR]; exact rt_lt _ _ _ fun j _ => nth_lt la _
      obtain ⟨R1, hR1⟩ : ∃ R1, nodeL R s = R1 := ⟨_, rfl⟩
      obtain ⟨R2, hR2⟩ : ∃ R2, nodeL R R = R2 := ⟨_, rfl⟩
      have lR1 : R1.length = 32 := by rw [← hR1]; exact nodeL_length _ _
      have lR2 : R2.length = 32 := by rw [← hR2]; exact nodeL_length _ _
      have e1 : rt (nth (a ++ s)) 0 (k + 1) = R1 := by rw [rt_behind a s e k he ia.len HC.out.2.1, hR, hR1]
      have e2 : rt (nth (a ++ a)) 0 (k + k) = R2 := by rw [rt_twice a e k he ia.len, hR, hR2]
      have CR := Lib.hid (later (v' := sv R) (Below.refl _ wr) (by rw [hR]) (root_any (some ad) k c a wr ia la (by omega) (by omega) (hk.below HW.out.1) (hs.below HW.out.1)))
      have HE := Lib.hid (And.intro e1 (And.intro e2 (And.intro hR1 hR2)))
      have HA := Lib.hid (And.intro ia (And.intro la bR))
      clear ha0 hR hR1 hR2 e1 e2 he ia la bR
      go_wp2_with fail
      refine CR.out.mono ?_
      rintro e w2 ⟨rfl, hb2⟩
      obtain ⟨w3, hw3⟩ : ∃ w3, w3 = w2.alloc (.cells (bvs R).toArray 24) := ⟨_, rfl⟩
      have b3 := below_on hb2 (Nat.le_refl _) (below_alloc w2 (.cells (bvs R).toArray 24))
      have f3 := BArr.new w2 24 R
      rw [← hw3] at b3 f3
      have H3 := Lib.hid (And.intro b3 (And.intro f3 (And.intro hw3 (And.intro (HA.out.1.below b3) (HW.out.2.2.below b3)))))
      clear b3 f3 hw3 CR hb2
      go_upto_region 9 with ((with_reducible refine wpList_store_new w2 _ ?_ rfl (.tmp 7) (.tmp 29) rfl rfl R lR rfl ?_); · simp)
      rw [← H3.out.2.2.1]
      obtain ⟨gr, hgr⟩ : ∃ gr, w2.heap.size = gr := ⟨_, rfl⟩
      rw [hgr] at H3 ⊢
      clear hgr
      have o0 := own_none w3 w3.heap.size 24 32
      have hz := Nat.le_refl w3.heap.size
      have HO0 := Lib.hid o0
      clear o0
      go_wp2_with (first
        | (refine wpList_step fun K hK => ?_; refine step_sapp (K := K) (by rfl) _ _ (by rfl) w3.heap.size none 0 0 [] (by rfl) HO0.out (some ad) k c a (by rfl) H3.out.2.2.2.1 (fun e => by cases e) (by omega) hz ?_; intro A4 c4 w4 ow4 nx4; rw [Nat.zero_add, List.nil_append] at ow4; rw [Nat.zero_add] at nx4; have HO4 := Lib.hid (And.intro ow4 (nx4.below HO0.out (Below.refl _ _) (Nat.le_refl _) (Nat.le_refl _))); clear ow4 nx4; refine hK _ _ ?_; clear hK K; rw [Nat.zero_add])
        | (refine wpList_step fun K hK => ?_; refine step_sapp (K := K) (by rfl) _ _ (by rfl) w3.heap.size A4 k c4 a (by rfl) HO4.out.1 (some ad) k c a (by rfl) (H3.out.2.2.2.1.below HO4.out.2) (fun e => by cases e) (by omega) HO4.out.2.size ?_; intro A5 c5 w5 ow5 nx5; have HO5 := Lib.hid (And.intro ow5 (nx5.below HO4.out.1 HO4.out.2 (Nat.le_refl _) HO4.out.2.size)); clear ow5 nx5; refine hK _ _ ?_; clear hK K))
      have b5 := below_on H3.out.1 (Nat.le_refl _) HO5.out.2
      have F5 := Lib.hid (And.intro (below_on HW.out.1 (Nat.le_refl _) b5) (And.intro (H3.out.2.1.below HO5.out.2) (And.intro (H3.out.2.2.2.1.below HO5.out.2) (H3.out.2.2.2.2.below HO5.out.2))))
      have HB := Lib.hid (And.intro (InS.of_own HO5.out.1) (own_cap HO5.out.1))
      have hls := HC.out.2.1
      have CA := Lib.hid (fun (W : World) (hW : Below w5.heap.size w5 W) => later (v' := .bool true) hW rfl (alive_any W ((hk.below F5.out.1).below hW) ((hs.below F5.out.1).below hW)))
      have CN1 := Lib.hid (fun (W : World) (hW : Below w5.heap.size w5 W) => later (v' := sv R1) hW (by rw [HE.out.2.2.1]) (node_any R s W lR hls HA.out.2.2 HC.out.2.2 ((hk.below F5.out.1).below hW) ((hs.below F5.out.1).below hW)))
      have CN2 := Lib.hid (fun (W : World) (hW : Below w5.heap.size w5 W) => later (v' := sv R2) hW (by rw [HE.out.2.2.2]) (node_any R R W lR lR HA.out.2.2 HA.out.2.2 ((hk.below F5.out.1).below hW) ((hs.below F5.out.1).below hW)))
      have CR2 := Lib.hid (fun (W : World) (hW : Below w5.heap.size w5 W) => later (v' := sv R2) hW (by rw [HE.out.2.1]) (root_any A5 (k + k) c5 (a ++ a) W (HB.out.1.below hW) (fun x hx => HA.out.2.1 x (by rcases List.mem_append.1 hx with h | h <;> exact h)) HB.out.2 (by omega) ((hk.below F5.out.1).below hW) ((hs.below F5.out.1).below hW)))
      have CR1 := Lib.hid (fun (W : World) (hW : Below w5.heap.size w5 W) (A9 : Option Addr) (c9 : Nat) (ow : W.ownsRow w5.heap.size 24 32 (.slice A9 (k + 1) c9) (k + 1) (bvs (a ++ s))) => later (v' := sv R1) hW (by rw [HE.out.1]) (root_any A9 (k + 1) c9 (a ++ s) W (InS.of_own ow) (fun x hx => by rcases List.mem_append.1 hx with h | h; exact HA.out.2.1 x h; exact HC.out.2.2 x h) (own_cap ow) (by omega) ((hk.below F5.out.1).below hW) ((hs.below F5.out.1).below hW)))
      have q1 := run_eql_sum R1 R1 lR1 lR1
      rw [decide_eq_true rfl] at q1
      have q3 := run_eql_sum R2 R2 lR2 lR2
      rw [decide_eq_true rfl] at q3
      have q2 := run_guard_eql
      clear b5 H3 HO0 HO4 HO5 hz lR1 lR2
      go_wp2_with fail
      refine wp_region_held_drew (S := fun W => Below w5.heap.size w5 W) (by kernel_rfl) ((Below.refl _ _).drew) (fun hS0 => ?_)
      change wpAnyH _ _ _ _ _ _ _ _ w5.drew
      refine wpAnyH_ready (rs := [0]) (by kernel_rfl) (by simp) ?_
      refine' AllReadyH.cons (o := _) ?him0 (fun K hK => ?_) AllReadyH.nil
      case him0 => (simp only [List.getElem?_toArray, List.getElem?_cons_zero]; rfl)
      go_simp
      go_at_call 18
      refine (CA.out _ hS0).mono ?_
      rintro e Wm2 ⟨rfl, hBm1⟩
      refine hK.out _ _ hBm1 (fun _ => ?_)
      clear hK K
      try simp only [Act.put, List.setIfInBounds_toArray, List.set_cons_zero, List.set_cons_succ]
      refine' wpAnyH_take (i := 1) (oi := _) (v := _) ?him1 (by kernel_rfl) ?hfm1 ?hrm1 ?hQm1 ?hym1 hBm1 ?restm1
      case him1 => (simp only [List.getElem?_toArray, List.getElem?_cons_zero, List.getElem?_cons_succ]; rfl)
      case hfm1 => kernel_rfl
      case hrm1 => kernel_rfl
      case hQm1 => exact fun _ _ _ h => h
      case hym1 => refine Or.inl ⟨by rfl, ?_⟩; intro W hSw; go_simp; try with_reducible rfl
      try simp only [Act.put, List.setIfInBounds_toArray, List.set_cons_zero, List.set_cons_succ]
      refine' wpAnyH_take (i := 2) (oi := _) (v := _) ?him2 (by kernel_rfl) ?hfm2 ?hrm2 ?hQm2 ?hym2 hBm1 ?restm2
      case him2 => (simp only [List.getElem?_toArray, List.getElem?_cons_zero, List.getElem?_cons_succ]; rfl)
      case hfm2 => kernel_rfl
      case hrm2 => kernel_rfl
      case hQm2 => exact fun _ _ _ h => h
      case hym2 => refine Or.inl ⟨by rfl, ?_⟩; intro W hSw; go_simp; try with_reducible rfl
      try simp only [Act.put, List.setIfInBounds_toArray, List.set_cons_zero, List.set_cons_succ]
      refine' wpAnyH_take (i := 4) (oi := _) (v := sv (s)) ?him4 (by kernel_rfl) ?hfm4 ?hrm4 ?hQm4 ?hym4 hBm1 ?restm4
      case him4 => (simp only [List.getElem?_toArray, List.getElem?_cons_zero, List.getElem?_cons_succ]; rfl)
      case hfm4 => kernel_rfl
      case hrm4 => kernel_rfl
      case hQm4 => exact fun _ _ _ h => h
      case hym4 => refine yields_sum ?_ (.tmp 3) rfl ⟨w.heap.size, 0, none⟩ rfl s hls (fun W hSw => (F5.out.2.2.2.below hSw).at_); rfl
      try simp only [Act.put, List.setIfInBounds_toArray, List.set_cons_zero, List.set_cons_succ]
      refine' wpAnyH_take (i := 8) (oi := _) (v := sv (R)) ?him8 (by kernel_rfl) ?hfm8 ?hrm8 ?hQm8 ?hym8 hBm1 ?restm8
      case him8 => (simp only [List.getElem?_toArray, List.getElem?_cons_zero, List.getElem?_cons_succ]; rfl)
      case hfm8 => kernel_rfl
      case hrm8 => kernel_rfl
      case hQm8 => exact fun _ _ _ h => h
      case hym8 => refine yields_sum ?_ (.tmp 7) rfl ⟨gr, 0, none⟩ rfl R lR (fun W hSw => (F5.out.2.1.below hSw).at_); rfl
      try simp only [Act.put, List.setIfInBounds_toArray, List.set_cons_zero, List.set_cons_succ]
      refine' wpAnyH_take (i := 9) (oi := _) (v := sv (s)) ?him9 (by kernel_rfl) ?hfm9 ?hrm9 ?hQm9 ?hym9 hBm1 ?restm9
      case him9 => (simp only [List.getElem?_toArray, List.getElem?_cons_zero, List.getElem?_cons_succ]; rfl)
      case hfm9 => kernel_rfl
      case hrm9 => kernel_rfl
      case hQm9 => exact fun _ _ _ h => h
      case hym9 => refine yields_sum ?_ (.tmp 3) rfl ⟨w.heap.size, 0, none⟩ rfl s hls (fun W hSw => (F5.out.2.2.2.below hSw).at_); rfl
      try simp only [Act.put, List.setIfInBounds_toArray, List.set_cons_zero, List.set_cons_succ]
      refine wpAnyH_ready (rs := [3, 5]) (by kernel_rfl) (by simp) ?_
      refine' AllReadyH.cons (o := _) ?hiA (fun K hK => ?_) (AllReadyH.cons (o := _) ?hiB (fun K hK => ?_) AllReadyH.nil)
      case hiA => (simp only [List.getElem?_toArray, List.getElem?_cons_zero, List.getElem?_cons_succ]; rfl)
      case hiB => (simp only [List.getElem?_toArray, List.getElem?_cons_zero, List.getElem?_cons_succ]; rfl)
      · skip
        refine step_sapp (by rfl) _ _ (by rfl) Wm2.heap.size none 0 0 [] (by rfl) (own_none _ _ _ _) (some ad) k c a (by rfl) (F5.out.2.2.1.below hBm1) (fun e => by cases e) (by omega) (Nat.le_refl _) ?_
        intro A7 c7 W7 ow7 nx7
        rw [Nat.zero_add, List.nil_append] at ow7
        rw [Nat.zero_add] at nx7
        have b7 := nx7.below (own_none _ Wm2.heap.size 24 32) (Below.refl _ _) (Nat.le_refl _) (Nat.le_refl _)
        have hB7 := below_on hBm1 (Nat.le_refl _) b7
        have ow7 := Joins.ownsRow_le ow7 (Below.size hBm1)
        rw [Nat.zero_add]
        refine hK.out _ _ hB7 (fun _ => ?_)
        clear hK K nx7
        try simp only [Act.put, List.setIfInBounds_toArray, List.set_cons_zero, List.set_cons_succ]
        refine wpAnyH_ready (rs := [5]) (by kernel_rfl) (by simp) ?_
        refine' AllReadyH.cons (o := _) ?hin5 (fun K hK => ?_) AllReadyH.nil
        case hin5 => (simp only [List.getElem?_toArray, List.getElem?_cons_zero, List.getElem?_cons_succ]; rfl)
        rw [if_pos (by rfl)]
        refine wp_sums _ [s] 1 rfl rfl (by simp <;> rfl) (by intro x hx; simp at hx; rw [hx]; exact hls) (by omega) (by omega) ?_
        have hB8 := Below.alloc hB7 (Below.size hB7) (.cells (bvs [s].flatten).toArray 24)
        have ow7 := own_on ow7 (below_alloc W7 (.cells (bvs [s].flatten).toArray 24))
        have i8 : InS (W7.alloc (.cells (bvs [s].flatten).toArray 24)) (some ⟨W7.heap.size, 0, none⟩) 1 s := ⟨by rw [hls], by have := (In.new' W7 [s].flatten 24).rd; simpa using this⟩
        refine hK.out _ _ hB8 (fun _ => ?_)
        clear hK K
        try simp only [Act.put, List.setIfInBounds_toArray, List.set_cons_zero, List.set_cons_succ]
        refine wpAnyH_ready (rs := [6]) (by kernel_rfl) (by simp) ?_
        refine' AllReadyH.cons (o := _) ?hip6 (fun K hK => ?_) AllReadyH.nil
        case hip6 => (simp only [List.getElem?_toArray, List.getElem?_cons_zero, List.getElem?_cons_succ]; rfl)
        refine step_sapp (by rfl) _ _ (by rfl) w5.heap.size A7 k c7 a (by rfl) ow7 (some ⟨W7.heap.size, 0, none⟩) 1 1 s (by rfl) i8 (fun e => by cases e) (by omega) (Below.size hB8) ?_
        intro A9 c9 W9 ow9 nx9
        have hB9 := nx9.below ow7 hB8 (Nat.le_refl _) (Below.size hB8)
        refine hK.out _ _ hB9 (fun _ => ?_)
        clear hK K nx9 ow7 i8
        try simp only [Act.put, List.setIfInBounds_toArray, List.set_cons_zero, List.set_cons_succ]
        refine wpAnyH_ready (rs := [7]) (by kernel_rfl) (by simp) ?_
        refine' AllReadyH.cons (o := _) ?hip7 (fun K hK => ?_) AllReadyH.nil
        case hip7 => (simp only [List.getElem?_toArray, List.getElem?_cons_zero, List.getElem?_cons_succ]; rfl)
        go_simp
        go_at_call 14
        refine (CR1.out _ hB9 A9 c9 ow9).mono ?_
        rintro e Wp2 ⟨rfl, hBp1⟩
        refine hK.out _ _ hBp1 (fun _ => ?_)
        clear hK K
        try simp only [Act.put, List.setIfInBounds_toArray, List.set_cons_zero, List.set_cons_succ]
        refine wpAnyH_ready (rs := [10]) (by kernel_rfl) (by simp) ?_
        refine' AllReadyH.cons (o := _) ?hip10 (fun K hK => ?_) AllReadyH.nil
        case hip10 => (simp only [List.getElem?_toArray, List.getElem?_cons_zero, List.getElem?_cons_succ]; rfl)
        go_simp
        go_at_call 12
        refine (CN1.out _ hBp1).mono ?_
        rintro e Wp4 ⟨rfl, hBp3⟩
        refine hK.out _ _ hBp3 (fun _ => ?_)
        clear hK K
        try simp only [Act.put, List.setIfInBounds_toArray, List.set_cons_zero, List.set_cons_succ]
        refine' wpAnyH_take (i := 11) (oi := _) (v := _) ?hip11 (by kernel_rfl) ?hfp11 ?hrp11 ?hQp11 ?hyp11 hBp3 ?restp11
        case hip11 => (simp only [List.getElem?_toArray, List.getElem?_cons_zero, List.getElem?_cons_succ]; rfl)
        case hfp11 => kernel_rfl
        case hrp11 => kernel_rfl
        case hQp11 => exact fun _ _ _ h => h
        case hyp11 => refine Or.inl ⟨by rfl, ?_⟩; intro W hSw; go_simp; try with_reducible rfl
        try simp only [Act.put, List.setIfInBounds_toArray, List.set_cons_zero, List.set_cons_succ]
        refine' wpAnyH_take (i := 12) (oi := _) (v := _) ?hip12 (by kernel_rfl) ?hfp12 ?hrp12 ?hQp12 ?hyp12 hBp3 ?restp12
        case hip12 => (simp only [List.getElem?_toArray, List.getElem?_cons_zero, List.getElem?_cons_succ]; rfl)
        case hfp12 => kernel_rfl
        case hrp12 => kernel_rfl
        case hQp12 => exact fun _ _ _ h => h
        case hyp12 => refine Or.inl ⟨by rfl, ?_⟩; intro W hSw; go_simp; try with_reducible rfl
        try simp only [Act.put, List.setIfInBounds_toArray, List.set_cons_zero, List.set_cons_succ]
        refine' wpAnyH_take (i := 13) (oi := _) (v := _) ?hip13 (by kernel_rfl) ?hfp13 ?hrp13 ?hQp13 ?hyp13 hBp3 ?restp13
        case hip13 => (simp only [List.getElem?_toArray, List.getElem?_cons_zero, List.getElem?_cons_succ]; rfl)
        case hfp13 => kernel_rfl
        case hrp13 => kernel_rfl
        case hQp13 => exact fun _ _ _ h => h
        case hyp13 => refine Or.inl ⟨by rfl, ?_⟩; intro W hSw; go_simp; try with_reducible rfl
        try simp only [Act.put, List.setIfInBounds_toArray, List.set_cons_zero, List.set_cons_succ]
        refine' wpAnyH_take (i := 14) (oi := _) (v := _) ?hip14 (by kernel_rfl) ?hfp14 ?hrp14 ?hQp14 ?hyp14 hBp3 ?restp14
        case hip14 => (simp only [List.getElem?_toArray, List.getElem?_cons_zero, List.getElem?_cons_succ]; rfl)
        case hfp14 => kernel_rfl
        case hrp14 => kernel_rfl
        case hQp14 => exact fun _ _ _ h => h
        case hyp14 => refine Or.inl ⟨by rfl, ?_⟩; intro W hSw; go_simp; try with_reducible rfl
        try simp only [Act.put, List.setIfInBounds_toArray, List.set_cons_zero, List.set_cons_succ]
        refine' wpAnyH_take (i := 16) (oi := _) (v := sv (R)) ?hip16 (by kernel_rfl) ?hfp16 ?hrp16 ?hQp16 ?hyp16 hBp3 ?restp16
        case hip16 => (simp only [List.getElem?_toArray, List.getElem?_cons_zero, List.getElem?_cons_succ]; rfl)
        case hfp16 => kernel_rfl
        case hrp16 => kernel_rfl
        case hQp16 => exact fun _ _ _ h => h
        case hyp16 => refine yields_sum ?_ (.tmp 7) rfl ⟨gr, 0, none⟩ rfl R lR (fun W hSw => (F5.out.2.1.below hSw).at_); rfl
        try simp only [Act.put, List.setIfInBounds_toArray, List.set_cons_zero, List.set_cons_succ]
        refine' wpAnyH_take (i := 17) (oi := _) (v := sv (R)) ?hip17 (by kernel_rfl) ?hfp17 ?hrp17 ?hQp17 ?hyp17 hBp3 ?restp17
        case hip17 => (simp only [List.getElem?_toArray, List.getElem?_cons_zero, List.getElem?_cons_succ]; rfl)
        case hfp17 => kernel_rfl
        case hrp17 => kernel_rfl
        case hQp17 => exact fun _ _ _ h => h
        case hyp17 => refine yields_sum ?_ (.tmp 7) rfl ⟨gr, 0, none⟩ rfl R lR (fun W hSw => (F5.out.2.1.below hSw).at_); rfl
        try simp only [Act.put, List.setIfInBounds_toArray, List.set_cons_zero, List.set_cons_succ]
        refine wpAnyH_ready (rs := [15]) (by kernel_rfl) (by simp) ?_
        refine' AllReadyH.cons (o := _) ?hip15 (fun K hK => ?_) AllReadyH.nil
        case hip15 => (simp only [List.getElem?_toArray, List.getElem?_cons_zero, List.getElem?_cons_succ]; rfl)
        go_simp
        go_at_call 14
        refine (CR2.out _ hBp3).mono ?_
        rintro e Wp6 ⟨rfl, hBp5⟩
        refine hK.out _ _ hBp5 (fun _ => ?_)
        clear hK K
        try simp only [Act.put, List.setIfInBounds_toArray, List.set_cons_zero, List.set_cons_succ]
        refine wpAnyH_ready (rs := [18]) (by kernel_rfl) (by simp) ?_
        refine' AllReadyH.cons (o := _) ?hip18 (fun K hK => ?_) AllReadyH.nil
        case hip18 => (simp only [List.getElem?_toArray, List.getElem?_cons_zero, List.getElem?_cons_succ]; rfl)
        go_simp
        go_at_call 12
        refine (CN2.out _ hBp5).mono ?_
        rintro e Wp8 ⟨rfl, hBp7⟩
        refine hK.out _ _ hBp7 (fun _ => ?_)
        clear hK K
        try simp only [Act.put, List.setIfInBounds_toArray, List.set_cons_zero, List.set_cons_succ]
        refine' wpAnyH_take (i := 19) (oi := _) (v := _) ?hip19 (by kernel_rfl) ?hfp19 ?hrp19 ?hQp19 ?hyp19 hBp7 ?restp19
        case hip19 => (simp only [List.getElem?_toArray, List.getElem?_cons_zero, List.getElem?_cons_succ]; rfl)
        case hfp19 => kernel_rfl
        case hrp19 => kernel_rfl
        case hQp19 => exact fun _ _ _ h => h
        case hyp19 => refine Or.inl ⟨by rfl, ?_⟩; intro W hSw; go_simp; try with_reducible rfl
        try simp only [Act.put, List.setIfInBounds_toArray, List.set_cons_zero, List.set_cons_succ]
        refine' wpAnyH_take (i := 20) (oi := _) (v := _) ?hip20 (by kernel_rfl) ?hfp20 ?hrp20 ?hQp20 ?hyp20 hBp7 ?restp20
        case hip20 => (simp only [List.getElem?_toArray, List.getElem?_cons_zero, List.getElem?_cons_succ]; rfl)
        case hfp20 => kernel_rfl
        case hrp20 => kernel_rfl
        case hQp20 => exact fun _ _ _ h => h
        case hyp20 => refine Or.inl ⟨by rfl, ?_⟩; intro W hSw; go_simp; try with_reducible rfl
        try simp only [Act.put, List.setIfInBounds_toArray, List.set_cons_zero, List.set_cons_succ]
        refine' wpAnyH_take (i := 21) (oi := _) (v := _) ?hip21 (by kernel_rfl) ?hfp21 ?hrp21 ?hQp21 ?hyp21 hBp7 ?restp21
        case hip21 => (simp only [List.getElem?_toArray, List.getElem?_cons_zero, List.getElem?_cons_succ]; rfl)
        case hfp21 => kernel_rfl
        case hrp21 => kernel_rfl
        case hQp21 => exact fun _ _ _ h => h
        case hyp21 => refine Or.inl ⟨by rfl, ?_⟩; intro W hSw; go_simp; try with_reducible rfl
        try simp only [Act.put, List.setIfInBounds_toArray, List.set_cons_zero, List.set_cons_succ]
        refine wpAnyH_done (by kernel_rfl) ?_ _
        go_wp2
        go_ret
        exact ⟨rfl, below_on F5.out.1 (Nat.le_refl _) hBp7⟩
      · skip
        rw [if_pos (by rfl)]
        refine wp_sums _ [s] 1 rfl rfl (by simp <;> rfl) (by intro x hx; simp at hx; rw [hx]; exact hls) (by omega) (by omega) ?_
        have hB8 := Below.alloc hBm1 (Below.size hBm1) (.cells (bvs [s].flatten).toArray 24)
        have i7 : InS (Wm2.alloc (.cells (bvs [s].flatten).toArray 24)) (some ⟨Wm2.heap.size, 0, none⟩) 1 s := ⟨by rw [hls], by have := (In.new' Wm2 [s].flatten 24).rd; simpa using this⟩
        refine hK.out _ _ hB8 (fun _ => ?_)
        clear hK K
        try simp only [Act.put, List.setIfInBounds_toArray, List.set_cons_zero, List.set_cons_succ]
        refine wpAnyH_ready (rs := [3]) (by kernel_rfl) (by simp) ?_
        refine' AllReadyH.cons (o := _) ?his3 (fun K hK => ?_) AllReadyH.nil
        case his3 => (simp only [List.getElem?_toArray, List.getElem?_cons_zero, List.getElem?_cons_succ]; rfl)
        refine step_sapp (by rfl) _ _ (by rfl) (Wm2.alloc (.cells (bvs [s].flatten).toArray 24)).heap.size none 0 0 [] (by rfl) (own_none _ _ _ _) (some ad) k c a (by rfl) (F5.out.2.2.1.below hB8) (fun e => by cases e) (by omega) (Nat.le_refl _) ?_
        intro A7 c7 W7 ow7 nx7
        rw [Nat.zero_add, List.nil_append] at ow7
        rw [Nat.zero_add] at nx7
        have b7 := nx7.below (own_none _ (Wm2.alloc (.cells (bvs [s].flatten).toArray 24)).heap.size 24 32) (Below.refl _ _) (Nat.le_refl _) (Nat.le_refl _)
        have hB7 := below_on hB8 (Nat.le_refl _) b7
        have ow7 := Joins.ownsRow_le ow7 (Below.size hB8)
        rw [Nat.zero_add]
        have i8 := i7.below b7
        refine hK.out _ _ hB7 (fun _ => ?_)
        clear hK K nx7
        try simp only [Act.put, List.setIfInBounds_toArray, List.set_cons_zero, List.set_cons_succ]
        refine wpAnyH_ready (rs := [6]) (by kernel_rfl) (by simp) ?_
        refine' AllReadyH.cons (o := _) ?hit6 (fun K hK => ?_) AllReadyH.nil
        case hit6 => (simp only [List.getElem?_toArray, List.getElem?_cons_zero, List.getElem?_cons_succ]; rfl)
        refine step_sapp (by rfl) _ _ (by rfl) w5.heap.size A7 k c7 a (by rfl) ow7 (some ⟨Wm2.heap.size, 0, none⟩) 1 1 s (by rfl) i8 (fun e => by cases e) (by omega) (Below.size hB7) ?_
        intro A9 c9 W9 ow9 nx9
        have hB9 := nx9.below ow7 hB7 (Nat.le_refl _) (Below.size hB7)
        refine hK.out _ _ hB9 (fun _ => ?_)
        clear hK K nx9 ow7 i8
        try simp only [Act.put, List.setIfInBounds_toArray, List.set_cons_zero, List.set_cons_succ]
        refine wpAnyH_ready (rs := [7]) (by kernel_rfl) (by simp) ?_
        refine' AllReadyH.cons (o := _) ?hit7 (fun K hK => ?_) AllReadyH.nil
        case hit7 => (simp only [List.getElem?_toArray, List.getElem?_cons_zero, List.getElem?_cons_succ]; rfl)
        go_simp
        go_at_call 14
        refine (CR1.out _ hB9 A9 c9 ow9).mono ?_
        rintro e Wt2 ⟨rfl, hBt1⟩
        refine hK.out _ _ hBt1 (fun _ => ?_)
        clear hK K
        try simp only [Act.put, List.setIfInBounds_toArray, List.set_cons_zero, List.set_cons_succ]
        refine wpAnyH_ready (rs := [10]) (by kernel_rfl) (by simp) ?_
        refine' AllReadyH.cons (o := _) ?hit10 (fun K hK => ?_) AllReadyH.nil
        case hit10 => (simp only [List.getElem?_toArray, List.getElem?_cons_zero, List.getElem?_cons_succ]; rfl)
        go_simp
        go_at_call 12
        refine (CN1.out _ hBt1).mono ?_
        rintro e Wt4 ⟨rfl, hBt3⟩
        refine hK.out _ _ hBt3 (fun _ => ?_)
        clear hK K
        try simp only [Act.put, List.setIfInBounds_toArray, List.set_cons_zero, List.set_cons_succ]
        refine' wpAnyH_take (i := 11) (oi := _) (v := _) ?hit11 (by kernel_rfl) ?hft11 ?hrt11 ?hQt11 ?hyt11 hBt3 ?restt11
        case hit11 => (simp only [List.getElem?_toArray, List.getElem?_cons_zero, List.getElem?_cons_succ]; rfl)
        case hft11 => kernel_rfl
        case hrt11 => kernel_rfl
        case hQt11 => exact fun _ _ _ h => h
        case hyt11 => refine Or.inl ⟨by rfl, ?_⟩; intro W hSw; go_simp; try with_reducible rfl
        try simp only [Act.put, List.setIfInBounds_toArray, List.set_cons_zero, List.set_cons_succ]
        refine' wpAnyH_take (i := 12) (oi := _) (v := _) ?hit12 (by kernel_rfl) ?hft12 ?hrt12 ?hQt12 ?hyt12 hBt3 ?restt12
        case hit12 => (simp only [List.getElem?_toArray, List.getElem?_cons_zero, List.getElem?_cons_succ]; rfl)
        case hft12 => kernel_rfl
        case hrt12 => kernel_rfl
        case hQt12 => exact fun _ _ _ h => h
        case hyt12 => refine Or.inl ⟨by rfl, ?_⟩; intro W hSw; go_simp; try with_reducible rfl
        try simp only [Act.put, List.setIfInBounds_toArray, List.set_cons_zero, List.set_cons_succ]
        refine' wpAnyH_take (i := 13) (oi := _) (v := _) ?hit13 (by kernel_rfl) ?hft13 ?hrt13 ?hQt13 ?hyt13 hBt3 ?restt13
        case hit13 => (simp only [List.getElem?_toArray, List.getElem?_cons_zero, List.getElem?_cons_succ]; rfl)
        case hft13 => kernel_rfl
        case hrt13 => kernel_rfl
        case hQt13 => exact fun _ _ _ h => h
        case hyt13 => refine Or.inl ⟨by rfl, ?_⟩; intro W hSw; go_simp; try with_reducible rfl
        try simp only [Act.put, List.setIfInBounds_toArray, List.set_cons_zero, List.set_cons_succ]
        refine' wpAnyH_take (i := 14) (oi := _) (v := _) ?hit14 (by kernel_rfl) ?hft14 ?hrt14 ?hQt14 ?hyt14 hBt3 ?restt14
        case hit14 => (simp only [List.getElem?_toArray, List.getElem?_cons_zero, List.getElem?_cons_succ]; rfl)
        case hft14 => kernel_rfl
        case hrt14 => kernel_rfl
        case hQt14 => exact fun _ _ _ h => h
        case hyt14 => refine Or.inl ⟨by rfl, ?_⟩; intro W hSw; go_simp; try with_reducible rfl
        try simp only [Act.put, List.setIfInBounds_toArray, List.set_cons_zero, List.set_cons_succ]
        refine' wpAnyH_take (i := 16) (oi := _) (v := sv (R)) ?hit16 (by kernel_rfl) ?hft16 ?hrt16 ?hQt16 ?hyt16 hBt3 ?restt16
        case hit16 => (simp only [List.getElem?_toArray, List.getElem?_cons_zero, List.getElem?_cons_succ]; rfl)
        case hft16 => kernel_rfl
        case hrt16 => kernel_rfl
        case hQt16 => exact fun _ _ _ h => h
        case hyt16 => refine yields_sum ?_ (.tmp 7) rfl ⟨gr, 0, none⟩ rfl R lR (fun W hSw => (F5.out.2.1.below hSw).at_); rfl
        try simp only [Act.put, List.setIfInBounds_toArray, List.set_cons_zero, List.set_cons_succ]
        refine' wpAnyH_take (i := 17) (oi := _) (v := sv (R)) ?hit17 (by kernel_rfl) ?hft17 ?hrt17 ?hQt17 ?hyt17 hBt3 ?restt17
        case hit17 => (simp only [List.getElem?_toArray, List.getElem?_cons_zero, List.getElem?_cons_succ]; rfl)
        case hft17 => kernel_rfl
        case hrt17 => kernel_rfl
        case hQt17 => exact fun _ _ _ h => h
        case hyt17 => refine yields_sum ?_ (.tmp 7) rfl ⟨gr, 0, none⟩ rfl R lR (fun W hSw => (F5.out.2.1.below hSw).at_); rfl
        try simp only [Act.put, List.setIfInBounds_toArray, List.set_cons_zero, List.set_cons_succ]
        refine wpAnyH_ready (rs := [15]) (by kernel_rfl) (by simp) ?_
        refine' AllReadyH.cons (o := _) ?hit15 (fun K hK => ?_) AllReadyH.nil
        case hit15 => (simp only [List.getElem?_toArray, List.getElem?_cons_zero, List.getElem?_cons_succ]; rfl)
        go_simp
        go_at_call 14
        refine (CR2.out _ hBt3).mono ?_
        rintro e Wt6 ⟨rfl, hBt5⟩
        refine hK.out _ _ hBt5 (fun _ => ?_)
        clear hK K
        try simp only [Act.put, List.setIfInBounds_toArray, List.set_cons_zero, List.set_cons_succ]
        refine wpAnyH_ready (rs := [18]) (by kernel_rfl) (by simp) ?_
        refine' AllReadyH.cons (o := _) ?hit18 (fun K hK => ?_) AllReadyH.nil
        case hit18 => (simp only [List.getElem?_toArray, List.getElem?_cons_zero, List.getElem?_cons_succ]; rfl)
        go_simp
        go_at_call 12
        refine (CN2.out _ hBt5).mono ?_
        rintro e Wt8 ⟨rfl, hBt7⟩
        refine hK.out _ _ hBt7 (fun _ => ?_)
        clear hK K
        try simp only [Act.put, List.setIfInBounds_toArray, List.set_cons_zero, List.set_cons_succ]
        refine' wpAnyH_take (i := 19) (oi := _) (v := _) ?hit19 (by kernel_rfl) ?hft19 ?hrt19 ?hQt19 ?hyt19 hBt7 ?restt19
        case hit19 => (simp only [List.getElem?_toArray, List.getElem?_cons_zero, List.getElem?_cons_succ]; rfl)
        case hft19 => kernel_rfl
        case hrt19 => kernel_rfl
        case hQt19 => exact fun _ _ _ h => h
        case hyt19 => refine Or.inl ⟨by rfl, ?_⟩; intro W hSw; go_simp; try with_reducible rfl
        try simp only [Act.put, List.setIfInBounds_toArray, List.set_cons_zero, List.set_cons_succ]
        refine' wpAnyH_take (i := 20) (oi := _) (v := _) ?hit20 (by kernel_rfl) ?hft20 ?hrt20 ?hQt20 ?hyt20 hBt7 ?restt20
        case hit20 => (simp only [List.getElem?_toArray, List.getElem?_cons_zero, List.getElem?_cons_succ]; rfl)
        case hft20 => kernel_rfl
        case hrt20 => kernel_rfl
        case hQt20 => exact fun _ _ _ h => h
        case hyt20 => refine Or.inl ⟨by rfl, ?_⟩; intro W hSw; go_simp; try with_reducible rfl
        try simp only [Act.put, List.setIfInBounds_toArray, List.set_cons_zero, List.set_cons_succ]
        refine' wpAnyH_take (i := 21) (oi := _) (v := _) ?hit21 (by kernel_rfl) ?hft21 ?hrt21 ?hQt21 ?hyt21 hBt7 ?restt21
        case hit21 => (simp only [List.getElem?_toArray, List.getElem?_cons_zero, List.getElem?_cons_succ]; rfl)
        case hft21 => kernel_rfl
        case hrt21 => kernel_rfl
        case hQt21 => exact fun _ _ _ h => h
        case hyt21 => refine Or.inl ⟨by rfl, ?_⟩; intro W hSw; go_simp; try with_reducible rfl
        try simp only [Act.put, List.setIfInBounds_toArray, List.set_cons_zero, List.set_cons_succ]
        refine wpAnyH_done (by kernel_rfl) ?_ _
        go_wp2
        go_ret
        exact ⟨rfl, below_on F5.out.1 (Nat.le_refl _) hBt7⟩

theorem leavesMore_law (w : World) (hk : Knows w) (hs : Starts w) {A : Option Addr} {n c : Nat} {ys s : List Nat} (h : CameS w A n c ys) (hl : s.length = 32) (ll : ∀ x ∈ s, x < 256) :
    Calls Tryd.prog 6 #[.slice A n c, sv s] w fun e w' => e = .returned (.bool true) ∧ Below w.heap.size w w' := by
  by_cases h1 : n = 0 ∨ 200 < n
  · exact more_else w hk hs A n c s h1
  · exact more_some w hk hs A n c ys s h hl ll (by omega) (by omega)

end Go.Proofs.YtigmbiigaiajdaaDoor
