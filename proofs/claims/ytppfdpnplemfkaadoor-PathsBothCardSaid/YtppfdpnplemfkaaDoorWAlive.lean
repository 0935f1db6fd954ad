/-
  almonerlaw10.alive.
-/
import Derived.Test.YtppfdpnplemfkaaDoorWOf
import Derived.Test.YtppfdpnplemfkaaDoorWCheck
import Derived.Test.YtppfdpnplemfkaaDoorLSameSums
namespace Go.Proofs.YtppfdpnplemfkaaDoor
open Go.RowKit

def oneS (x : Nat) : List Nat := x :: List.replicate 31 0
theorem oneS_lt {x : Nat} (h : x < 256) : ∀ y ∈ oneS x, y < 256 := by
  intro y hy
  rcases List.mem_cons.1 hy with rfl | hy
  · exact h
  · rw [List.eq_of_mem_replicate hy]; omega
def abS : List Nat := nodeL (oneS 1) (oneS 2)
def l3 : List Nat := [oneS 1, oneS 2, oneS 3].flatten
theorem l3_nth : nth l3 0 = oneS 1 ∧ nth l3 1 = oneS 2 ∧ nth l3 2 = oneS 3 := nth_flat _ _ _ rfl rfl rfl
theorem l3_lt : ∀ x ∈ l3, x < 256 := by
  intro x hx
  obtain ⟨s, hs, hxs⟩ := List.mem_flatten.1 hx
  simp at hs
  rcases hs with rfl | rfl | rfl
  · exact oneS_lt (by omega) x hxs
  · exact oneS_lt (by omega) x hxs
  · exact oneS_lt (by omega) x hxs
theorem cut3 : cutN 3 = 2 := by decide
theorem cut2 : cutN 2 = 1 := by decide
theorem l3_dep0 : dep 0 3 = 2 := by rw [dep_low (by omega) (by rw [cut3]; omega), cut3, dep_low (by omega) (by rw [cut2]; omega), cut2, dep_one (by omega)]
theorem l3_dep2 : dep 2 3 = 1 := by rw [dep_high (by omega) (by rw [cut3]; omega), cut3, dep_one (by omega)]
theorem l3_path0 : pathL (nth l3) 0 3 0 = [oneS 2, oneS 3] := by
  rw [pathL_low _ (by omega) (by rw [cut3]; omega), cut3, pathL_low _ (by omega) (by rw [cut2]; omega), cut2, pathL_one _ (by omega), rt_one, rt_one, l3_nth.2.1, l3_nth.2.2]; rfl
theorem l3_path2 : pathL (nth l3) 0 3 2 = [abS] := by
  rw [pathL_high _ (by omega) (by rw [cut3]; omega), cut3, pathL_one _ (by omega), rt_cut _ 0 (by omega), cut2, rt_one, rt_one, l3_nth.1, l3_nth.2.1]; rfl
theorem abS_length : abS.length = 32 := nodeL_length _ _
theorem abS_lt : ∀ x ∈ abS, x < 256 := nodeL_lt _ _
theorem nth_self {s : List Nat} (h : s.length = 32) : nth s 0 = s := by
  have := nth_flatten [s] (by intro x hx; simp at hx; rw [hx]; exact h) 0 s rfl
  simpa using this
theorem l3_in : inTree abS (oneS 3) (nodeL abS (oneS 3)) 1 2 3 = true := by
  unfold inTree
  rw [l3_dep2, leadF_high _ _ (by omega) (by rw [cut3]; omega), cut3, dep_one (by omega), leadF_one _ _ (by omega), nth_self abS_length]
  simp
theorem one_in (s : List Nat) : inTree [] s s 0 0 1 = true := by
  unfold inTree
  rw [dep_one (by omega), leadF_one _ _ (by omega)]
  simp

set_option maxRecDepth 100000 in
set_option maxHeartbeats 8000000 in
theorem walive_any (w : World) (hk : Knows w) (hs : Starts w) :
    Calls Tryd.prog 6 #[] w fun e w' => e = .returned (.bool true) ∧ Below w.heap.size w w' := by
  obtain ⟨w1, hw1⟩ : ∃ w1, w1 = w.alloc (.cells (bvs l3).toArray 24) := ⟨_, rfl⟩
  have b1 : Below w.heap.size w w1 := by rw [hw1]; exact below_alloc _ _
  have i1 : InS w1 (some ⟨w.heap.size, 0, none⟩) 3 l3 := by rw [hw1]; exact ⟨by decide, (In.new' w l3 24).rd⟩
  have k1 := hk.below b1
  have s1 := hs.below b1
  have L1 := Lib.hid (And.intro b1 (And.intro i1 (And.intro k1 s1)))
  have HW1 := Lib.hid hw1
  clear b1 i1 k1 s1 hw1 hk hs
  have HE1 := Lib.hid (show sv (oneS 1) = .agg #[.int .u8 1, .int .u8 0, .int .u8 0, .int .u8 0, .int .u8 0, .int .u8 0, .int .u8 0, .int .u8 0, .int .u8 0, .int .u8 0, .int .u8 0, .int .u8 0, .int .u8 0, .int .u8 0, .int .u8 0, .int .u8 0, .int .u8 0, .int .u8 0, .int .u8 0, .int .u8 0, .int .u8 0, .int .u8 0, .int .u8 0, .int .u8 0, .int .u8 0, .int .u8 0, .int .u8 0, .int .u8 0, .int .u8 0, .int .u8 0, .int .u8 0, .int .u8 0] from rfl)
  have HE2 := Lib.hid (show sv (oneS 2) = .agg #[.int .u8 2, .int .u8 0, .int .u8 0, .int .u8 0, .int .u8 0, .int .u8 0, .int .u8 0, .int .u8 0, .int .u8 0, .int .u8 0, .int .u8 0, .int .u8 0, .int .u8 0, .int .u8 0, .int .u8 0, .int .u8 0, .int .u8 0, .int .u8 0, .int .u8 0, .int .u8 0, .int .u8 0, .int .u8 0, .int .u8 0, .int .u8 0, .int .u8 0, .int .u8 0, .int .u8 0, .int .u8 0, .int .u8 0, .int .u8 0, .int .u8 0, .int .u8 0] from rfl)
  have HE3 := Lib.hid (show sv (oneS 3) = .agg #[.int .u8 3, .int .u8 0, .int .u8 0, .int .u8 0, .int .u8 0, .int .u8 0, .int .u8 0, .int .u8 0, .int .u8 0, .int .u8 0, .int .u8 0, .int .u8 0, .int .u8 0, .int .u8 0, .int .u8 0, .int .u8 0, .int .u8 0, .int .u8 0, .int .u8 0, .int .u8 0, .int .u8 0, .int .u8 0, .int .u8 0, .int .u8 0, .int .u8 0, .int .u8 0, .int .u8 0, .int .u8 0, .int .u8 0, .int .u8 0, .int .u8 0, .int .u8 0] from rfl)
  go_enter Tryd.func6, Tryd.ntmps6
  go_upto_region 2 with (refine wpList_step fun K hK => ?_; rw [if_pos (by rfl)]; refine wp_sums (K := K) _ [oneS 1, oneS 2, oneS 3] 3 rfl rfl (by simp <;> first | rfl | exact ⟨rfl, rfl, rfl⟩ | exact ⟨HE1.out, HE2.out, HE3.out⟩ | exact ⟨HE1.out.symm, HE2.out.symm, HE3.out.symm⟩) (by intro s hs; simp at hs; rcases hs with rfl | rfl | rfl <;> rfl) (by omega) (by omega) ?_; refine hK _ _ ?_; clear hK K)
  change Code.wp _ _ _ _ (w.alloc (.cells (bvs l3).toArray 24))
  rw [← HW1.out]
  obtain ⟨b, hb0⟩ : ∃ b, w.heap.size = b := ⟨_, rfl⟩
  have HB0 := Lib.hid hb0
  rw [hb0] at L1 ⊢
  clear hb0
  go_cut [2] from 15 to 21 (fun s2 wx => ∃ p, s2 = .pointer (some ⟨p, 0, none⟩) ∧ w1.heap.size ≤ p ∧ BArr wx p 24 abS ∧ Below w1.heap.size w1 wx)
  case first =>
    have CG := Lib.hid (fun (W : World) (hW : Below w1.heap.size w1 W) => node_any (oneS 1) (oneS 2) W rfl rfl (oneS_lt (by omega)) (oneS_lt (by omega)) (L1.out.2.2.1.below hW) (L1.out.2.2.2.below hW))
    have hRl : abS.length = 32 := abS_length
    rw [show nodeL (oneS 1) (oneS 2) = abS from rfl] at CG
    have HA0 := Lib.hid (fun (W : World) (hW : Below w1.heap.size w1 W) => show At W ⟨b, 0, none⟩ (oneS 1) from by
      obtain ⟨ad, e, _, h⟩ := (L1.out.2.1.below hW).at_ (k := 0) (by omega)
      cases e
      rw [l3_nth.1] at h
      exact h)
    have HA1 := Lib.hid (fun (W : World) (hW : Below w1.heap.size w1 W) => show At W ⟨b, 32, none⟩ (oneS 2) from by
      obtain ⟨ad, e, _, h⟩ := (L1.out.2.1.below hW).at_ (k := 1) (by omega)
      cases e
      rw [l3_nth.2.1] at h
      exact h)
    have hst : ∀ (W : World) (p : Nat), BArr W p 24 zero32 → (storeCells ⟨p, 0, none⟩ (bvs abS)).run Tryd.prog W = .ok () (W.setRow p (bvs abS).toArray) := fun W p hW => by
      have := run_storeCells_from (P := Tryd.prog) p 24 (bvs abS) 0 _ W hW (by rw [bvs_length, hRl]; rfl) (bvs_oneCell abS)
      simpa using this
    have hbR : (bvs abS).length = 32 := by rw [bvs_length, hRl]
    have HE0 := Lib.hid (show #[.int .u8 0, .int .u8 0, .int .u8 0, .int .u8 0, .int .u8 0, .int .u8 0, .int .u8 0, .int .u8 0, .int .u8 0, .int .u8 0, .int .u8 0, .int .u8 0, .int .u8 0, .int .u8 0, .int .u8 0, .int .u8 0, .int .u8 0, .int .u8 0, .int .u8 0, .int .u8 0, .int .u8 0, .int .u8 0, .int .u8 0, .int .u8 0, .int .u8 0, .int .u8 0, .int .u8 0, .int .u8 0, .int .u8 0, .int .u8 0, .int .u8 0, .int .u8 0] = (bvs zero32).toArray from rfl)
    unfold sv at CG
    refine wp_region_held_drew (S := fun W => Below w1.heap.size w1 W) (by kernel_rfl) ((Below.refl _ _).drew) (fun hS0 => ?_)
    change wpAnyH _ _ _ _ _ _ _ _ w1.drew
    refine' wpAnyH_take (i := 0) (oi := _) (v := _) ?hiq0 (by kernel_rfl) ?hfq0 ?hrq0 ?hQq0 ?hyq0 hS0 ?restq0
    case hiq0 => (simp only [List.getElem?_toArray, List.getElem?_cons_zero]; rfl)
    case hfq0 => kernel_rfl
    case hrq0 => kernel_rfl
    case hQq0 => exact fun _ _ _ h => h
    case hyq0 => refine Or.inl ⟨by rfl, ?_⟩; intro W hSw; go_simp; try with_reducible rfl
    try simp only [Act.put, List.setIfInBounds_toArray, List.set_cons_zero, List.set_cons_succ]
    refine' wpAnyH_take (i := 1) (oi := _) (v := _) ?hiq1 (by kernel_rfl) ?hfq1 ?hrq1 ?hQq1 ?hyq1 hS0 ?restq1
    case hiq1 => (simp only [List.getElem?_toArray, List.getElem?_cons_zero, List.getElem?_cons_succ]; rfl)
    case hfq1 => kernel_rfl
    case hrq1 => kernel_rfl
    case hQq1 => exact fun _ _ _ h => h
    case hyq1 => refine Or.inl ⟨by rfl, ?_⟩; intro W hSw; go_simp; try with_reducible rfl
    try simp only [Act.put, List.setIfInBounds_toArray, List.set_cons_zero, List.set_cons_succ]
    refine' wpAnyH_take (i := 2) (oi := _) (v := sv ((oneS 1))) ?hiq2 (by kernel_rfl) ?hfq2 ?hrq2 ?hQq2 ?hyq2 hS0 ?restq2
    case hiq2 => (simp only [List.getElem?_toArray, List.getElem?_cons_zero, List.getElem?_cons_succ]; rfl)
    case hfq2 => kernel_rfl
    case hrq2 => kernel_rfl
    case hQq2 => exact fun _ _ _ h => h
    case hyq2 => refine yields_sum ?_ (.tmp 16) rfl ⟨b, 0, none⟩ rfl (oneS 1) rfl (fun W hSw => (HA0.out W hSw)); rfl
    try simp only [Act.put, List.setIfInBounds_toArray, List.set_cons_zero, List.set_cons_succ]
    refine' wpAnyH_take (i := 3) (oi := _) (v := _) ?hiq3 (by kernel_rfl) ?hfq3 ?hrq3 ?hQq3 ?hyq3 hS0 ?restq3
    case hiq3 => (simp only [List.getElem?_toArray, List.getElem?_cons_zero, List.getElem?_cons_succ]; rfl)
    case hfq3 => kernel_rfl
    case hrq3 => kernel_rfl
    case hQq3 => exact fun _ _ _ h => h
    case hyq3 => refine Or.inl ⟨by rfl, ?_⟩; intro W hSw; go_simp; try with_reducible rfl
    try simp only [Act.put, List.setIfInBounds_toArray, List.set_cons_zero, List.set_cons_succ]
    refine' wpAnyH_take (i := 4) (oi := _) (v := _) ?hiq4 (by kernel_rfl) ?hfq4 ?hrq4 ?hQq4 ?hyq4 hS0 ?restq4
    case hiq4 => (simp only [List.getElem?_toArray, List.getElem?_cons_zero, List.getElem?_cons_succ]; rfl)
    case hfq4 => kernel_rfl
    case hrq4 => kernel_rfl
    case hQq4 => exact fun _ _ _ h => h
    case hyq4 => refine Or.inl ⟨by rfl, ?_⟩; intro W hSw; go_simp; try with_reducible rfl
    try simp only [Act.put, List.setIfInBounds_toArray, List.set_cons_zero, List.set_cons_succ]
    refine' wpAnyH_take (i := 5) (oi := _) (v := sv (oneS 2)) ?hiq5 (by kernel_rfl) ?hfq5 ?hrq5 ?hQq5 ?hyq5 hS0 ?restq5
    case hiq5 => (simp only [List.getElem?_toArray, List.getElem?_cons_zero, List.getElem?_cons_succ]; rfl)
    case hfq5 => kernel_rfl
    case hrq5 => kernel_rfl
    case hQq5 => exact fun _ _ _ h => h
    case hyq5 => exact yields_sum (by rfl) (.tmp 19) (by rfl) _ (by rfl) (oneS 2) rfl (fun W hSw => (HA1.out W hSw))
    try simp only [Act.put, List.setIfInBounds_toArray, List.set_cons_zero, List.set_cons_succ]
    refine wpAnyH_ready (rs := [6, 7]) (by kernel_rfl) (by simp) ?_
    refine' AllReadyH.cons (o := _) ?hix7 (fun K hK => ?_) (AllReadyH.cons (o := _) ?hix8 (fun K hK => ?_) AllReadyH.nil)
    case hix7 => (simp only [List.getElem?_toArray, List.getElem?_cons_zero, List.getElem?_cons_succ]; rfl)
    case hix8 => (simp only [List.getElem?_toArray, List.getElem?_cons_zero, List.getElem?_cons_succ]; rfl)
    · skip
      go_simp
      go_at_call 11
      refine (CG.out _ hS0).mono ?_
      rintro e W1 ⟨rfl, hb1⟩
      have hB1 := below_on hS0 (Nat.le_refl _) hb1
      refine hK.out _ _ hB1 (fun _ => ?_)
      clear hK K
      try simp only [Act.put, List.setIfInBounds_toArray, List.set_cons_zero, List.set_cons_succ]
      refine wpAnyH_ready (rs := [7]) (by kernel_rfl) (by simp) ?_
      refine' AllReadyH.cons (o := _) ?hib8 (fun K hK => ?_) AllReadyH.nil
      case hib8 => (simp only [List.getElem?_toArray, List.getElem?_cons_zero, List.getElem?_cons_succ]; rfl)
      go_simp
      have hB2 := Below.alloc hB1 (Below.size hB1) (.cells (bvs zero32).toArray 24)
      have hZ := BArr.new W1 24 zero32
      rw [← HE0.out] at hB2 hZ
      refine hK.out _ _ hB2 (fun _ => ?_)
      clear hK K
      try simp only [Act.put, List.setIfInBounds_toArray, List.set_cons_zero, List.set_cons_succ]
      have hZ3 : BArr _ (W1.heap.size) 24 zero32 := hZ
      refine wpAnyH_ready (rs := [8]) (by kernel_rfl) (by simp) ?_
      refine' AllReadyH.cons (o := _) ?hib9 (fun K hK => ?_) AllReadyH.nil
      case hib9 => (simp only [List.getElem?_toArray, List.getElem?_cons_zero, List.getElem?_cons_succ]; rfl)
      go_simp
      refine hK.out _ _ (below_setRow hB2 (hB1.size) _) (fun _ => ?_)
      clear hK K
      refine wpAnyH_done (by kernel_rfl) ?_ _
      go_wp2_with fail
      go_meet
      case rel => exact ⟨W1.heap.size, rfl, hB1.size, hZ3.setRow abS, below_setRow hB2 (hB1.size) _⟩
    · skip
      go_simp
      have hB2 := Below.alloc hS0 (Below.size hS0) (.cells (bvs zero32).toArray 24)
      have hZ := BArr.new w1.drew 24 zero32
      rw [← HE0.out] at hB2 hZ
      refine hK.out _ _ hB2 (fun _ => ?_)
      clear hK K
      try simp only [Act.put, List.setIfInBounds_toArray, List.set_cons_zero, List.set_cons_succ]
      refine wpAnyH_ready (rs := [6]) (by kernel_rfl) (by simp) ?_
      refine' AllReadyH.cons (o := _) ?hic7 (fun K hK => ?_) AllReadyH.nil
      case hic7 => (simp only [List.getElem?_toArray, List.getElem?_cons_zero, List.getElem?_cons_succ]; rfl)
      go_simp
      go_at_call 11
      refine (CG.out _ hB2).mono ?_
      rintro e W1 ⟨rfl, hb1⟩
      have hB1 := below_on hB2 (Nat.le_refl _) hb1
      refine hK.out _ _ hB1 (fun _ => ?_)
      clear hK K
      try simp only [Act.put, List.setIfInBounds_toArray, List.set_cons_zero, List.set_cons_succ]
      have hZ3 : BArr _ (w1.heap.size) 24 zero32 := (hZ.below hb1)
      refine wpAnyH_ready (rs := [8]) (by kernel_rfl) (by simp) ?_
      refine' AllReadyH.cons (o := _) ?hic9 (fun K hK => ?_) AllReadyH.nil
      case hic9 => (simp only [List.getElem?_toArray, List.getElem?_cons_zero, List.getElem?_cons_succ]; rfl)
      go_simp
      refine hK.out _ _ (below_setRow hB1 (Nat.le_refl _) _) (fun _ => ?_)
      clear hK K
      refine wpAnyH_done (by kernel_rfl) ?_ _
      go_wp2_with fail
      go_meet
      case rel => exact ⟨w1.heap.size, rfl, Nat.le_refl _, hZ3.setRow abS, below_setRow hB1 (Nat.le_refl _) _⟩
  case rest =>
    obtain ⟨p, rfl, hpw, hp, hbc⟩ := hcut
    have IC := Lib.hid (And.intro (L1.out.2.1.below hbc) (And.intro (L1.out.2.2.1.below hbc) (And.intro (L1.out.2.2.2.below hbc) (And.intro hp (And.intro (below_on L1.out.1 (by rw [← HB0.out]; exact Nat.le_refl _) hbc) hpw)))))
    clear hp hbc hpw
    have C3 : Calls Tryd.prog 7 #[.slice (some ⟨b, 0, none⟩) 3 3, .int .i64 0] wc fun e w' => ∃ A' c', e = .returned (.tuple #[.slice A' 2 c', .int .i64 0]) ∧ w'.ownsRow wc.heap.size 24 32 (.slice A' 2 c') 2 (bvs [oneS 2, oneS 3].flatten) ∧ Below wc.heap.size wc w' := by
      have := pof_yes (w := wc) (at_ := 0) (c := 3) IC.out.1 l3_lt (Nat.le_refl _) (by omega) (by omega) IC.out.2.1 IC.out.2.2.1
      rw [l3_dep0, l3_path0] at this
      exact this
    have H3 := Lib.hid C3
    clear C3
    go_wp2_with fail
    refine H3.out.mono ?_
    rintro e w3 ⟨A3, c3, rfl, ho3, hb3⟩
    have C4 : Calls Tryd.prog 7 #[.slice (some ⟨b, 0, none⟩) 3 3, .int .i64 2] w3 fun e w' => ∃ A' c', e = .returned (.tuple #[.slice A' 1 c', .int .i64 0]) ∧ w'.ownsRow w3.heap.size 24 32 (.slice A' 1 c') 1 (bvs [abS].flatten) ∧ Below w3.heap.size w3 w' := by
      have := pof_yes (w := w3) (at_ := 2) (c := 3) (IC.out.1.below hb3) l3_lt (Nat.le_refl _) (by omega) (by omega) (IC.out.2.1.below hb3) (IC.out.2.2.1.below hb3)
      rw [l3_dep2, l3_path2] at this
      exact this
    have H4 := Lib.hid C4
    have I3 := Lib.hid (And.intro (InS.of_own ho3) (And.intro (own_nil ho3) hb3))
    clear C4 H3 ho3 hb3
    go_wp2_with fail
    refine H4.out.mono ?_
    rintro e w4 ⟨A4, c4, rfl, ho4, hb4⟩
    have ht : ∀ W : World, (Instr.slice 22 (.slice (some ⟨b, 0, none⟩) 3 3) none (some (.int .i64 1)) none).run Tryd.prog W = .ok (.slice (some ⟨b, 0, none⟩) 1 3) W := run_take_sums (ad := ⟨b, 0, none⟩) (n := 3) (c := 3) (k := 1) (by omega) (Nat.le_refl _)
    have hb34 := below_on I3.out.2.2 (Nat.le_refl _) hb4
    have C5 : Calls Tryd.prog 7 #[.slice (some ⟨b, 0, none⟩) 1 3, .int .i64 0] w4 fun e w' => ∃ A' c', e = .returned (.tuple #[.slice A' 0 c', .int .i64 0]) ∧ w'.ownsRow w4.heap.size 24 32 (.slice A' 0 c') 0 (bvs [].flatten) ∧ Below w4.heap.size w4 w' := by
      have := pof_yes (w := w4) (at_ := 0) (c := 3) (n := 1) ((IC.out.1.below hb34).take (by omega)) (fun x hx => l3_lt x (List.mem_of_mem_take hx)) (by omega) (by omega) (by omega) (IC.out.2.1.below hb34) (IC.out.2.2.1.below hb34)
      rw [dep_one (by omega), pathL_one _ (by omega)] at this
      exact this
    have H5 := Lib.hid C5
    have I4 := Lib.hid (And.intro (InS.of_own ho4) (And.intro (own_nil ho4) (And.intro hb4 hb34)))
    clear C5 H4 ho4 hb4 hb34
    go_wp2_with fail
    refine H5.out.mono ?_
    rintro e w5 ⟨A5, c5, rfl, ho5, hb5⟩
    have H6 := Lib.hid (pof_no (w := w5) (n := 1) (c := 3) (A := some ⟨b, 0, none⟩) 1 (.inr (by omega)))
    have B45 := Lib.hid hb5
    clear H5 ho5 hb5
    go_wp2_with fail
    refine H6.out.mono ?_
    rintro e w6 ⟨rfl, h65⟩
    subst h65
    clear H6
    have B6 : Below wc.heap.size wc w6 := below_on I4.out.2.2.2 (Nat.le_refl _) B45.out
    have I6 := Lib.hid (And.intro (IC.out.1.below B6) (And.intro (IC.out.2.1.below B6) (And.intro (IC.out.2.2.1.below B6) (And.intro (IC.out.2.2.2.1.below B6) (below_on IC.out.2.2.2.2.1 (by rw [← HB0.out]; exact Nat.le_refl _) B6)))))
    have S3 := Lib.hid ((I3.out.1.below I4.out.2.2.1).below B45.out)
    have S4 := Lib.hid (I4.out.1.below B45.out)
    clear B6 I3 I4 B45 IC ht
    obtain ⟨R, hR⟩ : ∃ R, nodeL abS (oneS 3) = R := ⟨_, rfl⟩
    have lR : R.length = 32 := by rw [← hR]; exact nodeL_length _ _
    have bR : ∀ x ∈ R, x < 256 := by rw [← hR]; exact nodeL_lt _ _
    have CN := Lib.hid (fun (W : World) (hW : Below w6.heap.size w6 W) => show Calls Tryd.prog 11 #[sv abS, sv (oneS 3)] W fun e w' => e = .returned (sv R) ∧ Below w6.heap.size w6 w' ∧ Below W.heap.size W w' from (node_any abS (oneS 3) W abS_length rfl abS_lt (oneS_lt (by omega)) (I6.out.2.1.below hW) (I6.out.2.2.1.below hW)).mono fun e w' ⟨he, hb⟩ => ⟨by rw [he, hR], below_on hW (Nat.le_refl _) hb, hb⟩)
    have CK1 := Lib.hid (fun (W : World) (A : Option Addr) (hW : Below w6.heap.size w6 W) (hi : InS W A 1 abS) => show Calls Tryd.prog 9 #[sv (oneS 3), .int .u64 2, .int .u64 3, .slice A 1 1, sv R] W fun e w' => e = .returned (.bool true) ∧ Below w6.heap.size w6 w' from later hW (by rw [← hR, l3_in]) (check_any (at_ := 2) (size := 3) hi abS_lt (Nat.le_refl _) (by omega) rfl (oneS_lt (by omega)) lR (by omega) (I6.out.2.1.below hW) (I6.out.2.2.1.below hW)))
    have CK2 := Lib.hid (fun (W : World) (hW : Below w6.heap.size w6 W) => show Calls Tryd.prog 9 #[sv (oneS 1), .int .u64 0, .int .u64 1, .slice none 0 0, sv (oneS 1)] W fun e w' => e = .returned (.bool true) ∧ Below w6.heap.size w6 w' from later hW (by rw [one_in]) (check_any (at_ := 0) (size := 1) (n := 0) (c := 0) (A := none) (ys := []) (InS.none_ _ _) (by intro x hx; cases hx) (Nat.le_refl _) (by omega) rfl (oneS_lt (by omega)) rfl (by omega) (I6.out.2.1.below hW) (I6.out.2.2.1.below hW)))
    have CK3 := Lib.hid (fun (W : World) (hW : Below w6.heap.size w6 W) => show Calls Tryd.prog 9 #[sv (oneS 1), .int .u64 1, .int .u64 1, .slice none 0 0, sv (oneS 1)] W fun e w' => e = .returned (.bool false) ∧ Below w6.heap.size w6 w' from later hW rfl (check_far (w := W) (n := 0) (c := 0) (A := none) (leaf := oneS 1) (root := oneS 1) (at_ := 1) (size := 1) (Nat.le_refl _)))
    have KP := Lib.hid (fun (W : World) (hW : Below w6.heap.size w6 W) => (I6.out.2.2.2.1.below hW).at_)
    have KA := Lib.hid (fun (W : World) (hW : Below w6.heap.size w6 W) => show At W ⟨b, 0, none⟩ (oneS 1) from by
      obtain ⟨ad, e, _, h⟩ := (I6.out.1.below hW).at_ (k := 0) (by omega)
      cases e
      rw [l3_nth.1] at h
      exact h)
    have KC := Lib.hid (fun (W : World) (hW : Below w6.heap.size w6 W) => show At W ⟨b, 64, none⟩ (oneS 3) from by
      obtain ⟨ad, e, _, h⟩ := (I6.out.1.below hW).at_ (k := 2) (by omega)
      cases e
      rw [l3_nth.2.2] at h
      exact h)
    have BL := Lib.hid (fun (W : World) (hW : Below w6.heap.size w6 W) => below_on I6.out.2.2.2.2 (by rw [← HB0.out]; exact Nat.le_refl _) hW)
    have lN := abS_length
    clear hR I6
    go_upto_region 7 with fail
    refine wp_region_held_drew (S := fun W => Below w6.heap.size w6 W) (by kernel_rfl) ((Below.refl _ _).drew) (fun hT0 => ?_)
    change wpAnyH _ _ _ _ _ _ _ _ w6.drew
    refine' wpAnyH_take (i := 0) (oi := _) (v := _) ?hir0 (by kernel_rfl) ?hfr0 ?hrr0 ?hQr0 ?hyr0 hT0 ?restr0
    case hir0 => (simp only [List.getElem?_toArray]; rfl)
    case hfr0 => kernel_rfl
    case hrr0 => kernel_rfl
    case hQr0 => exact fun _ _ _ h => h
    case hyr0 => refine Or.inl ⟨by rfl, ?_⟩; intro W hSw; go_simp; try with_reducible rfl
    try simp only [Act.put, List.setIfInBounds_toArray, List.set_cons_zero, List.set_cons_succ]
    refine' wpAnyH_take (i := 1) (oi := _) (v := _) ?hir1 (by kernel_rfl) ?hfr1 ?hrr1 ?hQr1 ?hyr1 hT0 ?restr1
    case hir1 => (simp only [List.getElem?_toArray]; rfl)
    case hfr1 => kernel_rfl
    case hrr1 => kernel_rfl
    case hQr1 => exact fun _ _ _ h => h
    case hyr1 => refine Or.inl ⟨by rfl, ?_⟩; intro W hSw; go_simp; try with_reducible rfl
    try simp only [Act.put, List.setIfInBounds_toArray, List.set_cons_zero, List.set_cons_succ]
    refine' wpAnyH_take (i := 2) (oi := _) (v := _) ?hir2 (by kernel_rfl) ?hfr2 ?hrr2 ?hQr2 ?hyr2 hT0 ?restr2
    case hir2 => (simp only [List.getElem?_toArray]; rfl)
    case hfr2 => kernel_rfl
    case hrr2 => kernel_rfl
    case hQr2 => exact fun _ _ _ h => h
    case hyr2 => refine Or.inl ⟨by rfl, ?_⟩; intro W hSw; go_simp; try with_reducible rfl
    try simp only [Act.put, List.setIfInBounds_toArray, List.set_cons_zero, List.set_cons_succ]
    refine' wpAnyH_take (i := 3) (oi := _) (v := _) ?hir3 (by kernel_rfl) ?hfr3 ?hrr3 ?hQr3 ?hyr3 hT0 ?restr3
    case hir3 => (simp only [List.getElem?_toArray]; rfl)
    case hfr3 => kernel_rfl
    case hrr3 => kernel_rfl
    case hQr3 => exact fun _ _ _ h => h
    case hyr3 => refine Or.inl ⟨by rfl, ?_⟩; intro W hSw; go_simp; try with_reducible rfl
    try simp only [Act.put, List.setIfInBounds_toArray, List.set_cons_zero, List.set_cons_succ]
    refine' wpAnyH_take (i := 4) (oi := _) (v := _) ?hir4 (by kernel_rfl) ?hfr4 ?hrr4 ?hQr4 ?hyr4 hT0 ?restr4
    case hir4 => (simp only [List.getElem?_toArray]; rfl)
    case hfr4 => kernel_rfl
    case hrr4 => kernel_rfl
    case hQr4 => exact fun _ _ _ h => h
    case hyr4 => refine Or.inl ⟨by rfl, ?_⟩; intro W hSw; go_simp; try with_reducible rfl
    try simp only [Act.put, List.setIfInBounds_toArray, List.set_cons_zero, List.set_cons_succ]
    refine' wpAnyH_take (i := 5) (oi := _) (v := _) ?hir5 (by kernel_rfl) ?hfr5 ?hrr5 ?hQr5 ?hyr5 hT0 ?restr5
    case hir5 => (simp only [List.getElem?_toArray]; rfl)
    case hfr5 => kernel_rfl
    case hrr5 => kernel_rfl
    case hQr5 => exact fun _ _ _ h => h
    case hyr5 => refine Or.inl ⟨by rfl, ?_⟩; intro W hSw; go_simp; try with_reducible rfl
    try simp only [Act.put, List.setIfInBounds_toArray, List.set_cons_zero, List.set_cons_succ]
    refine wpAnyH_ready (rs := [6]) (by kernel_rfl) (by simp) ?_
    refine' AllReadyH.cons (o := _) ?hir6 (fun K hK => ?_) AllReadyH.nil
    case hir6 => (simp only [List.getElem?_toArray]; rfl)
    rw [if_pos (by rfl)]
    refine wp_sums _ [oneS 2, oneS 3] 2 rfl rfl (by simp <;> first | rfl | exact ⟨rfl, rfl⟩ | exact ⟨HE2.out, HE3.out⟩ | exact ⟨HE2.out.symm, HE3.out.symm⟩) (by intro s hs; simp at hs; rcases hs with rfl | rfl; exact rfl; exact rfl) (by omega) (by omega) ?_
    have hBr1 := Below.alloc hT0 (Below.size hT0) (.cells (bvs [oneS 2, oneS 3].flatten).toArray 24)
    have iL6 : InS (w6.drew.alloc (.cells (bvs [oneS 2, oneS 3].flatten).toArray 24)) (some ⟨w6.drew.heap.size, 0, none⟩) 2 [oneS 2, oneS 3].flatten := ⟨by simp [oneS], (In.new' w6.drew [oneS 2, oneS 3].flatten 24).rd⟩
    refine hK.out _ _ hBr1 (fun _ => ?_)
    clear hK K
    try simp only [Act.put, List.setIfInBounds_toArray, List.set_cons_zero, List.set_cons_succ]
    have CS7 := Lib.hid (sameSums_yes A3 (some ⟨w6.drew.heap.size, 0, none⟩) 2 c3 2 [oneS 2, oneS 3].flatten (w6.drew.alloc (.cells (bvs [oneS 2, oneS 3].flatten).toArray 24)) (S3.out.below hBr1) iL6 (by omega))
    refine wpAnyH_ready (rs := [7]) (by kernel_rfl) (by simp) ?_
    refine' AllReadyH.cons (o := _) ?hir7 (fun K hK => ?_) AllReadyH.nil
    case hir7 => (simp only [List.getElem?_toArray]; rfl)
    go_simp
    go_at_call 10
    refine CS7.out.mono ?_
    rintro e WS7 ⟨rfl, qS, hqS⟩
    have hBr2 : Below w6.heap.size w6 WS7 := by rw [hqS]; exact ⟨hBr1.os, hBr1.tape, hBr1.output, hBr1.size, hBr1.block⟩
    clear hqS
    refine hK.out _ _ hBr2 (fun _ => ?_)
    clear hK K iL6 CS7
    try simp only [Act.put, List.setIfInBounds_toArray, List.set_cons_zero, List.set_cons_succ]
    refine' wpAnyH_take (i := 8) (oi := _) (v := _) ?hir8 (by kernel_rfl) ?hfr8 ?hrr8 ?hQr8 ?hyr8 hBr2 ?restr8
    case hir8 => (simp only [List.getElem?_toArray]; rfl)
    case hfr8 => kernel_rfl
    case hrr8 => kernel_rfl
    case hQr8 => exact fun _ _ _ h => h
    case hyr8 => refine Or.inl ⟨by rfl, ?_⟩; intro W hSw; go_simp; try with_reducible rfl
    try simp only [Act.put, List.setIfInBounds_toArray, List.set_cons_zero, List.set_cons_succ]
    refine' wpAnyH_take (i := 9) (oi := _) (v := _) ?hir9 (by kernel_rfl) ?hfr9 ?hrr9 ?hQr9 ?hyr9 hBr2 ?restr9
    case hir9 => (simp only [List.getElem?_toArray]; rfl)
    case hfr9 => kernel_rfl
    case hrr9 => kernel_rfl
    case hQr9 => exact fun _ _ _ h => h
    case hyr9 => refine Or.inl ⟨by rfl, ?_⟩; intro W hSw; go_simp; try with_reducible rfl
    try simp only [Act.put, List.setIfInBounds_toArray, List.set_cons_zero, List.set_cons_succ]
    refine' wpAnyH_take (i := 10) (oi := _) (v := _) ?hir10 (by kernel_rfl) ?hfr10 ?hrr10 ?hQr10 ?hyr10 hBr2 ?restr10
    case hir10 => (simp only [List.getElem?_toArray]; rfl)
    case hfr10 => kernel_rfl
    case hrr10 => kernel_rfl
    case hQr10 => exact fun _ _ _ h => h
    case hyr10 => refine Or.inl ⟨by rfl, ?_⟩; intro W hSw; go_simp; try with_reducible rfl
    try simp only [Act.put, List.setIfInBounds_toArray, List.set_cons_zero, List.set_cons_succ]
    refine' wpAnyH_take (i := 11) (oi := _) (v := _) ?hir11 (by kernel_rfl) ?hfr11 ?hrr11 ?hQr11 ?hyr11 hBr2 ?restr11
    case hir11 => (simp only [List.getElem?_toArray]; rfl)
    case hfr11 => kernel_rfl
    case hrr11 => kernel_rfl
    case hQr11 => exact fun _ _ _ h => h
    case hyr11 => refine Or.inl ⟨by rfl, ?_⟩; intro W hSw; go_simp; try with_reducible rfl
    try simp only [Act.put, List.setIfInBounds_toArray, List.set_cons_zero, List.set_cons_succ]
    refine' wpAnyH_take (i := 12) (oi := _) (v := _) ?hir12 (by kernel_rfl) ?hfr12 ?hrr12 ?hQr12 ?hyr12 hBr2 ?restr12
    case hir12 => (simp only [List.getElem?_toArray]; rfl)
    case hfr12 => kernel_rfl
    case hrr12 => kernel_rfl
    case hQr12 => exact fun _ _ _ h => h
    case hyr12 => refine Or.inl ⟨by rfl, ?_⟩; intro W hSw; go_simp; try with_reducible rfl
    try simp only [Act.put, List.setIfInBounds_toArray, List.set_cons_zero, List.set_cons_succ]
    refine' wpAnyH_take (i := 13) (oi := _) (v := _) ?hir13 (by kernel_rfl) ?hfr13 ?hrr13 ?hQr13 ?hyr13 hBr2 ?restr13
    case hir13 => (simp only [List.getElem?_toArray]; rfl)
    case hfr13 => kernel_rfl
    case hrr13 => kernel_rfl
    case hQr13 => exact fun _ _ _ h => h
    case hyr13 => refine Or.inl ⟨by rfl, ?_⟩; intro W hSw; go_simp; try with_reducible rfl
    try simp only [Act.put, List.setIfInBounds_toArray, List.set_cons_zero, List.set_cons_succ]
    refine' wpAnyH_take (i := 14) (oi := _) (v := _) ?hir14 (by kernel_rfl) ?hfr14 ?hrr14 ?hQr14 ?hyr14 hBr2 ?restr14
    case hir14 => (simp only [List.getElem?_toArray]; rfl)
    case hfr14 => kernel_rfl
    case hrr14 => kernel_rfl
    case hQr14 => exact fun _ _ _ h => h
    case hyr14 => refine Or.inl ⟨by rfl, ?_⟩; intro W hSw; go_simp; try with_reducible rfl
    try simp only [Act.put, List.setIfInBounds_toArray, List.set_cons_zero, List.set_cons_succ]
    refine' wpAnyH_take (i := 15) (oi := _) (v := sv (abS)) ?hir15 (by kernel_rfl) ?hfr15 ?hrr15 ?hQr15 ?hyr15 hBr2 ?restr15
    case hir15 => (simp only [List.getElem?_toArray]; rfl)
    case hfr15 => kernel_rfl
    case hrr15 => kernel_rfl
    case hQr15 => exact fun _ _ _ h => h
    case hyr15 => refine yields_sum ?_ (.tmp 2) rfl ⟨p, 0, none⟩ rfl abS lN (fun W hSw => (KP.out W hSw)); rfl
    try simp only [Act.put, List.setIfInBounds_toArray, List.set_cons_zero, List.set_cons_succ]
    refine wpAnyH_ready (rs := [16]) (by kernel_rfl) (by simp) ?_
    refine' AllReadyH.cons (o := _) ?hir16 (fun K hK => ?_) AllReadyH.nil
    case hir16 => (simp only [List.getElem?_toArray]; rfl)
    rw [if_pos (by rfl)]
    refine wp_sums _ [abS] 1 rfl rfl (by simp <;> first | rfl | exact rfl) (by intro s hs; simp at hs; rw [hs]; exact lN) (by omega) (by omega) ?_
    have hBr3 := Below.alloc hBr2 (Below.size hBr2) (.cells (bvs [abS].flatten).toArray 24)
    have iL16 : InS (WS7.alloc (.cells (bvs [abS].flatten).toArray 24)) (some ⟨WS7.heap.size, 0, none⟩) 1 [abS].flatten := ⟨by simp [lN], (In.new' WS7 [abS].flatten 24).rd⟩
    refine hK.out _ _ hBr3 (fun _ => ?_)
    clear hK K
    try simp only [Act.put, List.setIfInBounds_toArray, List.set_cons_zero, List.set_cons_succ]
    have CS17 := Lib.hid (sameSums_yes A4 (some ⟨WS7.heap.size, 0, none⟩) 1 c4 1 [abS].flatten (WS7.alloc (.cells (bvs [abS].flatten).toArray 24)) (S4.out.below hBr3) iL16 (by omega))
    refine wpAnyH_ready (rs := [17]) (by kernel_rfl) (by simp) ?_
    refine' AllReadyH.cons (o := _) ?hir17 (fun K hK => ?_) AllReadyH.nil
    case hir17 => (simp only [List.getElem?_toArray]; rfl)
    go_simp
    go_at_call 10
    refine CS17.out.mono ?_
    rintro e WS17 ⟨rfl, qS, hqS⟩
    have hBr4 : Below w6.heap.size w6 WS17 := by rw [hqS]; exact ⟨hBr3.os, hBr3.tape, hBr3.output, hBr3.size, hBr3.block⟩
    clear hqS
    refine hK.out _ _ hBr4 (fun _ => ?_)
    clear hK K iL16 CS17
    try simp only [Act.put, List.setIfInBounds_toArray, List.set_cons_zero, List.set_cons_succ]
    refine' wpAnyH_take (i := 18) (oi := _) (v := _) ?hir18 (by kernel_rfl) ?hfr18 ?hrr18 ?hQr18 ?hyr18 hBr4 ?restr18
    case hir18 => (simp only [List.getElem?_toArray]; rfl)
    case hfr18 => kernel_rfl
    case hrr18 => kernel_rfl
    case hQr18 => exact fun _ _ _ h => h
    case hyr18 => refine Or.inl ⟨by rfl, ?_⟩; intro W hSw; go_simp; try with_reducible rfl
    try simp only [Act.put, List.setIfInBounds_toArray, List.set_cons_zero, List.set_cons_succ]
    refine' wpAnyH_take (i := 19) (oi := _) (v := _) ?hir19 (by kernel_rfl) ?hfr19 ?hrr19 ?hQr19 ?hyr19 hBr4 ?restr19
    case hir19 => (simp only [List.getElem?_toArray]; rfl)
    case hfr19 => kernel_rfl
    case hrr19 => kernel_rfl
    case hQr19 => exact fun _ _ _ h => h
    case hyr19 => refine Or.inl ⟨by rfl, ?_⟩; intro W hSw; go_simp; try with_reducible rfl
    try simp only [Act.put, List.setIfInBounds_toArray, List.set_cons_zero, List.set_cons_succ]
    refine' wpAnyH_take (i := 20) (oi := _) (v := _) ?hir20 (by kernel_rfl) ?hfr20 ?hrr20 ?hQr20 ?hyr20 hBr4 ?restr20
    case hir20 => (simp only [List.getElem?_toArray]; rfl)
    case hfr20 => kernel_rfl
    case hrr20 => kernel_rfl
    case hQr20 => exact fun _ _ _ h => h
    case hyr20 => refine Or.inl ⟨by rfl, ?_⟩; intro W hSw; go_simp; try with_reducible rfl
    try simp only [Act.put, List.setIfInBounds_toArray, List.set_cons_zero, List.set_cons_succ]
    refine' wpAnyH_take (i := 21) (oi := _) (v := _) ?hir21 (by kernel_rfl) ?hfr21 ?hrr21 ?hQr21 ?hyr21 hBr4 ?restr21
    case hir21 => (simp only [List.getElem?_toArray]; rfl)
    case hfr21 => kernel_rfl
    case hrr21 => kernel_rfl
    case hQr21 => exact fun _ _ _ h => h
    case hyr21 => refine Or.inl ⟨by rfl, ?_⟩; intro W hSw; go_simp; try with_reducible rfl
    try simp only [Act.put, List.setIfInBounds_toArray, List.set_cons_zero, List.set_cons_succ]
    refine' wpAnyH_take (i := 22) (oi := _) (v := _) ?hir22 (by kernel_rfl) ?hfr22 ?hrr22 ?hQr22 ?hyr22 hBr4 ?restr22
    case hir22 => (simp only [List.getElem?_toArray]; rfl)
    case hfr22 => kernel_rfl
    case hrr22 => kernel_rfl
    case hQr22 => exact fun _ _ _ h => h
    case hyr22 => refine Or.inl ⟨by rfl, ?_⟩; intro W hSw; go_simp; try with_reducible rfl
    try simp only [Act.put, List.setIfInBounds_toArray, List.set_cons_zero, List.set_cons_succ]
    refine' wpAnyH_take (i := 23) (oi := _) (v := _) ?hir23 (by kernel_rfl) ?hfr23 ?hrr23 ?hQr23 ?hyr23 hBr4 ?restr23
    case hir23 => (simp only [List.getElem?_toArray]; rfl)
    case hfr23 => kernel_rfl
    case hrr23 => kernel_rfl
    case hQr23 => exact fun _ _ _ h => h
    case hyr23 => refine Or.inl ⟨by rfl, ?_⟩; intro W hSw; go_simp; try with_reducible rfl
    try simp only [Act.put, List.setIfInBounds_toArray, List.set_cons_zero, List.set_cons_succ]
    refine' wpAnyH_take (i := 24) (oi := _) (v := _) ?hir24 (by kernel_rfl) ?hfr24 ?hrr24 ?hQr24 ?hyr24 hBr4 ?restr24
    case hir24 => (simp only [List.getElem?_toArray]; rfl)
    case hfr24 => kernel_rfl
    case hrr24 => kernel_rfl
    case hQr24 => exact fun _ _ _ h => h
    case hyr24 => refine Or.inl ⟨by rfl, ?_⟩; intro W hSw; go_simp; try with_reducible rfl
    try simp only [Act.put, List.setIfInBounds_toArray, List.set_cons_zero, List.set_cons_succ]
    refine' wpAnyH_take (i := 25) (oi := _) (v := _) ?hir25 (by kernel_rfl) ?hfr25 ?hrr25 ?hQr25 ?hyr25 hBr4 ?restr25
    case hir25 => (simp only [List.getElem?_toArray]; rfl)
    case hfr25 => kernel_rfl
    case hrr25 => kernel_rfl
    case hQr25 => exact fun _ _ _ h => h
    case hyr25 => refine Or.inl ⟨by rfl, ?_⟩; intro W hSw; go_simp; try with_reducible rfl
    try simp only [Act.put, List.setIfInBounds_toArray, List.set_cons_zero, List.set_cons_succ]
    refine' wpAnyH_take (i := 26) (oi := _) (v := _) ?hir26 (by kernel_rfl) ?hfr26 ?hrr26 ?hQr26 ?hyr26 hBr4 ?restr26
    case hir26 => (simp only [List.getElem?_toArray]; rfl)
    case hfr26 => kernel_rfl
    case hrr26 => kernel_rfl
    case hQr26 => exact fun _ _ _ h => h
    case hyr26 => refine Or.inl ⟨by rfl, ?_⟩; intro W hSw; go_simp; try with_reducible rfl
    try simp only [Act.put, List.setIfInBounds_toArray, List.set_cons_zero, List.set_cons_succ]
    refine' wpAnyH_take (i := 27) (oi := _) (v := _) ?hir27 (by kernel_rfl) ?hfr27 ?hrr27 ?hQr27 ?hyr27 hBr4 ?restr27
    case hir27 => (simp only [List.getElem?_toArray]; rfl)
    case hfr27 => kernel_rfl
    case hrr27 => kernel_rfl
    case hQr27 => exact fun _ _ _ h => h
    case hyr27 => refine Or.inl ⟨by rfl, ?_⟩; intro W hSw; go_simp; try with_reducible rfl
    try simp only [Act.put, List.setIfInBounds_toArray, List.set_cons_zero, List.set_cons_succ]
    refine' wpAnyH_take (i := 28) (oi := _) (v := _) ?hir28 (by kernel_rfl) ?hfr28 ?hrr28 ?hQr28 ?hyr28 hBr4 ?restr28
    case hir28 => (simp only [List.getElem?_toArray]; rfl)
    case hfr28 => kernel_rfl
    case hrr28 => kernel_rfl
    case hQr28 => exact fun _ _ _ h => h
    case hyr28 => refine Or.inl ⟨by rfl, ?_⟩; intro W hSw; go_simp; try with_reducible rfl
    try simp only [Act.put, List.setIfInBounds_toArray, List.set_cons_zero, List.set_cons_succ]
    refine' wpAnyH_take (i := 29) (oi := _) (v := _) ?hir29 (by kernel_rfl) ?hfr29 ?hrr29 ?hQr29 ?hyr29 hBr4 ?restr29
    case hir29 => (simp only [List.getElem?_toArray]; rfl)
    case hfr29 => kernel_rfl
    case hrr29 => kernel_rfl
    case hQr29 => exact fun _ _ _ h => h
    case hyr29 => refine Or.inl ⟨by rfl, ?_⟩; intro W hSw; go_simp; try with_reducible rfl
    try simp only [Act.put, List.setIfInBounds_toArray, List.set_cons_zero, List.set_cons_succ]
    refine' wpAnyH_take (i := 30) (oi := _) (v := _) ?hir30 (by kernel_rfl) ?hfr30 ?hrr30 ?hQr30 ?hyr30 hBr4 ?restr30
    case hir30 => (simp only [List.getElem?_toArray]; rfl)
    case hfr30 => kernel_rfl
    case hrr30 => kernel_rfl
    case hQr30 => exact fun _ _ _ h => h
    case hyr30 => refine Or.inl ⟨by rfl, ?_⟩; intro W hSw; go_simp; try with_reducible rfl
    try simp only [Act.put, List.setIfInBounds_toArray, List.set_cons_zero, List.set_cons_succ]
    refine' wpAnyH_take (i := 31) (oi := _) (v := _) ?hir31 (by kernel_rfl) ?hfr31 ?hrr31 ?hQr31 ?hyr31 hBr4 ?restr31
    case hir31 => (simp only [List.getElem?_toArray]; rfl)
    case hfr31 => kernel_rfl
    case hrr31 => kernel_rfl
    case hQr31 => exact fun _ _ _ h => h
    case hyr31 => refine Or.inl ⟨by rfl, ?_⟩; intro W hSw; go_simp; try with_reducible rfl
    try simp only [Act.put, List.setIfInBounds_toArray, List.set_cons_zero, List.set_cons_succ]
    refine' wpAnyH_take (i := 32) (oi := _) (v := _) ?hir32 (by kernel_rfl) ?hfr32 ?hrr32 ?hQr32 ?hyr32 hBr4 ?restr32
    case hir32 => (simp only [List.getElem?_toArray]; rfl)
    case hfr32 => kernel_rfl
    case hrr32 => kernel_rfl
    case hQr32 => exact fun _ _ _ h => h
    case hyr32 => refine Or.inl ⟨by rfl, ?_⟩; intro W hSw; go_simp; try with_reducible rfl
    try simp only [Act.put, List.setIfInBounds_toArray, List.set_cons_zero, List.set_cons_succ]
    refine' wpAnyH_take (i := 33) (oi := _) (v := _) ?hir33 (by kernel_rfl) ?hfr33 ?hrr33 ?hQr33 ?hyr33 hBr4 ?restr33
    case hir33 => (simp only [List.getElem?_toArray]; rfl)
    case hfr33 => kernel_rfl
    case hrr33 => kernel_rfl
    case hQr33 => exact fun _ _ _ h => h
    case hyr33 => refine Or.inl ⟨by rfl, ?_⟩; intro W hSw; go_simp; try with_reducible rfl
    try simp only [Act.put, List.setIfInBounds_toArray, List.set_cons_zero, List.set_cons_succ]
    refine' wpAnyH_take (i := 34) (oi := _) (v := _) ?hir34 (by kernel_rfl) ?hfr34 ?hrr34 ?hQr34 ?hyr34 hBr4 ?restr34
    case hir34 => (simp only [List.getElem?_toArray]; rfl)
    case hfr34 => kernel_rfl
    case hrr34 => kernel_rfl
    case hQr34 => exact fun _ _ _ h => h
    case hyr34 => refine Or.inl ⟨by rfl, ?_⟩; intro W hSw; go_simp; try with_reducible rfl
    try simp only [Act.put, List.setIfInBounds_toArray, List.set_cons_zero, List.set_cons_succ]
    refine' wpAnyH_take (i := 35) (oi := _) (v := sv (oneS 3)) ?hir35 (by kernel_rfl) ?hfr35 ?hrr35 ?hQr35 ?hyr35 hBr4 ?restr35
    case hir35 => (simp only [List.getElem?_toArray]; rfl)
    case hfr35 => kernel_rfl
    case hrr35 => kernel_rfl
    case hQr35 => exact fun _ _ _ h => h
    case hyr35 => exact yields_sum (by rfl) (.tmp 78) (by rfl) _ (by rfl) (oneS 3) rfl (fun W hSw => (KC.out W hSw))
    try simp only [Act.put, List.setIfInBounds_toArray, List.set_cons_zero, List.set_cons_succ]
    refine' wpAnyH_take (i := 36) (oi := _) (v := sv (abS)) ?hir36 (by kernel_rfl) ?hfr36 ?hrr36 ?hQr36 ?hyr36 hBr4 ?restr36
    case hir36 => (simp only [List.getElem?_toArray]; rfl)
    case hfr36 => kernel_rfl
    case hrr36 => kernel_rfl
    case hQr36 => exact fun _ _ _ h => h
    case hyr36 => refine yields_sum ?_ (.tmp 2) rfl ⟨p, 0, none⟩ rfl abS lN (fun W hSw => (KP.out W hSw)); rfl
    try simp only [Act.put, List.setIfInBounds_toArray, List.set_cons_zero, List.set_cons_succ]
    refine' wpAnyH_take (i := 38) (oi := _) (v := sv (abS)) ?hir38 (by kernel_rfl) ?hfr38 ?hrr38 ?hQr38 ?hyr38 hBr4 ?restr38
    case hir38 => (simp only [List.getElem?_toArray]; rfl)
    case hfr38 => kernel_rfl
    case hrr38 => kernel_rfl
    case hQr38 => exact fun _ _ _ h => h
    case hyr38 => refine yields_sum ?_ (.tmp 2) rfl ⟨p, 0, none⟩ rfl abS lN (fun W hSw => (KP.out W hSw)); rfl
    try simp only [Act.put, List.setIfInBounds_toArray, List.set_cons_zero, List.set_cons_succ]
    refine' wpAnyH_take (i := 39) (oi := _) (v := _) ?hir39 (by kernel_rfl) ?hfr39 ?hrr39 ?hQr39 ?hyr39 hBr4 ?restr39
    case hir39 => (simp only [List.getElem?_toArray]; rfl)
    case hfr39 => kernel_rfl
    case hrr39 => kernel_rfl
    case hQr39 => exact fun _ _ _ h => h
    case hyr39 => refine Or.inl ⟨by rfl, ?_⟩; intro W hSw; go_simp; try with_reducible rfl
    try simp only [Act.put, List.setIfInBounds_toArray, List.set_cons_zero, List.set_cons_succ]
    refine' wpAnyH_take (i := 40) (oi := _) (v := _) ?hir40 (by kernel_rfl) ?hfr40 ?hrr40 ?hQr40 ?hyr40 hBr4 ?restr40
    case hir40 => (simp only [List.getElem?_toArray]; rfl)
    case hfr40 => kernel_rfl
    case hrr40 => kernel_rfl
    case hQr40 => exact fun _ _ _ h => h
    case hyr40 => refine Or.inl ⟨by rfl, ?_⟩; intro W hSw; go_simp; try with_reducible rfl
    try simp only [Act.put, List.setIfInBounds_toArray, List.set_cons_zero, List.set_cons_succ]
    refine' wpAnyH_take (i := 41) (oi := _) (v := sv (oneS 3)) ?hir41 (by kernel_rfl) ?hfr41 ?hrr41 ?hQr41 ?hyr41 hBr4 ?restr41
    case hir41 => (simp only [List.getElem?_toArray]; rfl)
    case hfr41 => kernel_rfl
    case hrr41 => kernel_rfl
    case hQr41 => exact fun _ _ _ h => h
    case hyr41 => exact yields_sum (by rfl) (.tmp 84) (by rfl) _ (by rfl) (oneS 3) rfl (fun W hSw => (KC.out W hSw))
    try simp only [Act.put, List.setIfInBounds_toArray, List.set_cons_zero, List.set_cons_succ]
    refine wpAnyH_ready (rs := [37, 42]) (by kernel_rfl) (by simp) ?_
    refine' AllReadyH.cons (o := _) ?hiy37 (fun K hK => ?_) (AllReadyH.cons (o := _) ?hiy42 (fun K hK => ?_) AllReadyH.nil)
    case hiy37 => (simp only [List.getElem?_toArray]; rfl)
    case hiy42 => (simp only [List.getElem?_toArray]; rfl)
    · skip
      rw [if_pos (by rfl)]
      refine wp_sums _ [abS] 1 rfl rfl (by simp <;> rfl) (by intro s hs; simp at hs; rw [hs]; exact lN) (by omega) (by omega) ?_
      have hBa51 := Below.alloc hBr4 (Below.size hBr4) (.cells (bvs [abS].flatten).toArray 24)
      have iL : InS (WS17.alloc (.cells (bvs [abS].flatten).toArray 24)) (some ⟨WS17.heap.size, 0, none⟩) 1 abS := by have := (In.new' WS17 [abS].flatten 24).rd; rw [show [abS].flatten = abS by simp] at this ⊢; exact ⟨lN, this⟩
      refine hK.out _ _ hBa51 (fun _ => ?_)
      clear hK K
      try simp only [Act.put, List.setIfInBounds_toArray, List.set_cons_zero, List.set_cons_succ]
      refine wpAnyH_ready (rs := [42]) (by kernel_rfl) (by simp) ?_
      refine' AllReadyH.cons (o := _) ?hia42 (fun K hK => ?_) AllReadyH.nil
      case hia42 => (simp only [List.getElem?_toArray]; rfl)
      go_simp
      go_at_call 11
      refine (CN.out _ hBa51).mono ?_
      rintro e Wa53 ⟨rfl, hBa52, hBa52b⟩
      have iL := iL.below hBa52b
      refine hK.out _ _ hBa52 (fun _ => ?_)
      clear hK K
      try simp only [Act.put, List.setIfInBounds_toArray, List.set_cons_zero, List.set_cons_succ]
      refine wpAnyH_ready (rs := [43]) (by kernel_rfl) (by simp) ?_
      refine' AllReadyH.cons (o := _) ?hia43 (fun K hK => ?_) AllReadyH.nil
      case hia43 => (simp only [List.getElem?_toArray]; rfl)
      go_simp
      go_at_call 9
      refine (CK1.out _ _ hBa52 iL).mono ?_
      rintro e Wa55 ⟨rfl, hBa54⟩
      refine hK.out _ _ hBa54 (fun _ => ?_)
      clear hK K iL
      try simp only [Act.put, List.setIfInBounds_toArray, List.set_cons_zero, List.set_cons_succ]
      refine' wpAnyH_take (i := 44) (oi := _) (v := _) ?hia44 (by kernel_rfl) ?hfa44 ?hra44 ?hQa44 ?hya44 hBa54 ?resta44
      case hia44 => (simp only [List.getElem?_toArray]; rfl)
      case hfa44 => kernel_rfl
      case hra44 => kernel_rfl
      case hQa44 => exact fun _ _ _ h => h
      case hya44 => refine Or.inl ⟨by rfl, ?_⟩; intro W hSw; go_simp; try with_reducible rfl
      try simp only [Act.put, List.setIfInBounds_toArray, List.set_cons_zero, List.set_cons_succ]
      refine' wpAnyH_take (i := 45) (oi := _) (v := _) ?hia45 (by kernel_rfl) ?hfa45 ?hra45 ?hQa45 ?hya45 hBa54 ?resta45
      case hia45 => (simp only [List.getElem?_toArray]; rfl)
      case hfa45 => kernel_rfl
      case hra45 => kernel_rfl
      case hQa45 => exact fun _ _ _ h => h
      case hya45 => refine Or.inl ⟨by rfl, ?_⟩; intro W hSw; go_simp; try with_reducible rfl
      try simp only [Act.put, List.setIfInBounds_toArray, List.set_cons_zero, List.set_cons_succ]
      refine' wpAnyH_take (i := 46) (oi := _) (v := _) ?hia46 (by kernel_rfl) ?hfa46 ?hra46 ?hQa46 ?hya46 hBa54 ?resta46
      case hia46 => (simp only [List.getElem?_toArray]; rfl)
      case hfa46 => kernel_rfl
      case hra46 => kernel_rfl
      case hQa46 => exact fun _ _ _ h => h
      case hya46 => refine Or.inl ⟨by rfl, ?_⟩; intro W hSw; go_simp; try with_reducible rfl
      try simp only [Act.put, List.setIfInBounds_toArray, List.set_cons_zero, List.set_cons_succ]
      refine' wpAnyH_take (i := 47) (oi := _) (v := _) ?hia47 (by kernel_rfl) ?hfa47 ?hra47 ?hQa47 ?hya47 hBa54 ?resta47
      case hia47 => (simp only [List.getElem?_toArray]; rfl)
      case hfa47 => kernel_rfl
      case hra47 => kernel_rfl
      case hQa47 => exact fun _ _ _ h => h
      case hya47 => refine Or.inl ⟨by rfl, ?_⟩; intro W hSw; go_simp; try with_reducible rfl
      try simp only [Act.put, List.setIfInBounds_toArray, List.set_cons_zero, List.set_cons_succ]
      refine' wpAnyH_take (i := 48) (oi := _) (v := sv ((oneS 1))) ?hia48 (by kernel_rfl) ?hfa48 ?hra48 ?hQa48 ?hya48 hBa54 ?resta48
      case hia48 => (simp only [List.getElem?_toArray]; rfl)
      case hfa48 => kernel_rfl
      case hra48 => kernel_rfl
      case hQa48 => exact fun _ _ _ h => h
      case hya48 => refine yields_sum ?_ (.tmp 91) rfl ⟨b, 0, none⟩ rfl (oneS 1) rfl (fun W hSw => (KA.out W hSw)); rfl
      try simp only [Act.put, List.setIfInBounds_toArray, List.set_cons_zero, List.set_cons_succ]
      refine' wpAnyH_take (i := 49) (oi := _) (v := _) ?hia49 (by kernel_rfl) ?hfa49 ?hra49 ?hQa49 ?hya49 hBa54 ?resta49
      case hia49 => (simp only [List.getElem?_toArray]; rfl)
      case hfa49 => kernel_rfl
      case hra49 => kernel_rfl
      case hQa49 => exact fun _ _ _ h => h
      case hya49 => refine Or.inl ⟨by rfl, ?_⟩; intro W hSw; go_simp; try with_reducible rfl
      try simp only [Act.put, List.setIfInBounds_toArray, List.set_cons_zero, List.set_cons_succ]
      refine' wpAnyH_take (i := 50) (oi := _) (v := _) ?hia50 (by kernel_rfl) ?hfa50 ?hra50 ?hQa50 ?hya50 hBa54 ?resta50
      case hia50 => (simp only [List.getElem?_toArray]; rfl)
      case hfa50 => kernel_rfl
      case hra50 => kernel_rfl
      case hQa50 => exact fun _ _ _ h => h
      case hya50 => refine Or.inl ⟨by rfl, ?_⟩; intro W hSw; go_simp; try with_reducible rfl
      try simp only [Act.put, List.setIfInBounds_toArray, List.set_cons_zero, List.set_cons_succ]
      refine' wpAnyH_take (i := 51) (oi := _) (v := sv ((oneS 1))) ?hia51 (by kernel_rfl) ?hfa51 ?hra51 ?hQa51 ?hya51 hBa54 ?resta51
      case hia51 => (simp only [List.getElem?_toArray]; rfl)
      case hfa51 => kernel_rfl
      case hra51 => kernel_rfl
      case hQa51 => exact fun _ _ _ h => h
      case hya51 => refine yields_sum ?_ (.tmp 94) rfl ⟨b, 0, none⟩ rfl (oneS 1) rfl (fun W hSw => (KA.out W hSw)); rfl
      try simp only [Act.put, List.setIfInBounds_toArray, List.set_cons_zero, List.set_cons_succ]
      refine wpAnyH_ready (rs := [52]) (by kernel_rfl) (by simp) ?_
      refine' AllReadyH.cons (o := _) ?hia52 (fun K hK => ?_) AllReadyH.nil
      case hia52 => (simp only [List.getElem?_toArray]; rfl)
      go_simp
      go_at_call 9
      refine (CK2.out _ hBa54).mono ?_
      rintro e Wa57 ⟨rfl, hBa56⟩
      refine hK.out _ _ hBa56 (fun _ => ?_)
      clear hK K
      try simp only [Act.put, List.setIfInBounds_toArray, List.set_cons_zero, List.set_cons_succ]
      refine' wpAnyH_take (i := 53) (oi := _) (v := _) ?hia53 (by kernel_rfl) ?hfa53 ?hra53 ?hQa53 ?hya53 hBa56 ?resta53
      case hia53 => (simp only [List.getElem?_toArray]; rfl)
      case hfa53 => kernel_rfl
      case hra53 => kernel_rfl
      case hQa53 => exact fun _ _ _ h => h
      case hya53 => refine Or.inl ⟨by rfl, ?_⟩; intro W hSw; go_simp; try with_reducible rfl
      try simp only [Act.put, List.setIfInBounds_toArray, List.set_cons_zero, List.set_cons_succ]
      refine' wpAnyH_take (i := 54) (oi := _) (v := _) ?hia54 (by kernel_rfl) ?hfa54 ?hra54 ?hQa54 ?hya54 hBa56 ?resta54
      case hia54 => (simp only [List.getElem?_toArray]; rfl)
      case hfa54 => kernel_rfl
      case hra54 => kernel_rfl
      case hQa54 => exact fun _ _ _ h => h
      case hya54 => refine Or.inl ⟨by rfl, ?_⟩; intro W hSw; go_simp; try with_reducible rfl
      try simp only [Act.put, List.setIfInBounds_toArray, List.set_cons_zero, List.set_cons_succ]
      refine' wpAnyH_take (i := 55) (oi := _) (v := _) ?hia55 (by kernel_rfl) ?hfa55 ?hra55 ?hQa55 ?hya55 hBa56 ?resta55
      case hia55 => (simp only [List.getElem?_toArray]; rfl)
      case hfa55 => kernel_rfl
      case hra55 => kernel_rfl
      case hQa55 => exact fun _ _ _ h => h
      case hya55 => refine Or.inl ⟨by rfl, ?_⟩; intro W hSw; go_simp; try with_reducible rfl
      try simp only [Act.put, List.setIfInBounds_toArray, List.set_cons_zero, List.set_cons_succ]
      refine' wpAnyH_take (i := 56) (oi := _) (v := _) ?hia56 (by kernel_rfl) ?hfa56 ?hra56 ?hQa56 ?hya56 hBa56 ?resta56
      case hia56 => (simp only [List.getElem?_toArray]; rfl)
      case hfa56 => kernel_rfl
      case hra56 => kernel_rfl
      case hQa56 => exact fun _ _ _ h => h
      case hya56 => refine Or.inl ⟨by rfl, ?_⟩; intro W hSw; go_simp; try with_reducible rfl
      try simp only [Act.put, List.setIfInBounds_toArray, List.set_cons_zero, List.set_cons_succ]
      refine' wpAnyH_take (i := 57) (oi := _) (v := sv ((oneS 1))) ?hia57 (by kernel_rfl) ?hfa57 ?hra57 ?hQa57 ?hya57 hBa56 ?resta57
      case hia57 => (simp only [List.getElem?_toArray]; rfl)
      case hfa57 => kernel_rfl
      case hra57 => kernel_rfl
      case hQa57 => exact fun _ _ _ h => h
      case hya57 => refine yields_sum ?_ (.tmp 100) rfl ⟨b, 0, none⟩ rfl (oneS 1) rfl (fun W hSw => (KA.out W hSw)); rfl
      try simp only [Act.put, List.setIfInBounds_toArray, List.set_cons_zero, List.set_cons_succ]
      refine' wpAnyH_take (i := 58) (oi := _) (v := _) ?hia58 (by kernel_rfl) ?hfa58 ?hra58 ?hQa58 ?hya58 hBa56 ?resta58
      case hia58 => (simp only [List.getElem?_toArray]; rfl)
      case hfa58 => kernel_rfl
      case hra58 => kernel_rfl
      case hQa58 => exact fun _ _ _ h => h
      case hya58 => refine Or.inl ⟨by rfl, ?_⟩; intro W hSw; go_simp; try with_reducible rfl
      try simp only [Act.put, List.setIfInBounds_toArray, List.set_cons_zero, List.set_cons_succ]
      refine' wpAnyH_take (i := 59) (oi := _) (v := _) ?hia59 (by kernel_rfl) ?hfa59 ?hra59 ?hQa59 ?hya59 hBa56 ?resta59
      case hia59 => (simp only [List.getElem?_toArray]; rfl)
      case hfa59 => kernel_rfl
      case hra59 => kernel_rfl
      case hQa59 => exact fun _ _ _ h => h
      case hya59 => refine Or.inl ⟨by rfl, ?_⟩; intro W hSw; go_simp; try with_reducible rfl
      try simp only [Act.put, List.setIfInBounds_toArray, List.set_cons_zero, List.set_cons_succ]
      refine' wpAnyH_take (i := 60) (oi := _) (v := sv ((oneS 1))) ?hia60 (by kernel_rfl) ?hfa60 ?hra60 ?hQa60 ?hya60 hBa56 ?resta60
      case hia60 => (simp only [List.getElem?_toArray]; rfl)
      case hfa60 => kernel_rfl
      case hra60 => kernel_rfl
      case hQa60 => exact fun _ _ _ h => h
      case hya60 => refine yields_sum ?_ (.tmp 103) rfl ⟨b, 0, none⟩ rfl (oneS 1) rfl (fun W hSw => (KA.out W hSw)); rfl
      try simp only [Act.put, List.setIfInBounds_toArray, List.set_cons_zero, List.set_cons_succ]
      refine wpAnyH_ready (rs := [61]) (by kernel_rfl) (by simp) ?_
      refine' AllReadyH.cons (o := _) ?hia61 (fun K hK => ?_) AllReadyH.nil
      case hia61 => (simp only [List.getElem?_toArray]; rfl)
      go_simp
      go_at_call 9
      refine (CK3.out _ hBa56).mono ?_
      rintro e Wa59 ⟨rfl, hBa58⟩
      refine hK.out _ _ hBa58 (fun _ => ?_)
      clear hK K
      try simp only [Act.put, List.setIfInBounds_toArray, List.set_cons_zero, List.set_cons_succ]
      refine' wpAnyH_take (i := 62) (oi := _) (v := _) ?hia62 (by kernel_rfl) ?hfa62 ?hra62 ?hQa62 ?hya62 hBa58 ?resta62
      case hia62 => (simp only [List.getElem?_toArray]; rfl)
      case hfa62 => kernel_rfl
      case hra62 => kernel_rfl
      case hQa62 => exact fun _ _ _ h => h
      case hya62 => refine Or.inl ⟨by rfl, ?_⟩; intro W hSw; go_simp; try with_reducible rfl
      try simp only [Act.put, List.setIfInBounds_toArray, List.set_cons_zero, List.set_cons_succ]
      refine' wpAnyH_take (i := 63) (oi := _) (v := _) ?hia63 (by kernel_rfl) ?hfa63 ?hra63 ?hQa63 ?hya63 hBa58 ?resta63
      case hia63 => (simp only [List.getElem?_toArray]; rfl)
      case hfa63 => kernel_rfl
      case hra63 => kernel_rfl
      case hQa63 => exact fun _ _ _ h => h
      case hya63 => refine Or.inl ⟨by rfl, ?_⟩; intro W hSw; go_simp; try with_reducible rfl
      try simp only [Act.put, List.setIfInBounds_toArray, List.set_cons_zero, List.set_cons_succ]
      refine' wpAnyH_take (i := 64) (oi := _) (v := _) ?hia64 (by kernel_rfl) ?hfa64 ?hra64 ?hQa64 ?hya64 hBa58 ?resta64
      case hia64 => (simp only [List.getElem?_toArray]; rfl)
      case hfa64 => kernel_rfl
      case hra64 => kernel_rfl
      case hQa64 => exact fun _ _ _ h => h
      case hya64 => refine Or.inl ⟨by rfl, ?_⟩; intro W hSw; go_simp; try with_reducible rfl
      try simp only [Act.put, List.setIfInBounds_toArray, List.set_cons_zero]
      refine wpAnyH_done (by kernel_rfl) ?_ _
      go_wp2
      go_ret
      rw [HB0.out]
      exact ⟨rfl, BL.out _ hBa58⟩
    · skip
      go_simp
      go_at_call 11
      refine (CN.out _ hBr4).mono ?_
      rintro e Wc52 ⟨rfl, hBc51, hBc51b⟩
      refine hK.out _ _ hBc51 (fun _ => ?_)
      clear hK K
      try simp only [Act.put, List.setIfInBounds_toArray, List.set_cons_zero, List.set_cons_succ]
      refine wpAnyH_ready (rs := [37]) (by kernel_rfl) (by simp) ?_
      refine' AllReadyH.cons (o := _) ?hic37 (fun K hK => ?_) AllReadyH.nil
      case hic37 => (simp only [List.getElem?_toArray]; rfl)
      rw [if_pos (by rfl)]
      refine wp_sums _ [abS] 1 rfl rfl (by simp <;> rfl) (by intro s hs; simp at hs; rw [hs]; exact lN) (by omega) (by omega) ?_
      have hBc53 := Below.alloc hBc51 (Below.size hBc51) (.cells (bvs [abS].flatten).toArray 24)
      have iL : InS (Wc52.alloc (.cells (bvs [abS].flatten).toArray 24)) (some ⟨Wc52.heap.size, 0, none⟩) 1 abS := by have := (In.new' Wc52 [abS].flatten 24).rd; rw [show [abS].flatten = abS by simp] at this ⊢; exact ⟨lN, this⟩
      refine hK.out _ _ hBc53 (fun _ => ?_)
      clear hK K
      try simp only [Act.put, List.setIfInBounds_toArray, List.set_cons_zero, List.set_cons_succ]
      refine wpAnyH_ready (rs := [43]) (by kernel_rfl) (by simp) ?_
      refine' AllReadyH.cons (o := _) ?hic43 (fun K hK => ?_) AllReadyH.nil
      case hic43 => (simp only [List.getElem?_toArray]; rfl)
      go_simp
      go_at_call 9
      refine (CK1.out _ _ hBc53 iL).mono ?_
      rintro e Wc55 ⟨rfl, hBc54⟩
      refine hK.out _ _ hBc54 (fun _ => ?_)
      clear hK K iL
      try simp only [Act.put, List.setIfInBounds_toArray, List.set_cons_zero, List.set_cons_succ]
      refine' wpAnyH_take (i := 44) (oi := _) (v := _) ?hic44 (by kernel_rfl) ?hfc44 ?hrc44 ?hQc44 ?hyc44 hBc54 ?restc44
      case hic44 => (simp only [List.getElem?_toArray]; rfl)
      case hfc44 => kernel_rfl
      case hrc44 => kernel_rfl
      case hQc44 => exact fun _ _ _ h => h
      case hyc44 => refine Or.inl ⟨by rfl, ?_⟩; intro W hSw; go_simp; try with_reducible rfl
      try simp only [Act.put, List.setIfInBounds_toArray, List.set_cons_zero, List.set_cons_succ]
      refine' wpAnyH_take (i := 45) (oi := _) (v := _) ?hic45 (by kernel_rfl) ?hfc45 ?hrc45 ?hQc45 ?hyc45 hBc54 ?restc45
      case hic45 => (simp only [List.getElem?_toArray]; rfl)
      case hfc45 => kernel_rfl
      case hrc45 => kernel_rfl
      case hQc45 => exact fun _ _ _ h => h
      case hyc45 => refine Or.inl ⟨by rfl, ?_⟩; intro W hSw; go_simp; try with_reducible rfl
      try simp only [Act.put, List.setIfInBounds_toArray, List.set_cons_zero, List.set_cons_succ]
      refine' wpAnyH_take (i := 46) (oi := _) (v := _) ?hic46 (by kernel_rfl) ?hfc46 ?hrc46 ?hQc46 ?hyc46 hBc54 ?restc46
      case hic46 => (simp only [List.getElem?_toArray]; rfl)
      case hfc46 => kernel_rfl
      case hrc46 => kernel_rfl
      case hQc46 => exact fun _ _ _ h => h
      case hyc46 => refine Or.inl ⟨by rfl, ?_⟩; intro W hSw; go_simp; try with_reducible rfl
      try simp only [Act.put, List.setIfInBounds_toArray, List.set_cons_zero, List.set_cons_succ]
      refine' wpAnyH_take (i := 47) (oi := _) (v := _) ?hic47 (by kernel_rfl) ?hfc47 ?hrc47 ?hQc47 ?hyc47 hBc54 ?restc47
      case hic47 => (simp only [List.getElem?_toArray]; rfl)
      case hfc47 => kernel_rfl
      case hrc47 => kernel_rfl
      case hQc47 => exact fun _ _ _ h => h
      case hyc47 => refine Or.inl ⟨by rfl, ?_⟩; intro W hSw; go_simp; try with_reducible rfl
      try simp only [Act.put, List.setIfInBounds_toArray, List.set_cons_zero, List.set_cons_succ]
      refine' wpAnyH_take (i := 48) (oi := _) (v := sv ((oneS 1))) ?hic48 (by kernel_rfl) ?hfc48 ?hrc48 ?hQc48 ?hyc48 hBc54 ?restc48
      case hic48 => (simp only [List.getElem?_toArray]; rfl)
      case hfc48 => kernel_rfl
      case hrc48 => kernel_rfl
      case hQc48 => exact fun _ _ _ h => h
      case hyc48 => refine yields_sum ?_ (.tmp 91) rfl ⟨b, 0, none⟩ rfl (oneS 1) rfl (fun W hSw => (KA.out W hSw)); rfl
      try simp only [Act.put, List.setIfInBounds_toArray, List.set_cons_zero, List.set_cons_succ]
      refine' wpAnyH_take (i := 49) (oi := _) (v := _) ?hic49 (by kernel_rfl) ?hfc49 ?hrc49 ?hQc49 ?hyc49 hBc54 ?restc49
      case hic49 => (simp only [List.getElem?_toArray]; rfl)
      case hfc49 => kernel_rfl
      case hrc49 => kernel_rfl
      case hQc49 => exact fun _ _ _ h => h
      case hyc49 => refine Or.inl ⟨by rfl, ?_⟩; intro W hSw; go_simp; try with_reducible rfl
      try simp only [Act.put, List.setIfInBounds_toArray, List.set_cons_zero, List.set_cons_succ]
      refine' wpAnyH_take (i := 50) (oi := _) (v := _) ?hic50 (by kernel_rfl) ?hfc50 ?hrc50 ?hQc50 ?hyc50 hBc54 ?restc50
      case hic50 => (simp only [List.getElem?_toArray]; rfl)
      case hfc50 => kernel_rfl
      case hrc50 => kernel_rfl
      case hQc50 => exact fun _ _ _ h => h
      case hyc50 => refine Or.inl ⟨by rfl, ?_⟩; intro W hSw; go_simp; try with_reducible rfl
      try simp only [Act.put, List.setIfInBounds_toArray, List.set_cons_zero, List.set_cons_succ]
      refine' wpAnyH_take (i := 51) (oi := _) (v := sv ((oneS 1))) ?hic51 (by kernel_rfl) ?hfc51 ?hrc51 ?hQc51 ?hyc51 hBc54 ?restc51
      case hic51 => (simp only [List.getElem?_toArray]; rfl)
      case hfc51 => kernel_rfl
      case hrc51 => kernel_rfl
      case hQc51 => exact fun _ _ _ h => h
      case hyc51 => refine yields_sum ?_ (.tmp 94) rfl ⟨b, 0, none⟩ rfl (oneS 1) rfl (fun W hSw => (KA.out W hSw)); rfl
      try simp only [Act.put, List.setIfInBounds_toArray, List.set_cons_zero, List.set_cons_succ]
      refine wpAnyH_ready (rs := [52]) (by kernel_rfl) (by simp) ?_
      refine' AllReadyH.cons (o := _) ?hic52 (fun K hK => ?_) AllReadyH.nil
      case hic52 => (simp only [List.getElem?_toArray]; rfl)
      go_simp
      go_at_call 9
      refine (CK2.out _ hBc54).mono ?_
      rintro e Wc57 ⟨rfl, hBc56⟩
      refine hK.out _ _ hBc56 (fun _ => ?_)
      clear hK K
      try simp only [Act.put, List.setIfInBounds_toArray, List.set_cons_zero, List.set_cons_succ]
      refine' wpAnyH_take (i := 53) (oi := _) (v := _) ?hic53 (by kernel_rfl) ?hfc53 ?hrc53 ?hQc53 ?hyc53 hBc56 ?restc53
      case hic53 => (simp only [List.getElem?_toArray]; rfl)
      case hfc53 => kernel_rfl
      case hrc53 => kernel_rfl
      case hQc53 => exact fun _ _ _ h => h
      case hyc53 => refine Or.inl ⟨by rfl, ?_⟩; intro W hSw; go_simp; try with_reducible rfl
      try simp only [Act.put, List.setIfInBounds_toArray, List.set_cons_zero, List.set_cons_succ]
      refine' wpAnyH_take (i := 54) (oi := _) (v := _) ?hic54 (by kernel_rfl) ?hfc54 ?hrc54 ?hQc54 ?hyc54 hBc56 ?restc54
      case hic54 => (simp only [List.getElem?_toArray]; rfl)
      case hfc54 => kernel_rfl
      case hrc54 => kernel_rfl
      case hQc54 => exact fun _ _ _ h => h
      case hyc54 => refine Or.inl ⟨by rfl, ?_⟩; intro W hSw; go_simp; try with_reducible rfl
      try simp only [Act.put, List.setIfInBounds_toArray, List.set_cons_zero, List.set_cons_succ]
      refine' wpAnyH_take (i := 55) (oi := _) (v := _) ?hic55 (by kernel_rfl) ?hfc55 ?hrc55 ?hQc55 ?hyc55 hBc56 ?restc55
      case hic55 => (simp only [List.getElem?_toArray]; rfl)
      case hfc55 => kernel_rfl
      case hrc55 => kernel_rfl
      case hQc55 => exact fun _ _ _ h => h
      case hyc55 => refine Or.inl ⟨by rfl, ?_⟩; intro W hSw; go_simp; try with_reducible rfl
      try simp only [Act.put, List.setIfInBounds_toArray, List.set_cons_zero, List.set_cons_succ]
      refine' wpAnyH_take (i := 56) (oi := _) (v := _) ?hic56 (by kernel_rfl) ?hfc56 ?hrc56 ?hQc56 ?hyc56 hBc56 ?restc56
      case hic56 => (simp only [List.getElem?_toArray]; rfl)
      case hfc56 => kernel_rfl
      case hrc56 => kernel_rfl
      case hQc56 => exact fun _ _ _ h => h
      case hyc56 => refine Or.inl ⟨by rfl, ?_⟩; intro W hSw; go_simp; try with_reducible rfl
      try simp only [Act.put, List.setIfInBounds_toArray, List.set_cons_zero, List.set_cons_succ]
      refine' wpAnyH_take (i := 57) (oi := _) (v := sv ((oneS 1))) ?hic57 (by kernel_rfl) ?hfc57 ?hrc57 ?hQc57 ?hyc57 hBc56 ?restc57
      case hic57 => (simp only [List.getElem?_toArray]; rfl)
      case hfc57 => kernel_rfl
      case hrc57 => kernel_rfl
      case hQc57 => exact fun _ _ _ h => h
      case hyc57 => refine yields_sum ?_ (.tmp 100) rfl ⟨b, 0, none⟩ rfl (oneS 1) rfl (fun W hSw => (KA.out W hSw)); rfl
      try simp only [Act.put, List.setIfInBounds_toArray, List.set_cons_zero, List.set_cons_succ]
      refine' wpAnyH_take (i := 58) (oi := _) (v := _) ?hic58 (by kernel_rfl) ?hfc58 ?hrc58 ?hQc58 ?hyc58 hBc56 ?restc58
      case hic58 => (simp only [List.getElem?_toArray]; rfl)
      case hfc58 => kernel_rfl
      case hrc58 => kernel_rfl
      case hQc58 => exact fun _ _ _ h => h
      case hyc58 => refine Or.inl ⟨by rfl, ?_⟩; intro W hSw; go_simp; try with_reducible rfl
      try simp only [Act.put, List.setIfInBounds_toArray, List.set_cons_zero, List.set_cons_succ]
      refine' wpAnyH_take (i := 59) (oi := _) (v := _) ?hic59 (by kernel_rfl) ?hfc59 ?hrc59 ?hQc59 ?hyc59 hBc56 ?restc59
      case hic59 => (simp only [List.getElem?_toArray]; rfl)
      case hfc59 => kernel_rfl
      case hrc59 => kernel_rfl
      case hQc59 => exact fun _ _ _ h => h
      case hyc59 => refine Or.inl ⟨by rfl, ?_⟩; intro W hSw; go_simp; try with_reducible rfl
      try simp only [Act.put, List.setIfInBounds_toArray, List.set_cons_zero, List.set_cons_succ]
      refine' wpAnyH_take (i := 60) (oi := _) (v := sv ((oneS 1))) ?hic60 (by kernel_rfl) ?hfc60 ?hrc60 ?hQc60 ?hyc60 hBc56 ?restc60
      case hic60 => (simp only [List.getElem?_toArray]; rfl)
      case hfc60 => kernel_rfl
      case hrc60 => kernel_rfl
      case hQc60 => exact fun _ _ _ h => h
      case hyc60 => refine yields_sum ?_ (.tmp 103) rfl ⟨b, 0, none⟩ rfl (oneS 1) rfl (fun W hSw => (KA.out W hSw)); rfl
      try simp only [Act.put, List.setIfInBounds_toArray, List.set_cons_zero, List.set_cons_succ]
      refine wpAnyH_ready (rs := [61]) (by kernel_rfl) (by simp) ?_
      refine' AllReadyH.cons (o := _) ?hic61 (fun K hK => ?_) AllReadyH.nil
      case hic61 => (simp only [List.getElem?_toArray]; rfl)
      go_simp
      go_at_call 9
      refine (CK3.out _ hBc56).mono ?_
      rintro e Wc59 ⟨rfl, hBc58⟩
      refine hK.out _ _ hBc58 (fun _ => ?_)
      clear hK K
      try simp only [Act.put, List.setIfInBounds_toArray, List.set_cons_zero, List.set_cons_succ]
      refine' wpAnyH_take (i := 62) (oi := _) (v := _) ?hic62 (by kernel_rfl) ?hfc62 ?hrc62 ?hQc62 ?hyc62 hBc58 ?restc62
      case hic62 => (simp only [List.getElem?_toArray]; rfl)
      case hfc62 => kernel_rfl
      case hrc62 => kernel_rfl
      case hQc62 => exact fun _ _ _ h => h
      case hyc62 => refine Or.inl ⟨by rfl, ?_⟩; intro W hSw; go_simp; try with_reducible rfl
      try simp only [Act.put, List.setIfInBounds_toArray, List.set_cons_zero, List.set_cons_succ]
      refine' wpAnyH_take (i := 63) (oi := _) (v := _) ?hic63 (by kernel_rfl) ?hfc63 ?hrc63 ?hQc63 ?hyc63 hBc58 ?restc63
      case hic63 => (simp only [List.getElem?_toArray]; rfl)
      case hfc63 => kernel_rfl
      case hrc63 => kernel_rfl
      case hQc63 => exact fun _ _ _ h => h
      case hyc63 => refine Or.inl ⟨by rfl, ?_⟩; intro W hSw; go_simp; try with_reducible rfl
      try simp only [Act.put, List.setIfInBounds_toArray, List.set_cons_zero, List.set_cons_succ]
      refine' wpAnyH_take (i := 64) (oi := _) (v := _) ?hic64 (by kernel_rfl) ?hfc64 ?hrc64 ?hQc64 ?hyc64 hBc58 ?restc64
      case hic64 => (simp only [List.getElem?_toArray]; rfl)
      case hfc64 => kernel_rfl
      case hrc64 => kernel_rfl
      case hQc64 => exact fun _ _ _ h => h
      case hyc64 => refine Or.inl ⟨by rfl, ?_⟩; intro W hSw; go_simp; try with_reducible rfl
      try simp only [Act.put, List.setIfInBounds_toArray, List.set_cons_zero]
      refine wpAnyH_done (by kernel_rfl) ?_ _
      go_wp2
      go_ret
      rw [HB0.out]
      exact ⟨rfl, BL.out _ hBc58⟩

end Go.Proofs.YtppfdpnplemfkaaDoor
