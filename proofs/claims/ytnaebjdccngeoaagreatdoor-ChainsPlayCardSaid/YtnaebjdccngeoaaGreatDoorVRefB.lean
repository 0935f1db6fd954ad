/-
  almonerref08: Node, Root.
-/
import Derived.Test.YtnaebjdccngeoaaGreatDoorVRefA
namespace Go.Proofs.YtnaebjdccngeoaaGreatDoor
open Go.RowKit

set_option maxRecDepth 100000 in
set_option maxHeartbeats 4000000 in
theorem refNode_any (l r : List Nat) (w : World) (hl : l.length = 32) (hr : r.length = 32) (ll : ∀ x ∈ l, x < 256) (lr : ∀ x ∈ r, x < 256) :
    Calls Tryz.prog 137 #[sv l, sv r] w fun e w' => e = .returned (sv (nodeL l r)) ∧ Below w.heap.size w w' := by
  have e0 : (bvs zero32).toArray = #[.int .u8 0, .int .u8 0, .int .u8 0, .int .u8 0, .int .u8 0, .int .u8 0, .int .u8 0, .int .u8 0, .int .u8 0, .int .u8 0, .int .u8 0, .int .u8 0, .int .u8 0, .int .u8 0, .int .u8 0, .int .u8 0, .int .u8 0, .int .u8 0, .int .u8 0, .int .u8 0, .int .u8 0, .int .u8 0, .int .u8 0, .int .u8 0, .int .u8 0, .int .u8 0, .int .u8 0, .int .u8 0, .int .u8 0, .int .u8 0, .int .u8 0, .int .u8 0] := rfl
  have f0 := ((BArr.new w 50 l).alloc (.cells (bvs r).toArray 50)).alloc (.cells (bvs zero32).toArray 50)
  have f1 := (BArr.new (w.alloc (.cells (bvs l).toArray 50)) 50 r).alloc (.cells (bvs zero32).toArray 50)
  have f2 := BArr.new ((w.alloc (.cells (bvs l).toArray 50)).alloc (.cells (bvs r).toArray 50)) 50 zero32
  have b1 : Below w.heap.size w (((w.alloc (.cells (bvs l).toArray 50)).alloc (.cells (bvs r).toArray 50)).alloc (.cells (bvs zero32).toArray 50)) := ((below_alloc w _).alloc (by simp) _).alloc (by simp; omega) _
  have s1 : (((w.alloc (.cells (bvs l).toArray 50)).alloc (.cells (bvs r).toArray 50)).alloc (.cells (bvs zero32).toArray 50)).heap.size = w.heap.size + 3 := by simp
  rw [World.size_alloc] at f1
  rw [World.size_alloc, World.size_alloc] at f2
  rw [e0] at f0 f1 f2 b1 s1
  clear e0
  obtain ⟨w1, hw1⟩ : ∃ w1, w1 = ((w.alloc (.cells (bvs l).toArray 50)).alloc (.cells (bvs r).toArray 50)).alloc (.cells #[.int .u8 0, .int .u8 0, .int .u8 0, .int .u8 0, .int .u8 0, .int .u8 0, .int .u8 0, .int .u8 0, .int .u8 0, .int .u8 0, .int .u8 0, .int .u8 0, .int .u8 0, .int .u8 0, .int .u8 0, .int .u8 0, .int .u8 0, .int .u8 0, .int .u8 0, .int .u8 0, .int .u8 0, .int .u8 0, .int .u8 0, .int .u8 0, .int .u8 0, .int .u8 0, .int .u8 0, .int .u8 0, .int .u8 0, .int .u8 0, .int .u8 0, .int .u8 0] 50) := ⟨_, rfl⟩
  rw [← hw1] at f0 f1 f2 b1 s1
  have iL : In w1 (some ⟨w.heap.size, 0, none⟩) 32 l := ⟨hl, fun j x hx => ⟨_, rfl, f0.at_ j x hx⟩⟩
  have iR : In w1 (some ⟨w.heap.size + 1, 0, none⟩) 32 r := ⟨hr, fun j x hx => ⟨_, rfl, f1.at_ j x hx⟩⟩
  have HW := Lib.hid (And.intro b1 (And.intro hw1 (And.intro f2 s1)))
  have HI := Lib.hid (And.intro iL iR)
  have HC := Lib.hid (And.intro ll lr)
  have hsl := run_arr_all Tryz.underlying50
  have hm : (nodeL l r).length = 32 := nodeL_length l r
  have hsha : sha ([1] ++ l ++ r) = nodeL l r := by rw [nodeL, List.append_assoc]; rfl
  obtain ⟨m, hm0⟩ : ∃ m, nodeL l r = m := ⟨_, rfl⟩
  rw [hm0] at hm hsha
  have HM := Lib.hid (And.intro hm0 hsha)
  have hbm : (bvs m).length = 32 := by rw [bvs_length, hm]
  have hst : ∀ W : World, BArr W (w.heap.size + 2) 50 zero32 → (storeCells ⟨w.heap.size + 2, 0, none⟩ (bvs m)).run Tryz.prog W = .ok () (W.setRow (w.heap.size + 2) (bvs m).toArray) := fun W hW => by
    have := run_storeCells_from (P := Tryz.prog) (w.heap.size + 2) 50 (bvs m) 0 _ W hW (by rw [hbm]; rfl) (bvs_oneCell m)
    simpa using this
  clear f0 f1 f2 b1 s1 hw1 iL iR hm0 hsha ll lr
  unfold sv
  go_enter Tryz.func137, Tryz.ntmps137
  go_upto_region 1 with fail
  rw [← HW.out.2.1]
  refine wp_region_held_drew (S := fun W => Below (w.heap.size + 2) w1 W) (by kernel_rfl) ((Below.refl _ _).drew) (fun hS0 => ?_)
  change wpAnyH _ _ _ _ _ _ _ _ w1.drew
  refine' wpAnyH_take (i := 1) (oi := _) (v := _) ?hir1 (by kernel_rfl) ?hfr1 ?hrr1 ?hQr1 ?hyr1 hS0 ?restr1
  case hir1 => (simp only [List.getElem?_toArray, List.getElem?_cons_zero, List.getElem?_cons_succ]; rfl)
  case hfr1 => kernel_rfl
  case hrr1 => kernel_rfl
  case hQr1 => exact fun _ _ _ h => h
  case hyr1 => refine Or.inl ⟨by rfl, ?_⟩; intro W hSw; go_simp; try with_reducible rfl
  try simp only [Act.put, List.setIfInBounds_toArray, List.set_cons_zero, List.set_cons_succ]
  refine' wpAnyH_take (i := 3) (oi := _) (v := _) ?hir3 (by kernel_rfl) ?hfr3 ?hrr3 ?hQr3 ?hyr3 hS0 ?restr3
  case hir3 => (simp only [List.getElem?_toArray, List.getElem?_cons_zero, List.getElem?_cons_succ]; rfl)
  case hfr3 => kernel_rfl
  case hrr3 => kernel_rfl
  case hQr3 => exact fun _ _ _ h => h
  case hyr3 => refine Or.inl ⟨by rfl, ?_⟩; intro W hSw; go_simp; try with_reducible rfl
  try simp only [Act.put, List.setIfInBounds_toArray, List.set_cons_zero, List.set_cons_succ]
  have hlow : w.heap.size + 2 ≤ w1.heap.size := by rw [HW.out.2.2.2]; omega
  have hD : Below w1.heap.size w1 w1.drew := (Below.refl _ _).drew
  refine wpAnyH_ready (rs := [0]) (by kernel_rfl) (by simp) ?_
  refine' AllReadyH.cons (o := _) ?hir0 (fun K hK => ?_) AllReadyH.nil
  case hir0 => (simp only [List.getElem?_toArray, List.getElem?_cons_zero]; rfl)
  go_simp
  have ow0 := own_byte w1.drew 1 w1.heap.size 1 rfl (Nat.le_refl _)
  have hB1 := Below.alloc hD (Below.size hD) (.cells #[.int .u8 1] 5)
  refine hK.out _ _ (hB1.mono hlow) (fun _ => ?_)
  clear hK K
  try simp only [Act.put, List.setIfInBounds_toArray, List.set_cons_zero, List.set_cons_succ]
  refine wpAnyH_ready (rs := [2]) (by kernel_rfl) (by simp) ?_
  refine' AllReadyH.cons (o := _) ?hir2 (fun K hK => ?_) AllReadyH.nil
  case hir2 => (simp only [List.getElem?_toArray, List.getElem?_cons_zero, List.getElem?_cons_succ]; rfl)
  refine step_app_at (by rfl) _ _ (by rfl) w1.heap.size _ 1 1 [1] (by rfl) ow0 (some ⟨w.heap.size, 0, none⟩) 32 32 l (by rfl) (HI.out.1.below hB1) (fun e => by cases e) (by omega) (Below.size hB1) ?_
  intro A2 c2 W2 ow2 nx2
  have hB2 : Below w1.heap.size w1 W2 := nx2.below ow0 hB1 (Nat.le_refl _) hB1.size
  refine hK.out _ _ (hB2.mono hlow) (fun _ => ?_)
  clear hK K ow0 nx2
  try simp only [Act.put, List.setIfInBounds_toArray, List.set_cons_zero, List.set_cons_succ]
  refine wpAnyH_ready (rs := [4]) (by kernel_rfl) (by simp) ?_
  refine' AllReadyH.cons (o := _) ?hir4 (fun K hK => ?_) AllReadyH.nil
  case hir4 => (simp only [List.getElem?_toArray, List.getElem?_cons_zero, List.getElem?_cons_succ]; rfl)
  refine step_app_at (by rfl) _ _ (by rfl) w1.heap.size A2 33 c2 ([1] ++ l) (by rfl) ow2 (some ⟨w.heap.size + 1, 0, none⟩) 32 32 r (by rfl) (HI.out.2.below hB2) (fun e => by cases e) (by omega) (Below.size hB2) ?_
  intro A3 c3 W3 ow3 nx3
  have hB3 : Below w1.heap.size w1 W3 := nx3.below ow2 hB2 (Nat.le_refl _) hB2.size
  have C3 := Lib.hid (refOf_any A3 (33 + 32) c3 ([1] ++ l ++ r) W3 (In.of_own ow3) (fun x hx => by rcases List.mem_append.1 hx with h1 | h1; (rcases List.mem_append.1 h1 with h2 | h2; (simp at h2; omega); exact HC.out.1 x h2); exact HC.out.2 x h1) (own_nil ow3) (by omega))
  rw [HM.out.2] at C3
  refine hK.out _ _ (hB3.mono hlow) (fun _ => ?_)
  clear hK K ow2 nx3 ow3
  try simp only [Act.put, List.setIfInBounds_toArray, List.set_cons_zero, List.set_cons_succ]
  refine wpAnyH_ready (rs := [5]) (by kernel_rfl) (by simp) ?_
  refine' AllReadyH.cons (o := _) ?hir5 (fun K hK => ?_) AllReadyH.nil
  case hir5 => (simp only [List.getElem?_toArray, List.getElem?_cons_zero, List.getElem?_cons_succ]; rfl)
  go_simp
  go_at_call 66
  refine C3.out.mono ?_
  rintro e W4 ⟨rfl, hb4⟩
  have hB4 := below_on hB3 (Nat.le_refl _) hb4
  have hf7 : BArr W4 (w.heap.size + 2) 50 zero32 := HW.out.2.2.1.below hB4
  refine hK.out _ _ (hB4.mono hlow) (fun _ => ?_)
  clear hK K
  try simp only [Act.put, List.setIfInBounds_toArray, List.set_cons_zero, List.set_cons_succ]
  refine wpAnyH_ready (rs := [6]) (by kernel_rfl) (by simp) ?_
  refine' AllReadyH.cons (o := _) ?hir6 (fun K hK => ?_) AllReadyH.nil
  case hir6 => (simp only [List.getElem?_toArray, List.getElem?_cons_zero, List.getElem?_cons_succ]; rfl)
  unfold sv
  go_simp
  refine hK.out _ _ (below_setRow (hB4.mono hlow) (Nat.le_refl _) _) (fun _ => ?_)
  clear hK K
  refine wpAnyH_done (by kernel_rfl) ?_ _
  go_wp2
  refine bodyPost_ret_by (results_cell_row (p := 4) (ty := 50) (by kernel_rfl) _ _ (w.heap.size + 2) 50 (bvs m).toArray (0, 0) _ rfl (hf7.setRow _) Tryz.underlying50 rfl (by rw [List.size_toArray, bvs_length, hm]; exact sizeSum)) rfl ?_
  exact ⟨by rw [HM.out.1], below_setRow (below_on HW.out.1 (Nat.le_refl _) hB4) (by omega) _⟩

set_option maxRecDepth 100000 in
set_option maxHeartbeats 2000000 in
theorem refRoot_few (A : Option Addr) (n c : Nat) (ys : List Nat) (w : World) (hin : InS w A n ys) (hn : n ≤ 1) :
    Calls Tryz.prog 67 #[.slice A n c] w fun e w' => e = .returned (sv (rt (nth ys) 0 n)) ∧ Below w.heap.size w w' := by
  have e0 : (bvs zero32).toArray = #[.int .u8 0, .int .u8 0, .int .u8 0, .int .u8 0, .int .u8 0, .int .u8 0, .int .u8 0, .int .u8 0, .int .u8 0, .int .u8 0, .int .u8 0, .int .u8 0, .int .u8 0, .int .u8 0, .int .u8 0, .int .u8 0, .int .u8 0, .int .u8 0, .int .u8 0, .int .u8 0, .int .u8 0, .int .u8 0, .int .u8 0, .int .u8 0, .int .u8 0, .int .u8 0, .int .u8 0, .int .u8 0, .int .u8 0, .int .u8 0, .int .u8 0, .int .u8 0] := rfl
  have f1 := BArr.new w 50 zero32
  have b1 := below_alloc w (.cells (bvs zero32).toArray 50)
  rw [e0] at f1 b1
  clear e0
  obtain ⟨w1, hw1⟩ : ∃ w1, w1 = w.alloc (.cells #[.int .u8 0, .int .u8 0, .int .u8 0, .int .u8 0, .int .u8 0, .int .u8 0, .int .u8 0, .int .u8 0, .int .u8 0, .int .u8 0, .int .u8 0, .int .u8 0, .int .u8 0, .int .u8 0, .int .u8 0, .int .u8 0, .int .u8 0, .int .u8 0, .int .u8 0, .int .u8 0, .int .u8 0, .int .u8 0, .int .u8 0, .int .u8 0, .int .u8 0, .int .u8 0, .int .u8 0, .int .u8 0, .int .u8 0, .int .u8 0, .int .u8 0, .int .u8 0] 50) := ⟨_, rfl⟩
  rw [← hw1] at f1 b1
  have HF := Lib.hid (And.intro f1 b1)
  have HW := Lib.hid hw1
  have HI := Lib.hid (hin.below b1)
  clear f1 b1 hw1 hin
  obtain rfl | rfl : n = 0 ∨ n = 1 := by omega
  · have C := Lib.hid (refOf_any none 0 0 [] w1 (In.none_ _ _) (by intro x hx; cases hx) (fun _ => rfl) (by omega))
    rw [rt_nil]
    have hl := sha_length []
    obtain ⟨s, hs0⟩ : ∃ s, sha [] = s := ⟨_, rfl⟩
    rw [hs0] at C hl ⊢
    clear hs0
    go_enter Tryz.func67, Tryz.ntmps67
    go_upto_region 1 with fail
    rw [← HW.out]
    go_wp2_with fail
    refine C.out.mono ?_
    rintro e w2 ⟨rfl, hb2⟩
    have f2 := HF.out.1.below hb2
    have HZ32 := Lib.hid (show zero32.length = 32 from rfl)
    go_wp2_with (with_reducible refine wpList_store_sum rfl (.tmp 2) (.tmp 7) rfl w.heap.size rfl zero32 s HZ32 hl f2 rfl ?_)
    refine bodyPost_ret_by (results_cell_row (p := 2) (ty := 50) (by kernel_rfl) _ _ w.heap.size 50 (bvs s).toArray (0, 0) _ rfl (f2.setRow _) Tryz.underlying50 rfl (by rw [List.size_toArray, bvs_length, hl]; exact sizeSum)) rfl ?_
    exact ⟨rfl, below_setRow (below_on HF.out.2 (Nat.le_refl _) hb2) (by omega) _⟩
  · obtain ⟨ad, rfl, hl, hat⟩ := HI.out.at_ (show 0 < 1 by omega)
    rw [rt_one]
    obtain ⟨s, hs0⟩ : ∃ s, nth ys 0 = s := ⟨_, rfl⟩
    rw [hs0] at hl hat ⊢
    have HAt := Lib.hid hat
    have HZ32 := Lib.hid (show zero32.length = 32 from rfl)
    clear hs0 hat
    go_enter Tryz.func67, Tryz.ntmps67
    go_upto_region 1 with fail
    rw [← HW.out]
    go_wp2_with (first | with_reducible refine wpList_load_sum rfl (.tmp 12) rfl (ad.add (0 * 32)) rfl s hl HAt.out ?_ | with_reducible refine wpList_store_sum rfl (.tmp 2) (.tmp 13) rfl w.heap.size rfl zero32 s HZ32 hl HF.out.1 rfl ?_)
    refine bodyPost_ret_by (results_cell_row (p := 2) (ty := 50) (by kernel_rfl) _ _ w.heap.size 50 (bvs s).toArray (0, 0) _ rfl (HF.out.1.setRow _) Tryz.underlying50 rfl (by rw [List.size_toArray, bvs_length, hl]; exact sizeSum)) rfl ?_
    exact ⟨rfl, below_setRow HF.out.2 (by omega) _⟩

set_option maxRecDepth 100000 in
set_option maxHeartbeats 4000000 in
theorem refRoot_step (ad : Addr) (n c : Nat) (ys : List Nat) (w : World) (hin : InS w (some ad) n ys) (hx : ∀ x ∈ ys, x < 256) (hc : n ≤ c) (h2 : 2 ≤ n) (hn : n ≤ 65536)
    (ih : ∀ (A' : Option Addr) (n' c' : Nat) (zs : List Nat) (w' : World), InS w' A' n' zs → (∀ x ∈ zs, x < 256) → n' ≤ c' → n' < n →
      Calls Tryz.prog 67 #[.slice A' n' c'] w' fun e w'' => e = .returned (sv (rt (nth zs) 0 n')) ∧ Below w'.heap.size w' w'') :
    Calls Tryz.prog 67 #[.slice (some ad) n c] w fun e w' => e = .returned (sv (rt (nth ys) 0 n)) ∧ Below w.heap.size w w' := by
  have e0 : (bvs zero32).toArray = #[.int .u8 0, .int .u8 0, .int .u8 0, .int .u8 0, .int .u8 0, .int .u8 0, .int .u8 0, .int .u8 0, .int .u8 0, .int .u8 0, .int .u8 0, .int .u8 0, .int .u8 0, .int .u8 0, .int .u8 0, .int .u8 0, .int .u8 0, .int .u8 0, .int .u8 0, .int .u8 0, .int .u8 0, .int .u8 0, .int .u8 0, .int .u8 0, .int .u8 0, .int .u8 0, .int .u8 0, .int .u8 0, .int .u8 0, .int .u8 0, .int .u8 0, .int .u8 0] := rfl
  have f1 := BArr.new w 50 zero32
  have b1 := below_alloc w (.cells (bvs zero32).toArray 50)
  rw [e0] at f1 b1
  clear e0
  obtain ⟨w1, hw1⟩ : ∃ w1, w1 = w.alloc (.cells #[.int .u8 0, .int .u8 0, .int .u8 0, .int .u8 0, .int .u8 0, .int .u8 0, .int .u8 0, .int .u8 0, .int .u8 0, .int .u8 0, .int .u8 0, .int .u8 0, .int .u8 0, .int .u8 0, .int .u8 0, .int .u8 0, .int .u8 0, .int .u8 0, .int .u8 0, .int .u8 0, .int .u8 0, .int .u8 0, .int .u8 0, .int .u8 0, .int .u8 0, .int .u8 0, .int .u8 0, .int .u8 0, .int .u8 0, .int .u8 0, .int .u8 0, .int .u8 0] 50) := ⟨_, rfl⟩
  rw [← hw1] at f1 b1
  obtain ⟨k, hk0⟩ : ∃ k, cutN n = k := ⟨_, rfl⟩
  have hKn := cutN_lt h2
  have hKp := cutN_pos n
  rw [hk0] at hKn hKp
  obtain ⟨L1, hL1⟩ : ∃ L1, rt (nth ys) 0 k = L1 := ⟨_, rfl⟩
  obtain ⟨L2, hL2⟩ : ∃ L2, rt (nth ys) k (n - k) = L2 := ⟨_, rfl⟩
  obtain ⟨R, hR⟩ : ∃ R, nodeL L1 L2 = R := ⟨_, rfl⟩
  have hrt : rt (nth ys) 0 n = R := by rw [rt_cut _ 0 h2, hk0, Nat.zero_add, hL1, hL2, hR]
  have hnl : ∀ j, j < n → (nth ys j).length = 32 := fun j hj => nth_length hin.len hj
  have hnb : ∀ j, ∀ x ∈ nth ys j, x < 256 := fun j => nth_lt hx j
  have hRl : R.length = 32 := by rw [← hR]; exact nodeL_length _ _
  have hL1l : L1.length = 32 := by rw [← hL1]; exact rt_length _ _ _ fun j hj => hnl _ (by omega)
  have hL2l : L2.length = 32 := by rw [← hL2]; exact rt_length _ _ _ fun j hj => hnl _ (by omega)
  have hL1b : ∀ x ∈ L1, x < 256 := by rw [← hL1]; exact rt_lt _ _ _ fun j _ => hnb _
  have hL2b : ∀ x ∈ L2, x < 256 := by rw [← hL2]; exact rt_lt _ _ _ fun j _ => hnb _
  have C1 := Lib.hid (fun (W : World) (hW : Below w1.heap.size w1 W) => later (v' := sv L1) hW (by rw [rt_take, hL1]) (ih (some ad) k c (ys.take (32 * k)) W (((hin.take (by omega)).below b1).below hW) (fun x hx' => hx x (List.mem_of_mem_take hx')) (by omega) hKn))
  have C2 := Lib.hid (fun (W : World) (hW : Below w1.heap.size w1 W) => later (v' := sv L2) hW (by rw [rt_drop, hL2]) (ih (some (ad.add (k * 32))) (n - k) (c - k) (ys.drop (32 * k)) W (((hin.drop_ k (by omega)).below b1).below hW) (fun x hx' => hx x (List.mem_of_mem_drop hx')) (by omega) (by omega)))
  have CN := Lib.hid (fun (W : World) (hW : Below w1.heap.size w1 W) => later (v' := sv R) hW (by rw [hR]) (refNode_any L1 L2 W hL1l hL2l hL1b hL2b))
  have CC := Lib.hid (refCut_any n w1 h2 hn)
  rw [hk0] at CC
  rw [hrt]
  have s1 := run_take_u64 (ad := ad) (n := n) (c := c) (k := k) (by omega) hc
  have s2 := run_drop_u64 (ad := ad) (n := n) (c := c) (k := k) hKn hc
  have HF := Lib.hid (And.intro f1 b1)
  have HW := Lib.hid hw1
  have i0 : ((n : Int) == 0) = false := by simp; omega
  have i1 : ((n : Int) == 1) = false := by simp; omega
  have iw : IntKind.u64.wrap (n : Int) = (n : Int) := by rw [IntKind.wrap_u64]; omega
  clear f1 b1 hw1 hk0 hKn hKp hL1 hL2 hR hrt hnl hnb hL1l hL2l hL1b hL2b ih hin hx
  go_enter Tryz.func67, Tryz.ntmps67
  go_upto_region 1 with fail
  rw [← HW.out]
  go_wp2_with fail
  refine CC.out.mono ?_
  rintro e w2 ⟨rfl, rfl⟩
  go_upto_region 6 with fail
  refine wp_region_quiet_tail (C := fun w' => Below w2.heap.size w2 w') 9 (by kernel_rfl) (by kernel_rfl) ((Below.refl _ _).drew) ?_
  simp only [List.take_succ_cons, List.take_zero, List.drop_succ_cons, List.drop_zero]
  iterate 3 (refine wpQuiet_step (fun K hK => ?_); go_simp; refine ⟨_, fun _ _ => rfl, hK _ ?_⟩; clear hK K)
  refine wpQuiet_step (fun K hK => ?_)
  go_simp
  refine ⟨sv L1, fun W hW => C1.out W hW, hK _ ?_⟩
  clear hK K
  iterate 3 (refine wpQuiet_step (fun K hK => ?_); go_simp; refine ⟨_, fun _ _ => rfl, hK _ ?_⟩; clear hK K)
  refine wpQuiet_step (fun K hK => ?_)
  go_simp
  refine ⟨sv L2, fun W hW => C2.out W hW, hK _ ?_⟩
  clear hK K
  refine wpQuiet_step (fun K hK => ?_)
  go_simp
  refine ⟨sv R, fun W hW => CN.out W hW, hK _ ?_⟩
  clear hK K
  refine wpQuiet_nil ?_
  intro w3 hb3
  have f3 := HF.out.1.below hb3
  have HZ32 := Lib.hid (show zero32.length = 32 from rfl)
  refine wpList_store_sum rfl (.tmp 2) (.tmp 26) rfl w.heap.size rfl zero32 R HZ32 hRl f3 rfl ?_
  go_wp2
  refine bodyPost_ret_by (results_cell_row (p := 2) (ty := 50) (by kernel_rfl) _ _ w.heap.size 50 (bvs R).toArray (0, 0) _ rfl (f3.setRow _) Tryz.underlying50 rfl (by rw [List.size_toArray, bvs_length, hRl]; exact sizeSum)) rfl ?_
  exact ⟨rfl, below_setRow (below_on HF.out.2 (Nat.le_refl _) hb3) (by omega) _⟩

theorem refRoot_any : ∀ (n : Nat) (A : Option Addr) (c : Nat) (ys : List Nat) (w : World), InS w A n ys → (∀ x ∈ ys, x < 256) → n ≤ c → n ≤ 65536 →
    Calls Tryz.prog 67 #[.slice A n c] w fun e w' => e = .returned (sv (rt (nth ys) 0 n)) ∧ Below w.heap.size w w' := by
  intro n
  induction n using Nat.strongRecOn with
  | ind n ih =>
    intro A c ys w hin hx hc hn
    by_cases h2 : n ≤ 1
    · exact refRoot_few A n c ys w hin h2
    · obtain ⟨ad, rfl⟩ := hin.some_ (by omega)
      exact refRoot_step ad n c ys w hin hx hc (by omega) hn fun A' n' c' zs w' h1 h3 h4 h5 => ih n' h5 A' c' zs w' h1 h3 h4 (by omega)

end Go.Proofs.YtnaebjdccngeoaaGreatDoor
