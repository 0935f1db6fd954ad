/-
  almonerref14.Side.
-/
import Derived.Test.YtnaebjdccngeoaaDoorJPure
import Derived.Test.YtnaebjdccngeoaaDoorRefOf
import Derived.Test.YtnaebjdccngeoaaDoorLApp2
namespace Go.Proofs.YtnaebjdccngeoaaDoor
open Go.RowKit

theorem own_byteR (W : World) (x base : Nat) (z : Int) (hz : z = (x : Int)) (hb : base ≤ W.heap.size) : (W.alloc (.cells #[.int .u8 z] 5)).ownsRow base 5 1 (.slice (some ⟨W.heap.size, 0, none⟩) 1 1) 1 (bvs [x]) := by
  subst hz
  exact ⟨rfl, .inr ⟨W.heap.size, 1, #[.int .u8 (x : Int)], rfl, hb, World.alloc_heap_new W _, Nat.le_refl _, by unfold maxLen; omega, rfl, rfl⟩⟩

set_option maxRecDepth 100000 in
set_option maxHeartbeats 4000000 in
theorem jrefSide_any (l r : List Nat) (w : World) (hl : l.length = 32) (hr : r.length = 32) (ll : ∀ x ∈ l, x < 256) (lr : ∀ x ∈ r, x < 256) :
    Calls Tryd.prog 26 #[sv l, sv r] w fun e w' => e = .returned (sv (sideL l r)) ∧ Below w.heap.size w w' := by
  have e0 : (bvs zero32).toArray = #[.int .u8 0, .int .u8 0, .int .u8 0, .int .u8 0, .int .u8 0, .int .u8 0, .int .u8 0, .int .u8 0, .int .u8 0, .int .u8 0, .int .u8 0, .int .u8 0, .int .u8 0, .int .u8 0, .int .u8 0, .int .u8 0, .int .u8 0, .int .u8 0, .int .u8 0, .int .u8 0, .int .u8 0, .int .u8 0, .int .u8 0, .int .u8 0, .int .u8 0, .int .u8 0, .int .u8 0, .int .u8 0, .int .u8 0, .int .u8 0, .int .u8 0, .int .u8 0] := rfl
  have f0 := ((BArr.new w 36 l).alloc (.cells (bvs r).toArray 36)).alloc (.cells (bvs zero32).toArray 36)
  have f1 := (BArr.new (w.alloc (.cells (bvs l).toArray 36)) 36 r).alloc (.cells (bvs zero32).toArray 36)
  have f2 := BArr.new ((w.alloc (.cells (bvs l).toArray 36)).alloc (.cells (bvs r).toArray 36)) 36 zero32
  have b1 : Below w.heap.size w (((w.alloc (.cells (bvs l).toArray 36)).alloc (.cells (bvs r).toArray 36)).alloc (.cells (bvs zero32).toArray 36)) := ((below_alloc w _).alloc (by simp) _).alloc (by simp; omega) _
  have s1 : (((w.alloc (.cells (bvs l).toArray 36)).alloc (.cells (bvs r).toArray 36)).alloc (.cells (bvs zero32).toArray 36)).heap.size = w.heap.size + 3 := by simp
  rw [World.size_alloc] at f1
  rw [World.size_alloc, World.size_alloc] at f2
  rw [e0] at f0 f1 f2 b1 s1
  clear e0
  obtain ⟨w1, hw1⟩ : ∃ w1, w1 = ((w.alloc (.cells (bvs l).toArray 36)).alloc (.cells (bvs r).toArray 36)).alloc (.cells #[.int .u8 0, .int .u8 0, .int .u8 0, .int .u8 0, .int .u8 0, .int .u8 0, .int .u8 0, .int .u8 0, .int .u8 0, .int .u8 0, .int .u8 0, .int .u8 0, .int .u8 0, .int .u8 0, .int .u8 0, .int .u8 0, .int .u8 0, .int .u8 0, .int .u8 0, .int .u8 0, .int .u8 0, .int .u8 0, .int .u8 0, .int .u8 0, .int .u8 0, .int .u8 0, .int .u8 0, .int .u8 0, .int .u8 0, .int .u8 0, .int .u8 0, .int .u8 0] 36) := ⟨_, rfl⟩
  rw [← hw1] at f0 f1 f2 b1 s1
  have iL : In w1 (some ⟨w.heap.size, 0, none⟩) 32 l := ⟨hl, fun j x hx => ⟨_, rfl, f0.at_ j x hx⟩⟩
  have iR : In w1 (some ⟨w.heap.size + 1, 0, none⟩) 32 r := ⟨hr, fun j x hx => ⟨_, rfl, f1.at_ j x hx⟩⟩
  have HW := Lib.hid (And.intro b1 (And.intro hw1 (And.intro f2 s1)))
  have HI := Lib.hid (And.intro iL iR)
  have HC := Lib.hid (And.intro ll lr)
  have hsl := run_arr_all Tryd.underlying36
  have hm : (sideL l r).length = 32 := sideL_length l r
  have hsha : sha ([4] ++ l ++ r) = sideL l r := by rw [sideL, List.append_assoc]; rfl
  obtain ⟨m, hm0⟩ : ∃ m, sideL l r = m := ⟨_, rfl⟩
  rw [hm0] at hm hsha
  have HM := Lib.hid (And.intro hm0 hsha)
  have hbm : (bvs m).length = 32 := by rw [bvs_length, hm]
  have hst : ∀ W : World, BArr W (w.heap.size + 2) 36 zero32 → (storeCells ⟨w.heap.size + 2, 0, none⟩ (bvs m)).run Tryd.prog W = .ok () (W.setRow (w.heap.size + 2) (bvs m).toArray) := fun W hW => by
    have := run_storeCells_from (P := Tryd.prog) (w.heap.size + 2) 36 (bvs m) 0 _ W hW (by rw [hbm]; rfl) (bvs_oneCell m)
    simpa using this
  clear f0 f1 f2 b1 s1 hw1 iL iR hm0 hsha ll lr
  unfold sv
  go_enter Tryd.func26, Tryd.ntmps26
  go_upto_region 1 with fail
  rw [← HW.out.2.1]
  refine wp_region_held_drew (S := fun W => Below (w.heap.size + 2) w1 W) (by kernel_rfl) ((Below.refl _ _).drew) (fun hS0 => ?_)
  change wpAnyH _ _ _ _ _ _ _ _ w1.drew
  refine' wpAnyH_take (i := 1) (oi := _) (v := _) ?hir1 (by kernel_rfl) ?hfr1 ?hrr1 ?hQr1 ?hyr1 hS0 ?restr1
  case hir1 => (simp only [List.getElem?_toArray, List.getElem?_cons_zero, List.getElem?_cons_succ]; rfl)
  case hfr1 => kernel_rfl
  case hrr1 => kernel_rfl
  case hQr1 => exact fun _ _ _ h => h
  case hyr1 => refine Or.inl ⟨by rfl, ?_⟩; intro W hSw; go_simp; try with_reducible rfl
  try simp only [Act.put, List.setIfInBounds_toArray, List.set_cons_zero, List.set_cons_succ]
  refine' wpAnyH_take (i := 3) (oi := _) (v := _) ?hir3 (by kernel_rfl) ?hfr3 ?hrr3 ?hQr3 ?hyr3 hS0 ?restr3
  case hir3 => (simp only [List.getElem?_toArray, List.getElem?_cons_zero, List.getElem?_cons_succ]; rfl)
  case hfr3 => kernel_rfl
  case hrr3 => kernel_rfl
  case hQr3 => exact fun _ _ _ h => h
  case hyr3 => refine Or.inl ⟨by rfl, ?_⟩; intro W hSw; go_simp; try with_reducible rfl
  try simp only [Act.put, List.setIfInBounds_toArray, List.set_cons_zero, List.set_cons_succ]
  have hlow : w.heap.size + 2 ≤ w1.heap.size := by rw [HW.out.2.2.2]; omega
  have hD : Below w1.heap.size w1 w1.drew := (Below.refl _ _).drew
  refine wpAnyH_ready (rs := [0]) (by kernel_rfl) (by simp) ?_
  refine' AllReadyH.cons (o := _) ?hir0 (fun K hK => ?_) AllReadyH.nil
  case hir0 => (simp only [List.getElem?_toArray, List.getElem?_cons_zero]; rfl)
  go_simp
  have ow0 := own_byteR w1.drew 4 w1.heap.size 4 rfl (Nat.le_refl _)
  have hB1 := Below.alloc hD (Below.size hD) (.cells #[.int .u8 4] 5)
  refine hK.out _ _ (hB1.mono hlow) (fun _ => ?_)
  clear hK K
  try simp only [Act.put, List.setIfInBounds_toArray, List.set_cons_zero, List.set_cons_succ]
  refine wpAnyH_ready (rs := [2]) (by kernel_rfl) (by simp) ?_
  refine' AllReadyH.cons (o := _) ?hir2 (fun K hK => ?_) AllReadyH.nil
  case hir2 => (simp only [List.getElem?_toArray, List.getElem?_cons_zero, List.getElem?_cons_succ]; rfl)
  refine step_app_at (by rfl) _ _ (by rfl) w1.heap.size _ 1 1 [4] (by rfl) ow0 (some ⟨w.heap.size, 0, none⟩) 32 32 l (by rfl) (HI.out.1.below hB1) (fun e => by cases e) (by omega) (Below.size hB1) ?_
  intro A2 c2 W2 ow2 nx2
  have hB2 : Below w1.heap.size w1 W2 := nx2.below ow0 hB1 (Nat.le_refl _) hB1.size
  refine hK.out _ _ (hB2.mono hlow) (fun _ => ?_)
  clear hK K ow0 nx2
  try simp only [Act.put, List.setIfInBounds_toArray, List.set_cons_zero, List.set_cons_succ]
  refine wpAnyH_ready (rs := [4]) (by kernel_rfl) (by simp) ?_
  refine' AllReadyH.cons (o := _) ?hir4 (fun K hK => ?_) AllReadyH.nil
  case hir4 => (simp only [List.getElem?_toArray, List.getElem?_cons_zero, List.getElem?_cons_succ]; rfl)
  refine step_app_at (by rfl) _ _ (by rfl) w1.heap.size A2 33 c2 ([4] ++ l) (by rfl) ow2 (some ⟨w.heap.size + 1, 0, none⟩) 32 32 r (by rfl) (HI.out.2.below hB2) (fun e => by cases e) (by omega) (Below.size hB2) ?_
  intro A3 c3 W3 ow3 nx3
  have hB3 : Below w1.heap.size w1 W3 := nx3.below ow2 hB2 (Nat.le_refl _) hB2.size
  have C3 := Lib.hid (refOf_any A3 (33 + 32) c3 ([4] ++ l ++ r) W3 (In.of_own ow3) (fun x hx => by rcases List.mem_append.1 hx with h1 | h1; (rcases List.mem_append.1 h1 with h2 | h2; (simp at h2; omega); exact HC.out.1 x h2); exact HC.out.2 x h1) (own_nil ow3) (by omega))
  rw [HM.out.2] at C3
  refine hK.out _ _ (hB3.mono hlow) (fun _ => ?_)
  clear hK K ow2 nx3 ow3
  try simp only [Act.put, List.setIfInBounds_toArray, List.set_cons_zero, List.set_cons_succ]
  refine wpAnyH_ready (rs := [5]) (by kernel_rfl) (by simp) ?_
  refine' AllReadyH.cons (o := _) ?hir5 (fun K hK => ?_) AllReadyH.nil
  case hir5 => (simp only [List.getElem?_toArray, List.getElem?_cons_zero, List.getElem?_cons_succ]; rfl)
  go_simp
  go_at_call 49
  refine C3.out.mono ?_
  rintro e W4 ⟨rfl, hb4⟩
  have hB4 := below_on hB3 (Nat.le_refl _) hb4
  have hf7 : BArr W4 (w.heap.size + 2) 36 zero32 := HW.out.2.2.1.below hB4
  refine hK.out _ _ (hB4.mono hlow) (fun _ => ?_)
  clear hK K
  try simp only [Act.put, List.setIfInBounds_toArray, List.set_cons_zero, List.set_cons_succ]
  refine wpAnyH_ready (rs := [6]) (by kernel_rfl) (by simp) ?_
  refine' AllReadyH.cons (o := _) ?hir6 (fun K hK => ?_) AllReadyH.nil
  case hir6 => (simp only [List.getElem?_toArray, List.getElem?_cons_zero, List.getElem?_cons_succ]; rfl)
  unfold sv
  go_simp
  refine hK.out _ _ (below_setRow (hB4.mono hlow) (Nat.le_refl _) _) (fun _ => ?_)
  clear hK K
  refine wpAnyH_done (by kernel_rfl) ?_ _
  go_wp2
  refine bodyPost_ret_by (results_cell_row (p := 4) (ty := 36) (by kernel_rfl) _ _ (w.heap.size + 2) 36 (bvs m).toArray (0, 0) _ rfl (hf7.setRow _) Tryd.underlying36 rfl (by rw [List.size_toArray, bvs_length, hm]; exact sizeSum)) rfl ?_
  exact ⟨by rw [HM.out.1], below_setRow (below_on HW.out.1 (Nat.le_refl _) hB4) (by omega) _⟩

end Go.Proofs.YtnaebjdccngeoaaDoor
