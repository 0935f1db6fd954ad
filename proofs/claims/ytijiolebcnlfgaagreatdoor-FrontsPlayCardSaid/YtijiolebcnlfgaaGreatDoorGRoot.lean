/-
  fronts.Root: the whole trees put together.
-/
import Derived.Test.YtijiolebcnlfgaaGreatDoorGAdd
namespace Go.Proofs.YtijiolebcnlfgaaGreatDoor
open Go.RowKit

set_option maxRecDepth 100000 in
set_option maxHeartbeats 4000000 in
theorem root_none_front {w : World} {g : Nat} {f : Nat → List Nat} (h : Front w g f 0) (hk : Knows w) (hs : Starts w) :
    Calls Tryz.prog 7 #[.pointer (some ⟨g, 0, none⟩)] w fun e w' => e = .returned (sv (rt f 0 0)) ∧ Below w.heap.size w w' := by
  obtain ⟨A, c, h⟩ := h
  have e0 : (bvs zero32).toArray = #[.int .u8 0, .int .u8 0, .int .u8 0, .int .u8 0, .int .u8 0, .int .u8 0, .int .u8 0, .int .u8 0, .int .u8 0, .int .u8 0, .int .u8 0, .int .u8 0, .int .u8 0, .int .u8 0, .int .u8 0, .int .u8 0, .int .u8 0, .int .u8 0, .int .u8 0, .int .u8 0, .int .u8 0, .int .u8 0, .int .u8 0, .int .u8 0, .int .u8 0, .int .u8 0, .int .u8 0, .int .u8 0, .int .u8 0, .int .u8 0, .int .u8 0, .int .u8 0] := rfl
  obtain ⟨w1, hw1⟩ : ∃ w1, w1 = w.alloc (.cells #[.int .u8 0, .int .u8 0, .int .u8 0, .int .u8 0, .int .u8 0, .int .u8 0, .int .u8 0, .int .u8 0, .int .u8 0, .int .u8 0, .int .u8 0, .int .u8 0, .int .u8 0, .int .u8 0, .int .u8 0, .int .u8 0, .int .u8 0, .int .u8 0, .int .u8 0, .int .u8 0, .int .u8 0, .int .u8 0, .int .u8 0, .int .u8 0, .int .u8 0, .int .u8 0, .int .u8 0, .int .u8 0, .int .u8 0, .int .u8 0, .int .u8 0, .int .u8 0] 40) := ⟨_, rfl⟩
  have b1 : Below w.heap.size w w1 := by rw [hw1]; exact below_alloc _ _
  have r1 : BArr w1 w.heap.size 40 zero32 := by rw [hw1, ← e0]; exact BArr.new _ _ _
  have HW := Lib.hid hw1
  have H1 := Lib.hid (And.intro b1 r1)
  clear hw1 b1 r1 e0
  have h1 := h.below H1.out.1
  have CT := Lib.hid (there_yes h1.made)
  have c1 := h1.size
  have C := Lib.hid (root_any none 0 0 [] w1 (InS.none_ _ _) (by intro x hx; cases hx) (Nat.le_refl _) (by omega) (hk.below H1.out.1) (hs.below H1.out.1))
  have hRl := sha_length []
  rw [rt_nil] at C ⊢
  obtain ⟨R, hR⟩ : ∃ R, sha [] = R := ⟨_, rfl⟩
  rw [hR] at C hRl ⊢
  have HZ32 := Lib.hid (show zero32.length = 32 from rfl)
  clear h h1 hR
  go_enter Tryz.func7, Tryz.ntmps7
  go_upto_region 1 with fail
  rw [← HW.out]
  go_wp2_with fail
  refine CT.out.mono ?_
  rintro e w' ⟨rfl, e1⟩
  obtain rfl := e1.symm
  clear e1
  go_wp2_with fail
  refine C.out.mono ?_
  rintro e w2 ⟨rfl, hb2⟩
  have hf7 := H1.out.2.below hb2
  go_wp2_with (with_reducible refine wpList_store_sum rfl (.tmp 2) (.tmp 15) rfl w.heap.size rfl zero32 R HZ32 hRl hf7 rfl ?_)
  refine bodyPost_ret_by (results_cell_row (p := 2) (ty := 40) (by kernel_rfl) _ _ w.heap.size 40 (bvs R).toArray (0, 0) _ rfl (hf7.setRow _) Tryz.underlying40 rfl (by rw [List.size_toArray, bvs_length, hRl]; exact sizeSum)) rfl ?_
  exact ⟨rfl, below_setRow (below_on H1.out.1 (Nat.le_refl _) hb2) (Nat.le_refl _) _⟩

set_option maxRecDepth 100000 in
set_option maxHeartbeats 4000000 in
theorem root_some_front {w : World} {g : Nat} {f : Nat → List Nat} {n : Nat} (h : Front w g f n) (hf : Sums32 f n) (h0 : 0 < n) (hn : n < 1000000) (hk : Knows w) (hs : Starts w) :
    Calls Tryz.prog 7 #[.pointer (some ⟨g, 0, none⟩)] w fun e w' => e = .returned (sv (rt f 0 n)) ∧ Below w.heap.size w w' := by
  obtain ⟨A, c, h⟩ := h
  have h32 := hf.fr32
  have hlt := hf.frlt
  have hm := fr_length f n 0
  have hmn := pop_le n
  obtain ⟨pre, x, hpx⟩ : ∃ pre x, fr f 0 n = pre ++ [x] := by
    rcases List.eq_nil_or_concat (fr f 0 n) with e | ⟨L, b, e⟩
    · have := fr_none.1 e; omega
    · exact ⟨L, b, by rw [e, List.concat_eq_append]⟩
  have htog := tog_fr f n 0 pre x hpx
  obtain ⟨q, hq⟩ : ∃ q, pre.length = q := ⟨_, rfl⟩
  obtain ⟨m, hmp⟩ : ∃ m, pop n = m := ⟨_, rfl⟩
  have e0 : (bvs zero32).toArray = #[.int .u8 0, .int .u8 0, .int .u8 0, .int .u8 0, .int .u8 0, .int .u8 0, .int .u8 0, .int .u8 0, .int .u8 0, .int .u8 0, .int .u8 0, .int .u8 0, .int .u8 0, .int .u8 0, .int .u8 0, .int .u8 0, .int .u8 0, .int .u8 0, .int .u8 0, .int .u8 0, .int .u8 0, .int .u8 0, .int .u8 0, .int .u8 0, .int .u8 0, .int .u8 0, .int .u8 0, .int .u8 0, .int .u8 0, .int .u8 0, .int .u8 0, .int .u8 0] := rfl
  obtain ⟨w1, hw1⟩ : ∃ w1, w1 = w.alloc (.cells #[.int .u8 0, .int .u8 0, .int .u8 0, .int .u8 0, .int .u8 0, .int .u8 0, .int .u8 0, .int .u8 0, .int .u8 0, .int .u8 0, .int .u8 0, .int .u8 0, .int .u8 0, .int .u8 0, .int .u8 0, .int .u8 0, .int .u8 0, .int .u8 0, .int .u8 0, .int .u8 0, .int .u8 0, .int .u8 0, .int .u8 0, .int .u8 0, .int .u8 0, .int .u8 0, .int .u8 0, .int .u8 0, .int .u8 0, .int .u8 0, .int .u8 0, .int .u8 0] 40) := ⟨_, rfl⟩
  have b1 : Below w.heap.size w w1 := by rw [hw1]; exact below_alloc _ _
  have r1 : BArr w1 w.heap.size 40 zero32 := by rw [hw1, ← e0]; exact BArr.new _ _ _
  have HW := Lib.hid hw1
  have H1 := Lib.hid (And.intro b1 r1)
  clear hw1 b1 r1 e0
  have h1 := h.below H1.out.1
  have CT := Lib.hid (there_yes h1.made)
  have c1 := h1.size
  have c2 := h1.list
  have htr := h.trees
  have c20 := h.list
  have hcap := h1.cap
  have hnil := h1.nil
  rw [hmp] at c2 c20 htr hcap hm hmn
  rw [hpx] at h32 hlt hm htr
  have hmq : m = q + 1 := by rw [← hm, List.length_append, hq]; rfl
  subst hmq
  have htake : (pre ++ [x]).flatten.take (32 * q) = pre.flatten := by rw [flat_take h32, ← hq, List.take_left]
  have hnth : nth (pre ++ [x]).flatten q = x := nth_flatten _ h32 q x (by rw [← hq]; simp)
  have i1 : InS w A q pre.flatten := by rw [← htake]; exact htr.take (by omega)
  obtain ⟨ad, rfl, hxl, hat⟩ := htr.at_ (show q < q + 1 by omega)
  rw [hnth] at hxl hat
  have hTk := fun W => run_take_sums (ad := ad) (n := q + 1) (c := c) (k := q) (by omega) hcap W
  have CG := Lib.hid (fun (W : World) (hW : Below w.heap.size w1 W) => together_any (some ad) q c pre x W (i1.below (H1.out.1.trans hW)) hq (fun y hy => h32 y (List.mem_append_left _ hy)) (fun y hy => hlt y (List.mem_append_left _ hy)) hxl (hlt x (by simp)) (by omega) (hk.below (H1.out.1.trans hW)) (hs.below (H1.out.1.trans hW)))
  have hRl : (rt f 0 n).length = 32 := rt_length f 0 n fun j hj => by rw [Nat.zero_add]; exact hf.len j hj
  obtain ⟨R, hR⟩ : ∃ R, rt f 0 n = R := ⟨_, rfl⟩
  rw [hR] at htog hRl ⊢
  rw [htog] at CG
  have HAt := Lib.hid hat
  have HC2 := Lib.hid (fun (W : World) (hW : Below w.heap.size w1 W) => ((H1.out.1.trans hW).cell (World.block_lt_of_cell? w _ c20)).trans c20)
  have HTk := Lib.hid hTk
  have hnz : ((n : Int) == 0) = false := by simp; omega
  have hwq : IntKind.i64.wrap (q : Int) = (q : Int) := by rw [IntKind.wrap_i64]; omega
  have hsub : ((q + 1 : Nat) : Int) - 1 = (q : Int) := by omega
  have hsub2 : (q : Int) + 1 - 1 = (q : Int) := by omega
  have hst : ∀ W : World, BArr W w.heap.size 40 zero32 → (storeCells ⟨w.heap.size, 0, none⟩ (bvs R)).run Tryz.prog W = .ok () (W.setRow w.heap.size (bvs R).toArray) := fun W hW => by
    have := run_storeCells_from (P := Tryz.prog) w.heap.size 40 (bvs R) 0 _ W hW (by rw [bvs_length, hRl]; rfl) (bvs_oneCell R)
    simpa using this
  have hbR : (bvs R).length = 32 := by rw [bvs_length, hRl]
  have hsz1 := H1.out.2.lt
  have hnq : ¬ ((q : Int) + 1 ≤ (q : Int)) := by omega
  clear c20 h h1 hf h32 hlt hm hmn hpx htog hq hmp htr hcap hnil htake hnth i1 hat hTk hR
  unfold sv at CG
  go_enter Tryz.func7, Tryz.ntmps7
  go_upto_region 1 with fail
  rw [← HW.out]
  go_wp2_with fail
  refine CT.out.mono ?_
  rintro e w' ⟨rfl, e1⟩
  obtain rfl := e1.symm
  clear e1
  go_upto_region 6 with fail
  refine wp_region_held_drew (S := fun W => Below w.heap.size w1 W) (by kernel_rfl) ((Below.refl _ _).drew) (fun hS0 => ?_)
  change wpAnyH _ _ _ _ _ _ _ _ w1.drew
  refine' wpAnyH_take (i := 0) (oi := _) (v := _) ?hir0 (by kernel_rfl) ?hfr0 ?hrr0 ?hQr0 ?hyr0 hS0 ?restr0
  case hir0 => (simp only [List.getElem?_toArray, List.getElem?_cons_zero]; rfl)
  case hfr0 => kernel_rfl
  case hrr0 => kernel_rfl
  case hQr0 => exact fun _ _ _ h => h
  case hyr0 => refine Or.inl ⟨by rfl, ?_⟩; intro W hSw; go_simp; try with_reducible rfl
  try simp only [Act.put, List.setIfInBounds_toArray, List.set_cons_zero, List.set_cons_succ]
  refine' wpAnyH_take (i := 1) (oi := _) (v := _) ?hir1 (by kernel_rfl) ?hfr1 ?hrr1 ?hQr1 ?hyr1 hS0 ?restr1
  case hir1 => (simp only [List.getElem?_toArray, List.getElem?_cons_zero, List.getElem?_cons_succ]; rfl)
  case hfr1 => kernel_rfl
  case hrr1 => kernel_rfl
  case hQr1 => exact fun _ _ _ h => h
  case hyr1 => refine Or.inl ⟨by rfl, ?_⟩; intro W hSw; go_simp; try with_reducible rfl
  try simp only [Act.put, List.setIfInBounds_toArray, List.set_cons_zero, List.set_cons_succ]
  refine' wpAnyH_take (i := 2) (oi := _) (v := _) ?hir2 (by kernel_rfl) ?hfr2 ?hrr2 ?hQr2 ?hyr2 hS0 ?restr2
  case hir2 => (simp only [List.getElem?_toArray, List.getElem?_cons_zero, List.getElem?_cons_succ]; rfl)
  case hfr2 => kernel_rfl
  case hrr2 => kernel_rfl
  case hQr2 => exact fun _ _ _ h => h
  case hyr2 => refine Or.inl ⟨by rfl, ?_⟩; intro W hSw; go_simp; try with_reducible rfl
  try simp only [Act.put, List.setIfInBounds_toArray, List.set_cons_zero, List.set_cons_succ]
  refine' wpAnyH_take (i := 3) (oi := _) (v := .slice (some ad) (q + 1) c) ?hir3 (by kernel_rfl) ?hfr3 ?hrr3 ?hQr3 ?hyr3 hS0 ?restr3
  case hir3 => (simp only [List.getElem?_toArray, List.getElem?_cons_zero, List.getElem?_cons_succ]; rfl)
  case hfr3 => kernel_rfl
  case hrr3 => kernel_rfl
  case hQr3 => exact fun _ _ _ h => h
  case hyr3 => refine Or.inl ⟨by rfl, ?_⟩; intro W hSw; have hcc := HC2.out W hSw; go_simp; try with_reducible rfl
  try simp only [Act.put, List.setIfInBounds_toArray, List.set_cons_zero, List.set_cons_succ]
  refine' wpAnyH_take (i := 4) (oi := _) (v := _) ?hir4 (by kernel_rfl) ?hfr4 ?hrr4 ?hQr4 ?hyr4 hS0 ?restr4
  case hir4 => (simp only [List.getElem?_toArray, List.getElem?_cons_zero, List.getElem?_cons_succ]; rfl)
  case hfr4 => kernel_rfl
  case hrr4 => kernel_rfl
  case hQr4 => exact fun _ _ _ h => h
  case hyr4 => refine Or.inl ⟨by rfl, ?_⟩; intro W hSw; go_simp; try with_reducible rfl
  try simp only [Act.put, List.setIfInBounds_toArray, List.set_cons_zero, List.set_cons_succ]
  refine' wpAnyH_take (i := 5) (oi := _) (v := .slice (some ad) q c) ?hir5 (by kernel_rfl) ?hfr5 ?hrr5 ?hQr5 ?hyr5 hS0 ?restr5
  case hir5 => (simp only [List.getElem?_toArray, List.getElem?_cons_zero, List.getElem?_cons_succ]; rfl)
  case hfr5 => kernel_rfl
  case hrr5 => kernel_rfl
  case hQr5 => exact fun _ _ _ h => h
  case hyr5 => refine yields_high (by rfl) _ _ rfl rfl rfl ?_; exact HTk.out
  try simp only [Act.put, List.setIfInBounds_toArray, List.set_cons_zero, List.set_cons_succ]
  refine' wpAnyH_take (i := 6) (oi := _) (v := _) ?hir6 (by kernel_rfl) ?hfr6 ?hrr6 ?hQr6 ?hyr6 hS0 ?restr6
  case hir6 => (simp only [List.getElem?_toArray, List.getElem?_cons_zero, List.getElem?_cons_succ]; rfl)
  case hfr6 => kernel_rfl
  case hrr6 => kernel_rfl
  case hQr6 => exact fun _ _ _ h => h
  case hyr6 => refine Or.inl ⟨by rfl, ?_⟩; intro W hSw; go_simp; try with_reducible rfl
  try simp only [Act.put, List.setIfInBounds_toArray, List.set_cons_zero, List.set_cons_succ]
  refine' wpAnyH_take (i := 7) (oi := _) (v := _) ?hir7 (by kernel_rfl) ?hfr7 ?hrr7 ?hQr7 ?hyr7 hS0 ?restr7
  case hir7 => (simp only [List.getElem?_toArray, List.getElem?_cons_zero, List.getElem?_cons_succ]; rfl)
  case hfr7 => kernel_rfl
  case hrr7 => kernel_rfl
  case hQr7 => exact fun _ _ _ h => h
  case hyr7 => refine Or.inl ⟨by rfl, ?_⟩; intro W hSw; go_simp; try with_reducible rfl
  try simp only [Act.put, List.setIfInBounds_toArray, List.set_cons_zero, List.set_cons_succ]
  refine' wpAnyH_take (i := 8) (oi := _) (v := _) ?hir8 (by kernel_rfl) ?hfr8 ?hrr8 ?hQr8 ?hyr8 hS0 ?restr8
  case hir8 => (simp only [List.getElem?_toArray, List.getElem?_cons_zero, List.getElem?_cons_succ]; rfl)
  case hfr8 => kernel_rfl
  case hrr8 => kernel_rfl
  case hQr8 => exact fun _ _ _ h => h
  case hyr8 => refine Or.inl ⟨by rfl, ?_⟩; intro W hSw; go_simp; try with_reducible rfl
  try simp only [Act.put, List.setIfInBounds_toArray, List.set_cons_zero, List.set_cons_succ]
  refine' wpAnyH_take (i := 9) (oi := _) (v := .slice (some ad) (q + 1) c) ?hir9 (by kernel_rfl) ?hfr9 ?hrr9 ?hQr9 ?hyr9 hS0 ?restr9
  case hir9 => (simp only [List.getElem?_toArray, List.getElem?_cons_zero, List.getElem?_cons_succ]; rfl)
  case hfr9 => kernel_rfl
  case hrr9 => kernel_rfl
  case hQr9 => exact fun _ _ _ h => h
  case hyr9 => refine Or.inl ⟨by rfl, ?_⟩; intro W hSw; have hcc := HC2.out W hSw; go_simp; try with_reducible rfl
  try simp only [Act.put, List.setIfInBounds_toArray, List.set_cons_zero, List.set_cons_succ]
  refine' wpAnyH_take (i := 10) (oi := _) (v := _) ?hir10 (by kernel_rfl) ?hfr10 ?hrr10 ?hQr10 ?hyr10 hS0 ?restr10
  case hir10 => (simp only [List.getElem?_toArray, List.getElem?_cons_zero, List.getElem?_cons_succ]; rfl)
  case hfr10 => kernel_rfl
  case hrr10 => kernel_rfl
  case hQr10 => exact fun _ _ _ h => h
  case hyr10 => refine Or.inl ⟨by rfl, ?_⟩; intro W hSw; go_simp; try with_reducible rfl
  try simp only [Act.put, List.setIfInBounds_toArray, List.set_cons_zero, List.set_cons_succ]
  refine' wpAnyH_take (i := 11) (oi := _) (v := .pointer (some (ad.add (q * 32)))) ?hir11 (by kernel_rfl) ?hfr11 ?hrr11 ?hQr11 ?hyr11 hS0 ?restr11
  case hir11 => (simp only [List.getElem?_toArray, List.getElem?_cons_zero, List.getElem?_cons_succ]; rfl)
  case hfr11 => kernel_rfl
  case hrr11 => kernel_rfl
  case hQr11 => exact fun _ _ _ h => h
  case hyr11 => refine Or.inl ⟨by rfl, ?_⟩; intro W hSw; go_simp; try with_reducible rfl
  try simp only [Act.put, List.setIfInBounds_toArray, List.set_cons_zero, List.set_cons_succ]
  refine' wpAnyH_take (i := 12) (oi := _) (v := sv x) ?hir12 (by kernel_rfl) ?hfr12 ?hrr12 ?hQr12 ?hyr12 hS0 ?restr12
  case hir12 => (simp only [List.getElem?_toArray, List.getElem?_cons_zero, List.getElem?_cons_succ]; rfl)
  case hfr12 => kernel_rfl
  case hrr12 => kernel_rfl
  case hQr12 => exact fun _ _ _ h => h
  case hyr12 => refine yields_sum ?_ (.tmp 33) rfl (ad.add (q * 32)) rfl x hxl (fun W hSw => HAt.out.below (H1.out.1.trans hSw)); rfl
  try simp only [Act.put, List.setIfInBounds_toArray, List.set_cons_zero, List.set_cons_succ]
  refine wpAnyH_ready (rs := [13]) (by kernel_rfl) (by simp) ?_
  refine' AllReadyH.cons (o := _) ?hir13 (fun K hK => ?_) AllReadyH.nil
  case hir13 => (simp only [List.getElem?_toArray, List.getElem?_cons_zero, List.getElem?_cons_succ]; rfl)
  go_simp
  go_at_call 17
  refine (CG.out _ hS0).mono ?_
  rintro e W4 ⟨rfl, hb4⟩
  have hB4 : Below w.heap.size w1 W4 := hS0.trans (hb4.mono (Nat.le_trans (Nat.le_of_lt hsz1) hS0.size))
  have hf7 : BArr W4 w.heap.size 40 zero32 := H1.out.2.below (below_on (Below.refl _ _).drew (Nat.le_refl _) hb4)
  refine hK.out _ _ hB4 (fun _ => ?_)
  clear hK K
  try simp only [Act.put, List.setIfInBounds_toArray, List.set_cons_zero, List.set_cons_succ]
  refine wpAnyH_ready (rs := [14]) (by kernel_rfl) (by simp) ?_
  refine' AllReadyH.cons (o := _) ?hir14 (fun K hK => ?_) AllReadyH.nil
  case hir14 => (simp only [List.getElem?_toArray, List.getElem?_cons_zero, List.getElem?_cons_succ]; rfl)
  go_simp
  refine hK.out _ _ (below_setRow hB4 (Nat.le_refl _) _) (fun _ => ?_)
  clear hK K
  refine wpAnyH_done (by kernel_rfl) ?_ _
  go_wp2
  refine bodyPost_ret_by (results_cell_row (p := 2) (ty := 40) (by kernel_rfl) _ _ w.heap.size 40 (bvs R).toArray (0, 0) _ rfl (hf7.setRow _) Tryz.underlying40 rfl (by rw [List.size_toArray, bvs_length, hRl]; exact sizeSum)) rfl ?_
  exact ⟨rfl, below_setRow (H1.out.1.trans hB4) (Nat.le_refl _) _⟩

theorem root_front {w : World} {g : Nat} {f : Nat → List Nat} {n : Nat} (h : Front w g f n) (hf : Sums32 f n) (hn : n < 1000000) (hk : Knows w) (hs : Starts w) :
    Calls Tryz.prog 7 #[.pointer (some ⟨g, 0, none⟩)] w fun e w' => e = .returned (sv (rt f 0 n)) ∧ Below w.heap.size w w' := by
  by_cases h0 : n = 0
  · subst h0; exact root_none_front h hk hs
  · exact root_some_front h hf (by omega) hn hk hs

end Go.Proofs.YtijiolebcnlfgaaGreatDoor
