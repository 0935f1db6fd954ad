/-
  Several texts in one: CDown, CBegins, VLeaf, VSApp, VGives, CRoot, CLists, CPathNo, CAlive, LSameBytes, CSameB.
-/
import Derived.Test.YtcekfnngnjpeeaaDoorCcIs1
import Derived.Test.YtcekfnngnjpeeaaDoorVMarked
import Derived.Deep.RegionLaw
import Derived.Test.YtcekfnngnjpeeaaDoorVRoot
import Derived.Test.YtcekfnngnjpeeaaDoorLSums
import Derived.Lib.SmallJoins
import Derived.Test.YtcekfnngnjpeeaaDoorLMem
import Derived.Deep.QuietTactic
import Derived.BigQuiet
/-
  clashes.downLists: both roots, or a clash.
-/
namespace Go.Proofs.YtcekfnngnjpeeaaDoor
open Go.RowKit

theorem Told.low {base base' : Nat} {v : Value} {C : Prop} {e : Ending} {w' : World} (h : Told base v C e w') (hb : base' ≤ base) : Told base' v C e w' := by
  rcases h with h | ⟨u, h1, h2⟩
  · exact .inl h
  · exact .inr ⟨u, h1, h2.low hb⟩
theorem Told.imp {base : Nat} {v v' : Value} {C D : Prop} {e : Ending} {w' : World} (h : Told base v C e w') (hv : v = v') (hC : C → D) : Told base v' D e w' := by
  rcases h with ⟨h1, h2⟩ | h
  · exact .inl ⟨by rw [h1, hv], hC h2⟩
  · exact .inr h
theorem but_cell {S : Nat → Prop} {a w : World} (h : But S a w) {ad : Addr} {v : Value} (hc : a.cell? ad = some v) (hS : ¬ S ad.block) : w.cell? ad = some v := by
  have hlt := World.block_lt_of_cell? a _ hc
  have := h.block ad.block hlt hS
  unfold World.cell? at hc ⊢
  rw [this]
  exact hc
theorem but_cells {S : Nat → Prop} {a w : World} (h : But S a w) {g : Nat} {T : TypeId} {cs : Array Value} (hc : Cells a g T cs) (hS : ¬ S g) : Cells w g T cs := (h.block g hc.lt hS).trans hc

/-- The world in which downLists begins. -/
structure DownIn (w w2 : World) (g : Nat) (x y : Value) : Prop where
  both : Cells w2 g 60 #[x, y]
  res : BArr w2 (g + 1) 58 zero64
  below : Below g w w2
  size : w2.heap.size = g + 2
theorem DownIn.mk_ (w : World) (g : Nat) (x y : Value) (hg : w.heap.size = g) : DownIn w ((w.alloc (.cells #[x, y] 60)).alloc (.cells (bvs zero64).toArray 58)) g x y := by
  have h0 := Cells.new w 60 #[x, y]
  have b0 := below_alloc w (.cells #[x, y] 60)
  obtain ⟨w0, e0⟩ : ∃ w0, w0 = w.alloc (.cells #[x, y] 60) := ⟨_, rfl⟩
  have s0 : w0.heap.size = g + 1 := by rw [e0]; simp [hg]
  rw [← e0] at h0 b0 ⊢
  have h1 := BArr.new w0 58 zero64
  have b1 := below_alloc w0 (.cells (bvs zero64).toArray 58)
  rw [hg] at h0 b0
  rw [s0] at h1
  exact ⟨h0.below b1, h1, below_on b0 (by omega) b1, by simp [s0]⟩

section
variable {w : World} {A B : Addr} {n c d : Nat} {R S : List (List Nat)}

set_option maxRecDepth 100000 in
set_option maxHeartbeats 8000000 in
theorem down_one (E1 : Ent w (some A) 1 c R) (E2 : Ent w (some B) 1 d S) (hk : Knows w) (hks : Starts w) :
    Calls Tryd.prog 33 #[.agg #[.slice (some A) 1 c, .slice (some B) 1 d]] w fun e w' => Told w.heap.size (sv (rtl R ++ rtl S)) (rtl R = rtl S → R = S) e w' ∧ Below w.heap.size w w' := by
  obtain ⟨g, hg⟩ : ∃ g, w.heap.size = g := ⟨_, rfl⟩
  have h2 := DownIn.mk_ w g (.slice (some A) 1 c) (.slice (some B) 1 d) hg
  have e0 : (bvs zero64).toArray = #[.int .u8 0, .int .u8 0, .int .u8 0, .int .u8 0, .int .u8 0, .int .u8 0, .int .u8 0, .int .u8 0, .int .u8 0, .int .u8 0, .int .u8 0, .int .u8 0, .int .u8 0, .int .u8 0, .int .u8 0, .int .u8 0, .int .u8 0, .int .u8 0, .int .u8 0, .int .u8 0, .int .u8 0, .int .u8 0, .int .u8 0, .int .u8 0, .int .u8 0, .int .u8 0, .int .u8 0, .int .u8 0, .int .u8 0, .int .u8 0, .int .u8 0, .int .u8 0, .int .u8 0, .int .u8 0, .int .u8 0, .int .u8 0, .int .u8 0, .int .u8 0, .int .u8 0, .int .u8 0, .int .u8 0, .int .u8 0, .int .u8 0, .int .u8 0, .int .u8 0, .int .u8 0, .int .u8 0, .int .u8 0, .int .u8 0, .int .u8 0, .int .u8 0, .int .u8 0, .int .u8 0, .int .u8 0, .int .u8 0, .int .u8 0, .int .u8 0, .int .u8 0, .int .u8 0, .int .u8 0, .int .u8 0, .int .u8 0, .int .u8 0, .int .u8 0] := rfl
  rw [e0] at h2
  obtain ⟨w2, hw2⟩ : ∃ w2, w2 = (w.alloc (.cells #[.slice (some A) 1 c, .slice (some B) 1 d] 60)).alloc (.cells #[.int .u8 0, .int .u8 0, .int .u8 0, .int .u8 0, .int .u8 0, .int .u8 0, .int .u8 0, .int .u8 0, .int .u8 0, .int .u8 0, .int .u8 0, .int .u8 0, .int .u8 0, .int .u8 0, .int .u8 0, .int .u8 0, .int .u8 0, .int .u8 0, .int .u8 0, .int .u8 0, .int .u8 0, .int .u8 0, .int .u8 0, .int .u8 0, .int .u8 0, .int .u8 0, .int .u8 0, .int .u8 0, .int .u8 0, .int .u8 0, .int .u8 0, .int .u8 0, .int .u8 0, .int .u8 0, .int .u8 0, .int .u8 0, .int .u8 0, .int .u8 0, .int .u8 0, .int .u8 0, .int .u8 0, .int .u8 0, .int .u8 0, .int .u8 0, .int .u8 0, .int .u8 0, .int .u8 0, .int .u8 0, .int .u8 0, .int .u8 0, .int .u8 0, .int .u8 0, .int .u8 0, .int .u8 0, .int .u8 0, .int .u8 0, .int .u8 0, .int .u8 0, .int .u8 0, .int .u8 0, .int .u8 0, .int .u8 0, .int .u8 0, .int .u8 0] 58) := ⟨_, rfl⟩
  rw [← hw2] at h2
  have HW := Lib.hid hw2
  have HG := Lib.hid hg
  have H2 := Lib.hid h2
  obtain ⟨P, hP⟩ : ∃ P, rtl R ++ rtl S = P := ⟨_, rfl⟩
  have Pl : P.length = 64 := by rw [← hP, List.length_append, rtl_length, rtl_length]
  have x0 := h2.both.cell 0 (v := .slice (some A) 1 c) rfl
  have b02 : Below w.heap.size w w2 := by rw [hg]; exact h2.below
  obtain ⟨adA, XA, ka, qa, xs, eA, hxs, hcA, hXA, kal⟩ := E1.at_ (j := 0) (by omega)
  obtain ⟨adB, XB, kb, qb, ys, eB, hys, hcB, hXB, kbl⟩ := E2.at_ (j := 0) (by omega)
  cases eA
  cases eB
  have eR : R = [xs] := by
    have hl := E1.len
    match R, hl with
    | [r], _ => cases hxs; rfl
  have eS : S = [ys] := by
    have hl := E2.len
    match S, hl with
    | [r], _ => cases hys; rfl
  have CL := Lib.hid (fun (W : World) (hW : Below w2.heap.size w2 W) => show Calls Tryd.prog 56 #[.slice XA ka qa, .slice XB kb qb] W fun e w' => Told g (sv P) (rtl R = rtl S → R = S) e w' ∧ Below W.heap.size W w' from by
    have hb := below_on b02 (Nat.le_refl _) hW
    refine (cleaf_any (hXA.below hb) (hXB.below hb) kal kbl (hk.below hb) (hks.below hb)).mono fun e w' ⟨h, hb'⟩ => ⟨(h.low (by have := hb.size; omega)).imp (by rw [← hP, eR, eS, rtl_one, rtl_one]) (fun h => by rw [eR, eS, rtl_one, rtl_one]; intro e; rw [h e]), hb'⟩)
  have hgA := World.block_lt_of_cell? w _ hcA
  have hgB := World.block_lt_of_cell? w _ hcB
  have HC0 := Lib.hid (fun (W : World) (hW : But (· = g + 1) w2 W) => show W.cell? ⟨g, 0, none⟩ = some (.slice (some A) 1 c) from but_cell hW x0 (by simp))
  have HC1 := Lib.hid (fun (W : World) (hW : But (· = g + 1) w2 W) => show W.cell? ⟨g, 1, none⟩ = some (.slice (some B) 1 d) from but_cell hW (h2.both.cell 1 rfl) (by simp))
  have bA : A.block < g := by rw [← hg]; exact hgA
  have bB : B.block < g := by rw [← hg]; exact hgB
  rw [add_zero'] at hcA hcB
  have HCA := Lib.hid (fun (W : World) (hW : But (· = g + 1) w2 W) => show W.cell? A = some (.slice XA ka qa) from but_cell hW ((b02.cell (World.block_lt_of_cell? w _ hcA)).trans hcA) (by intro e; have e' : A.block = g + 1 := e; omega))
  have HCB := Lib.hid (fun (W : World) (hW : But (· = g + 1) w2 W) => show W.cell? B = some (.slice XB kb qb) from but_cell hW ((b02.cell (World.block_lt_of_cell? w _ hcB)).trans hcB) (by intro e; have e' : B.block = g + 1 := e; omega))
  rw [hg, hP]
  clear h2 e0 hw2 hg hP hk hks E1 E2 eR eS hxs hys hcA hcB hXA hXB hgA hgB bA bB b02 kal kbl
  go_enter Tryd.func33, Tryd.ntmps33
  go_upto_region 1 with fail
  rw [← HW.out]
  rw [HG.out]
  go_upto_region 2 with fail
  have hSp1 : Below w2.heap.size w2 w2.drew := (Below.refl _ _).drew
  have hresp3 := H2.out.res.below hSp1
  refine wp_region_held_drew (S := fun W => But (· = g + 1) w2 W) (by kernel_rfl) (But.of_below hSp1) (fun _ => ?_)
  change wpAnyH _ _ _ _ _ _ _ _ w2.drew
  generalize w2.drew = Wp2 at hSp1 hresp3 ⊢
  refine' wpAnyH_take (i := 0) (oi := _) (v := _) ?hip4 (by kernel_rfl) ?hfp4 ?hrp4 ?hQp4 ?hyp4 (But.of_below hSp1) ?restp4
  case hip4 => (simp only [List.getElem?_toArray, List.getElem?_cons_zero]; rfl)
  case hfp4 => kernel_rfl
  case hrp4 => kernel_rfl
  case hQp4 => exact fun _ _ _ h => h
  case hyp4 => refine Or.inl ⟨by rfl, ?_⟩; intro W hSw; go_simp; try with_reducible rfl
  try simp only [Act.put, List.setIfInBounds_toArray, List.set_cons_zero, List.set_cons_succ]
  refine' wpAnyH_take (i := 1) (oi := _) (v := _) ?hip5 (by kernel_rfl) ?hfp5 ?hrp5 ?hQp5 ?hyp5 (But.of_below hSp1) ?restp5
  case hip5 => (simp only [List.getElem?_toArray, List.getElem?_cons_zero, List.getElem?_cons_succ]; rfl)
  case hfp5 => kernel_rfl
  case hrp5 => kernel_rfl
  case hQp5 => exact fun _ _ _ h => h
  case hyp5 => refine Or.inl ⟨by rfl, ?_⟩; intro W hSw; have hcc := HC0.out W hSw; go_simp; try with_reducible rfl
  try simp only [Act.put, List.setIfInBounds_toArray, List.set_cons_zero, List.set_cons_succ]
  refine' wpAnyH_take (i := 2) (oi := _) (v := _) ?hip6 (by kernel_rfl) ?hfp6 ?hrp6 ?hQp6 ?hyp6 (But.of_below hSp1) ?restp6
  case hip6 => (simp only [List.getElem?_toArray, List.getElem?_cons_zero, List.getElem?_cons_succ]; rfl)
  case hfp6 => kernel_rfl
  case hrp6 => kernel_rfl
  case hQp6 => exact fun _ _ _ h => h
  case hyp6 => refine Or.inl ⟨by rfl, ?_⟩; intro W hSw; go_simp; try with_reducible rfl
  try simp only [Act.put, List.setIfInBounds_toArray, List.set_cons_zero, List.set_cons_succ]
  refine' wpAnyH_take (i := 3) (oi := _) (v := _) ?hip7 (by kernel_rfl) ?hfp7 ?hrp7 ?hQp7 ?hyp7 (But.of_below hSp1) ?restp7
  case hip7 => (simp only [List.getElem?_toArray, List.getElem?_cons_zero, List.getElem?_cons_succ]; rfl)
  case hfp7 => kernel_rfl
  case hrp7 => kernel_rfl
  case hQp7 => exact fun _ _ _ h => h
  case hyp7 => refine Or.inl ⟨by rfl, ?_⟩; intro W hSw; have hcc := HCA.out W hSw; go_simp; try with_reducible rfl
  try simp only [Act.put, List.setIfInBounds_toArray, List.set_cons_zero, List.set_cons_succ]
  refine' wpAnyH_take (i := 4) (oi := _) (v := _) ?hip8 (by kernel_rfl) ?hfp8 ?hrp8 ?hQp8 ?hyp8 (But.of_below hSp1) ?restp8
  case hip8 => (simp only [List.getElem?_toArray, List.getElem?_cons_zero, List.getElem?_cons_succ]; rfl)
  case hfp8 => kernel_rfl
  case hrp8 => kernel_rfl
  case hQp8 => exact fun _ _ _ h => h
  case hyp8 => refine Or.inl ⟨by rfl, ?_⟩; intro W hSw; go_simp; try with_reducible rfl
  try simp only [Act.put, List.setIfInBounds_toArray, List.set_cons_zero, List.set_cons_succ]
  refine' wpAnyH_take (i := 5) (oi := _) (v := _) ?hip9 (by kernel_rfl) ?hfp9 ?hrp9 ?hQp9 ?hyp9 (But.of_below hSp1) ?restp9
  case hip9 => (simp only [List.getElem?_toArray, List.getElem?_cons_zero, List.getElem?_cons_succ]; rfl)
  case hfp9 => kernel_rfl
  case hrp9 => kernel_rfl
  case hQp9 => exact fun _ _ _ h => h
  case hyp9 => refine Or.inl ⟨by rfl, ?_⟩; intro W hSw; have hcc := HC1.out W hSw; go_simp; try with_reducible rfl
  try simp only [Act.put, List.setIfInBounds_toArray, List.set_cons_zero, List.set_cons_succ]
  refine' wpAnyH_take (i := 6) (oi := _) (v := _) ?hip10 (by kernel_rfl) ?hfp10 ?hrp10 ?hQp10 ?hyp10 (But.of_below hSp1) ?restp10
  case hip10 => (simp only [List.getElem?_toArray, List.getElem?_cons_zero, List.getElem?_cons_succ]; rfl)
  case hfp10 => kernel_rfl
  case hrp10 => kernel_rfl
  case hQp10 => exact fun _ _ _ h => h
  case hyp10 => refine Or.inl ⟨by rfl, ?_⟩; intro W hSw; go_simp; try with_reducible rfl
  try simp only [Act.put, List.setIfInBounds_toArray, List.set_cons_zero, List.set_cons_succ]
  refine' wpAnyH_take (i := 7) (oi := _) (v := _) ?hip11 (by kernel_rfl) ?hfp11 ?hrp11 ?hQp11 ?hyp11 (But.of_below hSp1) ?restp11
  case hip11 => (simp only [List.getElem?_toArray, List.getElem?_cons_zero, List.getElem?_cons_succ]; rfl)
  case hfp11 => kernel_rfl
  case hrp11 => kernel_rfl
  case hQp11 => exact fun _ _ _ h => h
  case hyp11 => refine Or.inl ⟨by rfl, ?_⟩; intro W hSw; have hcc := HCB.out W hSw; go_simp; try with_reducible rfl
  try simp only [Act.put, List.setIfInBounds_toArray, List.set_cons_zero, List.set_cons_succ]
  refine wpAnyH_ready (rs := [8]) (by kernel_rfl) (by simp) ?_
  refine' (AllReadyH.cons (o := _) ?hip12 (fun K hK => ?_) AllReadyH.nil)
  case hip12 => (simp only [List.getElem?_toArray, List.getElem?_cons_zero, List.getElem?_cons_succ]; rfl)
  go_simp
  go_at_call 56
  refine (CL.out Wp2 hSp1).mono ?_
  rintro e Wp15 ⟨hTp16, hbp13⟩
  have hBp14 := below_on hSp1 (Nat.le_refl _) hbp13
  rcases hTp16 with ⟨rfl, hsame⟩ | ⟨u, rfl, hu⟩
  · skip
    have hresp17 := hresp3.below hbp13
    refine hK.out _ _ (But.of_below hBp14) (fun _ => ?_)
    clear hK K
    try simp only [Act.put, List.setIfInBounds_toArray, List.set_cons_zero, List.set_cons_succ]
    refine wpAnyH_ready (rs := [9]) (by kernel_rfl) (by simp) ?_
    refine' (AllReadyH.cons (o := _) ?hip18 (fun K hK => ?_) AllReadyH.nil)
    case hip18 => (simp only [List.getElem?_toArray, List.getElem?_cons_zero, List.getElem?_cons_succ]; rfl)
    rw [if_pos (by rfl)]
    have hf := hresp17
    refine step_store_pairC (.tmp 2) (.tmp 17) rfl (g + 1) rfl zero64 P (by rfl) Pl hf rfl ?_
    have hz : Below g w (Wp15.setRow (g + 1) (bvs P).toArray) := below_setRow (below_on H2.out.below (Nat.le_of_eq HG.out.symm) (hBp14)) (by omega) _
    refine hK.out _ _ (but_setRow (S := (· = g + 1)) (But.of_below hBp14) rfl _) (fun _ => ?_)
    clear hK K
    try simp only [Act.put]
    have hf2 := hf.setRow P
    generalize (Wp15.setRow (g + 1) (bvs P).toArray) = Wz at hz hf2 ⊢
    refine wpAnyH_done (by kernel_rfl) ?_ _
    go_wp2_with fail
    refine bodyPost_ret_by (results_cell_row (p := 2) (ty := 58) (by kernel_rfl) _ _ (g + 1) 58 (bvs P).toArray (0, 0) _ rfl hf2 Tryd.underlying58 rfl (by rw [List.size_toArray, bvs_length, Pl]; exact sizePairC)) rfl ?_
    exact ⟨.inl ⟨rfl, hsame⟩, hz⟩
  · skip
    go_wp2
    exact ⟨rfl, .inr ⟨u, rfl, hu⟩, below_on H2.out.below (Nat.le_of_eq HG.out.symm) (hBp14)⟩

set_option maxRecDepth 100000 in
set_option maxHeartbeats 8000000 in
theorem down_more (E1 : Ent w (some A) n c R) (E2 : Ent w (some B) n d S) (hk : Knows w) (hks : Starts w) (h2n : 2 ≤ n) (hn6 : n ≤ 60000)
    (ih : ∀ m, m < n → ∀ (w : World) (A B : Addr) (c d : Nat) (R S : List (List Nat)), Ent w (some A) m c R → Ent w (some B) m d S → Knows w → Starts w → 1 ≤ m →
      Calls Tryd.prog 33 #[.agg #[.slice (some A) m c, .slice (some B) m d]] w fun e w' => Told w.heap.size (sv (rtl R ++ rtl S)) (rtl R = rtl S → R = S) e w' ∧ Below w.heap.size w w') :
    Calls Tryd.prog 33 #[.agg #[.slice (some A) n c, .slice (some B) n d]] w fun e w' => Told w.heap.size (sv (rtl R ++ rtl S)) (rtl R = rtl S → R = S) e w' ∧ Below w.heap.size w w' := by
  obtain ⟨g, hg⟩ : ∃ g, w.heap.size = g := ⟨_, rfl⟩
  have h2 := DownIn.mk_ w g (.slice (some A) n c) (.slice (some B) n d) hg
  have e0 : (bvs zero64).toArray = #[.int .u8 0, .int .u8 0, .int .u8 0, .int .u8 0, .int .u8 0, .int .u8 0, .int .u8 0, .int .u8 0, .int .u8 0, .int .u8 0, .int .u8 0, .int .u8 0, .int .u8 0, .int .u8 0, .int .u8 0, .int .u8 0, .int .u8 0, .int .u8 0, .int .u8 0, .int .u8 0, .int .u8 0, .int .u8 0, .int .u8 0, .int .u8 0, .int .u8 0, .int .u8 0, .int .u8 0, .int .u8 0, .int .u8 0, .int .u8 0, .int .u8 0, .int .u8 0, .int .u8 0, .int .u8 0, .int .u8 0, .int .u8 0, .int .u8 0, .int .u8 0, .int .u8 0, .int .u8 0, .int .u8 0, .int .u8 0, .int .u8 0, .int .u8 0, .int .u8 0, .int .u8 0, .int .u8 0, .int .u8 0, .int .u8 0, .int .u8 0, .int .u8 0, .int .u8 0, .int .u8 0, .int .u8 0, .int .u8 0, .int .u8 0, .int .u8 0, .int .u8 0, .int .u8 0, .int .u8 0, .int .u8 0, .int .u8 0, .int .u8 0, .int .u8 0] := rfl
  rw [e0] at h2
  obtain ⟨w2, hw2⟩ : ∃ w2, w2 = (w.alloc (.cells #[.slice (some A) n c, .slice (some B) n d] 60)).alloc (.cells #[.int .u8 0, .int .u8 0, .int .u8 0, .int .u8 0, .int .u8 0, .int .u8 0, .int .u8 0, .int .u8 0, .int .u8 0, .int .u8 0, .int .u8 0, .int .u8 0, .int .u8 0, .int .u8 0, .int .u8 0, .int .u8 0, .int .u8 0, .int .u8 0, .int .u8 0, .int .u8 0, .int .u8 0, .int .u8 0, .int .u8 0, .int .u8 0, .int .u8 0, .int .u8 0, .int .u8 0, .int .u8 0, .int .u8 0, .int .u8 0, .int .u8 0, .int .u8 0, .int .u8 0, .int .u8 0, .int .u8 0, .int .u8 0, .int .u8 0, .int .u8 0, .int .u8 0, .int .u8 0, .int .u8 0, .int .u8 0, .int .u8 0, .int .u8 0, .int .u8 0, .int .u8 0, .int .u8 0, .int .u8 0, .int .u8 0, .int .u8 0, .int .u8 0, .int .u8 0, .int .u8 0, .int .u8 0, .int .u8 0, .int .u8 0, .int .u8 0, .int .u8 0, .int .u8 0, .int .u8 0, .int .u8 0, .int .u8 0, .int .u8 0, .int .u8 0] 58) := ⟨_, rfl⟩
  rw [← hw2] at h2
  have HW := Lib.hid hw2
  have HG := Lib.hid hg
  have H2 := Lib.hid h2
  obtain ⟨P, hP⟩ : ∃ P, rtl R ++ rtl S = P := ⟨_, rfl⟩
  have Pl : P.length = 64 := by rw [← hP, List.length_append, rtl_length, rtl_length]
  have x0 := h2.both.cell 0 (v := .slice (some A) n c) rfl
  have b02 : Below w.heap.size w w2 := by rw [hg]; exact h2.below
  have hcl := cutN_lt h2n
  have hcp := cutN_pos n
  have hcut := lists_cut E1.len E2.len h2n
  have hcR := rtl_cut E1.len h2n
  have hcS := rtl_cut E2.len h2n
  obtain ⟨k, hk0⟩ : ∃ k, cutN n = k := ⟨_, rfl⟩
  have CL := Lib.hid (fun (W : World) (hW : Below w2.heap.size w2 W) => show Calls Tryd.prog 58 #[.int .i64 (n : Int)] W fun e w' => e = .returned (.int .i64 (k : Int)) ∧ Below W.heap.size W w' from (cleft_any n W h2n (by omega)).mono fun e w' ⟨h1, h2⟩ => ⟨by rw [h1, hk0], by rw [h2]; exact Below.refl _ _⟩)
  rw [hk0] at hcl hcp hcut hcR hcS
  have CP := Lib.hid (fun (W : World) (hW : Below w2.heap.size w2 W) => parted_any (w := W) (A := A) (B := B) (n := n) (c := c) (m := n) (d := d) (k := k) hcl hcl E1.cap E2.cap)
  obtain ⟨R1, hR1⟩ : ∃ x, R.take k = x := ⟨_, rfl⟩
  obtain ⟨R2, hR2⟩ : ∃ x, R.drop k = x := ⟨_, rfl⟩
  obtain ⟨S1, hS1⟩ : ∃ x, S.take k = x := ⟨_, rfl⟩
  obtain ⟨S2, hS2⟩ : ∃ x, S.drop k = x := ⟨_, rfl⟩
  have C1 := Lib.hid (fun (W : World) (hW : Below w.heap.size w W) => show Calls Tryd.prog 33 #[.agg #[.slice (some A) k c, .slice (some B) k d]] W fun e w' => Told g (sv (rtl R1 ++ rtl S1)) (rtl R1 = rtl S1 → R1 = S1) e w' ∧ Below W.heap.size W w' from by
    have := ih k hcl W A B c d _ _ ((E1.below hW).take (k := k) (by omega)) ((E2.below hW).take (k := k) (by omega)) (hk.below hW) (hks.below hW) (by omega)
    rw [hR1, hS1] at this
    exact this.mono fun e w' ⟨h, hb'⟩ => ⟨h.low (by have := hW.size; omega), hb'⟩)
  have C2 := Lib.hid (fun (W : World) (hW : Below w.heap.size w W) => show Calls Tryd.prog 33 #[.agg #[.slice (some (A.add k)) (n - k) (c - k), .slice (some (B.add k)) (n - k) (d - k)]] W fun e w' => Told g (sv (rtl R2 ++ rtl S2)) (rtl R2 = rtl S2 → R2 = S2) e w' ∧ Below W.heap.size W w' from by
    have := ih (n - k) (by omega) W _ _ _ _ _ _ ((E1.below hW).drop (k := k)) ((E2.below hW).drop (k := k)) (hk.below hW) (hks.below hW) (by omega)
    rw [hR2, hS2] at this
    exact this.mono fun e w' ⟨h, hb'⟩ => ⟨h.low (by have := hW.size; omega), hb'⟩)
  rw [hR1, hR2] at hcR hcut
  rw [hS1, hS2] at hcS hcut
  have C3 := Lib.hid (fun (W : World) (hW : Below w.heap.size w W) => show Calls Tryd.prog 59 #[sv (rtl R1 ++ rtl S1), sv (rtl R2 ++ rtl S2)] W fun e w' => Told g (sv P) (nodeL (rtl R1) (rtl R2) = nodeL (rtl S1) (rtl S2) → rtl R1 = rtl S1 ∧ rtl R2 = rtl S2) e w' ∧ Below W.heap.size W w' from
    (cnode_any (w := W) (rtl_length _) (rtl_length _) (rtl_length _) (rtl_length _) (rtl_lt _) (rtl_lt _) (rtl_lt _) (rtl_lt _) (hk.below hW) (hks.below hW)).mono fun e w' ⟨h, hb'⟩ => ⟨(h.low (by have := hW.size; omega)).imp (by rw [← hP, hcR, hcS]) (fun h => h), hb'⟩)
  have HCUT := Lib.hid hcut
  have HB := Lib.hid (fun (W : World) (hW : Below w2.heap.size w2 W) => show Cells W g 60 #[.slice (some A) n c, .slice (some B) n d] from h2.both.below hW)
  have HC0 := Lib.hid (fun (W : World) (hW : Below w2.heap.size w2 W) => show W.cell? ⟨g, 0, none⟩ = some (.slice (some A) n c) from (h2.both.below hW).cell 0 rfl)
  have hn1 : ((n : Int) == 1) = false := by simp; omega
  have B2 := Lib.hid b02
  rw [hg, hP]
  clear h2 e0 hw2 hg hP hk hks E1 E2 b02 ih hcut hcR hcS hR1 hR2 hS1 hS2 hk0 h2n hn6 hcl hcp
  go_enter Tryd.func33, Tryd.ntmps33
  go_upto_region 1 with fail
  rw [← HW.out]
  rw [HG.out]
  go_upto_region 3 with fail
  clear x0
  go_cut [3, 4] from 18 to 26 (fun s3 s4 wx => ∃ p q, s3 = .pointer (some ⟨p, 0, none⟩) ∧ s4 = .pointer (some ⟨q, 0, none⟩) ∧ Hid (Cells wx p 60 #[.slice (some A) k c, .slice (some B) k d] ∧ Cells wx q 60 #[.slice (some (A.add k)) (n - k) (c - k), .slice (some (B.add k)) (n - k) (d - k)] ∧ Below w2.heap.size w2 wx))
  case first =>
    have hSq1 : Below w2.heap.size w2 w2.drew := (Below.refl _ _).drew
    refine wp_region_held_drew (S := fun W => Below w2.heap.size w2 W) (by kernel_rfl) (hSq1) (fun _ => ?_)
    change wpAnyH _ _ _ _ _ _ _ _ w2.drew
    generalize w2.drew = Wq2 at hSq1 ⊢
    refine' wpAnyH_take (i := 0) (oi := _) (v := .agg #[.slice (some A) n c, .slice (some B) n d]) ?hiq3 (by kernel_rfl) ?hfq3 ?hrq3 ?hQq3 ?hyq3 (hSq1) ?restq3
    case hiq3 => (simp only [List.getElem?_toArray, List.getElem?_cons_zero]; rfl)
    case hfq3 => kernel_rfl
    case hrq3 => kernel_rfl
    case hQq3 => exact fun _ _ _ h => h
    case hyq3 => refine Or.inl ⟨by rfl, ?_⟩; intro W hSw; exact load_both_op (.tmp 1) (by rfl) (by rfl) (HB.out W hSw)
    try simp only [Act.put, List.setIfInBounds_toArray, List.set_cons_zero, List.set_cons_succ]
    refine' wpAnyH_take (i := 1) (oi := _) (v := _) ?hiq4 (by kernel_rfl) ?hfq4 ?hrq4 ?hQq4 ?hyq4 (hSq1) ?restq4
    case hiq4 => (simp only [List.getElem?_toArray, List.getElem?_cons_zero, List.getElem?_cons_succ]; rfl)
    case hfq4 => kernel_rfl
    case hrq4 => kernel_rfl
    case hQq4 => exact fun _ _ _ h => h
    case hyq4 => refine Or.inl ⟨by rfl, ?_⟩; intro W hSw; go_simp; try with_reducible rfl
    try simp only [Act.put, List.setIfInBounds_toArray, List.set_cons_zero, List.set_cons_succ]
    refine' wpAnyH_take (i := 2) (oi := _) (v := _) ?hiq5 (by kernel_rfl) ?hfq5 ?hrq5 ?hQq5 ?hyq5 (hSq1) ?restq5
    case hiq5 => (simp only [List.getElem?_toArray, List.getElem?_cons_zero, List.getElem?_cons_succ]; rfl)
    case hfq5 => kernel_rfl
    case hrq5 => kernel_rfl
    case hQq5 => exact fun _ _ _ h => h
    case hyq5 => refine Or.inl ⟨by rfl, ?_⟩; intro W hSw; have hcc := HC0.out W hSw; go_simp; try with_reducible rfl
    try simp only [Act.put, List.setIfInBounds_toArray, List.set_cons_zero, List.set_cons_succ]
    refine' wpAnyH_take (i := 3) (oi := _) (v := _) ?hiq6 (by kernel_rfl) ?hfq6 ?hrq6 ?hQq6 ?hyq6 (hSq1) ?restq6
    case hiq6 => (simp only [List.getElem?_toArray, List.getElem?_cons_zero, List.getElem?_cons_succ]; rfl)
    case hfq6 => kernel_rfl
    case hrq6 => kernel_rfl
    case hQq6 => exact fun _ _ _ h => h
    case hyq6 => refine Or.inl ⟨by rfl, ?_⟩; intro W hSw; go_simp; try with_reducible rfl
    try simp only [Act.put, List.setIfInBounds_toArray, List.set_cons_zero, List.set_cons_succ]
    refine wpAnyH_ready (rs := [4, 9, 10]) (by kernel_rfl) (by simp) ?_
    refine' (AllReadyH.cons (o := _) ?hiq7 (fun K hK => ?_) (AllReadyH.cons (o := _) ?hiq8 (fun K hK => ?_) (AllReadyH.cons (o := _) ?hiq9 (fun K hK => ?_) AllReadyH.nil)))
    case hiq7 => (simp only [List.getElem?_toArray, List.getElem?_cons_zero, List.getElem?_cons_succ]; rfl)
    case hiq8 => (simp only [List.getElem?_toArray, List.getElem?_cons_zero, List.getElem?_cons_succ]; rfl)
    case hiq9 => (simp only [List.getElem?_toArray, List.getElem?_cons_zero, List.getElem?_cons_succ]; rfl)
    · skip
      go_simp
      go_at_call 58
      refine (CL.out Wq2 hSq1).mono ?_
      rintro e Wq12 ⟨rfl, hbq10⟩
      have hBq11 := below_on hSq1 (Nat.le_refl _) hbq10
      refine hK.out _ _ (hBq11) (fun _ => ?_)
      clear hK K
      try simp only [Act.put, List.setIfInBounds_toArray, List.set_cons_zero, List.set_cons_succ]
      refine wpAnyH_ready (rs := [5, 9, 10]) (by kernel_rfl) (by simp) ?_
      refine' (AllReadyH.cons (o := _) ?hiq13 (fun K hK => ?_) (AllReadyH.cons (o := _) ?hiq14 (fun K hK => ?_) (AllReadyH.cons (o := _) ?hiq15 (fun K hK => ?_) AllReadyH.nil)))
      case hiq13 => (simp only [List.getElem?_toArray, List.getElem?_cons_zero, List.getElem?_cons_succ]; rfl)
      case hiq14 => (simp only [List.getElem?_toArray, List.getElem?_cons_zero, List.getElem?_cons_succ]; rfl)
      case hiq15 => (simp only [List.getElem?_toArray, List.getElem?_cons_zero, List.getElem?_cons_succ]; rfl)
      · skip
        go_simp
        go_at_call 57
        refine (CP.out Wq12 hBq11).mono ?_
        rintro e Wq18 ⟨rfl, hbq16⟩
        have hBq17 := below_on hBq11 (Nat.le_refl _) hbq16
        refine hK.out _ _ (hBq17) (fun _ => ?_)
        clear hK K
        try simp only [Act.put, List.setIfInBounds_toArray, List.set_cons_zero, List.set_cons_succ]
        refine' wpAnyH_take (i := 6) (oi := _) (v := _) ?hiq19 (by kernel_rfl) ?hfq19 ?hrq19 ?hQq19 ?hyq19 (hBq17) ?restq19
        case hiq19 => (simp only [List.getElem?_toArray, List.getElem?_cons_zero, List.getElem?_cons_succ]; rfl)
        case hfq19 => kernel_rfl
        case hrq19 => kernel_rfl
        case hQq19 => exact fun _ _ _ h => h
        case hyq19 => refine Or.inl ⟨by rfl, ?_⟩; intro W hSw; go_simp; try with_reducible rfl
        try simp only [Act.put, List.setIfInBounds_toArray, List.set_cons_zero, List.set_cons_succ]
        refine' wpAnyH_take (i := 7) (oi := _) (v := _) ?hiq20 (by kernel_rfl) ?hfq20 ?hrq20 ?hQq20 ?hyq20 (hBq17) ?restq20
        case hiq20 => (simp only [List.getElem?_toArray, List.getElem?_cons_zero, List.getElem?_cons_succ]; rfl)
        case hfq20 => kernel_rfl
        case hrq20 => kernel_rfl
        case hQq20 => exact fun _ _ _ h => h
        case hyq20 => refine Or.inl ⟨by rfl, ?_⟩; intro W hSw; go_simp; try with_reducible rfl
        try simp only [Act.put, List.setIfInBounds_toArray, List.set_cons_zero, List.set_cons_succ]
        refine' wpAnyH_take (i := 8) (oi := _) (v := _) ?hiq21 (by kernel_rfl) ?hfq21 ?hrq21 ?hQq21 ?hyq21 (hBq17) ?restq21
        case hiq21 => (simp only [List.getElem?_toArray, List.getElem?_cons_zero, List.getElem?_cons_succ]; rfl)
        case hfq21 => kernel_rfl
        case hrq21 => kernel_rfl
        case hQq21 => exact fun _ _ _ h => h
        case hyq21 => refine Or.inl ⟨by rfl, ?_⟩; intro W hSw; go_simp; try with_reducible rfl
        try simp only [Act.put, List.setIfInBounds_toArray, List.set_cons_zero, List.set_cons_succ]
        refine wpAnyH_ready (rs := [9, 10]) (by kernel_rfl) (by simp) ?_
        refine' (AllReadyH.cons (o := _) ?hiq22 (fun K hK => ?_) (AllReadyH.cons (o := _) ?hiq23 (fun K hK => ?_) AllReadyH.nil))
        case hiq22 => (simp only [List.getElem?_toArray, List.getElem?_cons_zero, List.getElem?_cons_succ]; rfl)
        case hiq23 => (simp only [List.getElem?_toArray, List.getElem?_cons_zero, List.getElem?_cons_succ]; rfl)
        · skip
          go_simp
          have hBq24 := Below.alloc hBq17 (Below.size hBq17) (.cells #[.slice none 0 0, .slice none 0 0] 60)
          have hZ3q26 := Cells.new Wq18 60 #[.slice none 0 0, .slice none 0 0]
          have hgep3q27 := (show w2.heap.size ≤ Wq18.heap.size from Below.size hBq17)
          have hnep3q28 := trivial
          have hbq29 := below_alloc Wq18 (.cells #[.slice none 0 0, .slice none 0 0] 60)
          clear hbq29
          refine hK.out _ _ (hBq24) (fun _ => ?_)
          clear hK K
          try simp only [Act.put, List.setIfInBounds_toArray, List.set_cons_zero, List.set_cons_succ]
          generalize (Wq18.alloc (.cells #[.slice none 0 0, .slice none 0 0] 60)) = Wq25 at hBq24 hZ3q26 hgep3q27 hnep3q28 ⊢
          refine wpAnyH_ready (rs := [10]) (by kernel_rfl) (by simp) ?_
          refine' (AllReadyH.cons (o := _) ?hiq30 (fun K hK => ?_) AllReadyH.nil)
          case hiq30 => (simp only [List.getElem?_toArray, List.getElem?_cons_zero, List.getElem?_cons_succ]; rfl)
          go_simp
          have hBq31 := Below.alloc hBq24 (Below.size hBq24) (.cells #[.slice none 0 0, .slice none 0 0] 60)
          have hZ4q33 := Cells.new Wq25 60 #[.slice none 0 0, .slice none 0 0]
          have hgep4q34 := (show w2.heap.size ≤ Wq25.heap.size from Below.size hBq24)
          have hnep4q35 := (show Wq18.heap.size ≠ Wq25.heap.size from by have := hZ3q26.lt; omega)
          have hbq36 := below_alloc Wq25 (.cells #[.slice none 0 0, .slice none 0 0] 60)
          have hZ3q37 := hZ3q26.below hbq36
          have hgep3q38 := hgep3q27
          have hnep3q39 := hnep3q28
          clear hbq36
          refine hK.out _ _ (hBq31) (fun _ => ?_)
          clear hK K
          try simp only [Act.put, List.setIfInBounds_toArray, List.set_cons_zero, List.set_cons_succ]
          generalize (Wq25.alloc (.cells #[.slice none 0 0, .slice none 0 0] 60)) = Wq32 at hBq31 hZ4q33 hgep4q34 hnep4q35 hZ3q37 hgep3q38 hnep3q39 ⊢
          refine wpAnyH_ready (rs := [11]) (by kernel_rfl) (by simp) ?_
          refine' (AllReadyH.cons (o := _) ?hiq40 (fun K hK => ?_) AllReadyH.nil)
          case hiq40 => (simp only [List.getElem?_toArray, List.getElem?_cons_zero, List.getElem?_cons_succ]; rfl)
          rw [if_pos (by rfl)]
          refine wp_store_row 60 (.tmp 3) (.tmp 25) rfl (Wq18.heap.size) #[.slice (some A) k c, .slice (some B) k d] rfl rfl 60 _ hZ3q37 sizeBoth rfl (by simp [Value.oneCell']) ?_
          have hZ3q41 := hZ3q37.setRow #[.slice (some A) k c, .slice (some B) k d]
          have hZ4q42 := hZ4q33.setRow_other (Wq18.heap.size) (by first | exact hnep3q39 | exact Ne.symm hnep3q39 | exact hnep4q35 | exact Ne.symm hnep4q35) #[.slice (some A) k c, .slice (some B) k d]
          have hBq43 := below_setRow hBq31 hgep3q38 #[.slice (some A) k c, .slice (some B) k d]
          refine hK.out _ _ hBq43 (fun _ => ?_)
          clear hK K
          try simp only [Act.put]
          generalize (Wq32.setRow (Wq18.heap.size) #[.slice (some A) k c, .slice (some B) k d]) = Wq44 at hZ3q41 hZ4q42 hBq43 ⊢
          refine wpAnyH_ready (rs := [12]) (by kernel_rfl) (by simp) ?_
          refine' (AllReadyH.cons (o := _) ?hiq45 (fun K hK => ?_) AllReadyH.nil)
          case hiq45 => (simp only [List.getElem?_toArray, List.getElem?_cons_zero, List.getElem?_cons_succ]; rfl)
          rw [if_pos (by rfl)]
          refine wp_store_row 60 (.tmp 4) (.tmp 26) rfl (Wq25.heap.size) #[.slice (some (A.add k)) (n - k) (c - k), .slice (some (B.add k)) (n - k) (d - k)] rfl rfl 60 _ hZ4q42 sizeBoth rfl (by simp [Value.oneCell']) ?_
          have hZ4q46 := hZ4q42.setRow #[.slice (some (A.add k)) (n - k) (c - k), .slice (some (B.add k)) (n - k) (d - k)]
          have hZ3q47 := hZ3q41.setRow_other (Wq25.heap.size) (by first | exact hnep3q39 | exact Ne.symm hnep3q39 | exact hnep4q35 | exact Ne.symm hnep4q35) #[.slice (some (A.add k)) (n - k) (c - k), .slice (some (B.add k)) (n - k) (d - k)]
          have hBq48 := below_setRow hBq43 hgep4q34 #[.slice (some (A.add k)) (n - k) (c - k), .slice (some (B.add k)) (n - k) (d - k)]
          refine hK.out _ _ hBq48 (fun _ => ?_)
          clear hK K
          try simp only [Act.put]
          generalize (Wq44.setRow (Wq25.heap.size) #[.slice (some (A.add k)) (n - k) (c - k), .slice (some (B.add k)) (n - k) (d - k)]) = Wq49 at hZ4q46 hZ3q47 hBq48 ⊢
          refine wpAnyH_done (by kernel_rfl) ?_ _
          go_wp2_with fail
          go_meet
          case rel => exact ⟨_, _, rfl, rfl, Lib.hid ⟨hZ3q47, hZ4q46, hBq48⟩⟩
        · skip
          go_simp
          have hBq50 := Below.alloc hBq17 (Below.size hBq17) (.cells #[.slice none 0 0, .slice none 0 0] 60)
          have hZ4q52 := Cells.new Wq18 60 #[.slice none 0 0, .slice none 0 0]
          have hgep4q53 := (show w2.heap.size ≤ Wq18.heap.size from Below.size hBq17)
          have hnep4q54 := trivial
          have hbq55 := below_alloc Wq18 (.cells #[.slice none 0 0, .slice none 0 0] 60)
          clear hbq55
          refine hK.out _ _ (hBq50) (fun _ => ?_)
          clear hK K
          try simp only [Act.put, List.setIfInBounds_toArray, List.set_cons_zero, List.set_cons_succ]
          generalize (Wq18.alloc (.cells #[.slice none 0 0, .slice none 0 0] 60)) = Wq51 at hBq50 hZ4q52 hgep4q53 hnep4q54 ⊢
          refine wpAnyH_ready (rs := [9]) (by kernel_rfl) (by simp) ?_
          refine' (AllReadyH.cons (o := _) ?hiq56 (fun K hK => ?_) AllReadyH.nil)
          case hiq56 => (simp only [List.getElem?_toArray, List.getElem?_cons_zero, List.getElem?_cons_succ]; rfl)
          go_simp
          have hBq57 := Below.alloc hBq50 (Below.size hBq50) (.cells #[.slice none 0 0, .slice none 0 0] 60)
          have hZ3q59 := Cells.new Wq51 60 #[.slice none 0 0, .slice none 0 0]
          have hgep3q60 := (show w2.heap.size ≤ Wq51.heap.size from Below.size hBq50)
          have hnep3q61 := (show Wq51.heap.size ≠ Wq18.heap.size from by have := hZ4q52.lt; omega)
          have hbq62 := below_alloc Wq51 (.cells #[.slice none 0 0, .slice none 0 0] 60)
          have hZ4q63 := hZ4q52.below hbq62
          have hgep4q64 := hgep4q53
          have hnep4q65 := hnep4q54
          clear hbq62
          refine hK.out _ _ (hBq57) (fun _ => ?_)
          clear hK K
          try simp only [Act.put, List.setIfInBounds_toArray, List.set_cons_zero, List.set_cons_succ]
          generalize (Wq51.alloc (.cells #[.slice none 0 0, .slice none 0 0] 60)) = Wq58 at hBq57 hZ3q59 hgep3q60 hnep3q61 hZ4q63 hgep4q64 hnep4q65 ⊢
          refine wpAnyH_ready (rs := [11]) (by kernel_rfl) (by simp) ?_
          refine' (AllReadyH.cons (o := _) ?hiq66 (fun K hK => ?_) AllReadyH.nil)
          case hiq66 => (simp only [List.getElem?_toArray, List.getElem?_cons_zero, List.getElem?_cons_succ]; rfl)
          rw [if_pos (by rfl)]
          refine wp_store_row 60 (.tmp 3) (.tmp 25) rfl (Wq51.heap.size) #[.slice (some A) k c, .slice (some B) k d] rfl rfl 60 _ hZ3q59 sizeBoth rfl (by simp [Value.oneCell']) ?_
          have hZ3q67 := hZ3q59.setRow #[.slice (some A) k c, .slice (some B) k d]
          have hZ4q68 := hZ4q63.setRow_other (Wq51.heap.size) (by first | exact hnep3q61 | exact Ne.symm hnep3q61 | exact hnep4q65 | exact Ne.symm hnep4q65) #[.slice (some A) k c, .slice (some B) k d]
          have hBq69 := below_setRow hBq57 hgep3q60 #[.slice (some A) k c, .slice (some B) k d]
          refine hK.out _ _ hBq69 (fun _ => ?_)
          clear hK K
          try simp only [Act.put]
          generalize (Wq58.setRow (Wq51.heap.size) #[.slice (some A) k c, .slice (some B) k d]) = Wq70 at hZ3q67 hZ4q68 hBq69 ⊢
          refine wpAnyH_ready (rs := [12]) (by kernel_rfl) (by simp) ?_
          refine' (AllReadyH.cons (o := _) ?hiq71 (fun K hK => ?_) AllReadyH.nil)
          case hiq71 => (simp only [List.getElem?_toArray, List.getElem?_cons_zero, List.getElem?_cons_succ]; rfl)
          rw [if_pos (by rfl)]
          refine wp_store_row 60 (.tmp 4) (.tmp 26) rfl (Wq18.heap.size) #[.slice (some (A.add k)) (n - k) (c - k), .slice (some (B.add k)) (n - k) (d - k)] rfl rfl 60 _ hZ4q68 sizeBoth rfl (by simp [Value.oneCell']) ?_
          have hZ4q72 := hZ4q68.setRow #[.slice (some (A.add k)) (n - k) (c - k), .slice (some (B.add k)) (n - k) (d - k)]
          have hZ3q73 := hZ3q67.setRow_other (Wq18.heap.size) (by first | exact hnep3q61 | exact Ne.symm hnep3q61 | exact hnep4q65 | exact Ne.symm hnep4q65) #[.slice (some (A.add k)) (n - k) (c - k), .slice (some (B.add k)) (n - k) (d - k)]
          have hBq74 := below_setRow hBq69 hgep4q64 #[.slice (some (A.add k)) (n - k) (c - k), .slice (some (B.add k)) (n - k) (d - k)]
          refine hK.out _ _ hBq74 (fun _ => ?_)
          clear hK K
          try simp only [Act.put]
          generalize (Wq70.setRow (Wq18.heap.size) #[.slice (some (A.add k)) (n - k) (c - k), .slice (some (B.add k)) (n - k) (d - k)]) = Wq75 at hZ4q72 hZ3q73 hBq74 ⊢
          refine wpAnyH_done (by kernel_rfl) ?_ _
          go_wp2_with fail
          go_meet
          case rel => exact ⟨_, _, rfl, rfl, Lib.hid ⟨hZ3q73, hZ4q72, hBq74⟩⟩
      · skip
        go_simp
        have hBq76 := Below.alloc hBq11 (Below.size hBq11) (.cells #[.slice none 0 0, .slice none 0 0] 60)
        have hZ3q78 := Cells.new Wq12 60 #[.slice none 0 0, .slice none 0 0]
        have hgep3q79 := (show w2.heap.size ≤ Wq12.heap.size from Below.size hBq11)
        have hnep3q80 := trivial
        have hbq81 := below_alloc Wq12 (.cells #[.slice none 0 0, .slice none 0 0] 60)
        clear hbq81
        refine hK.out _ _ (hBq76) (fun _ => ?_)
        clear hK K
        try simp only [Act.put, List.setIfInBounds_toArray, List.set_cons_zero, List.set_cons_succ]
        generalize (Wq12.alloc (.cells #[.slice none 0 0, .slice none 0 0] 60)) = Wq77 at hBq76 hZ3q78 hgep3q79 hnep3q80 ⊢
        refine wpAnyH_ready (rs := [5, 10]) (by kernel_rfl) (by simp) ?_
        refine' (AllReadyH.cons (o := _) ?hiq82 (fun K hK => ?_) (AllReadyH.cons (o := _) ?hiq83 (fun K hK => ?_) AllReadyH.nil))
        case hiq82 => (simp only [List.getElem?_toArray, List.getElem?_cons_zero, List.getElem?_cons_succ]; rfl)
        case hiq83 => (simp only [List.getElem?_toArray, List.getElem?_cons_zero, List.getElem?_cons_succ]; rfl)
        · skip
          go_simp
          go_at_call 57
          refine (CP.out Wq77 hBq76).mono ?_
          rintro e Wq86 ⟨rfl, hbq84⟩
          have hBq85 := below_on hBq76 (Nat.le_refl _) hbq84
          have hZ3q87 := hZ3q78.below hbq84
          have hgep3q88 := hgep3q79
          have hnep3q89 := hnep3q80
          refine hK.out _ _ (hBq85) (fun _ => ?_)
          clear hK K
          try simp only [Act.put, List.setIfInBounds_toArray, List.set_cons_zero, List.set_cons_succ]
          refine' wpAnyH_take (i := 6) (oi := _) (v := _) ?hiq90 (by kernel_rfl) ?hfq90 ?hrq90 ?hQq90 ?hyq90 (hBq85) ?restq90
          case hiq90 => (simp only [List.getElem?_toArray, List.getElem?_cons_zero, List.getElem?_cons_succ]; rfl)
          case hfq90 => kernel_rfl
          case hrq90 => kernel_rfl
          case hQq90 => exact fun _ _ _ h => h
          case hyq90 => refine Or.inl ⟨by rfl, ?_⟩; intro W hSw; go_simp; try with_reducible rfl
          try simp only [Act.put, List.setIfInBounds_toArray, List.set_cons_zero, List.set_cons_succ]
          refine' wpAnyH_take (i := 7) (oi := _) (v := _) ?hiq91 (by kernel_rfl) ?hfq91 ?hrq91 ?hQq91 ?hyq91 (hBq85) ?restq91
          case hiq91 => (simp only [List.getElem?_toArray, List.getElem?_cons_zero, List.getElem?_cons_succ]; rfl)
          case hfq91 => kernel_rfl
          case hrq91 => kernel_rfl
          case hQq91 => exact fun _ _ _ h => h
          case hyq91 => refine Or.inl ⟨by rfl, ?_⟩; intro W hSw; go_simp; try with_reducible rfl
          try simp only [Act.put, List.setIfInBounds_toArray, List.set_cons_zero, List.set_cons_succ]
          refine' wpAnyH_take (i := 8) (oi := _) (v := _) ?hiq92 (by kernel_rfl) ?hfq92 ?hrq92 ?hQq92 ?hyq92 (hBq85) ?restq92
          case hiq92 => (simp only [List.getElem?_toArray, List.getElem?_cons_zero, List.getElem?_cons_succ]; rfl)
          case hfq92 => kernel_rfl
          case hrq92 => kernel_rfl
          case hQq92 => exact fun _ _ _ h => h
          case hyq92 => refine Or.inl ⟨by rfl, ?_⟩; intro W hSw; go_simp; try with_reducible rfl
          try simp only [Act.put, List.setIfInBounds_toArray, List.set_cons_zero, List.set_cons_succ]
          refine wpAnyH_ready (rs := [10]) (by kernel_rfl) (by simp) ?_
          refine' (AllReadyH.cons (o := _) ?hiq93 (fun K hK => ?_) AllReadyH.nil)
          case hiq93 => (simp only [List.getElem?_toArray, List.getElem?_cons_zero, List.getElem?_cons_succ]; rfl)
          go_simp
          have hBq94 := Below.alloc hBq85 (Below.size hBq85) (.cells #[.slice none 0 0, .slice none 0 0] 60)
          have hZ4q96 := Cells.new Wq86 60 #[.slice none 0 0, .slice none 0 0]
          have hgep4q97 := (show w2.heap.size ≤ Wq86.heap.size from Below.size hBq85)
          have hnep4q98 := (show Wq12.heap.size ≠ Wq86.heap.size from by have := hZ3q87.lt; omega)
          have hbq99 := below_alloc Wq86 (.cells #[.slice none 0 0, .slice none 0 0] 60)
          have hZ3q100 := hZ3q87.below hbq99
          have hgep3q101 := hgep3q88
          have hnep3q102 := hnep3q89
          clear hbq99
          refine hK.out _ _ (hBq94) (fun _ => ?_)
          clear hK K
          try simp only [Act.put, List.setIfInBounds_toArray, List.set_cons_zero, List.set_cons_succ]
          generalize (Wq86.alloc (.cells #[.slice none 0 0, .slice none 0 0] 60)) = Wq95 at hBq94 hZ4q96 hgep4q97 hnep4q98 hZ3q100 hgep3q101 hnep3q102 ⊢
          refine wpAnyH_ready (rs := [11]) (by kernel_rfl) (by simp) ?_
          refine' (AllReadyH.cons (o := _) ?hiq103 (fun K hK => ?_) AllReadyH.nil)
          case hiq103 => (simp only [List.getElem?_toArray, List.getElem?_cons_zero, List.getElem?_cons_succ]; rfl)
          rw [if_pos (by rfl)]
          refine wp_store_row 60 (.tmp 3) (.tmp 25) rfl (Wq12.heap.size) #[.slice (some A) k c, .slice (some B) k d] rfl rfl 60 _ hZ3q100 sizeBoth rfl (by simp [Value.oneCell']) ?_
          have hZ3q104 := hZ3q100.setRow #[.slice (some A) k c, .slice (some B) k d]
          have hZ4q105 := hZ4q96.setRow_other (Wq12.heap.size) (by first | exact hnep3q102 | exact Ne.symm hnep3q102 | exact hnep4q98 | exact Ne.symm hnep4q98) #[.slice (some A) k c, .slice (some B) k d]
          have hBq106 := below_setRow hBq94 hgep3q101 #[.slice (some A) k c, .slice (some B) k d]
          refine hK.out _ _ hBq106 (fun _ => ?_)
          clear hK K
          try simp only [Act.put]
          generalize (Wq95.setRow (Wq12.heap.size) #[.slice (some A) k c, .slice (some B) k d]) = Wq107 at hZ3q104 hZ4q105 hBq106 ⊢
          refine wpAnyH_ready (rs := [12]) (by kernel_rfl) (by simp) ?_
          refine' (AllReadyH.cons (o := _) ?hiq108 (fun K hK => ?_) AllReadyH.nil)
          case hiq108 => (simp only [List.getElem?_toArray, List.getElem?_cons_zero, List.getElem?_cons_succ]; rfl)
          rw [if_pos (by rfl)]
          refine wp_store_row 60 (.tmp 4) (.tmp 26) rfl (Wq86.heap.size) #[.slice (some (A.add k)) (n - k) (c - k), .slice (some (B.add k)) (n - k) (d - k)] rfl rfl 60 _ hZ4q105 sizeBoth rfl (by simp [Value.oneCell']) ?_
          have hZ4q109 := hZ4q105.setRow #[.slice (some (A.add k)) (n - k) (c - k), .slice (some (B.add k)) (n - k) (d - k)]
          have hZ3q110 := hZ3q104.setRow_other (Wq86.heap.size) (by first | exact hnep3q102 | exact Ne.symm hnep3q102 | exact hnep4q98 | exact Ne.symm hnep4q98) #[.slice (some (A.add k)) (n - k) (c - k), .slice (some (B.add k)) (n - k) (d - k)]
          have hBq111 := below_setRow hBq106 hgep4q97 #[.slice (some (A.add k)) (n - k) (c - k), .slice (some (B.add k)) (n - k) (d - k)]
          refine hK.out _ _ hBq111 (fun _ => ?_)
          clear hK K
          try simp only [Act.put]
          generalize (Wq107.setRow (Wq86.heap.size) #[.slice (some (A.add k)) (n - k) (c - k), .slice (some (B.add k)) (n - k) (d - k)]) = Wq112 at hZ4q109 hZ3q110 hBq111 ⊢
          refine wpAnyH_done (by kernel_rfl) ?_ _
          go_wp2_with fail
          go_meet
          case rel => exact ⟨_, _, rfl, rfl, Lib.hid ⟨hZ3q110, hZ4q109, hBq111⟩⟩
        · skip
          go_simp
          have hBq113 := Below.alloc hBq76 (Below.size hBq76) (.cells #[.slice none 0 0, .slice none 0 0] 60)
          have hZ4q115 := Cells.new Wq77 60 #[.slice none 0 0, .slice none 0 0]
          have hgep4q116 := (show w2.heap.size ≤ Wq77.heap.size from Below.size hBq76)
          have hnep4q117 := (show Wq12.heap.size ≠ Wq77.heap.size from by have := hZ3q78.lt; omega)
          have hbq118 := below_alloc Wq77 (.cells #[.slice none 0 0, .slice none 0 0] 60)
          have hZ3q119 := hZ3q78.below hbq118
          have hgep3q120 := hgep3q79
          have hnep3q121 := hnep3q80
          clear hbq118
          refine hK.out _ _ (hBq113) (fun _ => ?_)
          clear hK K
          try simp only [Act.put, List.setIfInBounds_toArray, List.set_cons_zero, List.set_cons_succ]
          generalize (Wq77.alloc (.cells #[.slice none 0 0, .slice none 0 0] 60)) = Wq114 at hBq113 hZ4q115 hgep4q116 hnep4q117 hZ3q119 hgep3q120 hnep3q121 ⊢
          refine wpAnyH_ready (rs := [5]) (by kernel_rfl) (by simp) ?_
          refine' (AllReadyH.cons (o := _) ?hiq122 (fun K hK => ?_) AllReadyH.nil)
          case hiq122 => (simp only [List.getElem?_toArray, List.getElem?_cons_zero, List.getElem?_cons_succ]; rfl)
          go_simp
          go_at_call 57
          refine (CP.out Wq114 hBq113).mono ?_
          rintro e Wq125 ⟨rfl, hbq123⟩
          have hBq124 := below_on hBq113 (Nat.le_refl _) hbq123
          have hZ3q126 := hZ3q119.below hbq123
          have hgep3q127 := hgep3q120
          have hnep3q128 := hnep3q121
          have hZ4q129 := hZ4q115.below hbq123
          have hgep4q130 := hgep4q116
          have hnep4q131 := hnep4q117
          refine hK.out _ _ (hBq124) (fun _ => ?_)
          clear hK K
          try simp only [Act.put, List.setIfInBounds_toArray, List.set_cons_zero, List.set_cons_succ]
          refine' wpAnyH_take (i := 6) (oi := _) (v := _) ?hiq132 (by kernel_rfl) ?hfq132 ?hrq132 ?hQq132 ?hyq132 (hBq124) ?restq132
          case hiq132 => (simp only [List.getElem?_toArray, List.getElem?_cons_zero, List.getElem?_cons_succ]; rfl)
          case hfq132 => kernel_rfl
          case hrq132 => kernel_rfl
          case hQq132 => exact fun _ _ _ h => h
          case hyq132 => refine Or.inl ⟨by rfl, ?_⟩; intro W hSw; go_simp; try with_reducible rfl
          try simp only [Act.put, List.setIfInBounds_toArray, List.set_cons_zero, List.set_cons_succ]
          refine' wpAnyH_take (i := 7) (oi := _) (v := _) ?hiq133 (by kernel_rfl) ?hfq133 ?hrq133 ?hQq133 ?hyq133 (hBq124) ?restq133
          case hiq133 => (simp only [List.getElem?_toArray, List.getElem?_cons_zero, List.getElem?_cons_succ]; rfl)
          case hfq133 => kernel_rfl
          case hrq133 => kernel_rfl
          case hQq133 => exact fun _ _ _ h => h
          case hyq133 => refine Or.inl ⟨by rfl, ?_⟩; intro W hSw; go_simp; try with_reducible rfl
          try simp only [Act.put, List.setIfInBounds_toArray, List.set_cons_zero, List.set_cons_succ]
          refine' wpAnyH_take (i := 8) (oi := _) (v := _) ?hiq134 (by kernel_rfl) ?hfq134 ?hrq134 ?hQq134 ?hyq134 (hBq124) ?restq134
          case hiq134 => (simp only [List.getElem?_toArray, List.getElem?_cons_zero, List.getElem?_cons_succ]; rfl)
          case hfq134 => kernel_rfl
          case hrq134 => kernel_rfl
          case hQq134 => exact fun _ _ _ h => h
          case hyq134 => refine Or.inl ⟨by rfl, ?_⟩; intro W hSw; go_simp; try with_reducible rfl
          try simp only [Act.put, List.setIfInBounds_toArray, List.set_cons_zero, List.set_cons_succ]
          refine wpAnyH_ready (rs := [11]) (by kernel_rfl) (by simp) ?_
          refine' (AllReadyH.cons (o := _) ?hiq135 (fun K hK => ?_) AllReadyH.nil)
          case hiq135 => (simp only [List.getElem?_toArray, List.getElem?_cons_zero, List.getElem?_cons_succ]; rfl)
          rw [if_pos (by rfl)]
          refine wp_store_row 60 (.tmp 3) (.tmp 25) rfl (Wq12.heap.size) #[.slice (some A) k c, .slice (some B) k d] rfl rfl 60 _ hZ3q126 sizeBoth rfl (by simp [Value.oneCell']) ?_
          have hZ3q136 := hZ3q126.setRow #[.slice (some A) k c, .slice (some B) k d]
          have hZ4q137 := hZ4q129.setRow_other (Wq12.heap.size) (by first | exact hnep3q128 | exact Ne.symm hnep3q128 | exact hnep4q131 | exact Ne.symm hnep4q131) #[.slice (some A) k c, .slice (some B) k d]
          have hBq138 := below_setRow hBq124 hgep3q127 #[.slice (some A) k c, .slice (some B) k d]
          refine hK.out _ _ hBq138 (fun _ => ?_)
          clear hK K
          try simp only [Act.put]
          generalize (Wq125.setRow (Wq12.heap.size) #[.slice (some A) k c, .slice (some B) k d]) = Wq139 at hZ3q136 hZ4q137 hBq138 ⊢
          refine wpAnyH_ready (rs := [12]) (by kernel_rfl) (by simp) ?_
          refine' (AllReadyH.cons (o := _) ?hiq140 (fun K hK => ?_) AllReadyH.nil)
          case hiq140 => (simp only [List.getElem?_toArray, List.getElem?_cons_zero, List.getElem?_cons_succ]; rfl)
          rw [if_pos (by rfl)]
          refine wp_store_row 60 (.tmp 4) (.tmp 26) rfl (Wq77.heap.size) #[.slice (some (A.add k)) (n - k) (c - k), .slice (some (B.add k)) (n - k) (d - k)] rfl rfl 60 _ hZ4q137 sizeBoth rfl (by simp [Value.oneCell']) ?_
          have hZ4q141 := hZ4q137.setRow #[.slice (some (A.add k)) (n - k) (c - k), .slice (some (B.add k)) (n - k) (d - k)]
          have hZ3q142 := hZ3q136.setRow_other (Wq77.heap.size) (by first | exact hnep3q128 | exact Ne.symm hnep3q128 | exact hnep4q131 | exact Ne.symm hnep4q131) #[.slice (some (A.add k)) (n - k) (c - k), .slice (some (B.add k)) (n - k) (d - k)]
          have hBq143 := below_setRow hBq138 hgep4q130 #[.slice (some (A.add k)) (n - k) (c - k), .slice (some (B.add k)) (n - k) (d - k)]
          refine hK.out _ _ hBq143 (fun _ => ?_)
          clear hK K
          try simp only [Act.put]
          generalize (Wq139.setRow (Wq77.heap.size) #[.slice (some (A.add k)) (n - k) (c - k), .slice (some (B.add k)) (n - k) (d - k)]) = Wq144 at hZ4q141 hZ3q142 hBq143 ⊢
          refine wpAnyH_done (by kernel_rfl) ?_ _
          go_wp2_with fail
          go_meet
          case rel => exact ⟨_, _, rfl, rfl, Lib.hid ⟨hZ3q142, hZ4q141, hBq143⟩⟩
      · skip
        go_simp
        have hBq145 := Below.alloc hBq11 (Below.size hBq11) (.cells #[.slice none 0 0, .slice none 0 0] 60)
        have hZ4q147 := Cells.new Wq12 60 #[.slice none 0 0, .slice none 0 0]
        have hgep4q148 := (show w2.heap.size ≤ Wq12.heap.size from Below.size hBq11)
        have hnep4q149 := trivial
        have hbq150 := below_alloc Wq12 (.cells #[.slice none 0 0, .slice none 0 0] 60)
        clear hbq150
        refine hK.out _ _ (hBq145) (fun _ => ?_)
        clear hK K
        try simp only [Act.put, List.setIfInBounds_toArray, List.set_cons_zero, List.set_cons_succ]
        generalize (Wq12.alloc (.cells #[.slice none 0 0, .slice none 0 0] 60)) = Wq146 at hBq145 hZ4q147 hgep4q148 hnep4q149 ⊢
        refine wpAnyH_ready (rs := [5, 9]) (by kernel_rfl) (by simp) ?_
        refine' (AllReadyH.cons (o := _) ?hiq151 (fun K hK => ?_) (AllReadyH.cons (o := _) ?hiq152 (fun K hK => ?_) AllReadyH.nil))
        case hiq151 => (simp only [List.getElem?_toArray, List.getElem?_cons_zero, List.getElem?_cons_succ]; rfl)
        case hiq152 => (simp only [List.getElem?_toArray, List.getElem?_cons_zero, List.getElem?_cons_succ]; rfl)
        · skip
          go_simp
          go_at_call 57
          refine (CP.out Wq146 hBq145).mono ?_
          rintro e Wq155 ⟨rfl, hbq153⟩
          have hBq154 := below_on hBq145 (Nat.le_refl _) hbq153
          have hZ4q156 := hZ4q147.below hbq153
          have hgep4q157 := hgep4q148
          have hnep4q158 := hnep4q149
          refine hK.out _ _ (hBq154) (fun _ => ?_)
          clear hK K
          try simp only [Act.put, List.setIfInBounds_toArray, List.set_cons_zero, List.set_cons_succ]
          refine' wpAnyH_take (i := 6) (oi := _) (v := _) ?hiq159 (by kernel_rfl) ?hfq159 ?hrq159 ?hQq159 ?hyq159 (hBq154) ?restq159
          case hiq159 => (simp only [List.getElem?_toArray, List.getElem?_cons_zero, List.getElem?_cons_succ]; rfl)
          case hfq159 => kernel_rfl
          case hrq159 => kernel_rfl
          case hQq159 => exact fun _ _ _ h => h
          case hyq159 => refine Or.inl ⟨by rfl, ?_⟩; intro W hSw; go_simp; try with_reducible rfl
          try simp only [Act.put, List.setIfInBounds_toArray, List.set_cons_zero, List.set_cons_succ]
          refine' wpAnyH_take (i := 7) (oi := _) (v := _) ?hiq160 (by kernel_rfl) ?hfq160 ?hrq160 ?hQq160 ?hyq160 (hBq154) ?restq160
          case hiq160 => (simp only [List.getElem?_toArray, List.getElem?_cons_zero, List.getElem?_cons_succ]; rfl)
          case hfq160 => kernel_rfl
          case hrq160 => kernel_rfl
          case hQq160 => exact fun _ _ _ h => h
          case hyq160 => refine Or.inl ⟨by rfl, ?_⟩; intro W hSw; go_simp; try with_reducible rfl
          try simp only [Act.put, List.setIfInBounds_toArray, List.set_cons_zero, List.set_cons_succ]
          refine' wpAnyH_take (i := 8) (oi := _) (v := _) ?hiq161 (by kernel_rfl) ?hfq161 ?hrq161 ?hQq161 ?hyq161 (hBq154) ?restq161
          case hiq161 => (simp only [List.getElem?_toArray, List.getElem?_cons_zero, List.getElem?_cons_succ]; rfl)
          case hfq161 => kernel_rfl
          case hrq161 => kernel_rfl
          case hQq161 => exact fun _ _ _ h => h
          case hyq161 => refine Or.inl ⟨by rfl, ?_⟩; intro W hSw; go_simp; try with_reducible rfl
          try simp only [Act.put, List.setIfInBounds_toArray, List.set_cons_zero, List.set_cons_succ]
          refine wpAnyH_ready (rs := [9]) (by kernel_rfl) (by simp) ?_
          refine' (AllReadyH.cons (o := _) ?hiq162 (fun K hK => ?_) AllReadyH.nil)
          case hiq162 => (simp only [List.getElem?_toArray, List.getElem?_cons_zero, List.getElem?_cons_succ]; rfl)
          go_simp
          have hBq163 := Below.alloc hBq154 (Below.size hBq154) (.cells #[.slice none 0 0, .slice none 0 0] 60)
          have hZ3q165 := Cells.new Wq155 60 #[.slice none 0 0, .slice none 0 0]
          have hgep3q166 := (show w2.heap.size ≤ Wq155.heap.size from Below.size hBq154)
          have hnep3q167 := (show Wq155.heap.size ≠ Wq12.heap.size from by have := hZ4q156.lt; omega)
          have hbq168 := below_alloc Wq155 (.cells #[.slice none 0 0, .slice none 0 0] 60)
          have hZ4q169 := hZ4q156.below hbq168
          have hgep4q170 := hgep4q157
          have hnep4q171 := hnep4q158
          clear hbq168
          refine hK.out _ _ (hBq163) (fun _ => ?_)
          clear hK K
          try simp only [Act.put, List.setIfInBounds_toArray, List.set_cons_zero, List.set_cons_succ]
          generalize (Wq155.alloc (.cells #[.slice none 0 0, .slice none 0 0] 60)) = Wq164 at hBq163 hZ3q165 hgep3q166 hnep3q167 hZ4q169 hgep4q170 hnep4q171 ⊢
          refine wpAnyH_ready (rs := [11]) (by kernel_rfl) (by simp) ?_
          refine' (AllReadyH.cons (o := _) ?hiq172 (fun K hK => ?_) AllReadyH.nil)
          case hiq172 => (simp only [List.getElem?_toArray, List.getElem?_cons_zero, List.getElem?_cons_succ]; rfl)
          rw [if_pos (by rfl)]
          refine wp_store_row 60 (.tmp 3) (.tmp 25) rfl (Wq155.heap.size) #[.slice (some A) k c, .slice (some B) k d] rfl rfl 60 _ hZ3q165 sizeBoth rfl (by simp [Value.oneCell']) ?_
          have hZ3q173 := hZ3q165.setRow #[.slice (some A) k c, .slice (some B) k d]
          have hZ4q174 := hZ4q169.setRow_other (Wq155.heap.size) (by first | exact hnep3q167 | exact Ne.symm hnep3q167 | exact hnep4q171 | exact Ne.symm hnep4q171) #[.slice (some A) k c, .slice (some B) k d]
          have hBq175 := below_setRow hBq163 hgep3q166 #[.slice (some A) k c, .slice (some B) k d]
          refine hK.out _ _ hBq175 (fun _ => ?_)
          clear hK K
          try simp only [Act.put]
          generalize (Wq164.setRow (Wq155.heap.size) #[.slice (some A) k c, .slice (some B) k d]) = Wq176 at hZ3q173 hZ4q174 hBq175 ⊢
          refine wpAnyH_ready (rs := [12]) (by kernel_rfl) (by simp) ?_
          refine' (AllReadyH.cons (o := _) ?hiq177 (fun K hK => ?_) AllReadyH.nil)
          case hiq177 => (simp only [List.getElem?_toArray, List.getElem?_cons_zero, List.getElem?_cons_succ]; rfl)
          rw [if_pos (by rfl)]
          refine wp_store_row 60 (.tmp 4) (.tmp 26) rfl (Wq12.heap.size) #[.slice (some (A.add k)) (n - k) (c - k), .slice (some (B.add k)) (n - k) (d - k)] rfl rfl 60 _ hZ4q174 sizeBoth rfl (by simp [Value.oneCell']) ?_
          have hZ4q178 := hZ4q174.setRow #[.slice (some (A.add k)) (n - k) (c - k), .slice (some (B.add k)) (n - k) (d - k)]
          have hZ3q179 := hZ3q173.setRow_other (Wq12.heap.size) (by first | exact hnep3q167 | exact Ne.symm hnep3q167 | exact hnep4q171 | exact Ne.symm hnep4q171) #[.slice (some (A.add k)) (n - k) (c - k), .slice (some (B.add k)) (n - k) (d - k)]
          have hBq180 := below_setRow hBq175 hgep4q170 #[.slice (some (A.add k)) (n - k) (c - k), .slice (some (B.add k)) (n - k) (d - k)]
          refine hK.out _ _ hBq180 (fun _ => ?_)
          clear hK K
          try simp only [Act.put]
          generalize (Wq176.setRow (Wq12.heap.size) #[.slice (some (A.add k)) (n - k) (c - k), .slice (some (B.add k)) (n - k) (d - k)]) = Wq181 at hZ4q178 hZ3q179 hBq180 ⊢
          refine wpAnyH_done (by kernel_rfl) ?_ _
          go_wp2_with fail
          go_meet
          case rel => exact ⟨_, _, rfl, rfl, Lib.hid ⟨hZ3q179, hZ4q178, hBq180⟩⟩
        · skip
          go_simp
          have hBq182 := Below.alloc hBq145 (Below.size hBq145) (.cells #[.slice none 0 0, .slice none 0 0] 60)
          have hZ3q184 := Cells.new Wq146 60 #[.slice none 0 0, .slice none 0 0]
          have hgep3q185 := (show w2.heap.size ≤ Wq146.heap.size from Below.size hBq145)
          have hnep3q186 := (show Wq146.heap.size ≠ Wq12.heap.size from by have := hZ4q147.lt; omega)
          have hbq187 := below_alloc Wq146 (.cells #[.slice none 0 0, .slice none 0 0] 60)
          have hZ4q188 := hZ4q147.below hbq187
          have hgep4q189 := hgep4q148
          have hnep4q190 := hnep4q149
          clear hbq187
          refine hK.out _ _ (hBq182) (fun _ => ?_)
          clear hK K
          try simp only [Act.put, List.setIfInBounds_toArray, List.set_cons_zero, List.set_cons_succ]
          generalize (Wq146.alloc (.cells #[.slice none 0 0, .slice none 0 0] 60)) = Wq183 at hBq182 hZ3q184 hgep3q185 hnep3q186 hZ4q188 hgep4q189 hnep4q190 ⊢
          refine wpAnyH_ready (rs := [5]) (by kernel_rfl) (by simp) ?_
          refine' (AllReadyH.cons (o := _) ?hiq191 (fun K hK => ?_) AllReadyH.nil)
          case hiq191 => (simp only [List.getElem?_toArray, List.getElem?_cons_zero, List.getElem?_cons_succ]; rfl)
          go_simp
          go_at_call 57
          refine (CP.out Wq183 hBq182).mono ?_
          rintro e Wq194 ⟨rfl, hbq192⟩
          have hBq193 := below_on hBq182 (Nat.le_refl _) hbq192
          have hZ4q195 := hZ4q188.below hbq192
          have hgep4q196 := hgep4q189
          have hnep4q197 := hnep4q190
          have hZ3q198 := hZ3q184.below hbq192
          have hgep3q199 := hgep3q185
          have hnep3q200 := hnep3q186
          refine hK.out _ _ (hBq193) (fun _ => ?_)
          clear hK K
          try simp only [Act.put, List.setIfInBounds_toArray, List.set_cons_zero, List.set_cons_succ]
          refine' wpAnyH_take (i := 6) (oi := _) (v := _) ?hiq201 (by kernel_rfl) ?hfq201 ?hrq201 ?hQq201 ?hyq201 (hBq193) ?restq201
          case hiq201 => (simp only [List.getElem?_toArray, List.getElem?_cons_zero, List.getElem?_cons_succ]; rfl)
          case hfq201 => kernel_rfl
          case hrq201 => kernel_rfl
          case hQq201 => exact fun _ _ _ h => h
          case hyq201 => refine Or.inl ⟨by rfl, ?_⟩; intro W hSw; go_simp; try with_reducible rfl
          try simp only [Act.put, List.setIfInBounds_toArray, List.set_cons_zero, List.set_cons_succ]
          refine' wpAnyH_take (i := 7) (oi := _) (v := _) ?hiq202 (by kernel_rfl) ?hfq202 ?hrq202 ?hQq202 ?hyq202 (hBq193) ?restq202
          case hiq202 => (simp only [List.getElem?_toArray, List.getElem?_cons_zero, List.getElem?_cons_succ]; rfl)
          case hfq202 => kernel_rfl
          case hrq202 => kernel_rfl
          case hQq202 => exact fun _ _ _ h => h
          case hyq202 => refine Or.inl ⟨by rfl, ?_⟩; intro W hSw; go_simp; try with_reducible rfl
          try simp only [Act.put, List.setIfInBounds_toArray, List.set_cons_zero, List.set_cons_succ]
          refine' wpAnyH_take (i := 8) (oi := _) (v := _) ?hiq203 (by kernel_rfl) ?hfq203 ?hrq203 ?hQq203 ?hyq203 (hBq193) ?restq203
          case hiq203 => (simp only [List.getElem?_toArray, List.getElem?_cons_zero, List.getElem?_cons_succ]; rfl)
          case hfq203 => kernel_rfl
          case hrq203 => kernel_rfl
          case hQq203 => exact fun _ _ _ h => h
          case hyq203 => refine Or.inl ⟨by rfl, ?_⟩; intro W hSw; go_simp; try with_reducible rfl
          try simp only [Act.put, List.setIfInBounds_toArray, List.set_cons_zero, List.set_cons_succ]
          refine wpAnyH_ready (rs := [11]) (by kernel_rfl) (by simp) ?_
          refine' (AllReadyH.cons (o := _) ?hiq204 (fun K hK => ?_) AllReadyH.nil)
          case hiq204 => (simp only [List.getElem?_toArray, List.getElem?_cons_zero, List.getElem?_cons_succ]; rfl)
          rw [if_pos (by rfl)]
          refine wp_store_row 60 (.tmp 3) (.tmp 25) rfl (Wq146.heap.size) #[.slice (some A) k c, .slice (some B) k d] rfl rfl 60 _ hZ3q198 sizeBoth rfl (by simp [Value.oneCell']) ?_
          have hZ3q205 := hZ3q198.setRow #[.slice (some A) k c, .slice (some B) k d]
          have hZ4q206 := hZ4q195.setRow_other (Wq146.heap.size) (by first | exact hnep3q200 | exact Ne.symm hnep3q200 | exact hnep4q197 | exact Ne.symm hnep4q197) #[.slice (some A) k c, .slice (some B) k d]
          have hBq207 := below_setRow hBq193 hgep3q199 #[.slice (some A) k c, .slice (some B) k d]
          refine hK.out _ _ hBq207 (fun _ => ?_)
          clear hK K
          try simp only [Act.put]
          generalize (Wq194.setRow (Wq146.heap.size) #[.slice (some A) k c, .slice (some B) k d]) = Wq208 at hZ3q205 hZ4q206 hBq207 ⊢
          refine wpAnyH_ready (rs := [12]) (by kernel_rfl) (by simp) ?_
          refine' (AllReadyH.cons (o := _) ?hiq209 (fun K hK => ?_) AllReadyH.nil)
          case hiq209 => (simp only [List.getElem?_toArray, List.getElem?_cons_zero, List.getElem?_cons_succ]; rfl)
          rw [if_pos (by rfl)]
          refine wp_store_row 60 (.tmp 4) (.tmp 26) rfl (Wq12.heap.size) #[.slice (some (A.add k)) (n - k) (c - k), .slice (some (B.add k)) (n - k) (d - k)] rfl rfl 60 _ hZ4q206 sizeBoth rfl (by simp [Value.oneCell']) ?_
          have hZ4q210 := hZ4q206.setRow #[.slice (some (A.add k)) (n - k) (c - k), .slice (some (B.add k)) (n - k) (d - k)]
          have hZ3q211 := hZ3q205.setRow_other (Wq12.heap.size) (by first | exact hnep3q200 | exact Ne.symm hnep3q200 | exact hnep4q197 | exact Ne.symm hnep4q197) #[.slice (some (A.add k)) (n - k) (c - k), .slice (some (B.add k)) (n - k) (d - k)]
          have hBq212 := below_setRow hBq207 hgep4q196 #[.slice (some (A.add k)) (n - k) (c - k), .slice (some (B.add k)) (n - k) (d - k)]
          refine hK.out _ _ hBq212 (fun _ => ?_)
          clear hK K
          try simp only [Act.put]
          generalize (Wq208.setRow (Wq12.heap.size) #[.slice (some (A.add k)) (n - k) (c - k), .slice (some (B.add k)) (n - k) (d - k)]) = Wq213 at hZ4q210 hZ3q211 hBq212 ⊢
          refine wpAnyH_done (by kernel_rfl) ?_ _
          go_wp2_with fail
          go_meet
          case rel => exact ⟨_, _, rfl, rfl, Lib.hid ⟨hZ3q211, hZ4q210, hBq212⟩⟩
    · skip
      go_simp
      have hBq214 := Below.alloc hSq1 (Below.size hSq1) (.cells #[.slice none 0 0, .slice none 0 0] 60)
      have hZ3q216 := Cells.new Wq2 60 #[.slice none 0 0, .slice none 0 0]
      have hgep3q217 := (show w2.heap.size ≤ Wq2.heap.size from Below.size hSq1)
      have hnep3q218 := trivial
      have hbq219 := below_alloc Wq2 (.cells #[.slice none 0 0, .slice none 0 0] 60)
      clear hbq219
      refine hK.out _ _ (hBq214) (fun _ => ?_)
      clear hK K
      try simp only [Act.put, List.setIfInBounds_toArray, List.set_cons_zero, List.set_cons_succ]
      generalize (Wq2.alloc (.cells #[.slice none 0 0, .slice none 0 0] 60)) = Wq215 at hBq214 hZ3q216 hgep3q217 hnep3q218 ⊢
      refine wpAnyH_ready (rs := [4, 10]) (by kernel_rfl) (by simp) ?_
      refine' (AllReadyH.cons (o := _) ?hiq220 (fun K hK => ?_) (AllReadyH.cons (o := _) ?hiq221 (fun K hK => ?_) AllReadyH.nil))
      case hiq220 => (simp only [List.getElem?_toArray, List.getElem?_cons_zero, List.getElem?_cons_succ]; rfl)
      case hiq221 => (simp only [List.getElem?_toArray, List.getElem?_cons_zero, List.getElem?_cons_succ]; rfl)
      · skip
        go_simp
        go_at_call 58
        refine (CL.out Wq215 hBq214).mono ?_
        rintro e Wq224 ⟨rfl, hbq222⟩
        have hBq223 := below_on hBq214 (Nat.le_refl _) hbq222
        have hZ3q225 := hZ3q216.below hbq222
        have hgep3q226 := hgep3q217
        have hnep3q227 := hnep3q218
        refine hK.out _ _ (hBq223) (fun _ => ?_)
        clear hK K
        try simp only [Act.put, List.setIfInBounds_toArray, List.set_cons_zero, List.set_cons_succ]
        refine wpAnyH_ready (rs := [5, 10]) (by kernel_rfl) (by simp) ?_
        refine' (AllReadyH.cons (o := _) ?hiq228 (fun K hK => ?_) (AllReadyH.cons (o := _) ?hiq229 (fun K hK => ?_) AllReadyH.nil))
        case hiq228 => (simp only [List.getElem?_toArray, List.getElem?_cons_zero, List.getElem?_cons_succ]; rfl)
        case hiq229 => (simp only [List.getElem?_toArray, List.getElem?_cons_zero, List.getElem?_cons_succ]; rfl)
        · skip
          go_simp
          go_at_call 57
          refine (CP.out Wq224 hBq223).mono ?_
          rintro e Wq232 ⟨rfl, hbq230⟩
          have hBq231 := below_on hBq223 (Nat.le_refl _) hbq230
          have hZ3q233 := hZ3q225.below hbq230
          have hgep3q234 := hgep3q226
          have hnep3q235 := hnep3q227
          refine hK.out _ _ (hBq231) (fun _ => ?_)
          clear hK K
          try simp only [Act.put, List.setIfInBounds_toArray, List.set_cons_zero, List.set_cons_succ]
          refine' wpAnyH_take (i := 6) (oi := _) (v := _) ?hiq236 (by kernel_rfl) ?hfq236 ?hrq236 ?hQq236 ?hyq236 (hBq231) ?restq236
          case hiq236 => (simp only [List.getElem?_toArray, List.getElem?_cons_zero, List.getElem?_cons_succ]; rfl)
          case hfq236 => kernel_rfl
          case hrq236 => kernel_rfl
          case hQq236 => exact fun _ _ _ h => h
          case hyq236 => refine Or.inl ⟨by rfl, ?_⟩; intro W hSw; go_simp; try with_reducible rfl
          try simp only [Act.put, List.setIfInBounds_toArray, List.set_cons_zero, List.set_cons_succ]
          refine' wpAnyH_take (i := 7) (oi := _) (v := _) ?hiq237 (by kernel_rfl) ?hfq237 ?hrq237 ?hQq237 ?hyq237 (hBq231) ?restq237
          case hiq237 => (simp only [List.getElem?_toArray, List.getElem?_cons_zero, List.getElem?_cons_succ]; rfl)
          case hfq237 => kernel_rfl
          case hrq237 => kernel_rfl
          case hQq237 => exact fun _ _ _ h => h
          case hyq237 => refine Or.inl ⟨by rfl, ?_⟩; intro W hSw; go_simp; try with_reducible rfl
          try simp only [Act.put, List.setIfInBounds_toArray, List.set_cons_zero, List.set_cons_succ]
          refine' wpAnyH_take (i := 8) (oi := _) (v := _) ?hiq238 (by kernel_rfl) ?hfq238 ?hrq238 ?hQq238 ?hyq238 (hBq231) ?restq238
          case hiq238 => (simp only [List.getElem?_toArray, List.getElem?_cons_zero, List.getElem?_cons_succ]; rfl)
          case hfq238 => kernel_rfl
          case hrq238 => kernel_rfl
          case hQq238 => exact fun _ _ _ h => h
          case hyq238 => refine Or.inl ⟨by rfl, ?_⟩; intro W hSw; go_simp; try with_reducible rfl
          try simp only [Act.put, List.setIfInBounds_toArray, List.set_cons_zero, List.set_cons_succ]
          refine wpAnyH_ready (rs := [10]) (by kernel_rfl) (by simp) ?_
          refine' (AllReadyH.cons (o := _) ?hiq239 (fun K hK => ?_) AllReadyH.nil)
          case hiq239 => (simp only [List.getElem?_toArray, List.getElem?_cons_zero, List.getElem?_cons_succ]; rfl)
          go_simp
          have hBq240 := Below.alloc hBq231 (Below.size hBq231) (.cells #[.slice none 0 0, .slice none 0 0] 60)
          have hZ4q242 := Cells.new Wq232 60 #[.slice none 0 0, .slice none 0 0]
          have hgep4q243 := (show w2.heap.size ≤ Wq232.heap.size from Below.size hBq231)
          have hnep4q244 := (show Wq2.heap.size ≠ Wq232.heap.size from by have := hZ3q233.lt; omega)
          have hbq245 := below_alloc Wq232 (.cells #[.slice none 0 0, .slice none 0 0] 60)
          have hZ3q246 := hZ3q233.below hbq245
          have hgep3q247 := hgep3q234
          have hnep3q248 := hnep3q235
          clear hbq245
          refine hK.out _ _ (hBq240) (fun _ => ?_)
          clear hK K
          try simp only [Act.put, List.setIfInBounds_toArray, List.set_cons_zero, List.set_cons_succ]
          generalize (Wq232.alloc (.cells #[.slice none 0 0, .slice none 0 0] 60)) = Wq241 at hBq240 hZ4q242 hgep4q243 hnep4q244 hZ3q246 hgep3q247 hnep3q248 ⊢
          refine wpAnyH_ready (rs := [11]) (by kernel_rfl) (by simp) ?_
          refine' (AllReadyH.cons (o := _) ?hiq249 (fun K hK => ?_) AllReadyH.nil)
          case hiq249 => (simp only [List.getElem?_toArray, List.getElem?_cons_zero, List.getElem?_cons_succ]; rfl)
          rw [if_pos (by rfl)]
          refine wp_store_row 60 (.tmp 3) (.tmp 25) rfl (Wq2.heap.size) #[.slice (some A) k c, .slice (some B) k d] rfl rfl 60 _ hZ3q246 sizeBoth rfl (by simp [Value.oneCell']) ?_
          have hZ3q250 := hZ3q246.setRow #[.slice (some A) k c, .slice (some B) k d]
          have hZ4q251 := hZ4q242.setRow_other (Wq2.heap.size) (by first | exact hnep3q248 | exact Ne.symm hnep3q248 | exact hnep4q244 | exact Ne.symm hnep4q244) #[.slice (some A) k c, .slice (some B) k d]
          have hBq252 := below_setRow hBq240 hgep3q247 #[.slice (some A) k c, .slice (some B) k d]
          refine hK.out _ _ hBq252 (fun _ => ?_)
          clear hK K
          try simp only [Act.put]
          generalize (Wq241.setRow (Wq2.heap.size) #[.slice (some A) k c, .slice (some B) k d]) = Wq253 at hZ3q250 hZ4q251 hBq252 ⊢
          refine wpAnyH_ready (rs := [12]) (by kernel_rfl) (by simp) ?_
          refine' (AllReadyH.cons (o := _) ?hiq254 (fun K hK => ?_) AllReadyH.nil)
          case hiq254 => (simp only [List.getElem?_toArray, List.getElem?_cons_zero, List.getElem?_cons_succ]; rfl)
          rw [if_pos (by rfl)]
          refine wp_store_row 60 (.tmp 4) (.tmp 26) rfl (Wq232.heap.size) #[.slice (some (A.add k)) (n - k) (c - k), .slice (some (B.add k)) (n - k) (d - k)] rfl rfl 60 _ hZ4q251 sizeBoth rfl (by simp [Value.oneCell']) ?_
          have hZ4q255 := hZ4q251.setRow #[.slice (some (A.add k)) (n - k) (c - k), .slice (some (B.add k)) (n - k) (d - k)]
          have hZ3q256 := hZ3q250.setRow_other (Wq232.heap.size) (by first | exact hnep3q248 | exact Ne.symm hnep3q248 | exact hnep4q244 | exact Ne.symm hnep4q244) #[.slice (some (A.add k)) (n - k) (c - k), .slice (some (B.add k)) (n - k) (d - k)]
          have hBq257 := below_setRow hBq252 hgep4q243 #[.slice (some (A.add k)) (n - k) (c - k), .slice (some (B.add k)) (n - k) (d - k)]
          refine hK.out _ _ hBq257 (fun _ => ?_)
          clear hK K
          try simp only [Act.put]
          generalize (Wq253.setRow (Wq232.heap.size) #[.slice (some (A.add k)) (n - k) (c - k), .slice (some (B.add k)) (n - k) (d - k)]) = Wq258 at hZ4q255 hZ3q256 hBq257 ⊢
          refine wpAnyH_done (by kernel_rfl) ?_ _
          go_wp2_with fail
          go_meet
          case rel => exact ⟨_, _, rfl, rfl, Lib.hid ⟨hZ3q256, hZ4q255, hBq257⟩⟩
        · skip
          go_simp
          have hBq259 := Below.alloc hBq223 (Below.size hBq223) (.cells #[.slice none 0 0, .slice none 0 0] 60)
          have hZ4q261 := Cells.new Wq224 60 #[.slice none 0 0, .slice none 0 0]
          have hgep4q262 := (show w2.heap.size ≤ Wq224.heap.size from Below.size hBq223)
          have hnep4q263 := (show Wq2.heap.size ≠ Wq224.heap.size from by have := hZ3q225.lt; omega)
          have hbq264 := below_alloc Wq224 (.cells #[.slice none 0 0, .slice none 0 0] 60)
          have hZ3q265 := hZ3q225.below hbq264
          have hgep3q266 := hgep3q226
          have hnep3q267 := hnep3q227
          clear hbq264
          refine hK.out _ _ (hBq259) (fun _ => ?_)
          clear hK K
          try simp only [Act.put, List.setIfInBounds_toArray, List.set_cons_zero, List.set_cons_succ]
          generalize (Wq224.alloc (.cells #[.slice none 0 0, .slice none 0 0] 60)) = Wq260 at hBq259 hZ4q261 hgep4q262 hnep4q263 hZ3q265 hgep3q266 hnep3q267 ⊢
          refine wpAnyH_ready (rs := [5]) (by kernel_rfl) (by simp) ?_
          refine' (AllReadyH.cons (o := _) ?hiq268 (fun K hK => ?_) AllReadyH.nil)
          case hiq268 => (simp only [List.getElem?_toArray, List.getElem?_cons_zero, List.getElem?_cons_succ]; rfl)
          go_simp
          go_at_call 57
          refine (CP.out Wq260 hBq259).mono ?_
          rintro e Wq271 ⟨rfl, hbq269⟩
          have hBq270 := below_on hBq259 (Nat.le_refl _) hbq269
          have hZ3q272 := hZ3q265.below hbq269
          have hgep3q273 := hgep3q266
          have hnep3q274 := hnep3q267
          have hZ4q275 := hZ4q261.below hbq269
          have hgep4q276 := hgep4q262
          have hnep4q277 := hnep4q263
          refine hK.out _ _ (hBq270) (fun _ => ?_)
          clear hK K
          try simp only [Act.put, List.setIfInBounds_toArray, List.set_cons_zero, List.set_cons_succ]
          refine' wpAnyH_take (i := 6) (oi := _) (v := _) ?hiq278 (by kernel_rfl) ?hfq278 ?hrq278 ?hQq278 ?hyq278 (hBq270) ?restq278
          case hiq278 => (simp only [List.getElem?_toArray, List.getElem?_cons_zero, List.getElem?_cons_succ]; rfl)
          case hfq278 => kernel_rfl
          case hrq278 => kernel_rfl
          case hQq278 => exact fun _ _ _ h => h
          case hyq278 => refine Or.inl ⟨by rfl, ?_⟩; intro W hSw; go_simp; try with_reducible rfl
          try simp only [Act.put, List.setIfInBounds_toArray, List.set_cons_zero, List.set_cons_succ]
          refine' wpAnyH_take (i := 7) (oi := _) (v := _) ?hiq279 (by kernel_rfl) ?hfq279 ?hrq279 ?hQq279 ?hyq279 (hBq270) ?restq279
          case hiq279 => (simp only [List.getElem?_toArray, List.getElem?_cons_zero, List.getElem?_cons_succ]; rfl)
          case hfq279 => kernel_rfl
          case hrq279 => kernel_rfl
          case hQq279 => exact fun _ _ _ h => h
          case hyq279 => refine Or.inl ⟨by rfl, ?_⟩; intro W hSw; go_simp; try with_reducible rfl
          try simp only [Act.put, List.setIfInBounds_toArray, List.set_cons_zero, List.set_cons_succ]
          refine' wpAnyH_take (i := 8) (oi := _) (v := _) ?hiq280 (by kernel_rfl) ?hfq280 ?hrq280 ?hQq280 ?hyq280 (hBq270) ?restq280
          case hiq280 => (simp only [List.getElem?_toArray, List.getElem?_cons_zero, List.getElem?_cons_succ]; rfl)
          case hfq280 => kernel_rfl
          case hrq280 => kernel_rfl
          case hQq280 => exact fun _ _ _ h => h
          case hyq280 => refine Or.inl ⟨by rfl, ?_⟩; intro W hSw; go_simp; try with_reducible rfl
          try simp only [Act.put, List.setIfInBounds_toArray, List.set_cons_zero, List.set_cons_succ]
          refine wpAnyH_ready (rs := [11]) (by kernel_rfl) (by simp) ?_
          refine' (AllReadyH.cons (o := _) ?hiq281 (fun K hK => ?_) AllReadyH.nil)
          case hiq281 => (simp only [List.getElem?_toArray, List.getElem?_cons_zero, List.getElem?_cons_succ]; rfl)
          rw [if_pos (by rfl)]
          refine wp_store_row 60 (.tmp 3) (.tmp 25) rfl (Wq2.heap.size) #[.slice (some A) k c, .slice (some B) k d] rfl rfl 60 _ hZ3q272 sizeBoth rfl (by simp [Value.oneCell']) ?_
          have hZ3q282 := hZ3q272.setRow #[.slice (some A) k c, .slice (some B) k d]
          have hZ4q283 := hZ4q275.setRow_other (Wq2.heap.size) (by first | exact hnep3q274 | exact Ne.symm hnep3q274 | exact hnep4q277 | exact Ne.symm hnep4q277) #[.slice (some A) k c, .slice (some B) k d]
          have hBq284 := below_setRow hBq270 hgep3q273 #[.slice (some A) k c, .slice (some B) k d]
          refine hK.out _ _ hBq284 (fun _ => ?_)
          clear hK K
          try simp only [Act.put]
          generalize (Wq271.setRow (Wq2.heap.size) #[.slice (some A) k c, .slice (some B) k d]) = Wq285 at hZ3q282 hZ4q283 hBq284 ⊢
          refine wpAnyH_ready (rs := [12]) (by kernel_rfl) (by simp) ?_
          refine' (AllReadyH.cons (o := _) ?hiq286 (fun K hK => ?_) AllReadyH.nil)
          case hiq286 => (simp only [List.getElem?_toArray, List.getElem?_cons_zero, List.getElem?_cons_succ]; rfl)
          rw [if_pos (by rfl)]
          refine wp_store_row 60 (.tmp 4) (.tmp 26) rfl (Wq224.heap.size) #[.slice (some (A.add k)) (n - k) (c - k), .slice (some (B.add k)) (n - k) (d - k)] rfl rfl 60 _ hZ4q283 sizeBoth rfl (by simp [Value.oneCell']) ?_
          have hZ4q287 := hZ4q283.setRow #[.slice (some (A.add k)) (n - k) (c - k), .slice (some (B.add k)) (n - k) (d - k)]
          have hZ3q288 := hZ3q282.setRow_other (Wq224.heap.size) (by first | exact hnep3q274 | exact Ne.symm hnep3q274 | exact hnep4q277 | exact Ne.symm hnep4q277) #[.slice (some (A.add k)) (n - k) (c - k), .slice (some (B.add k)) (n - k) (d - k)]
          have hBq289 := below_setRow hBq284 hgep4q276 #[.slice (some (A.add k)) (n - k) (c - k), .slice (some (B.add k)) (n - k) (d - k)]
          refine hK.out _ _ hBq289 (fun _ => ?_)
          clear hK K
          try simp only [Act.put]
          generalize (Wq285.setRow (Wq224.heap.size) #[.slice (some (A.add k)) (n - k) (c - k), .slice (some (B.add k)) (n - k) (d - k)]) = Wq290 at hZ4q287 hZ3q288 hBq289 ⊢
          refine wpAnyH_done (by kernel_rfl) ?_ _
          go_wp2_with fail
          go_meet
          case rel => exact ⟨_, _, rfl, rfl, Lib.hid ⟨hZ3q288, hZ4q287, hBq289⟩⟩
      · skip
        go_simp
        have hBq291 := Below.alloc hBq214 (Below.size hBq214) (.cells #[.slice none 0 0, .slice none 0 0] 60)
        have hZ4q293 := Cells.new Wq215 60 #[.slice none 0 0, .slice none 0 0]
        have hgep4q294 := (show w2.heap.size ≤ Wq215.heap.size from Below.size hBq214)
        have hnep4q295 := (show Wq2.heap.size ≠ Wq215.heap.size from by have := hZ3q216.lt; omega)
        have hbq296 := below_alloc Wq215 (.cells #[.slice none 0 0, .slice none 0 0] 60)
        have hZ3q297 := hZ3q216.below hbq296
        have hgep3q298 := hgep3q217
        have hnep3q299 := hnep3q218
        clear hbq296
        refine hK.out _ _ (hBq291) (fun _ => ?_)
        clear hK K
        try simp only [Act.put, List.setIfInBounds_toArray, List.set_cons_zero, List.set_cons_succ]
        generalize (Wq215.alloc (.cells #[.slice none 0 0, .slice none 0 0] 60)) = Wq292 at hBq291 hZ4q293 hgep4q294 hnep4q295 hZ3q297 hgep3q298 hnep3q299 ⊢
        refine wpAnyH_ready (rs := [4]) (by kernel_rfl) (by simp) ?_
        refine' (AllReadyH.cons (o := _) ?hiq300 (fun K hK => ?_) AllReadyH.nil)
        case hiq300 => (simp only [List.getElem?_toArray, List.getElem?_cons_zero, List.getElem?_cons_succ]; rfl)
        go_simp
        go_at_call 58
        refine (CL.out Wq292 hBq291).mono ?_
        rintro e Wq303 ⟨rfl, hbq301⟩
        have hBq302 := below_on hBq291 (Nat.le_refl _) hbq301
        have hZ3q304 := hZ3q297.below hbq301
        have hgep3q305 := hgep3q298
        have hnep3q306 := hnep3q299
        have hZ4q307 := hZ4q293.below hbq301
        have hgep4q308 := hgep4q294
        have hnep4q309 := hnep4q295
        refine hK.out _ _ (hBq302) (fun _ => ?_)
        clear hK K
        try simp only [Act.put, List.setIfInBounds_toArray, List.set_cons_zero, List.set_cons_succ]
        refine wpAnyH_ready (rs := [5]) (by kernel_rfl) (by simp) ?_
        refine' (AllReadyH.cons (o := _) ?hiq310 (fun K hK => ?_) AllReadyH.nil)
        case hiq310 => (simp only [List.getElem?_toArray, List.getElem?_cons_zero, List.getElem?_cons_succ]; rfl)
        go_simp
        go_at_call 57
        refine (CP.out Wq303 hBq302).mono ?_
        rintro e Wq313 ⟨rfl, hbq311⟩
        have hBq312 := below_on hBq302 (Nat.le_refl _) hbq311
        have hZ3q314 := hZ3q304.below hbq311
        have hgep3q315 := hgep3q305
        have hnep3q316 := hnep3q306
        have hZ4q317 := hZ4q307.below hbq311
        have hgep4q318 := hgep4q308
        have hnep4q319 := hnep4q309
        refine hK.out _ _ (hBq312) (fun _ => ?_)
        clear hK K
        try simp only [Act.put, List.setIfInBounds_toArray, List.set_cons_zero, List.set_cons_succ]
        refine' wpAnyH_take (i := 6) (oi := _) (v := _) ?hiq320 (by kernel_rfl) ?hfq320 ?hrq320 ?hQq320 ?hyq320 (hBq312) ?restq320
        case hiq320 => (simp only [List.getElem?_toArray, List.getElem?_cons_zero, List.getElem?_cons_succ]; rfl)
        case hfq320 => kernel_rfl
        case hrq320 => kernel_rfl
        case hQq320 => exact fun _ _ _ h => h
        case hyq320 => refine Or.inl ⟨by rfl, ?_⟩; intro W hSw; go_simp; try with_reducible rfl
        try simp only [Act.put, List.setIfInBounds_toArray, List.set_cons_zero, List.set_cons_succ]
        refine' wpAnyH_take (i := 7) (oi := _) (v := _) ?hiq321 (by kernel_rfl) ?hfq321 ?hrq321 ?hQq321 ?hyq321 (hBq312) ?restq321
        case hiq321 => (simp only [List.getElem?_toArray, List.getElem?_cons_zero, List.getElem?_cons_succ]; rfl)
        case hfq321 => kernel_rfl
        case hrq321 => kernel_rfl
        case hQq321 => exact fun _ _ _ h => h
        case hyq321 => refine Or.inl ⟨by rfl, ?_⟩; intro W hSw; go_simp; try with_reducible rfl
        try simp only [Act.put, List.setIfInBounds_toArray, List.set_cons_zero, List.set_cons_succ]
        refine' wpAnyH_take (i := 8) (oi := _) (v := _) ?hiq322 (by kernel_rfl) ?hfq322 ?hrq322 ?hQq322 ?hyq322 (hBq312) ?restq322
        case hiq322 => (simp only [List.getElem?_toArray, List.getElem?_cons_zero, List.getElem?_cons_succ]; rfl)
        case hfq322 => kernel_rfl
        case hrq322 => kernel_rfl
        case hQq322 => exact fun _ _ _ h => h
        case hyq322 => refine Or.inl ⟨by rfl, ?_⟩; intro W hSw; go_simp; try with_reducible rfl
        try simp only [Act.put, List.setIfInBounds_toArray, List.set_cons_zero, List.set_cons_succ]
        refine wpAnyH_ready (rs := [11]) (by kernel_rfl) (by simp) ?_
        refine' (AllReadyH.cons (o := _) ?hiq323 (fun K hK => ?_) AllReadyH.nil)
        case hiq323 => (simp only [List.getElem?_toArray, List.getElem?_cons_zero, List.getElem?_cons_succ]; rfl)
        rw [if_pos (by rfl)]
        refine wp_store_row 60 (.tmp 3) (.tmp 25) rfl (Wq2.heap.size) #[.slice (some A) k c, .slice (some B) k d] rfl rfl 60 _ hZ3q314 sizeBoth rfl (by simp [Value.oneCell']) ?_
        have hZ3q324 := hZ3q314.setRow #[.slice (some A) k c, .slice (some B) k d]
        have hZ4q325 := hZ4q317.setRow_other (Wq2.heap.size) (by first | exact hnep3q316 | exact Ne.symm hnep3q316 | exact hnep4q319 | exact Ne.symm hnep4q319) #[.slice (some A) k c, .slice (some B) k d]
        have hBq326 := below_setRow hBq312 hgep3q315 #[.slice (some A) k c, .slice (some B) k d]
        refine hK.out _ _ hBq326 (fun _ => ?_)
        clear hK K
        try simp only [Act.put]
        generalize (Wq313.setRow (Wq2.heap.size) #[.slice (some A) k c, .slice (some B) k d]) = Wq327 at hZ3q324 hZ4q325 hBq326 ⊢
        refine wpAnyH_ready (rs := [12]) (by kernel_rfl) (by simp) ?_
        refine' (AllReadyH.cons (o := _) ?hiq328 (fun K hK => ?_) AllReadyH.nil)
        case hiq328 => (simp only [List.getElem?_toArray, List.getElem?_cons_zero, List.getElem?_cons_succ]; rfl)
        rw [if_pos (by rfl)]
        refine wp_store_row 60 (.tmp 4) (.tmp 26) rfl (Wq215.heap.size) #[.slice (some (A.add k)) (n - k) (c - k), .slice (some (B.add k)) (n - k) (d - k)] rfl rfl 60 _ hZ4q325 sizeBoth rfl (by simp [Value.oneCell']) ?_
        have hZ4q329 := hZ4q325.setRow #[.slice (some (A.add k)) (n - k) (c - k), .slice (some (B.add k)) (n - k) (d - k)]
        have hZ3q330 := hZ3q324.setRow_other (Wq215.heap.size) (by first | exact hnep3q316 | exact Ne.symm hnep3q316 | exact hnep4q319 | exact Ne.symm hnep4q319) #[.slice (some (A.add k)) (n - k) (c - k), .slice (some (B.add k)) (n - k) (d - k)]
        have hBq331 := below_setRow hBq326 hgep4q318 #[.slice (some (A.add k)) (n - k) (c - k), .slice (some (B.add k)) (n - k) (d - k)]
        refine hK.out _ _ hBq331 (fun _ => ?_)
        clear hK K
        try simp only [Act.put]
        generalize (Wq327.setRow (Wq215.heap.size) #[.slice (some (A.add k)) (n - k) (c - k), .slice (some (B.add k)) (n - k) (d - k)]) = Wq332 at hZ4q329 hZ3q330 hBq331 ⊢
        refine wpAnyH_done (by kernel_rfl) ?_ _
        go_wp2_with fail
        go_meet
        case rel => exact ⟨_, _, rfl, rfl, Lib.hid ⟨hZ3q330, hZ4q329, hBq331⟩⟩
    · skip
      go_simp
      have hBq333 := Below.alloc hSq1 (Below.size hSq1) (.cells #[.slice none 0 0, .slice none 0 0] 60)
      have hZ4q335 := Cells.new Wq2 60 #[.slice none 0 0, .slice none 0 0]
      have hgep4q336 := (show w2.heap.size ≤ Wq2.heap.size from Below.size hSq1)
      have hnep4q337 := trivial
      have hbq338 := below_alloc Wq2 (.cells #[.slice none 0 0, .slice none 0 0] 60)
      clear hbq338
      refine hK.out _ _ (hBq333) (fun _ => ?_)
      clear hK K
      try simp only [Act.put, List.setIfInBounds_toArray, List.set_cons_zero, List.set_cons_succ]
      generalize (Wq2.alloc (.cells #[.slice none 0 0, .slice none 0 0] 60)) = Wq334 at hBq333 hZ4q335 hgep4q336 hnep4q337 ⊢
      refine wpAnyH_ready (rs := [4, 9]) (by kernel_rfl) (by simp) ?_
      refine' (AllReadyH.cons (o := _) ?hiq339 (fun K hK => ?_) (AllReadyH.cons (o := _) ?hiq340 (fun K hK => ?_) AllReadyH.nil))
      case hiq339 => (simp only [List.getElem?_toArray, List.getElem?_cons_zero, List.getElem?_cons_succ]; rfl)
      case hiq340 => (simp only [List.getElem?_toArray, List.getElem?_cons_zero, List.getElem?_cons_succ]; rfl)
      · skip
        go_simp
        go_at_call 58
        refine (CL.out Wq334 hBq333).mono ?_
        rintro e Wq343 ⟨rfl, hbq341⟩
        have hBq342 := below_on hBq333 (Nat.le_refl _) hbq341
        have hZ4q344 := hZ4q335.below hbq341
        have hgep4q345 := hgep4q336
        have hnep4q346 := hnep4q337
        refine hK.out _ _ (hBq342) (fun _ => ?_)
        clear hK K
        try simp only [Act.put, List.setIfInBounds_toArray, List.set_cons_zero, List.set_cons_succ]
        refine wpAnyH_ready (rs := [5, 9]) (by kernel_rfl) (by simp) ?_
        refine' (AllReadyH.cons (o := _) ?hiq347 (fun K hK => ?_) (AllReadyH.cons (o := _) ?hiq348 (fun K hK => ?_) AllReadyH.nil))
        case hiq347 => (simp only [List.getElem?_toArray, List.getElem?_cons_zero, List.getElem?_cons_succ]; rfl)
        case hiq348 => (simp only [List.getElem?_toArray, List.getElem?_cons_zero, List.getElem?_cons_succ]; rfl)
        · skip
          go_simp
          go_at_call 57
          refine (CP.out Wq343 hBq342).mono ?_
          rintro e Wq351 ⟨rfl, hbq349⟩
          have hBq350 := below_on hBq342 (Nat.le_refl _) hbq349
          have hZ4q352 := hZ4q344.below hbq349
          have hgep4q353 := hgep4q345
          have hnep4q354 := hnep4q346
          refine hK.out _ _ (hBq350) (fun _ => ?_)
          clear hK K
          try simp only [Act.put, List.setIfInBounds_toArray, List.set_cons_zero, List.set_cons_succ]
          refine' wpAnyH_take (i := 6) (oi := _) (v := _) ?hiq355 (by kernel_rfl) ?hfq355 ?hrq355 ?hQq355 ?hyq355 (hBq350) ?restq355
          case hiq355 => (simp only [List.getElem?_toArray, List.getElem?_cons_zero, List.getElem?_cons_succ]; rfl)
          case hfq355 => kernel_rfl
          case hrq355 => kernel_rfl
          case hQq355 => exact fun _ _ _ h => h
          case hyq355 => refine Or.inl ⟨by rfl, ?_⟩; intro W hSw; go_simp; try with_reducible rfl
          try simp only [Act.put, List.setIfInBounds_toArray, List.set_cons_zero, List.set_cons_succ]
          refine' wpAnyH_take (i := 7) (oi := _) (v := _) ?hiq356 (by kernel_rfl) ?hfq356 ?hrq356 ?hQq356 ?hyq356 (hBq350) ?restq356
          case hiq356 => (simp only [List.getElem?_toArray, List.getElem?_cons_zero, List.getElem?_cons_succ]; rfl)
          case hfq356 => kernel_rfl
          case hrq356 => kernel_rfl
          case hQq356 => exact fun _ _ _ h => h
          case hyq356 => refine Or.inl ⟨by rfl, ?_⟩; intro W hSw; go_simp; try with_reducible rfl
          try simp only [Act.put, List.setIfInBounds_toArray, List.set_cons_zero, List.set_cons_succ]
          refine' wpAnyH_take (i := 8) (oi := _) (v := _) ?hiq357 (by kernel_rfl) ?hfq357 ?hrq357 ?hQq357 ?hyq357 (hBq350) ?restq357
          case hiq357 => (simp only [List.getElem?_toArray, List.getElem?_cons_zero, List.getElem?_cons_succ]; rfl)
          case hfq357 => kernel_rfl
          case hrq357 => kernel_rfl
          case hQq357 => exact fun _ _ _ h => h
          case hyq357 => refine Or.inl ⟨by rfl, ?_⟩; intro W hSw; go_simp; try with_reducible rfl
          try simp only [Act.put, List.setIfInBounds_toArray, List.set_cons_zero, List.set_cons_succ]
          refine wpAnyH_ready (rs := [9]) (by kernel_rfl) (by simp) ?_
          refine' (AllReadyH.cons (o := _) ?hiq358 (fun K hK => ?_) AllReadyH.nil)
          case hiq358 => (simp only [List.getElem?_toArray, List.getElem?_cons_zero, List.getElem?_cons_succ]; rfl)
          go_simp
          have hBq359 := Below.alloc hBq350 (Below.size hBq350) (.cells #[.slice none 0 0, .slice none 0 0] 60)
          have hZ3q361 := Cells.new Wq351 60 #[.slice none 0 0, .slice none 0 0]
          have hgep3q362 := (show w2.heap.size ≤ Wq351.heap.size from Below.size hBq350)
          have hnep3q363 := (show Wq351.heap.size ≠ Wq2.heap.size from by have := hZ4q352.lt; omega)
          have hbq364 := below_alloc Wq351 (.cells #[.slice none 0 0, .slice none 0 0] 60)
          have hZ4q365 := hZ4q352.below hbq364
          have hgep4q366 := hgep4q353
          have hnep4q367 := hnep4q354
          clear hbq364
          refine hK.out _ _ (hBq359) (fun _ => ?_)
          clear hK K
          try simp only [Act.put, List.setIfInBounds_toArray, List.set_cons_zero, List.set_cons_succ]
          generalize (Wq351.alloc (.cells #[.slice none 0 0, .slice none 0 0] 60)) = Wq360 at hBq359 hZ3q361 hgep3q362 hnep3q363 hZ4q365 hgep4q366 hnep4q367 ⊢
          refine wpAnyH_ready (rs := [11]) (by kernel_rfl) (by simp) ?_
          refine' (AllReadyH.cons (o := _) ?hiq368 (fun K hK => ?_) AllReadyH.nil)
          case hiq368 => (simp only [List.getElem?_toArray, List.getElem?_cons_zero, List.getElem?_cons_succ]; rfl)
          rw [if_pos (by rfl)]
          refine wp_store_row 60 (.tmp 3) (.tmp 25) rfl (Wq351.heap.size) #[.slice (some A) k c, .slice (some B) k d] rfl rfl 60 _ hZ3q361 sizeBoth rfl (by simp [Value.oneCell']) ?_
          have hZ3q369 := hZ3q361.setRow #[.slice (some A) k c, .slice (some B) k d]
          have hZ4q370 := hZ4q365.setRow_other (Wq351.heap.size) (by first | exact hnep3q363 | exact Ne.symm hnep3q363 | exact hnep4q367 | exact Ne.symm hnep4q367) #[.slice (some A) k c, .slice (some B) k d]
          have hBq371 := below_setRow hBq359 hgep3q362 #[.slice (some A) k c, .slice (some B) k d]
          refine hK.out _ _ hBq371 (fun _ => ?_)
          clear hK K
          try simp only [Act.put]
          generalize (Wq360.setRow (Wq351.heap.size) #[.slice (some A) k c, .slice (some B) k d]) = Wq372 at hZ3q369 hZ4q370 hBq371 ⊢
          refine wpAnyH_ready (rs := [12]) (by kernel_rfl) (by simp) ?_
          refine' (AllReadyH.cons (o := _) ?hiq373 (fun K hK => ?_) AllReadyH.nil)
          case hiq373 => (simp only [List.getElem?_toArray, List.getElem?_cons_zero, List.getElem?_cons_succ]; rfl)
          rw [if_pos (by rfl)]
          refine wp_store_row 60 (.tmp 4) (.tmp 26) rfl (Wq2.heap.size) #[.slice (some (A.add k)) (n - k) (c - k), .slice (some (B.add k)) (n - k) (d - k)] rfl rfl 60 _ hZ4q370 sizeBoth rfl (by simp [Value.oneCell']) ?_
          have hZ4q374 := hZ4q370.setRow #[.slice (some (A.add k)) (n - k) (c - k), .slice (some (B.add k)) (n - k) (d - k)]
          have hZ3q375 := hZ3q369.setRow_other (Wq2.heap.size) (by first | exact hnep3q363 | exact Ne.symm hnep3q363 | exact hnep4q367 | exact Ne.symm hnep4q367) #[.slice (some (A.add k)) (n - k) (c - k), .slice (some (B.add k)) (n - k) (d - k)]
          have hBq376 := below_setRow hBq371 hgep4q366 #[.slice (some (A.add k)) (n - k) (c - k), .slice (some (B.add k)) (n - k) (d - k)]
          refine hK.out _ _ hBq376 (fun _ => ?_)
          clear hK K
          try simp only [Act.put]
          generalize (Wq372.setRow (Wq2.heap.size) #[.slice (some (A.add k)) (n - k) (c - k), .slice (some (B.add k)) (n - k) (d - k)]) = Wq377 at hZ4q374 hZ3q375 hBq376 ⊢
          refine wpAnyH_done (by kernel_rfl) ?_ _
          go_wp2_with fail
          go_meet
          case rel => exact ⟨_, _, rfl, rfl, Lib.hid ⟨hZ3q375, hZ4q374, hBq376⟩⟩
        · skip
          go_simp
          have hBq378 := Below.alloc hBq342 (Below.size hBq342) (.cells #[.slice none 0 0, .slice none 0 0] 60)
          have hZ3q380 := Cells.new Wq343 60 #[.slice none 0 0, .slice none 0 0]
          have hgep3q381 := (show w2.heap.size ≤ Wq343.heap.size from Below.size hBq342)
          have hnep3q382 := (show Wq343.heap.size ≠ Wq2.heap.size from by have := hZ4q344.lt; omega)
          have hbq383 := below_alloc Wq343 (.cells #[.slice none 0 0, .slice none 0 0] 60)
          have hZ4q384 := hZ4q344.below hbq383
          have hgep4q385 := hgep4q345
          have hnep4q386 := hnep4q346
          clear hbq383
          refine hK.out _ _ (hBq378) (fun _ => ?_)
          clear hK K
          try simp only [Act.put, List.setIfInBounds_toArray, List.set_cons_zero, List.set_cons_succ]
          generalize (Wq343.alloc (.cells #[.slice none 0 0, .slice none 0 0] 60)) = Wq379 at hBq378 hZ3q380 hgep3q381 hnep3q382 hZ4q384 hgep4q385 hnep4q386 ⊢
          refine wpAnyH_ready (rs := [5]) (by kernel_rfl) (by simp) ?_
          refine' (AllReadyH.cons (o := _) ?hiq387 (fun K hK => ?_) AllReadyH.nil)
          case hiq387 => (simp only [List.getElem?_toArray, List.getElem?_cons_zero, List.getElem?_cons_succ]; rfl)
          go_simp
          go_at_call 57
          refine (CP.out Wq379 hBq378).mono ?_
          rintro e Wq390 ⟨rfl, hbq388⟩
          have hBq389 := below_on hBq378 (Nat.le_refl _) hbq388
          have hZ4q391 := hZ4q384.below hbq388
          have hgep4q392 := hgep4q385
          have hnep4q393 := hnep4q386
          have hZ3q394 := hZ3q380.below hbq388
          have hgep3q395 := hgep3q381
          have hnep3q396 := hnep3q382
          refine hK.out _ _ (hBq389) (fun _ => ?_)
          clear hK K
          try simp only [Act.put, List.setIfInBounds_toArray, List.set_cons_zero, List.set_cons_succ]
          refine' wpAnyH_take (i := 6) (oi := _) (v := _) ?hiq397 (by kernel_rfl) ?hfq397 ?hrq397 ?hQq397 ?hyq397 (hBq389) ?restq397
          case hiq397 => (simp only [List.getElem?_toArray, List.getElem?_cons_zero, List.getElem?_cons_succ]; rfl)
          case hfq397 => kernel_rfl
          case hrq397 => kernel_rfl
          case hQq397 => exact fun _ _ _ h => h
          case hyq397 => refine Or.inl ⟨by rfl, ?_⟩; intro W hSw; go_simp; try with_reducible rfl
          try simp only [Act.put, List.setIfInBounds_toArray, List.set_cons_zero, List.set_cons_succ]
          refine' wpAnyH_take (i := 7) (oi := _) (v := _) ?hiq398 (by kernel_rfl) ?hfq398 ?hrq398 ?hQq398 ?hyq398 (hBq389) ?restq398
          case hiq398 => (simp only [List.getElem?_toArray, List.getElem?_cons_zero, List.getElem?_cons_succ]; rfl)
          case hfq398 => kernel_rfl
          case hrq398 => kernel_rfl
          case hQq398 => exact fun _ _ _ h => h
          case hyq398 => refine Or.inl ⟨by rfl, ?_⟩; intro W hSw; go_simp; try with_reducible rfl
          try simp only [Act.put, List.setIfInBounds_toArray, List.set_cons_zero, List.set_cons_succ]
          refine' wpAnyH_take (i := 8) (oi := _) (v := _) ?hiq399 (by kernel_rfl) ?hfq399 ?hrq399 ?hQq399 ?hyq399 (hBq389) ?restq399
          case hiq399 => (simp only [List.getElem?_toArray, List.getElem?_cons_zero, List.getElem?_cons_succ]; rfl)
          case hfq399 => kernel_rfl
          case hrq399 => kernel_rfl
          case hQq399 => exact fun _ _ _ h => h
          case hyq399 => refine Or.inl ⟨by rfl, ?_⟩; intro W hSw; go_simp; try with_reducible rfl
          try simp only [Act.put, List.setIfInBounds_toArray, List.set_cons_zero, List.set_cons_succ]
          refine wpAnyH_ready (rs := [11]) (by kernel_rfl) (by simp) ?_
          refine' (AllReadyH.cons (o := _) ?hiq400 (fun K hK => ?_) AllReadyH.nil)
          case hiq400 => (simp only [List.getElem?_toArray, List.getElem?_cons_zero, List.getElem?_cons_succ]; rfl)
          rw [if_pos (by rfl)]
          refine wp_store_row 60 (.tmp 3) (.tmp 25) rfl (Wq343.heap.size) #[.slice (some A) k c, .slice (some B) k d] rfl rfl 60 _ hZ3q394 sizeBoth rfl (by simp [Value.oneCell']) ?_
          have hZ3q401 := hZ3q394.setRow #[.slice (some A) k c, .slice (some B) k d]
          have hZ4q402 := hZ4q391.setRow_other (Wq343.heap.size) (by first | exact hnep3q396 | exact Ne.symm hnep3q396 | exact hnep4q393 | exact Ne.symm hnep4q393) #[.slice (some A) k c, .slice (some B) k d]
          have hBq403 := below_setRow hBq389 hgep3q395 #[.slice (some A) k c, .slice (some B) k d]
          refine hK.out _ _ hBq403 (fun _ => ?_)
          clear hK K
          try simp only [Act.put]
          generalize (Wq390.setRow (Wq343.heap.size) #[.slice (some A) k c, .slice (some B) k d]) = Wq404 at hZ3q401 hZ4q402 hBq403 ⊢
          refine wpAnyH_ready (rs := [12]) (by kernel_rfl) (by simp) ?_
          refine' (AllReadyH.cons (o := _) ?hiq405 (fun K hK => ?_) AllReadyH.nil)
          case hiq405 => (simp only [List.getElem?_toArray, List.getElem?_cons_zero, List.getElem?_cons_succ]; rfl)
          rw [if_pos (by rfl)]
          refine wp_store_row 60 (.tmp 4) (.tmp 26) rfl (Wq2.heap.size) #[.slice (some (A.add k)) (n - k) (c - k), .slice (some (B.add k)) (n - k) (d - k)] rfl rfl 60 _ hZ4q402 sizeBoth rfl (by simp [Value.oneCell']) ?_
          have hZ4q406 := hZ4q402.setRow #[.slice (some (A.add k)) (n - k) (c - k), .slice (some (B.add k)) (n - k) (d - k)]
          have hZ3q407 := hZ3q401.setRow_other (Wq2.heap.size) (by first | exact hnep3q396 | exact Ne.symm hnep3q396 | exact hnep4q393 | exact Ne.symm hnep4q393) #[.slice (some (A.add k)) (n - k) (c - k), .slice (some (B.add k)) (n - k) (d - k)]
          have hBq408 := below_setRow hBq403 hgep4q392 #[.slice (some (A.add k)) (n - k) (c - k), .slice (some (B.add k)) (n - k) (d - k)]
          refine hK.out _ _ hBq408 (fun _ => ?_)
          clear hK K
          try simp only [Act.put]
          generalize (Wq404.setRow (Wq2.heap.size) #[.slice (some (A.add k)) (n - k) (c - k), .slice (some (B.add k)) (n - k) (d - k)]) = Wq409 at hZ4q406 hZ3q407 hBq408 ⊢
          refine wpAnyH_done (by kernel_rfl) ?_ _
          go_wp2_with fail
          go_meet
          case rel => exact ⟨_, _, rfl, rfl, Lib.hid ⟨hZ3q407, hZ4q406, hBq408⟩⟩
      · skip
        go_simp
        have hBq410 := Below.alloc hBq333 (Below.size hBq333) (.cells #[.slice none 0 0, .slice none 0 0] 60)
        have hZ3q412 := Cells.new Wq334 60 #[.slice none 0 0, .slice none 0 0]
        have hgep3q413 := (show w2.heap.size ≤ Wq334.heap.size from Below.size hBq333)
        have hnep3q414 := (show Wq334.heap.size ≠ Wq2.heap.size from by have := hZ4q335.lt; omega)
        have hbq415 := below_alloc Wq334 (.cells #[.slice none 0 0, .slice none 0 0] 60)
        have hZ4q416 := hZ4q335.below hbq415
        have hgep4q417 := hgep4q336
        have hnep4q418 := hnep4q337
        clear hbq415
        refine hK.out _ _ (hBq410) (fun _ => ?_)
        clear hK K
        try simp only [Act.put, List.setIfInBounds_toArray, List.set_cons_zero, List.set_cons_succ]
        generalize (Wq334.alloc (.cells #[.slice none 0 0, .slice none 0 0] 60)) = Wq411 at hBq410 hZ3q412 hgep3q413 hnep3q414 hZ4q416 hgep4q417 hnep4q418 ⊢
        refine wpAnyH_ready (rs := [4]) (by kernel_rfl) (by simp) ?_
        refine' (AllReadyH.cons (o := _) ?hiq419 (fun K hK => ?_) AllReadyH.nil)
        case hiq419 => (simp only [List.getElem?_toArray, List.getElem?_cons_zero, List.getElem?_cons_succ]; rfl)
        go_simp
        go_at_call 58
        refine (CL.out Wq411 hBq410).mono ?_
        rintro e Wq422 ⟨rfl, hbq420⟩
        have hBq421 := below_on hBq410 (Nat.le_refl _) hbq420
        have hZ4q423 := hZ4q416.below hbq420
        have hgep4q424 := hgep4q417
        have hnep4q425 := hnep4q418
        have hZ3q426 := hZ3q412.below hbq420
        have hgep3q427 := hgep3q413
        have hnep3q428 := hnep3q414
        refine hK.out _ _ (hBq421) (fun _ => ?_)
        clear hK K
        try simp only [Act.put, List.setIfInBounds_toArray, List.set_cons_zero, List.set_cons_succ]
        refine wpAnyH_ready (rs := [5]) (by kernel_rfl) (by simp) ?_
        refine' (AllReadyH.cons (o := _) ?hiq429 (fun K hK => ?_) AllReadyH.nil)
        case hiq429 => (simp only [List.getElem?_toArray, List.getElem?_cons_zero, List.getElem?_cons_succ]; rfl)
        go_simp
        go_at_call 57
        refine (CP.out Wq422 hBq421).mono ?_
        rintro e Wq432 ⟨rfl, hbq430⟩
        have hBq431 := below_on hBq421 (Nat.le_refl _) hbq430
        have hZ4q433 := hZ4q423.below hbq430
        have hgep4q434 := hgep4q424
        have hnep4q435 := hnep4q425
        have hZ3q436 := hZ3q426.below hbq430
        have hgep3q437 := hgep3q427
        have hnep3q438 := hnep3q428
        refine hK.out _ _ (hBq431) (fun _ => ?_)
        clear hK K
        try simp only [Act.put, List.setIfInBounds_toArray, List.set_cons_zero, List.set_cons_succ]
        refine' wpAnyH_take (i := 6) (oi := _) (v := _) ?hiq439 (by kernel_rfl) ?hfq439 ?hrq439 ?hQq439 ?hyq439 (hBq431) ?restq439
        case hiq439 => (simp only [List.getElem?_toArray, List.getElem?_cons_zero, List.getElem?_cons_succ]; rfl)
        case hfq439 => kernel_rfl
        case hrq439 => kernel_rfl
        case hQq439 => exact fun _ _ _ h => h
        case hyq439 => refine Or.inl ⟨by rfl, ?_⟩; intro W hSw; go_simp; try with_reducible rfl
        try simp only [Act.put, List.setIfInBounds_toArray, List.set_cons_zero, List.set_cons_succ]
        refine' wpAnyH_take (i := 7) (oi := _) (v := _) ?hiq440 (by kernel_rfl) ?hfq440 ?hrq440 ?hQq440 ?hyq440 (hBq431) ?restq440
        case hiq440 => (simp only [List.getElem?_toArray, List.getElem?_cons_zero, List.getElem?_cons_succ]; rfl)
        case hfq440 => kernel_rfl
        case hrq440 => kernel_rfl
        case hQq440 => exact fun _ _ _ h => h
        case hyq440 => refine Or.inl ⟨by rfl, ?_⟩; intro W hSw; go_simp; try with_reducible rfl
        try simp only [Act.put, List.setIfInBounds_toArray, List.set_cons_zero, List.set_cons_succ]
        refine' wpAnyH_take (i := 8) (oi := _) (v := _) ?hiq441 (by kernel_rfl) ?hfq441 ?hrq441 ?hQq441 ?hyq441 (hBq431) ?restq441
        case hiq441 => (simp only [List.getElem?_toArray, List.getElem?_cons_zero, List.getElem?_cons_succ]; rfl)
        case hfq441 => kernel_rfl
        case hrq441 => kernel_rfl
        case hQq441 => exact fun _ _ _ h => h
        case hyq441 => refine Or.inl ⟨by rfl, ?_⟩; intro W hSw; go_simp; try with_reducible rfl
        try simp only [Act.put, List.setIfInBounds_toArray, List.set_cons_zero, List.set_cons_succ]
        refine wpAnyH_ready (rs := [11]) (by kernel_rfl) (by simp) ?_
        refine' (AllReadyH.cons (o := _) ?hiq442 (fun K hK => ?_) AllReadyH.nil)
        case hiq442 => (simp only [List.getElem?_toArray, List.getElem?_cons_zero, List.getElem?_cons_succ]; rfl)
        rw [if_pos (by rfl)]
        refine wp_store_row 60 (.tmp 3) (.tmp 25) rfl (Wq334.heap.size) #[.slice (some A) k c, .slice (some B) k d] rfl rfl 60 _ hZ3q436 sizeBoth rfl (by simp [Value.oneCell']) ?_
        have hZ3q443 := hZ3q436.setRow #[.slice (some A) k c, .slice (some B) k d]
        have hZ4q444 := hZ4q433.setRow_other (Wq334.heap.size) (by first | exact hnep3q438 | exact Ne.symm hnep3q438 | exact hnep4q435 | exact Ne.symm hnep4q435) #[.slice (some A) k c, .slice (some B) k d]
        have hBq445 := below_setRow hBq431 hgep3q437 #[.slice (some A) k c, .slice (some B) k d]
        refine hK.out _ _ hBq445 (fun _ => ?_)
        clear hK K
        try simp only [Act.put]
        generalize (Wq432.setRow (Wq334.heap.size) #[.slice (some A) k c, .slice (some B) k d]) = Wq446 at hZ3q443 hZ4q444 hBq445 ⊢
        refine wpAnyH_ready (rs := [12]) (by kernel_rfl) (by simp) ?_
        refine' (AllReadyH.cons (o := _) ?hiq447 (fun K hK => ?_) AllReadyH.nil)
        case hiq447 => (simp only [List.getElem?_toArray, List.getElem?_cons_zero, List.getElem?_cons_succ]; rfl)
        rw [if_pos (by rfl)]
        refine wp_store_row 60 (.tmp 4) (.tmp 26) rfl (Wq2.heap.size) #[.slice (some (A.add k)) (n - k) (c - k), .slice (some (B.add k)) (n - k) (d - k)] rfl rfl 60 _ hZ4q444 sizeBoth rfl (by simp [Value.oneCell']) ?_
        have hZ4q448 := hZ4q444.setRow #[.slice (some (A.add k)) (n - k) (c - k), .slice (some (B.add k)) (n - k) (d - k)]
        have hZ3q449 := hZ3q443.setRow_other (Wq2.heap.size) (by first | exact hnep3q438 | exact Ne.symm hnep3q438 | exact hnep4q435 | exact Ne.symm hnep4q435) #[.slice (some (A.add k)) (n - k) (c - k), .slice (some (B.add k)) (n - k) (d - k)]
        have hBq450 := below_setRow hBq445 hgep4q434 #[.slice (some (A.add k)) (n - k) (c - k), .slice (some (B.add k)) (n - k) (d - k)]
        refine hK.out _ _ hBq450 (fun _ => ?_)
        clear hK K
        try simp only [Act.put]
        generalize (Wq446.setRow (Wq2.heap.size) #[.slice (some (A.add k)) (n - k) (c - k), .slice (some (B.add k)) (n - k) (d - k)]) = Wq451 at hZ4q448 hZ3q449 hBq450 ⊢
        refine wpAnyH_done (by kernel_rfl) ?_ _
        go_wp2_with fail
        go_meet
        case rel => exact ⟨_, _, rfl, rfl, Lib.hid ⟨hZ3q449, hZ4q448, hBq450⟩⟩
  case rest =>
    obtain ⟨p, q, rfl, rfl, HR⟩ := hcut
    have bw := below_on B2.out (Nat.le_refl _) HR.out.2.2
    have B4 := Lib.hid bw
    have pg : p ≠ g + 1 := fun e => by
      have h1 := H2.out.res.below HR.out.2.2
      rw [← e] at h1
      have h3 := HR.out.1
      unfold BArr at h1
      unfold Cells at h3
      rw [h1] at h3
      cases h3
    have qg : q ≠ g + 1 := fun e => by
      have h1 := H2.out.res.below HR.out.2.2
      rw [← e] at h1
      have h3 := HR.out.2.1
      unfold BArr at h1
      unfold Cells at h3
      rw [h1] at h3
      cases h3
    have HP := Lib.hid (fun (W : World) (hW : But (· = g + 1) wc W) => show Cells W p 60 #[.slice (some A) k c, .slice (some B) k d] from but_cells hW HR.out.1 pg)
    have HQ := Lib.hid (fun (W : World) (hW : But (· = g + 1) wc W) => show Cells W q 60 #[.slice (some (A.add k)) (n - k) (c - k), .slice (some (B.add k)) (n - k) (d - k)] from but_cells hW HR.out.2.1 qg)
    clear bw pg qg
    go_upto_region 4 with fail
    have hSs1 : Below wc.heap.size wc wc.drew := (Below.refl _ _).drew
    have hress3 := (H2.out.res.below HR.out.2.2).below hSs1
    refine wp_region_held_drew (S := fun W => But (· = g + 1) wc W) (by kernel_rfl) (But.of_below hSs1) (fun _ => ?_)
    change wpAnyH _ _ _ _ _ _ _ _ wc.drew
    generalize wc.drew = Ws2 at hSs1 hress3 ⊢
    refine' wpAnyH_take (i := 0) (oi := _) (v := .agg #[.slice (some A) k c, .slice (some B) k d]) ?his4 (by kernel_rfl) ?hfs4 ?hrs4 ?hQs4 ?hys4 (But.of_below hSs1) ?rests4
    case his4 => (simp only [List.getElem?_toArray, List.getElem?_cons_zero]; rfl)
    case hfs4 => kernel_rfl
    case hrs4 => kernel_rfl
    case hQs4 => exact fun _ _ _ h => h
    case hys4 => refine Or.inl ⟨by rfl, ?_⟩; intro W hSw; exact load_both_op (.tmp 3) (by rfl) (by rfl) (HP.out W hSw)
    try simp only [Act.put, List.setIfInBounds_toArray, List.set_cons_zero, List.set_cons_succ]
    refine' wpAnyH_take (i := 2) (oi := _) (v := .agg #[.slice (some (A.add k)) (n - k) (c - k), .slice (some (B.add k)) (n - k) (d - k)]) ?his5 (by kernel_rfl) ?hfs5 ?hrs5 ?hQs5 ?hys5 (But.of_below hSs1) ?rests5
    case his5 => (simp only [List.getElem?_toArray, List.getElem?_cons_zero, List.getElem?_cons_succ]; rfl)
    case hfs5 => kernel_rfl
    case hrs5 => kernel_rfl
    case hQs5 => exact fun _ _ _ h => h
    case hys5 => refine Or.inl ⟨by rfl, ?_⟩; intro W hSw; exact load_both_op (.tmp 4) (by rfl) (by rfl) (HQ.out W hSw)
    try simp only [Act.put, List.setIfInBounds_toArray, List.set_cons_zero, List.set_cons_succ]
    refine wpAnyH_ready (rs := [1]) (by kernel_rfl) (by simp) ?_
    refine' (AllReadyH.cons (o := _) ?his6 (fun K hK => ?_) AllReadyH.nil)
    case his6 => (simp only [List.getElem?_toArray, List.getElem?_cons_zero, List.getElem?_cons_succ]; rfl)
    go_simp
    go_at_call 33
    refine (C1.out Ws2 (below_on B4.out (Nat.le_refl _) hSs1)).mono ?_
    rintro e Ws9 ⟨hTs10, hbs7⟩
    have hBs8 := below_on hSs1 (Nat.le_refl _) hbs7
    rcases hTs10 with ⟨rfl, hs1⟩ | ⟨u, rfl, hu⟩
    · skip
      have hress11 := hress3.below hbs7
      refine hK.out _ _ (But.of_below hBs8) (fun _ => ?_)
      clear hK K
      try simp only [Act.put, List.setIfInBounds_toArray, List.set_cons_zero, List.set_cons_succ]
      refine wpAnyH_ready (rs := [3]) (by kernel_rfl) (by simp) ?_
      refine' (AllReadyH.cons (o := _) ?his12 (fun K hK => ?_) AllReadyH.nil)
      case his12 => (simp only [List.getElem?_toArray, List.getElem?_cons_zero, List.getElem?_cons_succ]; rfl)
      go_simp
      go_at_call 33
      refine (C2.out Ws9 (below_on B4.out (Nat.le_refl _) hBs8)).mono ?_
      rintro e Ws15 ⟨hTs16, hbs13⟩
      have hBs14 := below_on hBs8 (Nat.le_refl _) hbs13
      rcases hTs16 with ⟨rfl, hs2⟩ | ⟨u, rfl, hu⟩
      · skip
        have hress17 := hress11.below hbs13
        refine hK.out _ _ (But.of_below hBs14) (fun _ => ?_)
        clear hK K
        try simp only [Act.put, List.setIfInBounds_toArray, List.set_cons_zero, List.set_cons_succ]
        refine wpAnyH_ready (rs := [4]) (by kernel_rfl) (by simp) ?_
        refine' (AllReadyH.cons (o := _) ?his18 (fun K hK => ?_) AllReadyH.nil)
        case his18 => (simp only [List.getElem?_toArray, List.getElem?_cons_zero, List.getElem?_cons_succ]; rfl)
        go_simp
        go_at_call 59
        refine (C3.out Ws15 (below_on B4.out (Nat.le_refl _) hBs14)).mono ?_
        rintro e Ws21 ⟨hTs22, hbs19⟩
        have hBs20 := below_on hBs14 (Nat.le_refl _) hbs19
        rcases hTs22 with ⟨rfl, hs3⟩ | ⟨u, rfl, hu⟩
        · skip
          have hress23 := hress17.below hbs19
          refine hK.out _ _ (But.of_below hBs20) (fun _ => ?_)
          clear hK K
          try simp only [Act.put, List.setIfInBounds_toArray, List.set_cons_zero, List.set_cons_succ]
          refine wpAnyH_ready (rs := [5]) (by kernel_rfl) (by simp) ?_
          refine' (AllReadyH.cons (o := _) ?his24 (fun K hK => ?_) AllReadyH.nil)
          case his24 => (simp only [List.getElem?_toArray, List.getElem?_cons_zero, List.getElem?_cons_succ]; rfl)
          rw [if_pos (by rfl)]
          have hf := hress23
          refine step_store_pairC (.tmp 2) (.tmp 31) rfl (g + 1) rfl zero64 P (by rfl) Pl hf rfl ?_
          have hz : Below g w (Ws21.setRow (g + 1) (bvs P).toArray) := below_setRow (below_on H2.out.below (Nat.le_of_eq HG.out.symm) (below_on HR.out.2.2 (Nat.le_refl _) hBs20)) (by omega) _
          refine hK.out _ _ (but_setRow (S := (· = g + 1)) (But.of_below hBs20) rfl _) (fun _ => ?_)
          clear hK K
          try simp only [Act.put]
          have hf2 := hf.setRow P
          generalize (Ws21.setRow (g + 1) (bvs P).toArray) = Wz at hz hf2 ⊢
          refine wpAnyH_done (by kernel_rfl) ?_ _
          go_wp2_with fail
          refine bodyPost_ret_by (results_cell_row (p := 2) (ty := 58) (by kernel_rfl) _ _ (g + 1) 58 (bvs P).toArray (0, 0) _ rfl hf2 Tryd.underlying58 rfl (by rw [List.size_toArray, bvs_length, Pl]; exact sizePairC)) rfl ?_
          exact ⟨.inl ⟨rfl, HCUT.out hs1 hs2 hs3⟩, hz⟩
        · skip
          go_wp2
          exact ⟨rfl, .inr ⟨u, rfl, hu⟩, by rw [← HG.out]; exact below_on B4.out (Nat.le_refl _) hBs20⟩
      · skip
        go_wp2
        exact ⟨rfl, .inr ⟨u, rfl, hu⟩, by rw [← HG.out]; exact below_on B4.out (Nat.le_refl _) hBs14⟩
    · skip
      go_wp2
      exact ⟨rfl, .inr ⟨u, rfl, hu⟩, by rw [← HG.out]; exact below_on B4.out (Nat.le_refl _) hBs8⟩
end

theorem down_any : ∀ (n : Nat) (w : World) (A B : Addr) (c d : Nat) (R S : List (List Nat)), Ent w (some A) n c R → Ent w (some B) n d S → Knows w → Starts w → 1 ≤ n → n ≤ 60000 →
    Calls Tryd.prog 33 #[.agg #[.slice (some A) n c, .slice (some B) n d]] w fun e w' => Told w.heap.size (sv (rtl R ++ rtl S)) (rtl R = rtl S → R = S) e w' ∧ Below w.heap.size w w' := by
  intro n
  induction n using Nat.strongRecOn with
  | ind n ih =>
    intro w A B c d R S E1 E2 hk hks h1 h6
    by_cases hn : n = 1
    · subst hn; exact down_one E1 E2 hk hks
    · exact down_more E1 E2 hk hks (by omega) h6 fun m hm w A B c d R S E1 E2 hk hks h1 => ih m hm w A B c d R S E1 E2 hk hks h1 (by omega)

end Go.Proofs.YtcekfnngnjpeeaaDoor

/-
  slices.EqualFunc of entries, clashes.begins.
-/
namespace Go.Proofs.YtcekfnngnjpeeaaDoor
open Go.RowKit

section
variable {w : World} {A B : Option Addr} {n c m d : Nat} {R S : List (List Nat)}

set_option maxRecDepth 100000 in
set_option maxHeartbeats 1000000 in
theorem eqFunc_any (h1 : Ent w A n c R) (h2 : Ent w B n d S) (hn : n ≤ 1000000) :
    Calls Tryd.prog 54 #[.slice A n c, .slice B n d, .func (.func 24) #[] #[]] w fun e w' => e = .returned (.bool (decide (R = S))) ∧ w' = w := by
  have dn : ((n : Int) != (n : Int)) = false := by simp
  have H := Lib.hid (And.intro h1 h2)
  clear h1 h2
  go_enter Tryd.func54, Tryd.ntmps54
  go_wp2
  go_loopw [7, 8, 9, 17] (fun _ _ _ i wr => ∃ j : Nat, j ≤ n ∧ i = .int .i64 (j : Int) ∧ Hid (R.take j = S.take j) ∧ wr = w) (fun _ _ _ i _ => n - (intOf i).toNat)
  case atStart => exact ⟨0, Nat.zero_le _, rfl, Lib.hid rfl, rfl⟩
  case round =>
    obtain ⟨j, hj, rfl, HT, e⟩ := hrel
    have e' := e.symm
    clear e
    subst e'
    by_cases hlt : j < n
    · obtain ⟨ad, X, k, q, xs, rfl, hx, hcx, hX, _⟩ := H.out.1.at_ hlt
      obtain ⟨ad2, Y, k2, q2, ys, rfl, hy, hcy, hY, _⟩ := H.out.2.at_ hlt
      have hji : (j : Int) < (n : Int) := by omega
      have CE := Lib.hid (equal_any hX hY)
      by_cases hxy : xs = ys
      · rw [decide_eq_true hxy] at CE
        have HN := Lib.hid (show R.take (j + 1) = S.take (j + 1) by rw [rows_snoc hx, rows_snoc hy, HT.out, hxy])
        clear hx hy hX hY hxy HT
        go_wp2_with fail
        refine CE.out.mono ?_
        rintro e w' ⟨rfl, e1⟩
        obtain rfl := e1.symm
        clear e1
        go_wp2
        go_roundw
        case rel => exact ⟨j + 1, by omega, by go_num, HN, trivial⟩
        case measure => simp [intOf]; omega
      · rw [decide_eq_false hxy] at CE
        have HN := Lib.hid (show R ≠ S from fun e => by rw [e, hy] at hx; cases hx; exact hxy rfl)
        clear hx hy hX hY hxy HT
        go_wp2_with fail
        refine CE.out.mono ?_
        rintro e w' ⟨rfl, e1⟩
        obtain rfl := e1.symm
        clear e1
        go_wp2
        go_ret
        exact ⟨by rw [decide_eq_false HN.out]; rfl, rfl⟩
    · obtain rfl : j = n := by omega
      have hji : ¬ ((j : Int) < (j : Int)) := by omega
      have HN := Lib.hid (show R = S by
        have := HT.out
        rw [List.take_of_length_le (by rw [H.out.1.len]; omega), List.take_of_length_le (by rw [H.out.2.len]; omega)] at this
        exact this)
      clear HT
      go_wp2
      go_ret
      exact ⟨by rw [decide_eq_true HN.out]; rfl, rfl⟩

set_option maxRecDepth 100000 in
set_option maxHeartbeats 1000000 in
theorem begins_any (h1 : Ent w A n c R) (h2 : Ent w B m d S) (hn : n ≤ m) (hm : n ≤ 1000000) :
    Calls Tryd.prog 29 #[.slice A n c, .slice B m d] w fun e w' => e = .returned (.bool (decide (R = S.take n))) ∧ w' = w := by
  have hcut := fun W => run_takeR (A := B) hn h2.cap h2.nil W
  have C := Lib.hid (eqFunc_any h1 (h2.take hn) hm)
  clear h1 h2
  go_enter Tryd.func29, Tryd.ntmps29
  go_wp2_with fail
  refine C.out.mono ?_
  rintro e w' ⟨rfl, e1⟩
  obtain rfl := e1.symm
  clear e1
  go_wp2
  go_ret
  exact ⟨rfl, rfl⟩
end

end Go.Proofs.YtcekfnngnjpeeaaDoor

/-
  leaves.Leaf, leaves.Node.
-/
namespace Go.Proofs.YtcekfnngnjpeeaaDoor
open Go.RowKit

set_option maxRecDepth 100000 in
set_option maxHeartbeats 2000000 in
theorem leaf_any (A : Option Addr) (n c : Nat) (xs : List Nat) (w : World) (hx : Came w A n c xs) (hk : Knows w) (hs : Starts w) (hn : n ≤ 800000000) :
    Calls Tryd.prog 19 #[.slice A n c] w fun e w' => e = .returned (sv (leafL xs)) ∧ Below w.heap.size w w' := by
  have e0 : (bvs zero32).toArray = #[.int .u8 0, .int .u8 0, .int .u8 0, .int .u8 0, .int .u8 0, .int .u8 0, .int .u8 0, .int .u8 0, .int .u8 0, .int .u8 0, .int .u8 0, .int .u8 0, .int .u8 0, .int .u8 0, .int .u8 0, .int .u8 0, .int .u8 0, .int .u8 0, .int .u8 0, .int .u8 0, .int .u8 0, .int .u8 0, .int .u8 0, .int .u8 0, .int .u8 0, .int .u8 0, .int .u8 0, .int .u8 0, .int .u8 0, .int .u8 0, .int .u8 0, .int .u8 0] := rfl
  have f1 := BArr.new w 29 zero32
  have b1 := below_alloc w (.cells (bvs zero32).toArray 29)
  have s1 : (w.alloc (.cells (bvs zero32).toArray 29)).heap.size = w.heap.size + 1 := World.size_alloc _ _
  rw [e0] at f1 b1 s1
  clear e0
  have HF := Lib.hid (And.intro f1 (And.intro b1 s1))
  have HX := Lib.hid hx
  clear f1 b1 s1 hx
  go_enter Tryd.func19, Tryd.ntmps19
  go_upto_region 1 with fail
  obtain ⟨w1, hw1⟩ : ∃ w1, w1 = w.alloc (.cells #[.int .u8 0, .int .u8 0, .int .u8 0, .int .u8 0, .int .u8 0, .int .u8 0, .int .u8 0, .int .u8 0, .int .u8 0, .int .u8 0, .int .u8 0, .int .u8 0, .int .u8 0, .int .u8 0, .int .u8 0, .int .u8 0, .int .u8 0, .int .u8 0, .int .u8 0, .int .u8 0, .int .u8 0, .int .u8 0, .int .u8 0, .int .u8 0, .int .u8 0, .int .u8 0, .int .u8 0, .int .u8 0, .int .u8 0, .int .u8 0, .int .u8 0, .int .u8 0] 29) := ⟨_, rfl⟩
  rw [← hw1] at HF ⊢
  clear hw1
  obtain ⟨W, hW⟩ : ∃ W, W = w1.alloc (.cells #[.slice A n c] 22) := ⟨_, rfl⟩
  have hb : Below w1.heap.size w1 W := by rw [hW]; exact below_alloc _ _
  have hcell : W.cell? ⟨w1.heap.size, 0, none⟩ = some (.slice A n c) := by rw [hW]; exact cell_new1 _ _ _
  have bel := below_on HF.out.2.1 (Nat.le_refl _) hb
  have C := Lib.hid (marked_any 0 (some ⟨w1.heap.size, 0, none⟩) 1 1 [xs] W (by omega) ⟨rfl, fun r ys hr => by
    have hr' := (List.getElem?_eq_some_iff.1 hr).1
    obtain rfl : r = 0 := by simp at hr'; omega
    cases hr
    exact ⟨_, A, n, c, rfl, hcell, HX.out.below bel, by omega⟩⟩ (hk.below bel) (hs.below bel) (by have := HX.out.in_.len; simp [tot]; omega) (by omega))
  have hl32 := sha_length (0 :: [xs].flatten)
  have HS : leafL xs = sha (0 :: [xs].flatten) := by rw [leafL]; simp
  obtain ⟨s, hs0⟩ : ∃ s, sha (0 :: [xs].flatten) = s := ⟨_, rfl⟩
  rw [hs0] at C hl32 HS
  have HS' := Lib.hid HS
  clear hs0 HS
  have H1 := Lib.hid (And.intro (HF.out.1.below hb) bel)
  clear hb hcell bel
  go_wp2_with fail
  rw [← hW]
  clear hW
  refine C.out.mono ?_
  rintro e w4 ⟨rfl, hb4⟩
  have f4 := H1.out.1.below hb4
  have HZ32 := Lib.hid (show zero32.length = 32 from rfl)
  go_wp2_with (with_reducible refine wpList_store_sum rfl (.tmp 2) (.tmp 5) rfl w.heap.size rfl zero32 s HZ32 hl32 f4 rfl ?_)
  refine bodyPost_ret_by (results_cell_row (p := 2) (ty := 29) (by kernel_rfl) _ _ w.heap.size 29 (bvs s).toArray (0, 0) _ rfl (f4.setRow _) Tryd.underlying29 rfl (by rw [List.size_toArray, bvs_length, hl32]; exact sizeSum)) rfl ?_
  exact ⟨by rw [HS'.out]; rfl, below_setRow (below_on H1.out.2 (Nat.le_refl _) hb4) (by omega) _⟩

end Go.Proofs.YtcekfnngnjpeeaaDoor

/-
  append of a list of sums to one of the call's own.
-/
namespace Go.Proofs.YtcekfnngnjpeeaaDoor
open Go.RowKit

theorem own_formS {w : World} {base : Nat} {e : TypeId} {v : Value} {n : Nat} {xs : List Value} (h : w.ownsRow base e 32 v n xs) : ∃ A c, v = .slice A n c := by
  rcases h.2 with ⟨e1, h0⟩ | ⟨g, cap, cur, e1, _⟩
  · subst h0; exact ⟨none, 0, e1⟩
  · exact ⟨_, cap, e1⟩

theorem run_sapp_at (w : World) (ty : TypeId) (base : Nat) (A : Option Addr) (n c : Nat) (xs : List Nat) (hown : w.ownsRow base 29 32 (.slice A n c) n (bvs xs))
    (A2 : Option Addr) (m c2 : Nat) (ys : List Nat) (hin : InS w A2 m ys) (hnil : A2 = none → c2 = 0) (hle : n + m ≤ 1000000000) (hbase : base ≤ w.heap.size) :
    ∃ A' c' w', (Builtin.append_ #[33, 33] ty #[.slice A n c, .slice A2 m c2]).run Tryd.prog w = .ok (.slice A' (n + m) c') w' ∧
      w'.ownsRow base 29 32 (.slice A' (n + m) c') (n + m) (bvs (xs ++ ys)) ∧ Next w w' (.slice A n c) (.slice A' (n + m) c') := by
  obtain ⟨i0, hi, hz0, hz1, hz2⟩ := info_parts infoSum
  cases A2 with
  | none =>
    obtain rfl := hnil rfl
    have hy : ys = [] := by
      cases ys with
      | nil => rfl
      | cons y ys =>
        obtain ⟨ad, e, _⟩ := hin.rd 0 y rfl
        cases e
    subst hy
    obtain rfl : m = 0 := by have := hin.len; simp at this; omega
    exact ⟨A, c, w, run_append_owned_none (P := Tryd.prog) (w := w) base 33 ty 29 i0 32 Tryd.underlying33 hi _ n (bvs xs) hown, by simpa using hown, ⟨rfl, rfl, rfl, Nat.le_refl _, fun _ _ _ => rfl⟩, .inl rfl⟩
  | some ad =>
    obtain ⟨v', w', hr, h2, h3, _, h5⟩ := run_append_own_at (P := Tryd.prog) (w := w) base 33 ty 29 i0 _ 32 32 Tryd.underlying33 hi hz0 hz1 hz2 rfl (by decide) _ n (bvs xs) hown ad m c2 (bvs ys) (by rw [bvs_length, hin.len]; omega)
      (fun j u hu => by
        rw [bvs_get] at hu
        obtain ⟨y, hy, rfl⟩ := Option.map_eq_some_iff.1 hu
        obtain ⟨ad', e, hc⟩ := hin.rd j y hy
        cases e
        exact hc) (bvs_oneCell ys) (by unfold maxLen; omega) (by omega) hbase
    rw [← bvs_append] at h2
    obtain ⟨A', c', rfl⟩ := own_formS h2
    exact ⟨A', c', w', hr, h2, h3, h5⟩

theorem step_sapp {ops : Array Oper} {o : Oper} {a : Act} {w : World} {K : Act → World → Prop} {Q : Exit → Act → World → Prop} {E : Prop} (hw : Region.wanted o (yielded ops a.tmps) = true) (s x : Operand)
    (ho : o.op = .call { callee := .builtin .append, args := #[s, x], argTypes := #[33, 33] })
    (base : Nat) (A : Option Addr) (n c : Nat) (xs : List Nat) (hs : a.eval s = .slice A n c) (hown : w.ownsRow base 29 32 (.slice A n c) n (bvs xs))
    (A2 : Option Addr) (m c2 : Nat) (ys : List Nat) (hx : a.eval x = .slice A2 m c2) (hin : InS w A2 m ys) (hnil : A2 = none → c2 = 0) (hle : n + m ≤ 1000000000) (hbase : base ≤ w.heap.size)
    (h : ∀ A' c' w', w'.ownsRow base 29 32 (.slice A' (n + m) c') (n + m) (bvs (xs ++ ys)) → Next w w' (.slice A n c) (.slice A' (n + m) c') → K (a.put o.dst (.slice A' (n + m) c')) w') :
    if Region.wanted o (yielded ops a.tmps) = true then Oper.wp Tryd.prog o a w K Q else E := by
  rw [if_pos hw]
  obtain ⟨A', c', w', hr, h2, h3⟩ := run_sapp_at w o.type base A n c xs hown A2 m c2 ys hin hnil hle hbase
  unfold Oper.wp execOp
  simp only [ho, resolve, invoke, builtin, Sem.run_bind, Sem.run_pure, Result.andThen_ok, List.map_toArray, List.map_cons, List.map_nil, hs, hx, hr]
  exact h A' c' w' h2 h3

/-- nil is the call's own list of none. -/
theorem own_none (w : World) (base : Nat) (e : TypeId) (size : Nat) : w.ownsRow base e size (.slice none 0 0) 0 (bvs []) := ⟨by rw [Nat.zero_mul]; rfl, .inl ⟨rfl, rfl⟩⟩

/-- '[]api.Sum{s}' is the call's own. -/
theorem own_sum (W : World) (s : List Nat) (base : Nat) (hl : s.length = 32) (hb : base ≤ W.heap.size) : (W.alloc (.cells (bvs s).toArray 29)).ownsRow base 29 32 (.slice (some ⟨W.heap.size, 0, none⟩) 1 1) 1 (bvs s) :=
  ⟨by rw [bvs_length, hl], .inr ⟨W.heap.size, 1, (bvs s).toArray, rfl, hb, World.alloc_heap_new W _, Nat.le_refl _, by unfold maxLen; omega, by rw [List.size_toArray, bvs_length, hl], by rw [List.take_of_length_le (by rw [bvs_length, hl]; omega)]⟩⟩

end Go.Proofs.YtcekfnngnjpeeaaDoor

/-
  A list of sums that a call answers, of its own; a list of one sum.
-/
namespace Go.Proofs.YtcekfnngnjpeeaaDoor
open Go.RowKit

/-- '[]api.Sum{s}' in a plain region. -/
theorem wpList_one_sum {ops : Array Oper} {rest : List Oper} {o : Oper} {a : Act} {w : World} {Q : Exit → Act → World → Prop} (hgd : o.guard = none) (parts : Array (Nat × Operand)) (s : List Nat) (ho : o.op = .buildSlice 33 1 parts)
    (hx : (parts.map fun (i, x) => (i, a.eval x)).toList = [(0, sv s)]) (hl : s.length = 32)
    (h : wpList Tryd.prog ops Q rest (a.put o.dst (.slice (some ⟨w.heap.size, 0, none⟩) 1 1)) (w.alloc (.cells (bvs s).toArray 29))) : wpList Tryd.prog ops Q (o :: rest) a w := by
  refine wpList_plain hgd fun K hK => ?_
  refine wp_sums parts [s] 1 ho rfl hx (by intro x hx'; rw [List.mem_singleton.1 hx']; exact hl) (by omega) (by omega) ?_
  rw [show [s].flatten = s by simp]
  exact hK _ _ h

/-- A call has answered a list of d sums of its own, whose bytes are xs. -/
def GivesS (base : Nat) (w : World) (d : Nat) (xs : List Nat) (e : Ending) (w' : World) : Prop :=
  ∃ A' c', e = .returned (.slice A' d c') ∧ w'.ownsRow base 29 32 (.slice A' d c') d (bvs xs) ∧ Below base w w'

end Go.Proofs.YtcekfnngnjpeeaaDoor

/-
  clashes.root: the root of entries.
-/
namespace Go.Proofs.YtcekfnngnjpeeaaDoor
open Go.RowKit

theorem make_sums0 (m : Nat) (hm : m < 65536) (W : World) :
    (Instr.makeSlice 33 (.int .i64 0) (.int .i64 (m : Int))).run Tryd.prog W = .ok (.slice (some ⟨W.heap.size, 0, none⟩) 0 m) (W.alloc (.cells (madeCells (Array.replicate 32 (.int .u8 0)) (m * 32)) 29)) := by
  obtain ⟨i0, hi, hz0, hz1, hz2⟩ := info_parts infoSum
  have hr := run_make (P := Tryd.prog) W 33 29 i0 _ Tryd.underlying33 hi hz0 .i64 .i64 0 m (by omega) (by omega) (by rw [hz2]; omega) (by omega)
  rw [hz1, Int.toNat_natCast] at hr
  exact hr
theorem made_own (m : Nat) (hm : m < 65536) (W : World) : (W.alloc (.cells (madeCells (Array.replicate 32 (.int .u8 0)) (m * 32)) 29)).ownsRow W.heap.size 29 32 (.slice (some ⟨W.heap.size, 0, none⟩) 0 m) 0 (bvs []) :=
  ⟨rfl, .inr ⟨W.heap.size, m, _, rfl, Nat.le_refl _, World.alloc_heap_new W _, Nat.zero_le _, by unfold maxLen; omega, by simp [madeCells], rfl⟩⟩

set_option maxRecDepth 100000 in
set_option maxHeartbeats 2000000 in
theorem croot_any {w : World} {A : Option Addr} {n c : Nat} {R : List (List Nat)} (h : Ent w A n c R) (hn : n ≤ 60000) (hk : Knows w) (hs : Starts w) :
    Calls Tryd.prog 30 #[.slice A n c] w fun e w' => e = .returned (sv (rtl R)) ∧ Below w.heap.size w w' := by
  have e0 : (bvs zero32).toArray = #[.int .u8 0, .int .u8 0, .int .u8 0, .int .u8 0, .int .u8 0, .int .u8 0, .int .u8 0, .int .u8 0, .int .u8 0, .int .u8 0, .int .u8 0, .int .u8 0, .int .u8 0, .int .u8 0, .int .u8 0, .int .u8 0, .int .u8 0, .int .u8 0, .int .u8 0, .int .u8 0, .int .u8 0, .int .u8 0, .int .u8 0, .int .u8 0, .int .u8 0, .int .u8 0, .int .u8 0, .int .u8 0, .int .u8 0, .int .u8 0, .int .u8 0, .int .u8 0] := rfl
  have f1 := BArr.new w 29 zero32
  have b1 := below_alloc w (.cells (bvs zero32).toArray 29)
  rw [e0] at f1 b1
  clear e0
  obtain ⟨w1, hw1⟩ : ∃ w1, w1 = w.alloc (.cells #[.int .u8 0, .int .u8 0, .int .u8 0, .int .u8 0, .int .u8 0, .int .u8 0, .int .u8 0, .int .u8 0, .int .u8 0, .int .u8 0, .int .u8 0, .int .u8 0, .int .u8 0, .int .u8 0, .int .u8 0, .int .u8 0, .int .u8 0, .int .u8 0, .int .u8 0, .int .u8 0, .int .u8 0, .int .u8 0, .int .u8 0, .int .u8 0, .int .u8 0, .int .u8 0, .int .u8 0, .int .u8 0, .int .u8 0, .int .u8 0, .int .u8 0, .int .u8 0] 29) := ⟨_, rfl⟩
  rw [← hw1] at f1 b1
  have hmk := make_sums0 n (by omega)
  have hown := made_own n (by omega) w1
  have b2 := below_alloc w1 (.cells (madeCells (Array.replicate 32 (.int .u8 0)) (n * 32)) 29)
  obtain ⟨w2, hw2⟩ : ∃ w2, w2 = w1.alloc (.cells (madeCells (Array.replicate 32 (.int .u8 0)) (n * 32)) 29) := ⟨_, rfl⟩
  rw [← hw2] at hown b2
  have HW := Lib.hid hw1
  have HW2 := Lib.hid hw2
  have H1 := Lib.hid (And.intro f1 (And.intro b1 (And.intro hown b2)))
  have HL := Lib.hid h.len
  have HK := Lib.hid (And.intro h (And.intro hk hs))
  have hml := rtl_length R
  have hroot : rt (nth (leavesL R)) 0 n = rtl R := by have := rtl_nth R; rwa [h.len] at this
  have D := Lib.hid (fun (A' : Option Addr) (c' : Nat) (W : World) (ho : W.ownsRow w1.heap.size 29 32 (.slice A' n c') n (bvs (leavesL R))) (hW : Below w.heap.size w W) => hroot ▸ root_any A' n c' (leavesL R) W (InS.of_own ho) (leavesL_lt _) (own_cap ho) (by omega) (hk.below hW) (hs.below hW))
  obtain ⟨r, hr⟩ : ∃ r, rtl R = r := ⟨_, rfl⟩
  rw [hr] at D hml ⊢
  clear hw1 hw2 f1 b1 hown b2 hr h hk hs hroot
  go_enter Tryd.func30, Tryd.ntmps30
  go_upto_region 1 with fail
  rw [← HW.out]
  go_upto_region 2 with fail
  rw [← HW2.out]
  go_wp2_with fail
  go_loopw [3, 5, 11] (fun s _ i wr => ∃ (j : Nat) (A' : Option Addr) (c' : Nat), j ≤ n ∧ i = .int .i64 (j : Int) ∧ s = .slice A' j c' ∧ Hid (wr.ownsRow w1.heap.size 29 32 (.slice A' j c') j (bvs (leavesL (R.take j))) ∧ Below w1.heap.size w1 wr)) (fun _ _ i _ => n - (intOf i).toNat)
  case atStart => exact ⟨0, _, n, Nat.zero_le _, rfl, rfl, Lib.hid ⟨by rw [List.take_zero]; exact H1.out.2.2.1, H1.out.2.2.2⟩⟩
  case round =>
    obtain ⟨j, A1, c1, hj, rfl, rfl, HR⟩ := hrel
    by_cases hlt : j < n
    · have hji : (j : Int) < (n : Int) := by omega
      obtain ⟨ad, B, bl, d, b, rfl, hbj, hcell, hcame, hbl⟩ := HK.out.1.at_ hlt
      have hB := below_on H1.out.2.1 (Nat.le_refl _) HR.out.2
      have hcc := (hB.cell (World.block_lt_of_cell? w _ hcell)).trans hcell
      obtain ⟨s, hs⟩ : ∃ s, leafL b = s := ⟨_, rfl⟩
      have hsl : s.length = 32 := by rw [← hs]; exact leafL_length _
      have htk : leavesL (R.take (j + 1)) = leavesL (R.take j) ++ s := by rw [rows_snoc hbj, leavesL_snoc, hs]
      have CT := leaf_any B bl d b wr (hcame.below hB) (HK.out.2.1.below hB) (HK.out.2.2.below hB) (by omega)
      rw [hs] at CT
      have C1 := Lib.hid CT
      have HT := Lib.hid htk
      clear CT hs htk hcame hcell hbj hB
      go_wp2_with fail
      refine C1.out.mono ?_
      rintro e w3 ⟨rfl, hb1⟩
      have HB := Lib.hid (below_on HR.out.2 (Nat.le_refl _) hb1)
      have HO := Lib.hid (own_on (own_on HR.out.1 hb1) (below_alloc w3 (.cells (bvs s).toArray 29)))
      have HB2 := Lib.hid (below_on HB.out (Nat.le_refl _) (below_alloc w3 (.cells (bvs s).toArray 29)))
      have HI := Lib.hid (show InS (w3.alloc (.cells (bvs s).toArray 29)) (some ⟨w3.heap.size, 0, none⟩) 1 s from ⟨hsl, (In.new' w3 s 29).rd⟩)
      clear hb1 C1 hcc
      go_wp2_with (first
        | (refine wpList_one_sum rfl _ s rfl (by simp <;> rfl) hsl ?_)
        | (refine wpList_step fun K hK => ?_; refine step_sapp (K := K) (by rfl) _ _ (by rfl) w1.heap.size A1 j c1 (leavesL (R.take j)) (by rfl) HO.out (some ⟨w3.heap.size, 0, none⟩) 1 1 s (by rfl) HI.out (fun e => by cases e) (by omega) HB2.out.size ?_; intro A3 c3 w4 ow3 nx3; have HN := Lib.hid (And.intro ow3 nx3); clear ow3 nx3; refine hK _ _ ?_; clear hK K))
      go_roundw
      case rel =>
        have ho3 := HN.out.1
        rw [← HT.out] at ho3
        exact ⟨j + 1, A3, c3, by omega, by go_num, rfl, Lib.hid ⟨ho3, HN.out.2.below HO.out HB2.out (Nat.le_refl _) HB2.out.size⟩⟩
      case measure => simp [intOf]; omega
    · obtain rfl : j = n := by omega
      have ho := HR.out.1
      rw [List.take_of_length_le (by rw [HL.out]; exact Nat.le_refl _)] at ho
      have D2 := Lib.hid (D.out A1 c1 wr ho (below_on H1.out.2.1 (Nat.le_refl _) HR.out.2))
      have H2 := Lib.hid (And.intro (below_on H1.out.2.1 (Nat.le_refl _) HR.out.2) (H1.out.1.below HR.out.2))
      clear ho
      have hji : ¬ ((j : Int) < (j : Int)) := by omega
      go_wp2_with fail
      refine D2.out.mono ?_
      rintro e w3 ⟨rfl, hb3⟩
      have f3 := H2.out.2.below hb3
      have HB := Lib.hid (below_on H2.out.1 (Nat.le_refl _) hb3)
      have HZ32 := Lib.hid (show zero32.length = 32 from rfl)
      clear hb3
      go_wp2_with (with_reducible refine wpList_store_sum rfl (.tmp 2) (.tmp 22) rfl w.heap.size rfl zero32 r HZ32 hml f3 rfl ?_)
      refine bodyPost_ret_by (results_cell_row (p := 2) (ty := 29) (by kernel_rfl) _ _ w.heap.size 29 (bvs r).toArray (0, 0) _ rfl (f3.setRow _) Tryd.underlying29 rfl (by rw [List.size_toArray, bvs_length, hml]; exact sizeSum)) rfl ?_
      exact ⟨rfl, below_setRow HB.out (Nat.le_refl _) _⟩

end Go.Proofs.YtcekfnngnjpeeaaDoor

/-
  clashes.Lists.
-/
namespace Go.Proofs.YtcekfnngnjpeeaaDoor
open Go.RowKit

/-- What is told: a clash and true, or none and false. -/
def Tells (base : Nat) (b : Bool) (e : Ending) (w' : World) : Prop := ∃ v, e = .returned (.tuple #[v, .bool b]) ∧ (b = true → Shown base w' v) ∧ (b = false → v = clv none 0 0 none 0 0)
/-- Do lists tell one? -/
def listsB (R S : List (List Nat)) : Bool := decide (R.length = S.length) && (!decide (R = S) && decide (rtl R = rtl S))

theorem own_setRow_below {w : World} {base e size n g : Nat} {v : Value} {xs : List Value} (h : w.ownsRow base e size v n xs) (hg : g < base) (cs : Array Value) : (w.setRow g cs).ownsRow base e size v n xs :=
  ⟨h.1, h.2.elim Or.inl (fun ⟨k, cap, cur, hv, hk, hh, r⟩ => Or.inr ⟨k, cap, cur, hv, hk, (Go.setRow_other _ _ _ _ (by omega)).trans hh, r⟩)⟩
theorem two_setRow {base : Nat} {w : World} {A : Option Addr} {n c : Nat} {xs : List Nat} {B : Option Addr} {m d : Nat} {ys : List Nat} (h : Two base w A n c xs B m d ys) {g : Nat} (hg : g < base) (cs : Array Value) : Two base (w.setRow g cs) A n c xs B m d ys :=
  ⟨own_setRow_below h.a hg cs, own_setRow_below h.b hg cs, h.apart, h.lta, h.ltb, h.na, h.nb⟩

section
variable {w : World} {A B : Option Addr} {n m c d : Nat} {R S : List (List Nat)}

set_option maxRecDepth 100000 in
set_option maxHeartbeats 2000000 in
theorem lists1_any {g : Nat} (hR : VarAt w g 31 (.slice A n c)) (hS : VarAt w (g + 1) 31 (.slice B n d)) (E1 : Ent w A n c R) (E2 : Ent w B n d S) (hk : Knows w) (hks : Starts w) (hn : n ≤ 60000) (hne : R ≠ S) (hr : rtl R = rtl S) :
    Calls Tryd.prog 32 #[.pointer (some ⟨g, 0, none⟩), .pointer (some ⟨g + 1, 0, none⟩)] w fun e w' => (∃ u, e = .panicked (tells u) ∧ Shown w.heap.size w' u) ∧ Below w.heap.size w w' := by
  have h1 : 1 ≤ n := by
    cases n with
    | zero =>
      have a := List.eq_nil_of_length_eq_zero E1.len
      have b := List.eq_nil_of_length_eq_zero E2.len
      exact absurd (a.trans b.symm) hne
    | succ k => omega
  obtain ⟨adA, rfl⟩ := E1.some_ h1
  obtain ⟨adB, rfl⟩ := E2.some_ h1
  have C := Lib.hid (down_any n w adA adB c d R S E1 E2 hk hks h1 hn)
  have c0 := hR.cell
  have c1 := hS.cell
  have HN := Lib.hid (And.intro hne hr)
  clear hR hS E1 E2 hk hks hne hr h1 hn
  go_enter Tryd.func32, Tryd.ntmps32
  go_wp2_with fail
  refine C.out.mono ?_
  rintro e w' ⟨hT, hb⟩
  rcases hT with ⟨_, h⟩ | ⟨u, rfl, hu⟩
  · exact absurd (h HN.out.2) HN.out.1
  · have HU := Lib.hid (And.intro hu hb)
    clear hu hb
    go_wp2_with fail
    exact ⟨rfl, ⟨u, rfl, HU.out.1⟩, HU.out.2⟩

/-- The world in which Lists begins. -/
structure ListsIn (w w3 : World) (g : Nat) (x y : Value) : Prop where
  a : VarAt w3 g 31 x
  b : VarAt w3 (g + 1) 31 y
  res : Cells w3 (g + 2) 24 #[.slice none 0 0, .slice none 0 0]
  below : Below g w w3
  size : w3.heap.size = g + 3
theorem ListsIn.mk_ (w : World) (g : Nat) (x y : Value) (hg : w.heap.size = g) : ListsIn w (((w.alloc (.cells #[x] 31)).alloc (.cells #[y] 31)).alloc (.cells #[.slice none 0 0, .slice none 0 0] 24)) g x y := by
  have h0 := VarAt.new w 31 x
  have b0 := below_alloc w (.cells #[x] 31)
  obtain ⟨w0, e0⟩ : ∃ w0, w0 = w.alloc (.cells #[x] 31) := ⟨_, rfl⟩
  have s0 : w0.heap.size = g + 1 := by rw [e0]; simp [hg]
  rw [← e0] at h0 b0 ⊢
  have h1 := VarAt.new w0 31 y
  have b1 := below_alloc w0 (.cells #[y] 31)
  obtain ⟨w1, e1⟩ : ∃ w1, w1 = w0.alloc (.cells #[y] 31) := ⟨_, rfl⟩
  have s1 : w1.heap.size = g + 2 := by rw [e1]; simp [s0]
  rw [← e1] at h1 b1 ⊢
  have h2 := Cells.new w1 24 #[.slice none 0 0, .slice none 0 0]
  have b2 := below_alloc w1 (.cells #[.slice none 0 0, .slice none 0 0] 24)
  rw [hg] at h0 b0
  rw [s0] at h1
  rw [s1] at h2
  exact ⟨(h0.below b1).below b2, h1.below b2, h2, below_on (below_on b0 (by omega) b1) (by omega) b2, by simp [s1]⟩

set_option maxRecDepth 100000 in
set_option maxHeartbeats 8000000 in
theorem lists_any (E1 : Ent w A n c R) (E2 : Ent w B m d S) (hk : Knows w) (hks : Starts w) (hn : n ≤ 60000) (hm : m ≤ 60000) :
    Calls Tryd.prog 13 #[.slice A n c, .slice B m d] w fun e w' => Tells w.heap.size (listsB R S) e w' ∧ Below w.heap.size w w' := by
  obtain ⟨g, hg⟩ : ∃ g, w.heap.size = g := ⟨_, rfl⟩
  have h3 := ListsIn.mk_ w g (.slice A n c) (.slice B m d) hg
  obtain ⟨w3, hw3⟩ : ∃ w3, w3 = ((w.alloc (.cells #[.slice A n c] 31)).alloc (.cells #[.slice B m d] 31)).alloc (.cells #[.slice none 0 0, .slice none 0 0] 24) := ⟨_, rfl⟩
  rw [← hw3] at h3
  have HW := Lib.hid hw3
  have HG := Lib.hid hg
  have H3 := Lib.hid h3
  have HKn := Lib.hid (And.intro hk (And.intro hks (And.intro E1 E2)))
  have b03 : Below w.heap.size w w3 := by rw [hg]; exact h3.below
  have HC0 := Lib.hid (fun (W : World) (hW : Below w3.heap.size w3 W) => show W.cell? ⟨g, 0, none⟩ = some (.slice A n c) from (h3.a.below hW).cell)
  have HC1 := Lib.hid (fun (W : World) (hW : Below w3.heap.size w3 W) => show W.cell? ⟨g + 1, 0, none⟩ = some (.slice B m d) from (h3.b.below hW).cell)
  have CB := Lib.hid (fun (hnm : n ≤ m) (W : World) (hW : Below w3.heap.size w3 W) => show Calls Tryd.prog 29 #[.slice A n c, .slice B m d] W fun e w' => e = .returned (.bool (decide (R = S.take n))) ∧ Below W.heap.size W w' from
    (begins_any (E1.below (below_on b03 (Nat.le_refl _) hW)) (E2.below (below_on b03 (Nat.le_refl _) hW)) hnm (by omega)).mono fun e w' ⟨he, h⟩ => ⟨he, by rw [h]; exact Below.refl _ _⟩)
  obtain ⟨rr, hrr⟩ : ∃ r, rtl R = r := ⟨_, rfl⟩
  obtain ⟨rs, hrs⟩ : ∃ r, rtl S = r := ⟨_, rfl⟩
  have CR := Lib.hid (fun (W : World) (hW : Below w3.heap.size w3 W) => show Calls Tryd.prog 30 #[.slice A n c] W fun e w' => e = .returned (sv rr) ∧ Below W.heap.size W w' from by
    have hb := below_on b03 (Nat.le_refl _) hW
    rw [← hrr]; exact croot_any (E1.below hb) hn (hk.below hb) (hks.below hb))
  have CS := Lib.hid (fun (W : World) (hW : Below w3.heap.size w3 W) => show Calls Tryd.prog 30 #[.slice B m d] W fun e w' => e = .returned (sv rs) ∧ Below W.heap.size W w' from by
    have hb := below_on b03 (Nat.le_refl _) hW
    rw [← hrs]; exact croot_any (E2.below hb) hm (hk.below hb) (hks.below hb))
  have lr : rr.length = 32 := by rw [← hrr]; exact rtl_length _
  have ls : rs.length = 32 := by rw [← hrs]; exact rtl_length _
  have q1 := run_neq_sum rr rs lr ls
  have q2 := run_guard_neq
  have hB : listsB R S = (decide (n = m) && (!decide (R = S) && decide (rr = rs))) := by unfold listsB; rw [E1.len, E2.len, hrr, hrs]
  have HL := Lib.hid (And.intro E1.len (And.intro E2.len (And.intro hrr hrs)))
  rw [hg, hB]
  clear h3 hw3 hg hk hks hB hrr hrs
  go_enter Tryd.func13, Tryd.ntmps13
  go_upto_region 1 with fail
  rw [← HW.out]
  rw [HG.out]
  by_cases hnm0 : n = m
  · subst hnm0
    have hnm : n ≤ n := Nat.le_refl _
    have hnn : ((n : Int) != (n : Int)) = false := by simp
    have hst : S.take n = S := List.take_of_length_le (by rw [HL.out.2.1]; exact Nat.le_refl _)
    rw [hst] at CB
    clear hst
    by_cases hRS : R = S
    · rw [decide_eq_true hRS] at CB
      have hSa1 : Below w3.heap.size w3 w3.drew := (Below.refl _ _).drew
      refine wp_region_held_drew (S := fun W => Below w3.heap.size w3 W) (by kernel_rfl) (hSa1) (fun _ => ?_)
      change wpAnyH _ _ _ _ _ _ _ _ w3.drew
      generalize w3.drew = Wa2 at hSa1 ⊢
      refine' wpAnyH_take (i := 0) (oi := _) (v := _) ?hia3 (by kernel_rfl) ?hfa3 ?hra3 ?hQa3 ?hya3 (hSa1) ?resta3
      case hia3 => (simp only [List.getElem?_toArray, List.getElem?_cons_zero]; rfl)
      case hfa3 => kernel_rfl
      case hra3 => kernel_rfl
      case hQa3 => exact fun _ _ _ h => h
      case hya3 => refine Or.inl ⟨by rfl, ?_⟩; intro W hSw; have hcc := HC0.out W hSw; go_simp; try with_reducible rfl
      try simp only [Act.put, List.setIfInBounds_toArray, List.set_cons_zero, List.set_cons_succ]
      refine' wpAnyH_take (i := 1) (oi := _) (v := _) ?hia4 (by kernel_rfl) ?hfa4 ?hra4 ?hQa4 ?hya4 (hSa1) ?resta4
      case hia4 => (simp only [List.getElem?_toArray, List.getElem?_cons_zero, List.getElem?_cons_succ]; rfl)
      case hfa4 => kernel_rfl
      case hra4 => kernel_rfl
      case hQa4 => exact fun _ _ _ h => h
      case hya4 => refine Or.inl ⟨by rfl, ?_⟩; intro W hSw; go_simp; try with_reducible rfl
      try simp only [Act.put, List.setIfInBounds_toArray, List.set_cons_zero, List.set_cons_succ]
      refine' wpAnyH_take (i := 2) (oi := _) (v := _) ?hia5 (by kernel_rfl) ?hfa5 ?hra5 ?hQa5 ?hya5 (hSa1) ?resta5
      case hia5 => (simp only [List.getElem?_toArray, List.getElem?_cons_zero, List.getElem?_cons_succ]; rfl)
      case hfa5 => kernel_rfl
      case hra5 => kernel_rfl
      case hQa5 => exact fun _ _ _ h => h
      case hya5 => refine Or.inl ⟨by rfl, ?_⟩; intro W hSw; have hcc := HC1.out W hSw; go_simp; try with_reducible rfl
      try simp only [Act.put, List.setIfInBounds_toArray, List.set_cons_zero, List.set_cons_succ]
      refine' wpAnyH_take (i := 3) (oi := _) (v := _) ?hia6 (by kernel_rfl) ?hfa6 ?hra6 ?hQa6 ?hya6 (hSa1) ?resta6
      case hia6 => (simp only [List.getElem?_toArray, List.getElem?_cons_zero, List.getElem?_cons_succ]; rfl)
      case hfa6 => kernel_rfl
      case hra6 => kernel_rfl
      case hQa6 => exact fun _ _ _ h => h
      case hya6 => refine Or.inl ⟨by rfl, ?_⟩; intro W hSw; go_simp; try with_reducible rfl
      try simp only [Act.put, List.setIfInBounds_toArray, List.set_cons_zero, List.set_cons_succ]
      refine' wpAnyH_take (i := 4) (oi := _) (v := _) ?hia7 (by kernel_rfl) ?hfa7 ?hra7 ?hQa7 ?hya7 (hSa1) ?resta7
      case hia7 => (simp only [List.getElem?_toArray, List.getElem?_cons_zero, List.getElem?_cons_succ]; rfl)
      case hfa7 => kernel_rfl
      case hra7 => kernel_rfl
      case hQa7 => exact fun _ _ _ h => h
      case hya7 => refine Or.inl ⟨by rfl, ?_⟩; intro W hSw; go_simp; try with_reducible rfl
      try simp only [Act.put, List.setIfInBounds_toArray, List.set_cons_zero, List.set_cons_succ]
      refine' wpAnyH_take (i := 5) (oi := _) (v := _) ?hia8 (by kernel_rfl) ?hfa8 ?hra8 ?hQa8 ?hya8 (hSa1) ?resta8
      case hia8 => (simp only [List.getElem?_toArray, List.getElem?_cons_zero, List.getElem?_cons_succ]; rfl)
      case hfa8 => kernel_rfl
      case hra8 => kernel_rfl
      case hQa8 => exact fun _ _ _ h => h
      case hya8 => refine Or.inl ⟨by rfl, ?_⟩; intro W hSw; go_simp; try with_reducible rfl
      try simp only [Act.put, List.setIfInBounds_toArray, List.set_cons_zero, List.set_cons_succ]
      refine' wpAnyH_take (i := 6) (oi := _) (v := _) ?hia9 (by kernel_rfl) ?hfa9 ?hra9 ?hQa9 ?hya9 (hSa1) ?resta9
      case hia9 => (simp only [List.getElem?_toArray, List.getElem?_cons_zero, List.getElem?_cons_succ]; rfl)
      case hfa9 => kernel_rfl
      case hra9 => kernel_rfl
      case hQa9 => exact fun _ _ _ h => h
      case hya9 => refine Or.inl ⟨by rfl, ?_⟩; intro W hSw; have hcc := HC0.out W hSw; go_simp; try with_reducible rfl
      try simp only [Act.put, List.setIfInBounds_toArray, List.set_cons_zero, List.set_cons_succ]
      refine' wpAnyH_take (i := 7) (oi := _) (v := _) ?hia10 (by kernel_rfl) ?hfa10 ?hra10 ?hQa10 ?hya10 (hSa1) ?resta10
      case hia10 => (simp only [List.getElem?_toArray, List.getElem?_cons_zero, List.getElem?_cons_succ]; rfl)
      case hfa10 => kernel_rfl
      case hra10 => kernel_rfl
      case hQa10 => exact fun _ _ _ h => h
      case hya10 => refine Or.inl ⟨by rfl, ?_⟩; intro W hSw; have hcc := HC1.out W hSw; go_simp; try with_reducible rfl
      try simp only [Act.put, List.setIfInBounds_toArray, List.set_cons_zero, List.set_cons_succ]
      refine wpAnyH_ready (rs := [8]) (by kernel_rfl) (by simp) ?_
      refine' (AllReadyH.cons (o := _) ?hia11 (fun K hK => ?_) AllReadyH.nil)
      case hia11 => (simp only [List.getElem?_toArray, List.getElem?_cons_zero, List.getElem?_cons_succ]; rfl)
      go_simp
      go_at_call 29
      refine (CB.out hnm Wa2 hSa1).mono ?_
      rintro e Wa14 ⟨rfl, hba12⟩
      have hBa13 := below_on hSa1 (Nat.le_refl _) hba12
      refine hK.out _ _ (hBa13) (fun _ => ?_)
      clear hK K
      try simp only [Act.put, List.setIfInBounds_toArray, List.set_cons_zero, List.set_cons_succ]
      refine' wpAnyH_take (i := 9) (oi := _) (v := _) ?hia15 (by kernel_rfl) ?hfa15 ?hra15 ?hQa15 ?hya15 (hBa13) ?resta15
      case hia15 => (simp only [List.getElem?_toArray, List.getElem?_cons_zero, List.getElem?_cons_succ]; rfl)
      case hfa15 => kernel_rfl
      case hra15 => kernel_rfl
      case hQa15 => exact fun _ _ _ h => h
      case hya15 => refine Or.inl ⟨by rfl, ?_⟩; intro W hSw; go_simp; try with_reducible rfl
      try simp only [Act.put, List.setIfInBounds_toArray, List.set_cons_zero, List.set_cons_succ]
      refine' wpAnyH_take (i := 10) (oi := _) (v := _) ?hia16 (by kernel_rfl) ?hfa16 ?hra16 ?hQa16 ?hya16 (hBa13) ?resta16
      case hia16 => (simp only [List.getElem?_toArray, List.getElem?_cons_zero, List.getElem?_cons_succ]; rfl)
      case hfa16 => kernel_rfl
      case hra16 => kernel_rfl
      case hQa16 => exact fun _ _ _ h => h
      case hya16 => refine Or.inl ⟨by rfl, ?_⟩; intro W hSw; go_simp; try with_reducible rfl
      try simp only [Act.put, List.setIfInBounds_toArray, List.set_cons_zero, List.set_cons_succ]
      refine' wpAnyH_take (i := 11) (oi := _) (v := undef) ?hia17 (by kernel_rfl) ?hfa17 ?hra17 ?hQa17 ?hya17 (hBa13) ?resta17
      case hia17 => (simp only [List.getElem?_toArray, List.getElem?_cons_zero, List.getElem?_cons_succ]; rfl)
      case hfa17 => kernel_rfl
      case hra17 => kernel_rfl
      case hQa17 => exact fun _ _ _ h => h
      case hya17 => exact Or.inr ⟨by rfl, rfl⟩
      try simp only [Act.put, List.setIfInBounds_toArray, List.set_cons_zero, List.set_cons_succ]
      refine' wpAnyH_take (i := 12) (oi := _) (v := undef) ?hia18 (by kernel_rfl) ?hfa18 ?hra18 ?hQa18 ?hya18 (hBa13) ?resta18
      case hia18 => (simp only [List.getElem?_toArray, List.getElem?_cons_zero, List.getElem?_cons_succ]; rfl)
      case hfa18 => kernel_rfl
      case hra18 => kernel_rfl
      case hQa18 => exact fun _ _ _ h => h
      case hya18 => exact Or.inr ⟨by rfl, rfl⟩
      try simp only [Act.put, List.setIfInBounds_toArray, List.set_cons_zero, List.set_cons_succ]
      refine' wpAnyH_take (i := 13) (oi := _) (v := undef) ?hia19 (by kernel_rfl) ?hfa19 ?hra19 ?hQa19 ?hya19 (hBa13) ?resta19
      case hia19 => (simp only [List.getElem?_toArray, List.getElem?_cons_zero, List.getElem?_cons_succ]; rfl)
      case hfa19 => kernel_rfl
      case hra19 => kernel_rfl
      case hQa19 => exact fun _ _ _ h => h
      case hya19 => exact Or.inr ⟨by rfl, rfl⟩
      try simp only [Act.put, List.setIfInBounds_toArray, List.set_cons_zero, List.set_cons_succ]
      refine' wpAnyH_take (i := 14) (oi := _) (v := undef) ?hia20 (by kernel_rfl) ?hfa20 ?hra20 ?hQa20 ?hya20 (hBa13) ?resta20
      case hia20 => (simp only [List.getElem?_toArray, List.getElem?_cons_zero, List.getElem?_cons_succ]; rfl)
      case hfa20 => kernel_rfl
      case hra20 => kernel_rfl
      case hQa20 => exact fun _ _ _ h => h
      case hya20 => exact Or.inr ⟨by rfl, rfl⟩
      try simp only [Act.put, List.setIfInBounds_toArray, List.set_cons_zero, List.set_cons_succ]
      refine' wpAnyH_take (i := 15) (oi := _) (v := undef) ?hia21 (by kernel_rfl) ?hfa21 ?hra21 ?hQa21 ?hya21 (hBa13) ?resta21
      case hia21 => (simp only [List.getElem?_toArray, List.getElem?_cons_zero, List.getElem?_cons_succ]; rfl)
      case hfa21 => kernel_rfl
      case hra21 => kernel_rfl
      case hQa21 => exact fun _ _ _ h => h
      case hya21 => exact Or.inr ⟨by rfl, rfl⟩
      try simp only [Act.put, List.setIfInBounds_toArray, List.set_cons_zero, List.set_cons_succ]
      refine' wpAnyH_take (i := 16) (oi := _) (v := _) ?hia22 (by kernel_rfl) ?hfa22 ?hra22 ?hQa22 ?hya22 (hBa13) ?resta22
      case hia22 => (simp only [List.getElem?_toArray, List.getElem?_cons_zero, List.getElem?_cons_succ]; rfl)
      case hfa22 => kernel_rfl
      case hra22 => kernel_rfl
      case hQa22 => exact fun _ _ _ h => h
      case hya22 => refine Or.inl ⟨by rfl, ?_⟩; intro W hSw; go_simp; try with_reducible rfl
      try simp only [Act.put, List.setIfInBounds_toArray, List.set_cons_zero, List.set_cons_succ]
      refine wpAnyH_done (by kernel_rfl) ?_ _
      have hres := H3.out.res.below hBa13
      have hz := below_setRow (below_on H3.out.below (Nat.le_of_eq HG.out.symm) hBa13) (show g ≤ g + 2 by omega) #[.slice none 0 0, .slice none 0 0]
      go_wp2_with (with_reducible refine wpList_store_clash rfl (.tmp 4) (.tmp 23) rfl (g + 2) rfl hres none 0 0 none 0 0 rfl ?_)
      refine bodyPost_ret_by (results_cell_tmp (p := 4) (q := 5) (ty := 24) (by kernel_rfl) _ _ ⟨g + 2, 0, none⟩ (clv none 0 0 none 0 0) rfl (run_load_clash ((hres.setRow _).cell 0 rfl) ((hres.setRow _).cell 1 rfl))) rfl ?_
      exact ⟨⟨_, rfl, (fun e => by cases e), fun _ => rfl⟩, hz⟩
    · rw [decide_eq_false hRS] at CB
      by_cases hrs2 : rr = rs
      · have q3 : ∀ W : World, (binOp .neq 29 (sv rr) (sv rs)).run Tryd.prog W = .ok (.bool false) W := fun W => by rw [q1 W, decide_eq_true hrs2]; rfl
        clear q1
        have HRS := Lib.hid (And.intro hRS hrs2)
        clear hRS hrs2
        have hSb1 : Below w3.heap.size w3 w3.drew := (Below.refl _ _).drew
        refine wp_region_held_drew (S := fun W => Below w3.heap.size w3 W) (by kernel_rfl) (hSb1) (fun _ => ?_)
        change wpAnyH _ _ _ _ _ _ _ _ w3.drew
        generalize w3.drew = Wb2 at hSb1 ⊢
        refine' wpAnyH_take (i := 0) (oi := _) (v := _) ?hib3 (by kernel_rfl) ?hfb3 ?hrb3 ?hQb3 ?hyb3 (hSb1) ?restb3
        case hib3 => (simp only [List.getElem?_toArray, List.getElem?_cons_zero]; rfl)
        case hfb3 => kernel_rfl
        case hrb3 => kernel_rfl
        case hQb3 => exact fun _ _ _ h => h
        case hyb3 => refine Or.inl ⟨by rfl, ?_⟩; intro W hSw; have hcc := HC0.out W hSw; go_simp; try with_reducible rfl
        try simp only [Act.put, List.setIfInBounds_toArray, List.set_cons_zero, List.set_cons_succ]
        refine' wpAnyH_take (i := 1) (oi := _) (v := _) ?hib4 (by kernel_rfl) ?hfb4 ?hrb4 ?hQb4 ?hyb4 (hSb1) ?restb4
        case hib4 => (simp only [List.getElem?_toArray, List.getElem?_cons_zero, List.getElem?_cons_succ]; rfl)
        case hfb4 => kernel_rfl
        case hrb4 => kernel_rfl
        case hQb4 => exact fun _ _ _ h => h
        case hyb4 => refine Or.inl ⟨by rfl, ?_⟩; intro W hSw; go_simp; try with_reducible rfl
        try simp only [Act.put, List.setIfInBounds_toArray, List.set_cons_zero, List.set_cons_succ]
        refine' wpAnyH_take (i := 2) (oi := _) (v := _) ?hib5 (by kernel_rfl) ?hfb5 ?hrb5 ?hQb5 ?hyb5 (hSb1) ?restb5
        case hib5 => (simp only [List.getElem?_toArray, List.getElem?_cons_zero, List.getElem?_cons_succ]; rfl)
        case hfb5 => kernel_rfl
        case hrb5 => kernel_rfl
        case hQb5 => exact fun _ _ _ h => h
        case hyb5 => refine Or.inl ⟨by rfl, ?_⟩; intro W hSw; have hcc := HC1.out W hSw; go_simp; try with_reducible rfl
        try simp only [Act.put, List.setIfInBounds_toArray, List.set_cons_zero, List.set_cons_succ]
        refine' wpAnyH_take (i := 3) (oi := _) (v := _) ?hib6 (by kernel_rfl) ?hfb6 ?hrb6 ?hQb6 ?hyb6 (hSb1) ?restb6
        case hib6 => (simp only [List.getElem?_toArray, List.getElem?_cons_zero, List.getElem?_cons_succ]; rfl)
        case hfb6 => kernel_rfl
        case hrb6 => kernel_rfl
        case hQb6 => exact fun _ _ _ h => h
        case hyb6 => refine Or.inl ⟨by rfl, ?_⟩; intro W hSw; go_simp; try with_reducible rfl
        try simp only [Act.put, List.setIfInBounds_toArray, List.set_cons_zero, List.set_cons_succ]
        refine' wpAnyH_take (i := 4) (oi := _) (v := _) ?hib7 (by kernel_rfl) ?hfb7 ?hrb7 ?hQb7 ?hyb7 (hSb1) ?restb7
        case hib7 => (simp only [List.getElem?_toArray, List.getElem?_cons_zero, List.getElem?_cons_succ]; rfl)
        case hfb7 => kernel_rfl
        case hrb7 => kernel_rfl
        case hQb7 => exact fun _ _ _ h => h
        case hyb7 => refine Or.inl ⟨by rfl, ?_⟩; intro W hSw; go_simp; try with_reducible rfl
        try simp only [Act.put, List.setIfInBounds_toArray, List.set_cons_zero, List.set_cons_succ]
        refine' wpAnyH_take (i := 5) (oi := _) (v := _) ?hib8 (by kernel_rfl) ?hfb8 ?hrb8 ?hQb8 ?hyb8 (hSb1) ?restb8
        case hib8 => (simp only [List.getElem?_toArray, List.getElem?_cons_zero, List.getElem?_cons_succ]; rfl)
        case hfb8 => kernel_rfl
        case hrb8 => kernel_rfl
        case hQb8 => exact fun _ _ _ h => h
        case hyb8 => refine Or.inl ⟨by rfl, ?_⟩; intro W hSw; go_simp; try with_reducible rfl
        try simp only [Act.put, List.setIfInBounds_toArray, List.set_cons_zero, List.set_cons_succ]
        refine' wpAnyH_take (i := 6) (oi := _) (v := _) ?hib9 (by kernel_rfl) ?hfb9 ?hrb9 ?hQb9 ?hyb9 (hSb1) ?restb9
        case hib9 => (simp only [List.getElem?_toArray, List.getElem?_cons_zero, List.getElem?_cons_succ]; rfl)
        case hfb9 => kernel_rfl
        case hrb9 => kernel_rfl
        case hQb9 => exact fun _ _ _ h => h
        case hyb9 => refine Or.inl ⟨by rfl, ?_⟩; intro W hSw; have hcc := HC0.out W hSw; go_simp; try with_reducible rfl
        try simp only [Act.put, List.setIfInBounds_toArray, List.set_cons_zero, List.set_cons_succ]
        refine' wpAnyH_take (i := 7) (oi := _) (v := _) ?hib10 (by kernel_rfl) ?hfb10 ?hrb10 ?hQb10 ?hyb10 (hSb1) ?restb10
        case hib10 => (simp only [List.getElem?_toArray, List.getElem?_cons_zero, List.getElem?_cons_succ]; rfl)
        case hfb10 => kernel_rfl
        case hrb10 => kernel_rfl
        case hQb10 => exact fun _ _ _ h => h
        case hyb10 => refine Or.inl ⟨by rfl, ?_⟩; intro W hSw; have hcc := HC1.out W hSw; go_simp; try with_reducible rfl
        try simp only [Act.put, List.setIfInBounds_toArray, List.set_cons_zero, List.set_cons_succ]
        refine wpAnyH_ready (rs := [8]) (by kernel_rfl) (by simp) ?_
        refine' (AllReadyH.cons (o := _) ?hib11 (fun K hK => ?_) AllReadyH.nil)
        case hib11 => (simp only [List.getElem?_toArray, List.getElem?_cons_zero, List.getElem?_cons_succ]; rfl)
        go_simp
        go_at_call 29
        refine (CB.out hnm Wb2 hSb1).mono ?_
        rintro e Wb14 ⟨rfl, hbb12⟩
        have hBb13 := below_on hSb1 (Nat.le_refl _) hbb12
        refine hK.out _ _ (hBb13) (fun _ => ?_)
        clear hK K
        try simp only [Act.put, List.setIfInBounds_toArray, List.set_cons_zero, List.set_cons_succ]
        refine' wpAnyH_take (i := 9) (oi := _) (v := _) ?hib15 (by kernel_rfl) ?hfb15 ?hrb15 ?hQb15 ?hyb15 (hBb13) ?restb15
        case hib15 => (simp only [List.getElem?_toArray, List.getElem?_cons_zero, List.getElem?_cons_succ]; rfl)
        case hfb15 => kernel_rfl
        case hrb15 => kernel_rfl
        case hQb15 => exact fun _ _ _ h => h
        case hyb15 => refine Or.inl ⟨by rfl, ?_⟩; intro W hSw; go_simp; try with_reducible rfl
        try simp only [Act.put, List.setIfInBounds_toArray, List.set_cons_zero, List.set_cons_succ]
        refine' wpAnyH_take (i := 10) (oi := _) (v := _) ?hib16 (by kernel_rfl) ?hfb16 ?hrb16 ?hQb16 ?hyb16 (hBb13) ?restb16
        case hib16 => (simp only [List.getElem?_toArray, List.getElem?_cons_zero, List.getElem?_cons_succ]; rfl)
        case hfb16 => kernel_rfl
        case hrb16 => kernel_rfl
        case hQb16 => exact fun _ _ _ h => h
        case hyb16 => refine Or.inl ⟨by rfl, ?_⟩; intro W hSw; go_simp; try with_reducible rfl
        try simp only [Act.put, List.setIfInBounds_toArray, List.set_cons_zero, List.set_cons_succ]
        refine' wpAnyH_take (i := 11) (oi := _) (v := _) ?hib17 (by kernel_rfl) ?hfb17 ?hrb17 ?hQb17 ?hyb17 (hBb13) ?restb17
        case hib17 => (simp only [List.getElem?_toArray, List.getElem?_cons_zero, List.getElem?_cons_succ]; rfl)
        case hfb17 => kernel_rfl
        case hrb17 => kernel_rfl
        case hQb17 => exact fun _ _ _ h => h
        case hyb17 => refine Or.inl ⟨by rfl, ?_⟩; intro W hSw; have hcc := HC0.out W hSw; go_simp; try with_reducible rfl
        try simp only [Act.put, List.setIfInBounds_toArray, List.set_cons_zero, List.set_cons_succ]
        refine' wpAnyH_take (i := 13) (oi := _) (v := _) ?hib18 (by kernel_rfl) ?hfb18 ?hrb18 ?hQb18 ?hyb18 (hBb13) ?restb18
        case hib18 => (simp only [List.getElem?_toArray, List.getElem?_cons_zero, List.getElem?_cons_succ]; rfl)
        case hfb18 => kernel_rfl
        case hrb18 => kernel_rfl
        case hQb18 => exact fun _ _ _ h => h
        case hyb18 => refine Or.inl ⟨by rfl, ?_⟩; intro W hSw; have hcc := HC1.out W hSw; go_simp; try with_reducible rfl
        try simp only [Act.put, List.setIfInBounds_toArray, List.set_cons_zero, List.set_cons_succ]
        refine wpAnyH_ready (rs := [12]) (by kernel_rfl) (by simp) ?_
        refine' (AllReadyH.cons (o := _) ?hib19 (fun K hK => ?_) AllReadyH.nil)
        case hib19 => (simp only [List.getElem?_toArray, List.getElem?_cons_zero, List.getElem?_cons_succ]; rfl)
        go_simp
        go_at_call 30
        refine (CR.out Wb14 hBb13).mono ?_
        rintro e Wb22 ⟨rfl, hbb20⟩
        have hBb21 := below_on hBb13 (Nat.le_refl _) hbb20
        refine hK.out _ _ (hBb21) (fun _ => ?_)
        clear hK K
        try simp only [Act.put, List.setIfInBounds_toArray, List.set_cons_zero, List.set_cons_succ]
        refine wpAnyH_ready (rs := [14]) (by kernel_rfl) (by simp) ?_
        refine' (AllReadyH.cons (o := _) ?hib23 (fun K hK => ?_) AllReadyH.nil)
        case hib23 => (simp only [List.getElem?_toArray, List.getElem?_cons_zero, List.getElem?_cons_succ]; rfl)
        go_simp
        go_at_call 30
        refine (CS.out Wb22 hBb21).mono ?_
        rintro e Wb26 ⟨rfl, hbb24⟩
        have hBb25 := below_on hBb21 (Nat.le_refl _) hbb24
        refine hK.out _ _ (hBb25) (fun _ => ?_)
        clear hK K
        try simp only [Act.put, List.setIfInBounds_toArray, List.set_cons_zero, List.set_cons_succ]
        refine' wpAnyH_take (i := 15) (oi := _) (v := _) ?hib27 (by kernel_rfl) ?hfb27 ?hrb27 ?hQb27 ?hyb27 (hBb25) ?restb27
        case hib27 => (simp only [List.getElem?_toArray, List.getElem?_cons_zero, List.getElem?_cons_succ]; rfl)
        case hfb27 => kernel_rfl
        case hrb27 => kernel_rfl
        case hQb27 => exact fun _ _ _ h => h
        case hyb27 => refine Or.inl ⟨by rfl, ?_⟩; intro W hSw; go_simp; try with_reducible rfl
        try simp only [Act.put, List.setIfInBounds_toArray, List.set_cons_zero, List.set_cons_succ]
        refine' wpAnyH_take (i := 16) (oi := _) (v := _) ?hib28 (by kernel_rfl) ?hfb28 ?hrb28 ?hQb28 ?hyb28 (hBb25) ?restb28
        case hib28 => (simp only [List.getElem?_toArray, List.getElem?_cons_zero, List.getElem?_cons_succ]; rfl)
        case hfb28 => kernel_rfl
        case hrb28 => kernel_rfl
        case hQb28 => exact fun _ _ _ h => h
        case hyb28 => refine Or.inl ⟨by rfl, ?_⟩; intro W hSw; go_simp; try with_reducible rfl
        try simp only [Act.put, List.setIfInBounds_toArray, List.set_cons_zero, List.set_cons_succ]
        refine wpAnyH_done (by kernel_rfl) ?_ _
        have CF := Lib.hid (found_any (w := Wb26) (fid := 32) (caps := #[.pointer (some ⟨g, 0, none⟩), .pointer (some ⟨g + 1, 0, none⟩)]) (fun _ => rfl) (fun W hW => by
          have hb3 := below_on hBb25 (Nat.le_refl _) hW
          have hb0 := below_on H3.out.below (Nat.le_of_eq HG.out.symm) hb3
          rw [← HG.out] at hb0
          exact lists1_any (H3.out.a.below hb3) (H3.out.b.below hb3) (HKn.out.2.2.1.below hb0) (HKn.out.2.2.2.below hb0) (HKn.out.1.below hb0) (HKn.out.2.1.below hb0) hn HRS.out.1 (by rw [HL.out.2.2.1, HL.out.2.2.2]; exact HRS.out.2)))
        have hmf : ∀ (fn : Fn) (first cap : Array Value) (w : World), (Instr.makeFunc fn first cap).run Tryd.prog w = .ok (.func fn first cap) w := fun _ _ _ _ => rfl
        clear q3 q2
        go_wp2_with fail
        refine CF.out.mono ?_
        rintro e w5 ⟨u, rfl, hu, hb5⟩
        obtain ⟨A5, n5, c5, xs5, B5, m5, d5, ys5, rfl, hT, hC⟩ := hu
        have hres := (H3.out.res.below hBb25).below hb5
        have hz := below_setRow (below_on (below_on H3.out.below (Nat.le_of_eq HG.out.symm) hBb25) (Nat.le_of_eq HG.out.symm) hb5) (show g ≤ g + 2 by omega) #[.slice A5 n5 c5, .slice B5 m5 d5]
        have hT2 := (two_setRow hT (show g + 2 < Wb26.heap.size by have := Below.size hBb25; have := H3.out.size; omega) #[.slice A5 n5 c5, .slice B5 m5 d5]).low (base' := g) (by have := Below.size hBb25; have := H3.out.size; omega)
        have HE := Lib.hid (And.intro hz (And.intro hT2 hC))
        clear hz hT2 hC hT hb5
        go_wp2_with (with_reducible refine wpList_store_clash rfl (.tmp 4) (.tmp 26) rfl (g + 2) rfl hres A5 n5 c5 B5 m5 d5 rfl ?_)
        refine bodyPost_ret_by (results_cell_tmp (p := 4) (q := 5) (ty := 24) (by kernel_rfl) _ _ ⟨g + 2, 0, none⟩ (clv A5 n5 c5 B5 m5 d5) rfl (run_load_clash ((hres.setRow _).cell 0 rfl) ((hres.setRow _).cell 1 rfl))) rfl ?_
        have hbf : (!decide (R = S) && decide (rr = rs)) = true := by simp [HRS.out.1, HRS.out.2]
        rw [hbf]
        exact ⟨⟨_, rfl, (fun _ => ⟨_, _, _, _, _, _, _, _, rfl, HE.out.2.1, HE.out.2.2⟩), fun e => by cases e⟩, HE.out.1⟩
      · have q3 : ∀ W : World, (binOp .neq 29 (sv rr) (sv rs)).run Tryd.prog W = .ok (.bool true) W := fun W => by rw [q1 W, decide_eq_false hrs2]; rfl
        clear q1
        have hSc1 : Below w3.heap.size w3 w3.drew := (Below.refl _ _).drew
        refine wp_region_held_drew (S := fun W => Below w3.heap.size w3 W) (by kernel_rfl) (hSc1) (fun _ => ?_)
        change wpAnyH _ _ _ _ _ _ _ _ w3.drew
        generalize w3.drew = Wc2 at hSc1 ⊢
        refine' wpAnyH_take (i := 0) (oi := _) (v := _) ?hic3 (by kernel_rfl) ?hfc3 ?hrc3 ?hQc3 ?hyc3 (hSc1) ?restc3
        case hic3 => (simp only [List.getElem?_toArray, List.getElem?_cons_zero]; rfl)
        case hfc3 => kernel_rfl
        case hrc3 => kernel_rfl
        case hQc3 => exact fun _ _ _ h => h
        case hyc3 => refine Or.inl ⟨by rfl, ?_⟩; intro W hSw; have hcc := HC0.out W hSw; go_simp; try with_reducible rfl
        try simp only [Act.put, List.setIfInBounds_toArray, List.set_cons_zero, List.set_cons_succ]
        refine' wpAnyH_take (i := 1) (oi := _) (v := _) ?hic4 (by kernel_rfl) ?hfc4 ?hrc4 ?hQc4 ?hyc4 (hSc1) ?restc4
        case hic4 => (simp only [List.getElem?_toArray, List.getElem?_cons_zero, List.getElem?_cons_succ]; rfl)
        case hfc4 => kernel_rfl
        case hrc4 => kernel_rfl
        case hQc4 => exact fun _ _ _ h => h
        case hyc4 => refine Or.inl ⟨by rfl, ?_⟩; intro W hSw; go_simp; try with_reducible rfl
        try simp only [Act.put, List.setIfInBounds_toArray, List.set_cons_zero, List.set_cons_succ]
        refine' wpAnyH_take (i := 2) (oi := _) (v := _) ?hic5 (by kernel_rfl) ?hfc5 ?hrc5 ?hQc5 ?hyc5 (hSc1) ?restc5
        case hic5 => (simp only [List.getElem?_toArray, List.getElem?_cons_zero, List.getElem?_cons_succ]; rfl)
        case hfc5 => kernel_rfl
        case hrc5 => kernel_rfl
        case hQc5 => exact fun _ _ _ h => h
        case hyc5 => refine Or.inl ⟨by rfl, ?_⟩; intro W hSw; have hcc := HC1.out W hSw; go_simp; try with_reducible rfl
        try simp only [Act.put, List.setIfInBounds_toArray, List.set_cons_zero, List.set_cons_succ]
        refine' wpAnyH_take (i := 3) (oi := _) (v := _) ?hic6 (by kernel_rfl) ?hfc6 ?hrc6 ?hQc6 ?hyc6 (hSc1) ?restc6
        case hic6 => (simp only [List.getElem?_toArray, List.getElem?_cons_zero, List.getElem?_cons_succ]; rfl)
        case hfc6 => kernel_rfl
        case hrc6 => kernel_rfl
        case hQc6 => exact fun _ _ _ h => h
        case hyc6 => refine Or.inl ⟨by rfl, ?_⟩; intro W hSw; go_simp; try with_reducible rfl
        try simp only [Act.put, List.setIfInBounds_toArray, List.set_cons_zero, List.set_cons_succ]
        refine' wpAnyH_take (i := 4) (oi := _) (v := _) ?hic7 (by kernel_rfl) ?hfc7 ?hrc7 ?hQc7 ?hyc7 (hSc1) ?restc7
        case hic7 => (simp only [List.getElem?_toArray, List.getElem?_cons_zero, List.getElem?_cons_succ]; rfl)
        case hfc7 => kernel_rfl
        case hrc7 => kernel_rfl
        case hQc7 => exact fun _ _ _ h => h
        case hyc7 => refine Or.inl ⟨by rfl, ?_⟩; intro W hSw; go_simp; try with_reducible rfl
        try simp only [Act.put, List.setIfInBounds_toArray, List.set_cons_zero, List.set_cons_succ]
        refine' wpAnyH_take (i := 5) (oi := _) (v := _) ?hic8 (by kernel_rfl) ?hfc8 ?hrc8 ?hQc8 ?hyc8 (hSc1) ?restc8
        case hic8 => (simp only [List.getElem?_toArray, List.getElem?_cons_zero, List.getElem?_cons_succ]; rfl)
        case hfc8 => kernel_rfl
        case hrc8 => kernel_rfl
        case hQc8 => exact fun _ _ _ h => h
        case hyc8 => refine Or.inl ⟨by rfl, ?_⟩; intro W hSw; go_simp; try with_reducible rfl
        try simp only [Act.put, List.setIfInBounds_toArray, List.set_cons_zero, List.set_cons_succ]
        refine' wpAnyH_take (i := 6) (oi := _) (v := _) ?hic9 (by kernel_rfl) ?hfc9 ?hrc9 ?hQc9 ?hyc9 (hSc1) ?restc9
        case hic9 => (simp only [List.getElem?_toArray, List.getElem?_cons_zero, List.getElem?_cons_succ]; rfl)
        case hfc9 => kernel_rfl
        case hrc9 => kernel_rfl
        case hQc9 => exact fun _ _ _ h => h
        case hyc9 => refine Or.inl ⟨by rfl, ?_⟩; intro W hSw; have hcc := HC0.out W hSw; go_simp; try with_reducible rfl
        try simp only [Act.put, List.setIfInBounds_toArray, List.set_cons_zero, List.set_cons_succ]
        refine' wpAnyH_take (i := 7) (oi := _) (v := _) ?hic10 (by kernel_rfl) ?hfc10 ?hrc10 ?hQc10 ?hyc10 (hSc1) ?restc10
        case hic10 => (simp only [List.getElem?_toArray, List.getElem?_cons_zero, List.getElem?_cons_succ]; rfl)
        case hfc10 => kernel_rfl
        case hrc10 => kernel_rfl
        case hQc10 => exact fun _ _ _ h => h
        case hyc10 => refine Or.inl ⟨by rfl, ?_⟩; intro W hSw; have hcc := HC1.out W hSw; go_simp; try with_reducible rfl
        try simp only [Act.put, List.setIfInBounds_toArray, List.set_cons_zero, List.set_cons_succ]
        refine wpAnyH_ready (rs := [8]) (by kernel_rfl) (by simp) ?_
        refine' (AllReadyH.cons (o := _) ?hic11 (fun K hK => ?_) AllReadyH.nil)
        case hic11 => (simp only [List.getElem?_toArray, List.getElem?_cons_zero, List.getElem?_cons_succ]; rfl)
        go_simp
        go_at_call 29
        refine (CB.out hnm Wc2 hSc1).mono ?_
        rintro e Wc14 ⟨rfl, hbc12⟩
        have hBc13 := below_on hSc1 (Nat.le_refl _) hbc12
        refine hK.out _ _ (hBc13) (fun _ => ?_)
        clear hK K
        try simp only [Act.put, List.setIfInBounds_toArray, List.set_cons_zero, List.set_cons_succ]
        refine' wpAnyH_take (i := 9) (oi := _) (v := _) ?hic15 (by kernel_rfl) ?hfc15 ?hrc15 ?hQc15 ?hyc15 (hBc13) ?restc15
        case hic15 => (simp only [List.getElem?_toArray, List.getElem?_cons_zero, List.getElem?_cons_succ]; rfl)
        case hfc15 => kernel_rfl
        case hrc15 => kernel_rfl
        case hQc15 => exact fun _ _ _ h => h
        case hyc15 => refine Or.inl ⟨by rfl, ?_⟩; intro W hSw; go_simp; try with_reducible rfl
        try simp only [Act.put, List.setIfInBounds_toArray, List.set_cons_zero, List.set_cons_succ]
        refine' wpAnyH_take (i := 10) (oi := _) (v := _) ?hic16 (by kernel_rfl) ?hfc16 ?hrc16 ?hQc16 ?hyc16 (hBc13) ?restc16
        case hic16 => (simp only [List.getElem?_toArray, List.getElem?_cons_zero, List.getElem?_cons_succ]; rfl)
        case hfc16 => kernel_rfl
        case hrc16 => kernel_rfl
        case hQc16 => exact fun _ _ _ h => h
        case hyc16 => refine Or.inl ⟨by rfl, ?_⟩; intro W hSw; go_simp; try with_reducible rfl
        try simp only [Act.put, List.setIfInBounds_toArray, List.set_cons_zero, List.set_cons_succ]
        refine' wpAnyH_take (i := 11) (oi := _) (v := _) ?hic17 (by kernel_rfl) ?hfc17 ?hrc17 ?hQc17 ?hyc17 (hBc13) ?restc17
        case hic17 => (simp only [List.getElem?_toArray, List.getElem?_cons_zero, List.getElem?_cons_succ]; rfl)
        case hfc17 => kernel_rfl
        case hrc17 => kernel_rfl
        case hQc17 => exact fun _ _ _ h => h
        case hyc17 => refine Or.inl ⟨by rfl, ?_⟩; intro W hSw; have hcc := HC0.out W hSw; go_simp; try with_reducible rfl
        try simp only [Act.put, List.setIfInBounds_toArray, List.set_cons_zero, List.set_cons_succ]
        refine' wpAnyH_take (i := 13) (oi := _) (v := _) ?hic18 (by kernel_rfl) ?hfc18 ?hrc18 ?hQc18 ?hyc18 (hBc13) ?restc18
        case hic18 => (simp only [List.getElem?_toArray, List.getElem?_cons_zero, List.getElem?_cons_succ]; rfl)
        case hfc18 => kernel_rfl
        case hrc18 => kernel_rfl
        case hQc18 => exact fun _ _ _ h => h
        case hyc18 => refine Or.inl ⟨by rfl, ?_⟩; intro W hSw; have hcc := HC1.out W hSw; go_simp; try with_reducible rfl
        try simp only [Act.put, List.setIfInBounds_toArray, List.set_cons_zero, List.set_cons_succ]
        refine wpAnyH_ready (rs := [12]) (by kernel_rfl) (by simp) ?_
        refine' (AllReadyH.cons (o := _) ?hic19 (fun K hK => ?_) AllReadyH.nil)
        case hic19 => (simp only [List.getElem?_toArray, List.getElem?_cons_zero, List.getElem?_cons_succ]; rfl)
        go_simp
        go_at_call 30
        refine (CR.out Wc14 hBc13).mono ?_
        rintro e Wc22 ⟨rfl, hbc20⟩
        have hBc21 := below_on hBc13 (Nat.le_refl _) hbc20
        refine hK.out _ _ (hBc21) (fun _ => ?_)
        clear hK K
        try simp only [Act.put, List.setIfInBounds_toArray, List.set_cons_zero, List.set_cons_succ]
        refine wpAnyH_ready (rs := [14]) (by kernel_rfl) (by simp) ?_
        refine' (AllReadyH.cons (o := _) ?hic23 (fun K hK => ?_) AllReadyH.nil)
        case hic23 => (simp only [List.getElem?_toArray, List.getElem?_cons_zero, List.getElem?_cons_succ]; rfl)
        go_simp
        go_at_call 30
        refine (CS.out Wc22 hBc21).mono ?_
        rintro e Wc26 ⟨rfl, hbc24⟩
        have hBc25 := below_on hBc21 (Nat.le_refl _) hbc24
        refine hK.out _ _ (hBc25) (fun _ => ?_)
        clear hK K
        try simp only [Act.put, List.setIfInBounds_toArray, List.set_cons_zero, List.set_cons_succ]
        refine' wpAnyH_take (i := 15) (oi := _) (v := _) ?hic27 (by kernel_rfl) ?hfc27 ?hrc27 ?hQc27 ?hyc27 (hBc25) ?restc27
        case hic27 => (simp only [List.getElem?_toArray, List.getElem?_cons_zero, List.getElem?_cons_succ]; rfl)
        case hfc27 => kernel_rfl
        case hrc27 => kernel_rfl
        case hQc27 => exact fun _ _ _ h => h
        case hyc27 => refine Or.inl ⟨by rfl, ?_⟩; intro W hSw; go_simp; try with_reducible rfl
        try simp only [Act.put, List.setIfInBounds_toArray, List.set_cons_zero, List.set_cons_succ]
        refine' wpAnyH_take (i := 16) (oi := _) (v := _) ?hic28 (by kernel_rfl) ?hfc28 ?hrc28 ?hQc28 ?hyc28 (hBc25) ?restc28
        case hic28 => (simp only [List.getElem?_toArray, List.getElem?_cons_zero, List.getElem?_cons_succ]; rfl)
        case hfc28 => kernel_rfl
        case hrc28 => kernel_rfl
        case hQc28 => exact fun _ _ _ h => h
        case hyc28 => refine Or.inl ⟨by rfl, ?_⟩; intro W hSw; go_simp; try with_reducible rfl
        try simp only [Act.put, List.setIfInBounds_toArray, List.set_cons_zero, List.set_cons_succ]
        refine wpAnyH_done (by kernel_rfl) ?_ _
        have hres := H3.out.res.below hBc25
        have hz := below_setRow (below_on H3.out.below (Nat.le_of_eq HG.out.symm) hBc25) (show g ≤ g + 2 by omega) #[.slice none 0 0, .slice none 0 0]
        go_wp2_with (with_reducible refine wpList_store_clash rfl (.tmp 4) (.tmp 23) rfl (g + 2) rfl hres none 0 0 none 0 0 rfl ?_)
        refine bodyPost_ret_by (results_cell_tmp (p := 4) (q := 5) (ty := 24) (by kernel_rfl) _ _ ⟨g + 2, 0, none⟩ (clv none 0 0 none 0 0) rfl (run_load_clash ((hres.setRow _).cell 0 rfl) ((hres.setRow _).cell 1 rfl))) rfl ?_
        exact ⟨⟨_, rfl, (fun e => by cases e), fun _ => rfl⟩, hz⟩
  · have hnn : ((n : Int) != (m : Int)) = true := by simp; omega
    have hSd1 : Below w3.heap.size w3 w3.drew := (Below.refl _ _).drew
    refine wp_region_held_drew (S := fun W => Below w3.heap.size w3 W) (by kernel_rfl) (hSd1) (fun _ => ?_)
    change wpAnyH _ _ _ _ _ _ _ _ w3.drew
    generalize w3.drew = Wd2 at hSd1 ⊢
    refine' wpAnyH_take (i := 0) (oi := _) (v := _) ?hid3 (by kernel_rfl) ?hfd3 ?hrd3 ?hQd3 ?hyd3 (hSd1) ?restd3
    case hid3 => (simp only [List.getElem?_toArray, List.getElem?_cons_zero]; rfl)
    case hfd3 => kernel_rfl
    case hrd3 => kernel_rfl
    case hQd3 => exact fun _ _ _ h => h
    case hyd3 => refine Or.inl ⟨by rfl, ?_⟩; intro W hSw; have hcc := HC0.out W hSw; go_simp; try with_reducible rfl
    try simp only [Act.put, List.setIfInBounds_toArray, List.set_cons_zero, List.set_cons_succ]
    refine' wpAnyH_take (i := 1) (oi := _) (v := _) ?hid4 (by kernel_rfl) ?hfd4 ?hrd4 ?hQd4 ?hyd4 (hSd1) ?restd4
    case hid4 => (simp only [List.getElem?_toArray, List.getElem?_cons_zero, List.getElem?_cons_succ]; rfl)
    case hfd4 => kernel_rfl
    case hrd4 => kernel_rfl
    case hQd4 => exact fun _ _ _ h => h
    case hyd4 => refine Or.inl ⟨by rfl, ?_⟩; intro W hSw; go_simp; try with_reducible rfl
    try simp only [Act.put, List.setIfInBounds_toArray, List.set_cons_zero, List.set_cons_succ]
    refine' wpAnyH_take (i := 2) (oi := _) (v := _) ?hid5 (by kernel_rfl) ?hfd5 ?hrd5 ?hQd5 ?hyd5 (hSd1) ?restd5
    case hid5 => (simp only [List.getElem?_toArray, List.getElem?_cons_zero, List.getElem?_cons_succ]; rfl)
    case hfd5 => kernel_rfl
    case hrd5 => kernel_rfl
    case hQd5 => exact fun _ _ _ h => h
    case hyd5 => refine Or.inl ⟨by rfl, ?_⟩; intro W hSw; have hcc := HC1.out W hSw; go_simp; try with_reducible rfl
    try simp only [Act.put, List.setIfInBounds_toArray, List.set_cons_zero, List.set_cons_succ]
    refine' wpAnyH_take (i := 3) (oi := _) (v := _) ?hid6 (by kernel_rfl) ?hfd6 ?hrd6 ?hQd6 ?hyd6 (hSd1) ?restd6
    case hid6 => (simp only [List.getElem?_toArray, List.getElem?_cons_zero, List.getElem?_cons_succ]; rfl)
    case hfd6 => kernel_rfl
    case hrd6 => kernel_rfl
    case hQd6 => exact fun _ _ _ h => h
    case hyd6 => refine Or.inl ⟨by rfl, ?_⟩; intro W hSw; go_simp; try with_reducible rfl
    try simp only [Act.put, List.setIfInBounds_toArray, List.set_cons_zero, List.set_cons_succ]
    refine' wpAnyH_take (i := 4) (oi := _) (v := _) ?hid7 (by kernel_rfl) ?hfd7 ?hrd7 ?hQd7 ?hyd7 (hSd1) ?restd7
    case hid7 => (simp only [List.getElem?_toArray, List.getElem?_cons_zero, List.getElem?_cons_succ]; rfl)
    case hfd7 => kernel_rfl
    case hrd7 => kernel_rfl
    case hQd7 => exact fun _ _ _ h => h
    case hyd7 => refine Or.inl ⟨by rfl, ?_⟩; intro W hSw; go_simp; try with_reducible rfl
    try simp only [Act.put, List.setIfInBounds_toArray, List.set_cons_zero, List.set_cons_succ]
    refine' wpAnyH_take (i := 5) (oi := _) (v := _) ?hid8 (by kernel_rfl) ?hfd8 ?hrd8 ?hQd8 ?hyd8 (hSd1) ?restd8
    case hid8 => (simp only [List.getElem?_toArray, List.getElem?_cons_zero, List.getElem?_cons_succ]; rfl)
    case hfd8 => kernel_rfl
    case hrd8 => kernel_rfl
    case hQd8 => exact fun _ _ _ h => h
    case hyd8 => refine Or.inl ⟨by rfl, ?_⟩; intro W hSw; go_simp; try with_reducible rfl
    try simp only [Act.put, List.setIfInBounds_toArray, List.set_cons_zero, List.set_cons_succ]
    refine' wpAnyH_take (i := 6) (oi := _) (v := undef) ?hid9 (by kernel_rfl) ?hfd9 ?hrd9 ?hQd9 ?hyd9 (hSd1) ?restd9
    case hid9 => (simp only [List.getElem?_toArray, List.getElem?_cons_zero, List.getElem?_cons_succ]; rfl)
    case hfd9 => kernel_rfl
    case hrd9 => kernel_rfl
    case hQd9 => exact fun _ _ _ h => h
    case hyd9 => exact Or.inr ⟨by rfl, rfl⟩
    try simp only [Act.put, List.setIfInBounds_toArray, List.set_cons_zero, List.set_cons_succ]
    refine' wpAnyH_take (i := 7) (oi := _) (v := undef) ?hid10 (by kernel_rfl) ?hfd10 ?hrd10 ?hQd10 ?hyd10 (hSd1) ?restd10
    case hid10 => (simp only [List.getElem?_toArray, List.getElem?_cons_zero, List.getElem?_cons_succ]; rfl)
    case hfd10 => kernel_rfl
    case hrd10 => kernel_rfl
    case hQd10 => exact fun _ _ _ h => h
    case hyd10 => exact Or.inr ⟨by rfl, rfl⟩
    try simp only [Act.put, List.setIfInBounds_toArray, List.set_cons_zero, List.set_cons_succ]
    refine' wpAnyH_take (i := 8) (oi := _) (v := undef) ?hid11 (by kernel_rfl) ?hfd11 ?hrd11 ?hQd11 ?hyd11 (hSd1) ?restd11
    case hid11 => (simp only [List.getElem?_toArray, List.getElem?_cons_zero, List.getElem?_cons_succ]; rfl)
    case hfd11 => kernel_rfl
    case hrd11 => kernel_rfl
    case hQd11 => exact fun _ _ _ h => h
    case hyd11 => exact Or.inr ⟨by rfl, rfl⟩
    try simp only [Act.put, List.setIfInBounds_toArray, List.set_cons_zero, List.set_cons_succ]
    refine' wpAnyH_take (i := 9) (oi := _) (v := _) ?hid12 (by kernel_rfl) ?hfd12 ?hrd12 ?hQd12 ?hyd12 (hSd1) ?restd12
    case hid12 => (simp only [List.getElem?_toArray, List.getElem?_cons_zero, List.getElem?_cons_succ]; rfl)
    case hfd12 => kernel_rfl
    case hrd12 => kernel_rfl
    case hQd12 => exact fun _ _ _ h => h
    case hyd12 => refine Or.inl ⟨by rfl, ?_⟩; intro W hSw; go_simp; try with_reducible rfl
    try simp only [Act.put, List.setIfInBounds_toArray, List.set_cons_zero, List.set_cons_succ]
    refine' wpAnyH_take (i := 10) (oi := _) (v := _) ?hid13 (by kernel_rfl) ?hfd13 ?hrd13 ?hQd13 ?hyd13 (hSd1) ?restd13
    case hid13 => (simp only [List.getElem?_toArray, List.getElem?_cons_zero, List.getElem?_cons_succ]; rfl)
    case hfd13 => kernel_rfl
    case hrd13 => kernel_rfl
    case hQd13 => exact fun _ _ _ h => h
    case hyd13 => refine Or.inl ⟨by rfl, ?_⟩; intro W hSw; go_simp; try with_reducible rfl
    try simp only [Act.put, List.setIfInBounds_toArray, List.set_cons_zero, List.set_cons_succ]
    refine' wpAnyH_take (i := 11) (oi := _) (v := undef) ?hid14 (by kernel_rfl) ?hfd14 ?hrd14 ?hQd14 ?hyd14 (hSd1) ?restd14
    case hid14 => (simp only [List.getElem?_toArray, List.getElem?_cons_zero, List.getElem?_cons_succ]; rfl)
    case hfd14 => kernel_rfl
    case hrd14 => kernel_rfl
    case hQd14 => exact fun _ _ _ h => h
    case hyd14 => exact Or.inr ⟨by rfl, rfl⟩
    try simp only [Act.put, List.setIfInBounds_toArray, List.set_cons_zero, List.set_cons_succ]
    refine' wpAnyH_take (i := 12) (oi := _) (v := undef) ?hid15 (by kernel_rfl) ?hfd15 ?hrd15 ?hQd15 ?hyd15 (hSd1) ?restd15
    case hid15 => (simp only [List.getElem?_toArray, List.getElem?_cons_zero, List.getElem?_cons_succ]; rfl)
    case hfd15 => kernel_rfl
    case hrd15 => kernel_rfl
    case hQd15 => exact fun _ _ _ h => h
    case hyd15 => exact Or.inr ⟨by rfl, rfl⟩
    try simp only [Act.put, List.setIfInBounds_toArray, List.set_cons_zero, List.set_cons_succ]
    refine' wpAnyH_take (i := 13) (oi := _) (v := undef) ?hid16 (by kernel_rfl) ?hfd16 ?hrd16 ?hQd16 ?hyd16 (hSd1) ?restd16
    case hid16 => (simp only [List.getElem?_toArray, List.getElem?_cons_zero, List.getElem?_cons_succ]; rfl)
    case hfd16 => kernel_rfl
    case hrd16 => kernel_rfl
    case hQd16 => exact fun _ _ _ h => h
    case hyd16 => exact Or.inr ⟨by rfl, rfl⟩
    try simp only [Act.put, List.setIfInBounds_toArray, List.set_cons_zero, List.set_cons_succ]
    refine' wpAnyH_take (i := 14) (oi := _) (v := undef) ?hid17 (by kernel_rfl) ?hfd17 ?hrd17 ?hQd17 ?hyd17 (hSd1) ?restd17
    case hid17 => (simp only [List.getElem?_toArray, List.getElem?_cons_zero, List.getElem?_cons_succ]; rfl)
    case hfd17 => kernel_rfl
    case hrd17 => kernel_rfl
    case hQd17 => exact fun _ _ _ h => h
    case hyd17 => exact Or.inr ⟨by rfl, rfl⟩
    try simp only [Act.put, List.setIfInBounds_toArray, List.set_cons_zero, List.set_cons_succ]
    refine' wpAnyH_take (i := 15) (oi := _) (v := undef) ?hid18 (by kernel_rfl) ?hfd18 ?hrd18 ?hQd18 ?hyd18 (hSd1) ?restd18
    case hid18 => (simp only [List.getElem?_toArray, List.getElem?_cons_zero, List.getElem?_cons_succ]; rfl)
    case hfd18 => kernel_rfl
    case hrd18 => kernel_rfl
    case hQd18 => exact fun _ _ _ h => h
    case hyd18 => exact Or.inr ⟨by rfl, rfl⟩
    try simp only [Act.put, List.setIfInBounds_toArray, List.set_cons_zero, List.set_cons_succ]
    refine' wpAnyH_take (i := 16) (oi := _) (v := _) ?hid19 (by kernel_rfl) ?hfd19 ?hrd19 ?hQd19 ?hyd19 (hSd1) ?restd19
    case hid19 => (simp only [List.getElem?_toArray, List.getElem?_cons_zero, List.getElem?_cons_succ]; rfl)
    case hfd19 => kernel_rfl
    case hrd19 => kernel_rfl
    case hQd19 => exact fun _ _ _ h => h
    case hyd19 => refine Or.inl ⟨by rfl, ?_⟩; intro W hSw; go_simp; try with_reducible rfl
    try simp only [Act.put, List.setIfInBounds_toArray, List.set_cons_zero, List.set_cons_succ]
    refine wpAnyH_done (by kernel_rfl) ?_ _
    have hres := H3.out.res.below hSd1
    have hz := below_setRow (below_on H3.out.below (Nat.le_of_eq HG.out.symm) hSd1) (show g ≤ g + 2 by omega) #[.slice none 0 0, .slice none 0 0]
    go_wp2_with (with_reducible refine wpList_store_clash rfl (.tmp 4) (.tmp 23) rfl (g + 2) rfl hres none 0 0 none 0 0 rfl ?_)
    refine bodyPost_ret_by (results_cell_tmp (p := 4) (q := 5) (ty := 24) (by kernel_rfl) _ _ ⟨g + 2, 0, none⟩ (clv none 0 0 none 0 0) rfl (run_load_clash ((hres.setRow _).cell 0 rfl) ((hres.setRow _).cell 1 rfl))) rfl ?_
    have hbf : (decide (n = m) && (!decide (R = S) && decide (rr = rs))) = false := by simp [hnm0]
    rw [hbf]
    exact ⟨⟨_, rfl, (fun e => by cases e), fun _ => rfl⟩, hz⟩
end

end Go.Proofs.YtcekfnngnjpeeaaDoor

/-
  clashes.Path, clashes.Link: the ways on which none is told at once.
-/
namespace Go.Proofs.YtcekfnngnjpeeaaDoor
open Go.RowKit

/-- The world in which Path begins. -/
structure PathIn (w wz : World) (g : Nat) (v0 v1 v2 v3 : Value) : Prop where
  l : VarAt wz g 31 v0
  at_ : VarAt wz (g + 1) 3 v1
  b : VarAt wz (g + 2) 22 v2
  path : VarAt wz (g + 3) 33 v3
  res : Cells wz (g + 4) 24 #[.slice none 0 0, .slice none 0 0]
  below : Below g w wz
  size : wz.heap.size = g + 5
theorem PathIn.mk_ (w : World) (g : Nat) (v0 v1 v2 v3 : Value) (hg : w.heap.size = g) : PathIn w (((((w.alloc (.cells #[v0] 31)).alloc (.cells #[v1] 3)).alloc (.cells #[v2] 22)).alloc (.cells #[v3] 33)).alloc (.cells #[.slice none 0 0, .slice none 0 0] 24)) g v0 v1 v2 v3 := by
  have sw : w.heap.size = g + 0 := hg
  have h0 := VarAt.new w 31 v0
  have b0 := below_alloc w (.cells #[v0] 31)
  obtain ⟨w0, e0⟩ : ∃ x, x = w.alloc (.cells #[v0] 31) := ⟨_, rfl⟩
  have s0 : w0.heap.size = g + 1 := by rw [e0]; simp [sw]
  rw [← e0] at h0 b0 ⊢
  rw [sw] at h0 b0
  have h1 := VarAt.new w0 3 v1
  have b1 := below_alloc w0 (.cells #[v1] 3)
  obtain ⟨w1, e1⟩ : ∃ x, x = w0.alloc (.cells #[v1] 3) := ⟨_, rfl⟩
  have s1 : w1.heap.size = g + 2 := by rw [e1]; simp [s0]
  rw [← e1] at h1 b1 ⊢
  rw [s0] at h1 b1
  have h2 := VarAt.new w1 22 v2
  have b2 := below_alloc w1 (.cells #[v2] 22)
  obtain ⟨w2, e2⟩ : ∃ x, x = w1.alloc (.cells #[v2] 22) := ⟨_, rfl⟩
  have s2 : w2.heap.size = g + 3 := by rw [e2]; simp [s1]
  rw [← e2] at h2 b2 ⊢
  rw [s1] at h2 b2
  have h3 := VarAt.new w2 33 v3
  have b3 := below_alloc w2 (.cells #[v3] 33)
  obtain ⟨w3, e3⟩ : ∃ x, x = w2.alloc (.cells #[v3] 33) := ⟨_, rfl⟩
  have s3 : w3.heap.size = g + 4 := by rw [e3]; simp [s2]
  rw [← e3] at h3 b3 ⊢
  rw [s2] at h3 b3
  have hc := Cells.new w3 24 #[.slice none 0 0, .slice none 0 0]
  have bc := below_alloc w3 (.cells #[.slice none 0 0, .slice none 0 0] 24)
  obtain ⟨wc, ec⟩ : ∃ x, x = w3.alloc (.cells #[.slice none 0 0, .slice none 0 0] 24) := ⟨_, rfl⟩
  have sc : wc.heap.size = g + 5 := by rw [ec]; simp [s3]
  rw [← ec] at hc bc ⊢
  rw [s3] at hc bc
  exact ⟨(((h0.below (by rw [s0]; exact b1)).below (by rw [s1]; exact b2)).below (by rw [s2]; exact b3)).below (by rw [s3]; exact bc), ((h1.below (by rw [s1]; exact b2)).below (by rw [s2]; exact b3)).below (by rw [s3]; exact bc), (h2.below (by rw [s2]; exact b3)).below (by rw [s3]; exact bc), h3.below (by rw [s3]; exact bc), hc, below_on (below_on (below_on (below_on b0 (by omega) (by rw [s0]; exact b1)) (by omega) (by rw [s1]; exact b2)) (by omega) (by rw [s2]; exact b3)) (by omega) (by rw [s3]; exact bc), sc⟩
/-- The world in which Link begins. -/
structure LinkIn (w wz : World) (g : Nat) (v0 v1 v2 : Value) : Prop where
  a : VarAt wz g 31 v0
  b : VarAt wz (g + 1) 31 v1
  link : VarAt wz (g + 2) 33 v2
  res : Cells wz (g + 3) 24 #[.slice none 0 0, .slice none 0 0]
  below : Below g w wz
  size : wz.heap.size = g + 4
theorem LinkIn.mk_ (w : World) (g : Nat) (v0 v1 v2 : Value) (hg : w.heap.size = g) : LinkIn w ((((w.alloc (.cells #[v0] 31)).alloc (.cells #[v1] 31)).alloc (.cells #[v2] 33)).alloc (.cells #[.slice none 0 0, .slice none 0 0] 24)) g v0 v1 v2 := by
  have sw : w.heap.size = g + 0 := hg
  have h0 := VarAt.new w 31 v0
  have b0 := below_alloc w (.cells #[v0] 31)
  obtain ⟨w0, e0⟩ : ∃ x, x = w.alloc (.cells #[v0] 31) := ⟨_, rfl⟩
  have s0 : w0.heap.size = g + 1 := by rw [e0]; simp [sw]
  rw [← e0] at h0 b0 ⊢
  rw [sw] at h0 b0
  have h1 := VarAt.new w0 31 v1
  have b1 := below_alloc w0 (.cells #[v1] 31)
  obtain ⟨w1, e1⟩ : ∃ x, x = w0.alloc (.cells #[v1] 31) := ⟨_, rfl⟩
  have s1 : w1.heap.size = g + 2 := by rw [e1]; simp [s0]
  rw [← e1] at h1 b1 ⊢
  rw [s0] at h1 b1
  have h2 := VarAt.new w1 33 v2
  have b2 := below_alloc w1 (.cells #[v2] 33)
  obtain ⟨w2, e2⟩ : ∃ x, x = w1.alloc (.cells #[v2] 33) := ⟨_, rfl⟩
  have s2 : w2.heap.size = g + 3 := by rw [e2]; simp [s1]
  rw [← e2] at h2 b2 ⊢
  rw [s1] at h2 b2
  have hc := Cells.new w2 24 #[.slice none 0 0, .slice none 0 0]
  have bc := below_alloc w2 (.cells #[.slice none 0 0, .slice none 0 0] 24)
  obtain ⟨wc, ec⟩ : ∃ x, x = w2.alloc (.cells #[.slice none 0 0, .slice none 0 0] 24) := ⟨_, rfl⟩
  have sc : wc.heap.size = g + 4 := by rw [ec]; simp [s2]
  rw [← ec] at hc bc ⊢
  rw [s2] at hc bc
  exact ⟨((h0.below (by rw [s0]; exact b1)).below (by rw [s1]; exact b2)).below (by rw [s2]; exact bc), (h1.below (by rw [s1]; exact b2)).below (by rw [s2]; exact bc), h2.below (by rw [s2]; exact bc), hc, below_on (below_on (below_on b0 (by omega) (by rw [s0]; exact b1)) (by omega) (by rw [s1]; exact b2)) (by omega) (by rw [s2]; exact bc), sc⟩

section
variable {w : World} {A B P : Option Addr} {n m q c d r : Nat} {R S : List (List Nat)}

set_option maxRecDepth 100000 in
set_option maxHeartbeats 8000000 in
theorem path_neg {z : Int} (hz : z < 0) :
    Calls Tryd.prog 17 #[.slice A n c, .int .i64 z, .slice B m d, .slice P q r] w fun e w' => Tells w.heap.size false e w' ∧ Below w.heap.size w w' := by
  obtain ⟨g, hg⟩ : ∃ g, w.heap.size = g := ⟨_, rfl⟩
  have hz0 := PathIn.mk_ w g (.slice A n c) (.int .i64 z) (.slice B m d) (.slice P q r) hg
  obtain ⟨wz, hwz⟩ : ∃ x, x = (((((w.alloc (.cells #[.slice A n c] 31)).alloc (.cells #[.int .i64 z] 3)).alloc (.cells #[.slice B m d] 22)).alloc (.cells #[.slice P q r] 33)).alloc (.cells #[.slice none 0 0, .slice none 0 0] 24)) := ⟨_, rfl⟩
  rw [← hwz] at hz0
  have HW := Lib.hid hwz
  have HG := Lib.hid hg
  have HZ := Lib.hid hz0
  have b0z : Below w.heap.size w wz := by rw [hg]; exact hz0.below
  have HC1 := Lib.hid (fun (W : World) (hW : Below wz.heap.size wz W) => show W.cell? ⟨g + 1, 0, none⟩ = some (.int .i64 z) from (hz0.at_.below hW).cell)
  have hzi : z < 0 := hz
  rw [hg]
  clear hz0 hwz hg b0z
  go_enter Tryd.func17, Tryd.ntmps17
  go_upto_region 1 with fail
  rw [← HW.out]
  rw [HG.out]
  have hSg1 : Below wz.heap.size wz wz.drew := (Below.refl _ _).drew
  refine wp_region_held_drew (S := fun W => Below wz.heap.size wz W) (by kernel_rfl) (hSg1) (fun _ => ?_)
  change wpAnyH _ _ _ _ _ _ _ _ wz.drew
  generalize wz.drew = Wg2 at hSg1 ⊢
  refine' wpAnyH_take (i := 0) (oi := _) (v := _) ?hig3 (by kernel_rfl) ?hfg3 ?hrg3 ?hQg3 ?hyg3 (hSg1) ?restg3
  case hig3 => (simp only [List.getElem?_toArray, List.getElem?_cons_zero]; rfl)
  case hfg3 => kernel_rfl
  case hrg3 => kernel_rfl
  case hQg3 => exact fun _ _ _ h => h
  case hyg3 => refine Or.inl ⟨by rfl, ?_⟩; intro W hSw; have hcc := HC1.out W hSw; go_simp; try with_reducible rfl
  try simp only [Act.put, List.setIfInBounds_toArray, List.set_cons_zero, List.set_cons_succ]
  refine' wpAnyH_take (i := 1) (oi := _) (v := _) ?hig4 (by kernel_rfl) ?hfg4 ?hrg4 ?hQg4 ?hyg4 (hSg1) ?restg4
  case hig4 => (simp only [List.getElem?_toArray, List.getElem?_cons_zero, List.getElem?_cons_succ]; rfl)
  case hfg4 => kernel_rfl
  case hrg4 => kernel_rfl
  case hQg4 => exact fun _ _ _ h => h
  case hyg4 => refine Or.inl ⟨by rfl, ?_⟩; intro W hSw; go_simp; try with_reducible rfl
  try simp only [Act.put, List.setIfInBounds_toArray, List.set_cons_zero, List.set_cons_succ]
  refine' wpAnyH_take (i := 2) (oi := _) (v := _) ?hig5 (by kernel_rfl) ?hfg5 ?hrg5 ?hQg5 ?hyg5 (hSg1) ?restg5
  case hig5 => (simp only [List.getElem?_toArray, List.getElem?_cons_zero, List.getElem?_cons_succ]; rfl)
  case hfg5 => kernel_rfl
  case hrg5 => kernel_rfl
  case hQg5 => exact fun _ _ _ h => h
  case hyg5 => refine Or.inl ⟨by rfl, ?_⟩; intro W hSw; go_simp; try with_reducible rfl
  try simp only [Act.put, List.setIfInBounds_toArray, List.set_cons_zero, List.set_cons_succ]
  refine' wpAnyH_take (i := 3) (oi := _) (v := undef) ?hig6 (by kernel_rfl) ?hfg6 ?hrg6 ?hQg6 ?hyg6 (hSg1) ?restg6
  case hig6 => (simp only [List.getElem?_toArray, List.getElem?_cons_zero, List.getElem?_cons_succ]; rfl)
  case hfg6 => kernel_rfl
  case hrg6 => kernel_rfl
  case hQg6 => exact fun _ _ _ h => h
  case hyg6 => exact Or.inr ⟨by rfl, rfl⟩
  try simp only [Act.put, List.setIfInBounds_toArray, List.set_cons_zero, List.set_cons_succ]
  refine' wpAnyH_take (i := 4) (oi := _) (v := undef) ?hig7 (by kernel_rfl) ?hfg7 ?hrg7 ?hQg7 ?hyg7 (hSg1) ?restg7
  case hig7 => (simp only [List.getElem?_toArray, List.getElem?_cons_zero, List.getElem?_cons_succ]; rfl)
  case hfg7 => kernel_rfl
  case hrg7 => kernel_rfl
  case hQg7 => exact fun _ _ _ h => h
  case hyg7 => exact Or.inr ⟨by rfl, rfl⟩
  try simp only [Act.put, List.setIfInBounds_toArray, List.set_cons_zero, List.set_cons_succ]
  refine' wpAnyH_take (i := 5) (oi := _) (v := undef) ?hig8 (by kernel_rfl) ?hfg8 ?hrg8 ?hQg8 ?hyg8 (hSg1) ?restg8
  case hig8 => (simp only [List.getElem?_toArray, List.getElem?_cons_zero, List.getElem?_cons_succ]; rfl)
  case hfg8 => kernel_rfl
  case hrg8 => kernel_rfl
  case hQg8 => exact fun _ _ _ h => h
  case hyg8 => exact Or.inr ⟨by rfl, rfl⟩
  try simp only [Act.put, List.setIfInBounds_toArray, List.set_cons_zero, List.set_cons_succ]
  refine' wpAnyH_take (i := 6) (oi := _) (v := undef) ?hig9 (by kernel_rfl) ?hfg9 ?hrg9 ?hQg9 ?hyg9 (hSg1) ?restg9
  case hig9 => (simp only [List.getElem?_toArray, List.getElem?_cons_zero, List.getElem?_cons_succ]; rfl)
  case hfg9 => kernel_rfl
  case hrg9 => kernel_rfl
  case hQg9 => exact fun _ _ _ h => h
  case hyg9 => exact Or.inr ⟨by rfl, rfl⟩
  try simp only [Act.put, List.setIfInBounds_toArray, List.set_cons_zero, List.set_cons_succ]
  refine' wpAnyH_take (i := 7) (oi := _) (v := _) ?hig10 (by kernel_rfl) ?hfg10 ?hrg10 ?hQg10 ?hyg10 (hSg1) ?restg10
  case hig10 => (simp only [List.getElem?_toArray, List.getElem?_cons_zero, List.getElem?_cons_succ]; rfl)
  case hfg10 => kernel_rfl
  case hrg10 => kernel_rfl
  case hQg10 => exact fun _ _ _ h => h
  case hyg10 => refine Or.inl ⟨by rfl, ?_⟩; intro W hSw; go_simp; try with_reducible rfl
  try simp only [Act.put, List.setIfInBounds_toArray, List.set_cons_zero, List.set_cons_succ]
  refine' wpAnyH_take (i := 8) (oi := _) (v := _) ?hig11 (by kernel_rfl) ?hfg11 ?hrg11 ?hQg11 ?hyg11 (hSg1) ?restg11
  case hig11 => (simp only [List.getElem?_toArray, List.getElem?_cons_zero, List.getElem?_cons_succ]; rfl)
  case hfg11 => kernel_rfl
  case hrg11 => kernel_rfl
  case hQg11 => exact fun _ _ _ h => h
  case hyg11 => refine Or.inl ⟨by rfl, ?_⟩; intro W hSw; go_simp; try with_reducible rfl
  try simp only [Act.put, List.setIfInBounds_toArray, List.set_cons_zero, List.set_cons_succ]
  refine' wpAnyH_take (i := 9) (oi := _) (v := undef) ?hig12 (by kernel_rfl) ?hfg12 ?hrg12 ?hQg12 ?hyg12 (hSg1) ?restg12
  case hig12 => (simp only [List.getElem?_toArray, List.getElem?_cons_zero, List.getElem?_cons_succ]; rfl)
  case hfg12 => kernel_rfl
  case hrg12 => kernel_rfl
  case hQg12 => exact fun _ _ _ h => h
  case hyg12 => exact Or.inr ⟨by rfl, rfl⟩
  try simp only [Act.put, List.setIfInBounds_toArray, List.set_cons_zero, List.set_cons_succ]
  refine' wpAnyH_take (i := 10) (oi := _) (v := undef) ?hig13 (by kernel_rfl) ?hfg13 ?hrg13 ?hQg13 ?hyg13 (hSg1) ?restg13
  case hig13 => (simp only [List.getElem?_toArray, List.getElem?_cons_zero, List.getElem?_cons_succ]; rfl)
  case hfg13 => kernel_rfl
  case hrg13 => kernel_rfl
  case hQg13 => exact fun _ _ _ h => h
  case hyg13 => exact Or.inr ⟨by rfl, rfl⟩
  try simp only [Act.put, List.setIfInBounds_toArray, List.set_cons_zero, List.set_cons_succ]
  refine' wpAnyH_take (i := 11) (oi := _) (v := undef) ?hig14 (by kernel_rfl) ?hfg14 ?hrg14 ?hQg14 ?hyg14 (hSg1) ?restg14
  case hig14 => (simp only [List.getElem?_toArray, List.getElem?_cons_zero, List.getElem?_cons_succ]; rfl)
  case hfg14 => kernel_rfl
  case hrg14 => kernel_rfl
  case hQg14 => exact fun _ _ _ h => h
  case hyg14 => exact Or.inr ⟨by rfl, rfl⟩
  try simp only [Act.put, List.setIfInBounds_toArray, List.set_cons_zero, List.set_cons_succ]
  refine' wpAnyH_take (i := 12) (oi := _) (v := undef) ?hig15 (by kernel_rfl) ?hfg15 ?hrg15 ?hQg15 ?hyg15 (hSg1) ?restg15
  case hig15 => (simp only [List.getElem?_toArray, List.getElem?_cons_zero, List.getElem?_cons_succ]; rfl)
  case hfg15 => kernel_rfl
  case hrg15 => kernel_rfl
  case hQg15 => exact fun _ _ _ h => h
  case hyg15 => exact Or.inr ⟨by rfl, rfl⟩
  try simp only [Act.put, List.setIfInBounds_toArray, List.set_cons_zero, List.set_cons_succ]
  refine' wpAnyH_take (i := 13) (oi := _) (v := undef) ?hig16 (by kernel_rfl) ?hfg16 ?hrg16 ?hQg16 ?hyg16 (hSg1) ?restg16
  case hig16 => (simp only [List.getElem?_toArray, List.getElem?_cons_zero, List.getElem?_cons_succ]; rfl)
  case hfg16 => kernel_rfl
  case hrg16 => kernel_rfl
  case hQg16 => exact fun _ _ _ h => h
  case hyg16 => exact Or.inr ⟨by rfl, rfl⟩
  try simp only [Act.put, List.setIfInBounds_toArray, List.set_cons_zero, List.set_cons_succ]
  refine' wpAnyH_take (i := 14) (oi := _) (v := undef) ?hig17 (by kernel_rfl) ?hfg17 ?hrg17 ?hQg17 ?hyg17 (hSg1) ?restg17
  case hig17 => (simp only [List.getElem?_toArray, List.getElem?_cons_zero, List.getElem?_cons_succ]; rfl)
  case hfg17 => kernel_rfl
  case hrg17 => kernel_rfl
  case hQg17 => exact fun _ _ _ h => h
  case hyg17 => exact Or.inr ⟨by rfl, rfl⟩
  try simp only [Act.put, List.setIfInBounds_toArray, List.set_cons_zero, List.set_cons_succ]
  refine' wpAnyH_take (i := 15) (oi := _) (v := _) ?hig18 (by kernel_rfl) ?hfg18 ?hrg18 ?hQg18 ?hyg18 (hSg1) ?restg18
  case hig18 => (simp only [List.getElem?_toArray, List.getElem?_cons_zero, List.getElem?_cons_succ]; rfl)
  case hfg18 => kernel_rfl
  case hrg18 => kernel_rfl
  case hQg18 => exact fun _ _ _ h => h
  case hyg18 => refine Or.inl ⟨by rfl, ?_⟩; intro W hSw; go_simp; try with_reducible rfl
  try simp only [Act.put, List.setIfInBounds_toArray, List.set_cons_zero, List.set_cons_succ]
  refine wpAnyH_done (by kernel_rfl) ?_ _
  have hres := HZ.out.res.below hSg1
  have hz := below_setRow (below_on HZ.out.below (Nat.le_of_eq HG.out.symm) hSg1) (show g ≤ g + 4 by omega) #[.slice none 0 0, .slice none 0 0]
  go_wp2_with (with_reducible refine wpList_store_clash rfl (.tmp 8) (.tmp 26) rfl (g + 4) rfl hres none 0 0 none 0 0 rfl ?_)
  refine bodyPost_ret_by (results_cell_tmp (p := 8) (q := 9) (ty := 24) (by kernel_rfl) _ _ ⟨g + 4, 0, none⟩ (clv none 0 0 none 0 0) rfl (run_load_clash ((hres.setRow _).cell 0 rfl) ((hres.setRow _).cell 1 rfl))) rfl ?_
  exact ⟨⟨_, rfl, (fun e => by cases e), fun _ => rfl⟩, hz⟩

set_option maxRecDepth 100000 in
set_option maxHeartbeats 8000000 in
theorem path_far {k : Nat} (hk : n ≤ k) :
    Calls Tryd.prog 17 #[.slice A n c, .int .i64 (k : Int), .slice B m d, .slice P q r] w fun e w' => Tells w.heap.size false e w' ∧ Below w.heap.size w w' := by
  obtain ⟨g, hg⟩ : ∃ g, w.heap.size = g := ⟨_, rfl⟩
  have hz0 := PathIn.mk_ w g (.slice A n c) (.int .i64 (k : Int)) (.slice B m d) (.slice P q r) hg
  obtain ⟨wz, hwz⟩ : ∃ x, x = (((((w.alloc (.cells #[.slice A n c] 31)).alloc (.cells #[.int .i64 (k : Int)] 3)).alloc (.cells #[.slice B m d] 22)).alloc (.cells #[.slice P q r] 33)).alloc (.cells #[.slice none 0 0, .slice none 0 0] 24)) := ⟨_, rfl⟩
  rw [← hwz] at hz0
  have HW := Lib.hid hwz
  have HG := Lib.hid hg
  have HZ := Lib.hid hz0
  have b0z : Below w.heap.size w wz := by rw [hg]; exact hz0.below
  have HC1 := Lib.hid (fun (W : World) (hW : Below wz.heap.size wz W) => show W.cell? ⟨g + 1, 0, none⟩ = some (.int .i64 (k : Int)) from (hz0.at_.below hW).cell)
  have HC0 := Lib.hid (fun (W : World) (hW : Below wz.heap.size wz W) => show W.cell? ⟨g, 0, none⟩ = some (.slice A n c) from (hz0.l.below hW).cell)
  have hzi : ¬ ((k : Int) < 0) := by omega
  have hzj : (n : Int) ≤ (k : Int) := by omega
  rw [hg]
  clear hz0 hwz hg b0z
  go_enter Tryd.func17, Tryd.ntmps17
  go_upto_region 1 with fail
  rw [← HW.out]
  rw [HG.out]
  have hSr1 : Below wz.heap.size wz wz.drew := (Below.refl _ _).drew
  refine wp_region_held_drew (S := fun W => Below wz.heap.size wz W) (by kernel_rfl) (hSr1) (fun _ => ?_)
  change wpAnyH _ _ _ _ _ _ _ _ wz.drew
  generalize wz.drew = Wr2 at hSr1 ⊢
  refine' wpAnyH_take (i := 0) (oi := _) (v := _) ?hir3 (by kernel_rfl) ?hfr3 ?hrr3 ?hQr3 ?hyr3 (hSr1) ?restr3
  case hir3 => (simp only [List.getElem?_toArray, List.getElem?_cons_zero]; rfl)
  case hfr3 => kernel_rfl
  case hrr3 => kernel_rfl
  case hQr3 => exact fun _ _ _ h => h
  case hyr3 => refine Or.inl ⟨by rfl, ?_⟩; intro W hSw; have hcc := HC1.out W hSw; go_simp; try with_reducible rfl
  try simp only [Act.put, List.setIfInBounds_toArray, List.set_cons_zero, List.set_cons_succ]
  refine' wpAnyH_take (i := 1) (oi := _) (v := _) ?hir4 (by kernel_rfl) ?hfr4 ?hrr4 ?hQr4 ?hyr4 (hSr1) ?restr4
  case hir4 => (simp only [List.getElem?_toArray, List.getElem?_cons_zero, List.getElem?_cons_succ]; rfl)
  case hfr4 => kernel_rfl
  case hrr4 => kernel_rfl
  case hQr4 => exact fun _ _ _ h => h
  case hyr4 => refine Or.inl ⟨by rfl, ?_⟩; intro W hSw; go_simp; try with_reducible rfl
  try simp only [Act.put, List.setIfInBounds_toArray, List.set_cons_zero, List.set_cons_succ]
  refine' wpAnyH_take (i := 2) (oi := _) (v := _) ?hir5 (by kernel_rfl) ?hfr5 ?hrr5 ?hQr5 ?hyr5 (hSr1) ?restr5
  case hir5 => (simp only [List.getElem?_toArray, List.getElem?_cons_zero, List.getElem?_cons_succ]; rfl)
  case hfr5 => kernel_rfl
  case hrr5 => kernel_rfl
  case hQr5 => exact fun _ _ _ h => h
  case hyr5 => refine Or.inl ⟨by rfl, ?_⟩; intro W hSw; go_simp; try with_reducible rfl
  try simp only [Act.put, List.setIfInBounds_toArray, List.set_cons_zero, List.set_cons_succ]
  refine' wpAnyH_take (i := 3) (oi := _) (v := _) ?hir6 (by kernel_rfl) ?hfr6 ?hrr6 ?hQr6 ?hyr6 (hSr1) ?restr6
  case hir6 => (simp only [List.getElem?_toArray, List.getElem?_cons_zero, List.getElem?_cons_succ]; rfl)
  case hfr6 => kernel_rfl
  case hrr6 => kernel_rfl
  case hQr6 => exact fun _ _ _ h => h
  case hyr6 => refine Or.inl ⟨by rfl, ?_⟩; intro W hSw; have hcc := HC1.out W hSw; go_simp; try with_reducible rfl
  try simp only [Act.put, List.setIfInBounds_toArray, List.set_cons_zero, List.set_cons_succ]
  refine' wpAnyH_take (i := 4) (oi := _) (v := _) ?hir7 (by kernel_rfl) ?hfr7 ?hrr7 ?hQr7 ?hyr7 (hSr1) ?restr7
  case hir7 => (simp only [List.getElem?_toArray, List.getElem?_cons_zero, List.getElem?_cons_succ]; rfl)
  case hfr7 => kernel_rfl
  case hrr7 => kernel_rfl
  case hQr7 => exact fun _ _ _ h => h
  case hyr7 => refine Or.inl ⟨by rfl, ?_⟩; intro W hSw; have hcc := HC0.out W hSw; go_simp; try with_reducible rfl
  try simp only [Act.put, List.setIfInBounds_toArray, List.set_cons_zero, List.set_cons_succ]
  refine' wpAnyH_take (i := 5) (oi := _) (v := _) ?hir8 (by kernel_rfl) ?hfr8 ?hrr8 ?hQr8 ?hyr8 (hSr1) ?restr8
  case hir8 => (simp only [List.getElem?_toArray, List.getElem?_cons_zero, List.getElem?_cons_succ]; rfl)
  case hfr8 => kernel_rfl
  case hrr8 => kernel_rfl
  case hQr8 => exact fun _ _ _ h => h
  case hyr8 => refine Or.inl ⟨by rfl, ?_⟩; intro W hSw; go_simp; try with_reducible rfl
  try simp only [Act.put, List.setIfInBounds_toArray, List.set_cons_zero, List.set_cons_succ]
  refine' wpAnyH_take (i := 6) (oi := _) (v := _) ?hir9 (by kernel_rfl) ?hfr9 ?hrr9 ?hQr9 ?hyr9 (hSr1) ?restr9
  case hir9 => (simp only [List.getElem?_toArray, List.getElem?_cons_zero, List.getElem?_cons_succ]; rfl)
  case hfr9 => kernel_rfl
  case hrr9 => kernel_rfl
  case hQr9 => exact fun _ _ _ h => h
  case hyr9 => refine Or.inl ⟨by rfl, ?_⟩; intro W hSw; go_simp; try with_reducible rfl
  try simp only [Act.put, List.setIfInBounds_toArray, List.set_cons_zero, List.set_cons_succ]
  refine' wpAnyH_take (i := 7) (oi := _) (v := _) ?hir10 (by kernel_rfl) ?hfr10 ?hrr10 ?hQr10 ?hyr10 (hSr1) ?restr10
  case hir10 => (simp only [List.getElem?_toArray, List.getElem?_cons_zero, List.getElem?_cons_succ]; rfl)
  case hfr10 => kernel_rfl
  case hrr10 => kernel_rfl
  case hQr10 => exact fun _ _ _ h => h
  case hyr10 => refine Or.inl ⟨by rfl, ?_⟩; intro W hSw; go_simp; try with_reducible rfl
  try simp only [Act.put, List.setIfInBounds_toArray, List.set_cons_zero, List.set_cons_succ]
  refine' wpAnyH_take (i := 8) (oi := _) (v := _) ?hir11 (by kernel_rfl) ?hfr11 ?hrr11 ?hQr11 ?hyr11 (hSr1) ?restr11
  case hir11 => (simp only [List.getElem?_toArray, List.getElem?_cons_zero, List.getElem?_cons_succ]; rfl)
  case hfr11 => kernel_rfl
  case hrr11 => kernel_rfl
  case hQr11 => exact fun _ _ _ h => h
  case hyr11 => refine Or.inl ⟨by rfl, ?_⟩; intro W hSw; go_simp; try with_reducible rfl
  try simp only [Act.put, List.setIfInBounds_toArray, List.set_cons_zero, List.set_cons_succ]
  refine' wpAnyH_take (i := 9) (oi := _) (v := undef) ?hir12 (by kernel_rfl) ?hfr12 ?hrr12 ?hQr12 ?hyr12 (hSr1) ?restr12
  case hir12 => (simp only [List.getElem?_toArray, List.getElem?_cons_zero, List.getElem?_cons_succ]; rfl)
  case hfr12 => kernel_rfl
  case hrr12 => kernel_rfl
  case hQr12 => exact fun _ _ _ h => h
  case hyr12 => exact Or.inr ⟨by rfl, rfl⟩
  try simp only [Act.put, List.setIfInBounds_toArray, List.set_cons_zero, List.set_cons_succ]
  refine' wpAnyH_take (i := 10) (oi := _) (v := undef) ?hir13 (by kernel_rfl) ?hfr13 ?hrr13 ?hQr13 ?hyr13 (hSr1) ?restr13
  case hir13 => (simp only [List.getElem?_toArray, List.getElem?_cons_zero, List.getElem?_cons_succ]; rfl)
  case hfr13 => kernel_rfl
  case hrr13 => kernel_rfl
  case hQr13 => exact fun _ _ _ h => h
  case hyr13 => exact Or.inr ⟨by rfl, rfl⟩
  try simp only [Act.put, List.setIfInBounds_toArray, List.set_cons_zero, List.set_cons_succ]
  refine' wpAnyH_take (i := 11) (oi := _) (v := undef) ?hir14 (by kernel_rfl) ?hfr14 ?hrr14 ?hQr14 ?hyr14 (hSr1) ?restr14
  case hir14 => (simp only [List.getElem?_toArray, List.getElem?_cons_zero, List.getElem?_cons_succ]; rfl)
  case hfr14 => kernel_rfl
  case hrr14 => kernel_rfl
  case hQr14 => exact fun _ _ _ h => h
  case hyr14 => exact Or.inr ⟨by rfl, rfl⟩
  try simp only [Act.put, List.setIfInBounds_toArray, List.set_cons_zero, List.set_cons_succ]
  refine' wpAnyH_take (i := 12) (oi := _) (v := undef) ?hir15 (by kernel_rfl) ?hfr15 ?hrr15 ?hQr15 ?hyr15 (hSr1) ?restr15
  case hir15 => (simp only [List.getElem?_toArray, List.getElem?_cons_zero, List.getElem?_cons_succ]; rfl)
  case hfr15 => kernel_rfl
  case hrr15 => kernel_rfl
  case hQr15 => exact fun _ _ _ h => h
  case hyr15 => exact Or.inr ⟨by rfl, rfl⟩
  try simp only [Act.put, List.setIfInBounds_toArray, List.set_cons_zero, List.set_cons_succ]
  refine' wpAnyH_take (i := 13) (oi := _) (v := undef) ?hir16 (by kernel_rfl) ?hfr16 ?hrr16 ?hQr16 ?hyr16 (hSr1) ?restr16
  case hir16 => (simp only [List.getElem?_toArray, List.getElem?_cons_zero, List.getElem?_cons_succ]; rfl)
  case hfr16 => kernel_rfl
  case hrr16 => kernel_rfl
  case hQr16 => exact fun _ _ _ h => h
  case hyr16 => exact Or.inr ⟨by rfl, rfl⟩
  try simp only [Act.put, List.setIfInBounds_toArray, List.set_cons_zero, List.set_cons_succ]
  refine' wpAnyH_take (i := 14) (oi := _) (v := undef) ?hir17 (by kernel_rfl) ?hfr17 ?hrr17 ?hQr17 ?hyr17 (hSr1) ?restr17
  case hir17 => (simp only [List.getElem?_toArray, List.getElem?_cons_zero, List.getElem?_cons_succ]; rfl)
  case hfr17 => kernel_rfl
  case hrr17 => kernel_rfl
  case hQr17 => exact fun _ _ _ h => h
  case hyr17 => exact Or.inr ⟨by rfl, rfl⟩
  try simp only [Act.put, List.setIfInBounds_toArray, List.set_cons_zero, List.set_cons_succ]
  refine' wpAnyH_take (i := 15) (oi := _) (v := _) ?hir18 (by kernel_rfl) ?hfr18 ?hrr18 ?hQr18 ?hyr18 (hSr1) ?restr18
  case hir18 => (simp only [List.getElem?_toArray, List.getElem?_cons_zero, List.getElem?_cons_succ]; rfl)
  case hfr18 => kernel_rfl
  case hrr18 => kernel_rfl
  case hQr18 => exact fun _ _ _ h => h
  case hyr18 => refine Or.inl ⟨by rfl, ?_⟩; intro W hSw; go_simp; try with_reducible rfl
  try simp only [Act.put, List.setIfInBounds_toArray, List.set_cons_zero, List.set_cons_succ]
  refine wpAnyH_done (by kernel_rfl) ?_ _
  have hres := HZ.out.res.below hSr1
  have hz := below_setRow (below_on HZ.out.below (Nat.le_of_eq HG.out.symm) hSr1) (show g ≤ g + 4 by omega) #[.slice none 0 0, .slice none 0 0]
  go_wp2_with (with_reducible refine wpList_store_clash rfl (.tmp 8) (.tmp 26) rfl (g + 4) rfl hres none 0 0 none 0 0 rfl ?_)
  refine bodyPost_ret_by (results_cell_tmp (p := 8) (q := 9) (ty := 24) (by kernel_rfl) _ _ ⟨g + 4, 0, none⟩ (clv none 0 0 none 0 0) rfl (run_load_clash ((hres.setRow _).cell 0 rfl) ((hres.setRow _).cell 1 rfl))) rfl ?_
  exact ⟨⟨_, rfl, (fun e => by cases e), fun _ => rfl⟩, hz⟩

set_option maxRecDepth 100000 in
set_option maxHeartbeats 8000000 in
theorem path_same {k : Nat} {b : List Nat} (E1 : Ent w A n c R) (hk : k < n) (hB : Came w B m d b) (hb : R[k]? = some b) :
    Calls Tryd.prog 17 #[.slice A n c, .int .i64 (k : Int), .slice B m d, .slice P q r] w fun e w' => Tells w.heap.size false e w' ∧ Below w.heap.size w w' := by
  obtain ⟨g, hg⟩ : ∃ g, w.heap.size = g := ⟨_, rfl⟩
  have hz0 := PathIn.mk_ w g (.slice A n c) (.int .i64 (k : Int)) (.slice B m d) (.slice P q r) hg
  obtain ⟨wz, hwz⟩ : ∃ x, x = (((((w.alloc (.cells #[.slice A n c] 31)).alloc (.cells #[.int .i64 (k : Int)] 3)).alloc (.cells #[.slice B m d] 22)).alloc (.cells #[.slice P q r] 33)).alloc (.cells #[.slice none 0 0, .slice none 0 0] 24)) := ⟨_, rfl⟩
  rw [← hwz] at hz0
  have HW := Lib.hid hwz
  have HG := Lib.hid hg
  have HZ := Lib.hid hz0
  have b0z : Below w.heap.size w wz := by rw [hg]; exact hz0.below
  obtain ⟨ad, X, kx, qx, xs, rfl, hxs, hcx, hX, kxl⟩ := E1.at_ hk
  have hlt := World.block_lt_of_cell? w _ hcx
  have HCE := Lib.hid (fun (W : World) (hW : Below wz.heap.size wz W) => show W.cell? (ad.add k) = some (.slice X kx qx) from ((below_on b0z (Nat.le_refl _) hW).cell hlt).trans hcx)
  have CE := Lib.hid (fun (W : World) (hW : Below wz.heap.size wz W) => show Calls Tryd.prog 24 #[.slice X kx qx, .slice B m d] W fun e w' => e = .returned (.bool true) ∧ Below W.heap.size W w' from
    (equal_any (hX.below (below_on b0z (Nat.le_refl _) hW)) (hB.below (below_on b0z (Nat.le_refl _) hW))).mono fun e w' ⟨he, h⟩ => ⟨by rw [he]; rw [decide_eq_true (show xs = b from by rw [hxs] at hb; cases hb; rfl)], by rw [h]; exact Below.refl _ _⟩)
  have hzi : ¬ ((k : Int) < 0) := by omega
  have hzj : ¬ ((n : Int) ≤ (k : Int)) := by omega
  have hzk : (k : Int) < (n : Int) := by omega
  have HC0 := Lib.hid (fun (W : World) (hW : Below wz.heap.size wz W) => show W.cell? ⟨g, 0, none⟩ = some (.slice (some ad) n c) from (hz0.l.below hW).cell)
  clear hxs hcx hX hlt kxl E1 hB hb
  have HC1 := Lib.hid (fun (W : World) (hW : Below wz.heap.size wz W) => show W.cell? ⟨g + 1, 0, none⟩ = some (.int .i64 (k : Int)) from (hz0.at_.below hW).cell)
  have HC2 := Lib.hid (fun (W : World) (hW : Below wz.heap.size wz W) => show W.cell? ⟨g + 2, 0, none⟩ = some (.slice B m d) from (hz0.b.below hW).cell)
  rw [hg]
  clear hz0 hwz hg b0z
  go_enter Tryd.func17, Tryd.ntmps17
  go_upto_region 1 with fail
  rw [← HW.out]
  rw [HG.out]
  have hSe1 : Below wz.heap.size wz wz.drew := (Below.refl _ _).drew
  refine wp_region_held_drew (S := fun W => Below wz.heap.size wz W) (by kernel_rfl) (hSe1) (fun _ => ?_)
  change wpAnyH _ _ _ _ _ _ _ _ wz.drew
  generalize wz.drew = We2 at hSe1 ⊢
  refine' wpAnyH_take (i := 0) (oi := _) (v := _) ?hie3 (by kernel_rfl) ?hfe3 ?hre3 ?hQe3 ?hye3 (hSe1) ?reste3
  case hie3 => (simp only [List.getElem?_toArray, List.getElem?_cons_zero]; rfl)
  case hfe3 => kernel_rfl
  case hre3 => kernel_rfl
  case hQe3 => exact fun _ _ _ h => h
  case hye3 => refine Or.inl ⟨by rfl, ?_⟩; intro W hSw; have hcc := HC1.out W hSw; go_simp; try with_reducible rfl
  try simp only [Act.put, List.setIfInBounds_toArray, List.set_cons_zero, List.set_cons_succ]
  refine' wpAnyH_take (i := 1) (oi := _) (v := _) ?hie4 (by kernel_rfl) ?hfe4 ?hre4 ?hQe4 ?hye4 (hSe1) ?reste4
  case hie4 => (simp only [List.getElem?_toArray, List.getElem?_cons_zero, List.getElem?_cons_succ]; rfl)
  case hfe4 => kernel_rfl
  case hre4 => kernel_rfl
  case hQe4 => exact fun _ _ _ h => h
  case hye4 => refine Or.inl ⟨by rfl, ?_⟩; intro W hSw; go_simp; try with_reducible rfl
  try simp only [Act.put, List.setIfInBounds_toArray, List.set_cons_zero, List.set_cons_succ]
  refine' wpAnyH_take (i := 2) (oi := _) (v := _) ?hie5 (by kernel_rfl) ?hfe5 ?hre5 ?hQe5 ?hye5 (hSe1) ?reste5
  case hie5 => (simp only [List.getElem?_toArray, List.getElem?_cons_zero, List.getElem?_cons_succ]; rfl)
  case hfe5 => kernel_rfl
  case hre5 => kernel_rfl
  case hQe5 => exact fun _ _ _ h => h
  case hye5 => refine Or.inl ⟨by rfl, ?_⟩; intro W hSw; go_simp; try with_reducible rfl
  try simp only [Act.put, List.setIfInBounds_toArray, List.set_cons_zero, List.set_cons_succ]
  refine' wpAnyH_take (i := 3) (oi := _) (v := _) ?hie6 (by kernel_rfl) ?hfe6 ?hre6 ?hQe6 ?hye6 (hSe1) ?reste6
  case hie6 => (simp only [List.getElem?_toArray, List.getElem?_cons_zero, List.getElem?_cons_succ]; rfl)
  case hfe6 => kernel_rfl
  case hre6 => kernel_rfl
  case hQe6 => exact fun _ _ _ h => h
  case hye6 => refine Or.inl ⟨by rfl, ?_⟩; intro W hSw; have hcc := HC1.out W hSw; go_simp; try with_reducible rfl
  try simp only [Act.put, List.setIfInBounds_toArray, List.set_cons_zero, List.set_cons_succ]
  refine' wpAnyH_take (i := 4) (oi := _) (v := _) ?hie7 (by kernel_rfl) ?hfe7 ?hre7 ?hQe7 ?hye7 (hSe1) ?reste7
  case hie7 => (simp only [List.getElem?_toArray, List.getElem?_cons_zero, List.getElem?_cons_succ]; rfl)
  case hfe7 => kernel_rfl
  case hre7 => kernel_rfl
  case hQe7 => exact fun _ _ _ h => h
  case hye7 => refine Or.inl ⟨by rfl, ?_⟩; intro W hSw; have hcc := HC0.out W hSw; go_simp; try with_reducible rfl
  try simp only [Act.put, List.setIfInBounds_toArray, List.set_cons_zero, List.set_cons_succ]
  refine' wpAnyH_take (i := 5) (oi := _) (v := _) ?hie8 (by kernel_rfl) ?hfe8 ?hre8 ?hQe8 ?hye8 (hSe1) ?reste8
  case hie8 => (simp only [List.getElem?_toArray, List.getElem?_cons_zero, List.getElem?_cons_succ]; rfl)
  case hfe8 => kernel_rfl
  case hre8 => kernel_rfl
  case hQe8 => exact fun _ _ _ h => h
  case hye8 => refine Or.inl ⟨by rfl, ?_⟩; intro W hSw; go_simp; try with_reducible rfl
  try simp only [Act.put, List.setIfInBounds_toArray, List.set_cons_zero, List.set_cons_succ]
  refine' wpAnyH_take (i := 6) (oi := _) (v := _) ?hie9 (by kernel_rfl) ?hfe9 ?hre9 ?hQe9 ?hye9 (hSe1) ?reste9
  case hie9 => (simp only [List.getElem?_toArray, List.getElem?_cons_zero, List.getElem?_cons_succ]; rfl)
  case hfe9 => kernel_rfl
  case hre9 => kernel_rfl
  case hQe9 => exact fun _ _ _ h => h
  case hye9 => refine Or.inl ⟨by rfl, ?_⟩; intro W hSw; go_simp; try with_reducible rfl
  try simp only [Act.put, List.setIfInBounds_toArray, List.set_cons_zero, List.set_cons_succ]
  refine' wpAnyH_take (i := 7) (oi := _) (v := _) ?hie10 (by kernel_rfl) ?hfe10 ?hre10 ?hQe10 ?hye10 (hSe1) ?reste10
  case hie10 => (simp only [List.getElem?_toArray, List.getElem?_cons_zero, List.getElem?_cons_succ]; rfl)
  case hfe10 => kernel_rfl
  case hre10 => kernel_rfl
  case hQe10 => exact fun _ _ _ h => h
  case hye10 => refine Or.inl ⟨by rfl, ?_⟩; intro W hSw; go_simp; try with_reducible rfl
  try simp only [Act.put, List.setIfInBounds_toArray, List.set_cons_zero, List.set_cons_succ]
  refine' wpAnyH_take (i := 8) (oi := _) (v := _) ?hie11 (by kernel_rfl) ?hfe11 ?hre11 ?hQe11 ?hye11 (hSe1) ?reste11
  case hie11 => (simp only [List.getElem?_toArray, List.getElem?_cons_zero, List.getElem?_cons_succ]; rfl)
  case hfe11 => kernel_rfl
  case hre11 => kernel_rfl
  case hQe11 => exact fun _ _ _ h => h
  case hye11 => refine Or.inl ⟨by rfl, ?_⟩; intro W hSw; go_simp; try with_reducible rfl
  try simp only [Act.put, List.setIfInBounds_toArray, List.set_cons_zero, List.set_cons_succ]
  refine' wpAnyH_take (i := 9) (oi := _) (v := _) ?hie12 (by kernel_rfl) ?hfe12 ?hre12 ?hQe12 ?hye12 (hSe1) ?reste12
  case hie12 => (simp only [List.getElem?_toArray, List.getElem?_cons_zero, List.getElem?_cons_succ]; rfl)
  case hfe12 => kernel_rfl
  case hre12 => kernel_rfl
  case hQe12 => exact fun _ _ _ h => h
  case hye12 => refine Or.inl ⟨by rfl, ?_⟩; intro W hSw; have hcc := HC0.out W hSw; go_simp; try with_reducible rfl
  try simp only [Act.put, List.setIfInBounds_toArray, List.set_cons_zero, List.set_cons_succ]
  refine' wpAnyH_take (i := 10) (oi := _) (v := _) ?hie13 (by kernel_rfl) ?hfe13 ?hre13 ?hQe13 ?hye13 (hSe1) ?reste13
  case hie13 => (simp only [List.getElem?_toArray, List.getElem?_cons_zero, List.getElem?_cons_succ]; rfl)
  case hfe13 => kernel_rfl
  case hre13 => kernel_rfl
  case hQe13 => exact fun _ _ _ h => h
  case hye13 => refine Or.inl ⟨by rfl, ?_⟩; intro W hSw; have hcc := HC1.out W hSw; go_simp; try with_reducible rfl
  try simp only [Act.put, List.setIfInBounds_toArray, List.set_cons_zero, List.set_cons_succ]
  refine' wpAnyH_take (i := 11) (oi := _) (v := _) ?hie14 (by kernel_rfl) ?hfe14 ?hre14 ?hQe14 ?hye14 (hSe1) ?reste14
  case hie14 => (simp only [List.getElem?_toArray, List.getElem?_cons_zero, List.getElem?_cons_succ]; rfl)
  case hfe14 => kernel_rfl
  case hre14 => kernel_rfl
  case hQe14 => exact fun _ _ _ h => h
  case hye14 => refine Or.inl ⟨by rfl, ?_⟩; intro W hSw; go_simp; try with_reducible rfl
  try simp only [Act.put, List.setIfInBounds_toArray, List.set_cons_zero, List.set_cons_succ]
  refine' wpAnyH_take (i := 12) (oi := _) (v := _) ?hie15 (by kernel_rfl) ?hfe15 ?hre15 ?hQe15 ?hye15 (hSe1) ?reste15
  case hie15 => (simp only [List.getElem?_toArray, List.getElem?_cons_zero, List.getElem?_cons_succ]; rfl)
  case hfe15 => kernel_rfl
  case hre15 => kernel_rfl
  case hQe15 => exact fun _ _ _ h => h
  case hye15 => refine Or.inl ⟨by rfl, ?_⟩; intro W hSw; have hcc := HCE.out W hSw; go_simp; try with_reducible rfl
  try simp only [Act.put, List.setIfInBounds_toArray, List.set_cons_zero, List.set_cons_succ]
  refine' wpAnyH_take (i := 13) (oi := _) (v := _) ?hie16 (by kernel_rfl) ?hfe16 ?hre16 ?hQe16 ?hye16 (hSe1) ?reste16
  case hie16 => (simp only [List.getElem?_toArray, List.getElem?_cons_zero, List.getElem?_cons_succ]; rfl)
  case hfe16 => kernel_rfl
  case hre16 => kernel_rfl
  case hQe16 => exact fun _ _ _ h => h
  case hye16 => refine Or.inl ⟨by rfl, ?_⟩; intro W hSw; have hcc := HC2.out W hSw; go_simp; try with_reducible rfl
  try simp only [Act.put, List.setIfInBounds_toArray, List.set_cons_zero, List.set_cons_succ]
  refine wpAnyH_ready (rs := [14]) (by kernel_rfl) (by simp) ?_
  refine' (AllReadyH.cons (o := _) ?hie17 (fun K hK => ?_) AllReadyH.nil)
  case hie17 => (simp only [List.getElem?_toArray, List.getElem?_cons_zero, List.getElem?_cons_succ]; rfl)
  go_simp
  go_at_call 24
  refine (CE.out We2 hSe1).mono ?_
  rintro e We20 ⟨rfl, hbe18⟩
  have hBe19 := below_on hSe1 (Nat.le_refl _) hbe18
  refine hK.out _ _ (hBe19) (fun _ => ?_)
  clear hK K
  try simp only [Act.put, List.setIfInBounds_toArray, List.set_cons_zero, List.set_cons_succ]
  refine' wpAnyH_take (i := 15) (oi := _) (v := _) ?hie21 (by kernel_rfl) ?hfe21 ?hre21 ?hQe21 ?hye21 (hBe19) ?reste21
  case hie21 => (simp only [List.getElem?_toArray, List.getElem?_cons_zero, List.getElem?_cons_succ]; rfl)
  case hfe21 => kernel_rfl
  case hre21 => kernel_rfl
  case hQe21 => exact fun _ _ _ h => h
  case hye21 => refine Or.inl ⟨by rfl, ?_⟩; intro W hSw; go_simp; try with_reducible rfl
  try simp only [Act.put, List.setIfInBounds_toArray, List.set_cons_zero, List.set_cons_succ]
  refine wpAnyH_done (by kernel_rfl) ?_ _
  have hres := HZ.out.res.below hBe19
  have hz := below_setRow (below_on HZ.out.below (Nat.le_of_eq HG.out.symm) hBe19) (show g ≤ g + 4 by omega) #[.slice none 0 0, .slice none 0 0]
  go_wp2_with (with_reducible refine wpList_store_clash rfl (.tmp 8) (.tmp 26) rfl (g + 4) rfl hres none 0 0 none 0 0 rfl ?_)
  refine bodyPost_ret_by (results_cell_tmp (p := 8) (q := 9) (ty := 24) (by kernel_rfl) _ _ ⟨g + 4, 0, none⟩ (clv none 0 0 none 0 0) rfl (run_load_clash ((hres.setRow _).cell 0 rfl) ((hres.setRow _).cell 1 rfl))) rfl ?_
  exact ⟨⟨_, rfl, (fun e => by cases e), fun _ => rfl⟩, hz⟩

set_option maxRecDepth 100000 in
set_option maxHeartbeats 8000000 in
theorem link_far (hnm : m < n) :
    Calls Tryd.prog 20 #[.slice A n c, .slice B m d, .slice P q r] w fun e w' => Tells w.heap.size false e w' ∧ Below w.heap.size w w' := by
  obtain ⟨g, hg⟩ : ∃ g, w.heap.size = g := ⟨_, rfl⟩
  have hz0 := LinkIn.mk_ w g (.slice A n c) (.slice B m d) (.slice P q r) hg
  obtain ⟨wz, hwz⟩ : ∃ x, x = ((((w.alloc (.cells #[.slice A n c] 31)).alloc (.cells #[.slice B m d] 31)).alloc (.cells #[.slice P q r] 33)).alloc (.cells #[.slice none 0 0, .slice none 0 0] 24)) := ⟨_, rfl⟩
  rw [← hwz] at hz0
  have HW := Lib.hid hwz
  have HG := Lib.hid hg
  have HZ := Lib.hid hz0
  have b0z : Below w.heap.size w wz := by rw [hg]; exact hz0.below
  have x0 : wz.cell? ⟨g, 0, none⟩ = some (.slice A n c) := hz0.a.cell
  have x1 : wz.cell? ⟨g + 1, 0, none⟩ = some (.slice B m d) := hz0.b.cell
  rw [hg]
  clear hz0 hwz hg b0z
  go_enter Tryd.func20, Tryd.ntmps20
  go_upto_region 1 with fail
  rw [← HW.out]
  rw [HG.out]
  have hi : (m : Int) < (n : Int) := by omega
  have hres := HZ.out.res
  have hz := below_setRow HZ.out.below (show g ≤ g + 3 by omega) #[.slice none 0 0, .slice none 0 0]
  go_wp2_with (with_reducible refine wpList_store_clash rfl (.tmp 6) (.tmp 18) rfl (g + 3) rfl hres none 0 0 none 0 0 rfl ?_)
  refine bodyPost_ret_by (results_cell_tmp (p := 6) (q := 7) (ty := 24) (by kernel_rfl) _ _ ⟨g + 3, 0, none⟩ (clv none 0 0 none 0 0) rfl (run_load_clash ((hres.setRow _).cell 0 rfl) ((hres.setRow _).cell 1 rfl))) rfl ?_
  exact ⟨⟨_, rfl, (fun e => by cases e), fun _ => rfl⟩, hz⟩

set_option maxRecDepth 100000 in
set_option maxHeartbeats 8000000 in
theorem link_begins (E1 : Ent w A n c R) (E2 : Ent w B m d S) (hnm : n ≤ m) (hn : n ≤ 60000) (hRS : R = S.take n) :
    Calls Tryd.prog 20 #[.slice A n c, .slice B m d, .slice P q r] w fun e w' => Tells w.heap.size false e w' ∧ Below w.heap.size w w' := by
  obtain ⟨g, hg⟩ : ∃ g, w.heap.size = g := ⟨_, rfl⟩
  have hz0 := LinkIn.mk_ w g (.slice A n c) (.slice B m d) (.slice P q r) hg
  obtain ⟨wz, hwz⟩ : ∃ x, x = ((((w.alloc (.cells #[.slice A n c] 31)).alloc (.cells #[.slice B m d] 31)).alloc (.cells #[.slice P q r] 33)).alloc (.cells #[.slice none 0 0, .slice none 0 0] 24)) := ⟨_, rfl⟩
  rw [← hwz] at hz0
  have HW := Lib.hid hwz
  have HG := Lib.hid hg
  have HZ := Lib.hid hz0
  have b0z : Below w.heap.size w wz := by rw [hg]; exact hz0.below
  have x0 : wz.cell? ⟨g, 0, none⟩ = some (.slice A n c) := hz0.a.cell
  have x1 : wz.cell? ⟨g + 1, 0, none⟩ = some (.slice B m d) := hz0.b.cell
  have CB0 := begins_any (E1.below b0z) (E2.below b0z) hnm (by omega)
  rw [decide_eq_true hRS] at CB0
  have CB := Lib.hid CB0
  clear CB0 hRS E1 E2
  rw [hg]
  clear hz0 hwz hg b0z
  go_enter Tryd.func20, Tryd.ntmps20
  go_upto_region 1 with fail
  rw [← HW.out]
  rw [HG.out]
  have hi : ¬ ((m : Int) < (n : Int)) := by omega
  go_wp2_with fail
  refine CB.out.mono ?_
  rintro e w' ⟨rfl, e1⟩
  obtain rfl := e1.symm
  clear e1
  have hres := HZ.out.res
  have hz := below_setRow HZ.out.below (show g ≤ g + 3 by omega) #[.slice none 0 0, .slice none 0 0]
  go_wp2_with (with_reducible refine wpList_store_clash rfl (.tmp 6) (.tmp 18) rfl (g + 3) rfl hres none 0 0 none 0 0 rfl ?_)
  refine bodyPost_ret_by (results_cell_tmp (p := 6) (q := 7) (ty := 24) (by kernel_rfl) _ _ ⟨g + 3, 0, none⟩ (clv none 0 0 none 0 0) rfl (run_load_clash ((hres.setRow _).cell 0 rfl) ((hres.setRow _).cell 1 rfl))) rfl ?_
  exact ⟨⟨_, rfl, (fun e => by cases e), fun _ => rfl⟩, hz⟩
end

end Go.Proofs.YtcekfnngnjpeeaaDoor

/-
  almonerlaw13.alive.
-/
namespace Go.Proofs.YtcekfnngnjpeeaaDoor
open Go.RowKit

theorem lit_const (x : Nat) (hx : x < 256) (W : World) : Came (W.alloc (.cells #[.int .u8 (x : Int)] 5 (1, 2))) (some ⟨W.heap.size, 0, none⟩) 1 1 [x] :=
  ⟨⟨rfl, fun j y hy => ⟨_, rfl, by
    have hj := (List.getElem?_eq_some_iff.1 hy).1
    obtain rfl : j = 0 := by simp at hj; omega
    cases hy
    exact cell_of_row _ _ 0 _ _ (1, 2) (World.alloc_heap_new W _)⟩⟩, (by intro y hy; simp at hy; omega), (fun h => by cases h), Nat.le_refl _⟩
theorem lit_conv (z : Int) (W : World) : (convert 22 22 (.slice (some ⟨W.heap.size, 0, none⟩) 1 1)).run Tryd.prog (W.alloc (.cells #[.int .u8 z] 5)) = .ok (.slice (some ⟨W.heap.size, 0, none⟩) 1 1) (W.alloc (.cells #[.int .u8 z] 5 (1, 2))) :=
  Joins.run_convert_bytes_const_at W _ _ _ 1 1 _ rfl Tryd.underlying22 Tryd.underlying5
theorem ent_one {W : World} {A : Option Addr} {n c : Nat} {xs : List Nat} (h1 : Came W A n c xs) (hn : n ≤ 20000) :
    Ent (W.alloc (.cells #[.slice A n c] 22)) (some ⟨W.heap.size, 0, none⟩) 1 1 [xs] :=
  ⟨⟨rfl, fun r zs hz => by
    match r with
    | 0 => cases hz; exact ⟨_, A, n, c, rfl, by rw [add_zero', cell_of_row _ _ 0 _ _ (0, 0) (World.alloc_heap_new W _)]; rfl, h1.below (below_alloc W _), by omega⟩⟩,
    Nat.le_refl _, (fun e => by cases e), fun b hb => by
      simp at hb
      subst hb
      rw [h1.in_.len]; exact hn⟩

theorem ab_sums : sha [97] ≠ sha [98] := by decide +kernel
theorem ab_roots : rtl [[97], [98]] ≠ rtl [[97], [97]] := by
  have c2 : cutN 2 = 1 := by decide
  rw [rtl_cut (n := 2) rfl (by omega), rtl_cut (l := [[97], [97]]) (n := 2) rfl (by omega), c2]
  show nodeL (rtl [[97]]) (rtl [[98]]) ≠ nodeL (rtl [[97]]) (rtl [[97]])
  rw [rtl_one, rtl_one]
  decide +kernel
theorem ab_same : listsB [[97], [98]] [[97], [98]] = false := by simp [listsB]
theorem ab_part : listsB [[97], [98]] [[97], [97]] = false := by simp [listsB, ab_roots]
theorem ab_is : isC [97] [98] = false := by simp [isC, ab_sums]
theorem aa_is : isC [97] [97] = false := by simp [isC]

/-- Where both texts lie. -/
structure AB (w W : World) (ga : Nat) : Prop where
  a : Came W (some ⟨ga, 0, none⟩) 1 1 [97]
  b : Came W (some ⟨ga + 1, 0, none⟩) 1 1 [98]
  below : Below ga w W
theorem AB.on {w W W' : World} {ga : Nat} (h : AB w W ga) (hs : w.heap.size = ga) (hb : Below W.heap.size W W') : AB w W' ga := ⟨h.a.below hb, h.b.below hb, below_on h.below (Nat.le_of_eq hs.symm) hb⟩

set_option maxRecDepth 100000 in
set_option maxHeartbeats 8000000 in
theorem calive_any (w : World) (hk : Knows w) (hks : Starts w) :
    Calls Tryd.prog 8 #[] w fun e w' => e = .returned (.bool true) ∧ Below w.heap.size w w' := by
  obtain ⟨ga, hga⟩ : ∃ g, w.heap.size = g := ⟨_, rfl⟩
  have HG := Lib.hid hga
  have HK := Lib.hid (And.intro hk hks)
  have KB := Lib.hid (fun (W : World) (hW : AB w W ga) => show Knows W ∧ Starts W from by have hb := hW.below; rw [← hga] at hb; exact ⟨hk.below hb, hks.below hb⟩)
  have k1 := lit_conv 97 w
  have a0 := lit_const 97 (by omega) w
  have ba := below_alloc w (.cells #[.int .u8 97] 5 (1, 2))
  rw [hga] at a0 ba
  obtain ⟨wa, ea⟩ : ∃ x, x = w.alloc (.cells #[.int .u8 97] 5 (1, 2)) := ⟨_, rfl⟩
  have sa : wa.heap.size = ga + 1 := by rw [ea]; simp [hga]
  have k2 := lit_conv 98 wa
  have b0 := lit_const 98 (by omega) wa
  have bb := below_alloc wa (.cells #[.int .u8 98] 5 (1, 2))
  rw [sa] at b0 bb
  obtain ⟨wb, eb⟩ : ∃ x, x = wa.alloc (.cells #[.int .u8 98] 5 (1, 2)) := ⟨_, rfl⟩
  have ba' : Below ga w wa := by rw [ea]; exact ba
  have a0' : Came wa (some ⟨ga, 0, none⟩) 1 1 [97] := by rw [ea]; exact a0
  have bb' : Below wa.heap.size wa wb := by rw [sa, eb]; exact bb
  have b0' : Came wb (some ⟨ga + 1, 0, none⟩) 1 1 [98] := by rw [eb]; exact b0
  have HAB0 := Lib.hid (show AB w wb ga from ⟨a0'.below bb', b0', below_on ba' (Nat.le_of_eq hga.symm) bb'⟩)
  clear ba' a0' bb' b0'
  have HE := Lib.hid (And.intro ea (And.intro eb sa))
  rw [hga]
  clear hk hks hga a0 ba ea b0 bb eb sa
  go_enter Tryd.func8, Tryd.ntmps8
  go_upto_region 2 with fail
  rw [HG.out, ← HE.out.1]
  go_upto_region 3 with fail
  rw [HE.out.2.2, ← HE.out.2.1]
  clear k1 k2
  obtain ⟨p1, hp1⟩ : ∃ p, wb.heap.size = p := ⟨_, rfl⟩
  have E1 := ent_two HAB0.out.a HAB0.out.b (by omega) (by omega)
  have b1 := below_alloc wb (.cells #[.slice (some ⟨ga, 0, none⟩) 1 1, .slice (some ⟨ga + 1, 0, none⟩) 1 1] 22)
  obtain ⟨x1, hx1⟩ : ∃ x, x = wb.alloc (.cells #[.slice (some ⟨ga, 0, none⟩) 1 1, .slice (some ⟨ga + 1, 0, none⟩) 1 1] 22) := ⟨_, rfl⟩
  have sx1 : x1.heap.size = p1 + 1 := by rw [hx1]; simp [hp1]
  rw [← hx1] at E1 b1
  have A1 := HAB0.out.on HG.out b1
  have E2 := ent_two A1.a A1.b (by omega) (by omega)
  have b2 := below_alloc x1 (.cells #[.slice (some ⟨ga, 0, none⟩) 1 1, .slice (some ⟨ga + 1, 0, none⟩) 1 1] 22)
  obtain ⟨x2, hx2⟩ : ∃ x, x = x1.alloc (.cells #[.slice (some ⟨ga, 0, none⟩) 1 1, .slice (some ⟨ga + 1, 0, none⟩) 1 1] 22) := ⟨_, rfl⟩
  rw [← hx2] at E2 b2
  have A2 := A1.on HG.out b2
  have CT := lists_any (E1.below b2) E2 (KB.out _ A2).1 (KB.out _ A2).2 (by omega) (by omega)
  rw [ab_same, hp1, sx1] at CT
  have C1 := Lib.hid CT
  have HX := Lib.hid (show x2 = (wb.alloc (.cells #[.slice (some ⟨ga, 0, none⟩) 1 1, .slice (some ⟨ga + 1, 0, none⟩) 1 1] 22)).alloc (.cells #[.slice (some ⟨ga, 0, none⟩) 1 1, .slice (some ⟨ga + 1, 0, none⟩) 1 1] 22) by rw [hx2, hx1])
  have HA2 := Lib.hid A2
  have HP := Lib.hid hp1
  clear CT E1 E2 b1 b2 hx1 hx2 sx1 A1 A2 hp1
  go_wp2_with fail
  rw [HP.out, ← HX.out]
  refine C1.out.mono ?_
  rintro e y1 ⟨⟨v, rfl, _, hv⟩, hb⟩
  have hv' := hv rfl
  unfold clv at hv'
  subst hv'
  have A3 := HA2.out.on HG.out hb
  have HAB1 := Lib.hid (A3.on HG.out (below_alloc y1 (.cells #[.slice none 0 0, .slice none 0 0] 24)))
  clear hv hb C1 HX HP HA2 A3
  go_upto_region 4 with fail
  obtain ⟨wn1, hwn⟩ : ∃ x, x = y1.alloc (.cells #[.slice none 0 0, .slice none 0 0] 24) := ⟨_, rfl⟩
  rw [← hwn] at HAB1 ⊢
  clear hwn
  obtain ⟨p2, hp2⟩ : ∃ p, wn1.heap.size = p := ⟨_, rfl⟩
  have E1 := ent_two HAB1.out.a HAB1.out.b (by omega) (by omega)
  have b1 := below_alloc wn1 (.cells #[.slice (some ⟨ga, 0, none⟩) 1 1, .slice (some ⟨ga + 1, 0, none⟩) 1 1] 22)
  obtain ⟨x1, hx1⟩ : ∃ x, x = wn1.alloc (.cells #[.slice (some ⟨ga, 0, none⟩) 1 1, .slice (some ⟨ga + 1, 0, none⟩) 1 1] 22) := ⟨_, rfl⟩
  have sx1 : x1.heap.size = p2 + 1 := by rw [hx1]; simp [hp2]
  rw [← hx1] at E1 b1
  have A1 := HAB1.out.on HG.out b1
  have E2 := ent_two A1.a A1.a (by omega) (by omega)
  have b2 := below_alloc x1 (.cells #[.slice (some ⟨ga, 0, none⟩) 1 1, .slice (some ⟨ga, 0, none⟩) 1 1] 22)
  obtain ⟨x2, hx2⟩ : ∃ x, x = x1.alloc (.cells #[.slice (some ⟨ga, 0, none⟩) 1 1, .slice (some ⟨ga, 0, none⟩) 1 1] 22) := ⟨_, rfl⟩
  rw [← hx2] at E2 b2
  have A2 := A1.on HG.out b2
  have CT := lists_any (E1.below b2) E2 (KB.out _ A2).1 (KB.out _ A2).2 (by omega) (by omega)
  rw [ab_part, hp2, sx1] at CT
  have C1 := Lib.hid CT
  have HX := Lib.hid (show x2 = (wn1.alloc (.cells #[.slice (some ⟨ga, 0, none⟩) 1 1, .slice (some ⟨ga + 1, 0, none⟩) 1 1] 22)).alloc (.cells #[.slice (some ⟨ga, 0, none⟩) 1 1, .slice (some ⟨ga, 0, none⟩) 1 1] 22) by rw [hx2, hx1])
  have HA2 := Lib.hid A2
  have HP := Lib.hid hp2
  clear CT E1 E2 b1 b2 hx1 hx2 sx1 A1 A2 hp2
  go_wp2_with fail
  rw [HP.out, ← HX.out]
  refine C1.out.mono ?_
  rintro e y2 ⟨⟨v, rfl, _, hv⟩, hb⟩
  have hv' := hv rfl
  unfold clv at hv'
  subst hv'
  have A3 := HA2.out.on HG.out hb
  have HAB2 := Lib.hid (A3.on HG.out (below_alloc y2 (.cells #[.slice none 0 0, .slice none 0 0] 24)))
  clear hv hb C1 HX HP HA2 A3
  go_upto_region 5 with fail
  obtain ⟨wn2, hwn⟩ : ∃ x, x = y2.alloc (.cells #[.slice none 0 0, .slice none 0 0] 24) := ⟨_, rfl⟩
  rw [← hwn] at HAB2 ⊢
  clear hwn
  obtain ⟨lb, hlb⟩ : ∃ x, leafL [98] = x := ⟨_, rfl⟩
  have lbl : lb.length = 32 := by rw [← hlb]; exact leafL_length _
  obtain ⟨p3, hp3⟩ : ∃ p, wn2.heap.size = p := ⟨_, rfl⟩
  have E1 := ent_two HAB2.out.a HAB2.out.b (by omega) (by omega)
  have b1 := below_alloc wn2 (.cells #[.slice (some ⟨ga, 0, none⟩) 1 1, .slice (some ⟨ga + 1, 0, none⟩) 1 1] 22)
  obtain ⟨x1, hx1⟩ : ∃ x, x = wn2.alloc (.cells #[.slice (some ⟨ga, 0, none⟩) 1 1, .slice (some ⟨ga + 1, 0, none⟩) 1 1] 22) := ⟨_, rfl⟩
  rw [← hx1] at E1 b1
  have A1 := HAB2.out.on HG.out b1
  have CL0 := leaf_any _ 1 1 [98] x1 A1.b (KB.out _ A1).1 (KB.out _ A1).2 (by omega)
  rw [hlb] at CL0
  have CL := Lib.hid CL0
  rw [hp3] at E1
  have HX := Lib.hid (And.intro hx1 (And.intro hp3 (And.intro E1 A1)))
  clear CL0 E1 b1 hx1 A1 hp3
  go_wp2_with fail
  rw [HX.out.2.1, ← HX.out.1]
  refine CL.out.mono ?_
  rintro e x2 ⟨rfl, hb2⟩
  have A2 := HX.out.2.2.2.on HG.out hb2
  have b3 := below_alloc x2 (.cells (bvs lb).toArray 29)
  obtain ⟨x3, hx3⟩ : ∃ x, x = x2.alloc (.cells (bvs lb).toArray 29) := ⟨_, rfl⟩
  rw [← hx3] at b3
  have A3 := A2.on HG.out b3
  have C0 := path_same (w := x3) (P := some ⟨x2.heap.size, 0, none⟩) (q := 1) (r := 1) (k := 0) ((HX.out.2.2.1.below hb2).below b3) (by omega) A3.a rfl
  have C1 := Lib.hid C0
  have HA2 := Lib.hid A3
  have HX3 := Lib.hid hx3
  clear C0 b3 hx3 A2 A3 hb2 CL HX
  go_wp2_with (refine wpList_one_sum rfl _ lb rfl (by simp <;> rfl) lbl ?_; rw [← HX3.out])
  refine C1.out.mono ?_
  rintro e y3 ⟨⟨v, rfl, _, hv⟩, hb⟩
  have hv' := hv rfl
  unfold clv at hv'
  subst hv'
  have A3 := HA2.out.on HG.out hb
  have HAB3 := Lib.hid (A3.on HG.out (below_alloc y3 (.cells #[.slice none 0 0, .slice none 0 0] 24)))
  clear hv hb C1 HX3 HA2 A3
  go_upto_region 6 with fail
  obtain ⟨wn3, hwn⟩ : ∃ x, x = y3.alloc (.cells #[.slice none 0 0, .slice none 0 0] 24) := ⟨_, rfl⟩
  rw [← hwn] at HAB3 ⊢
  clear hwn
  obtain ⟨p4, hp4⟩ : ∃ p, wn3.heap.size = p := ⟨_, rfl⟩
  have E1 := ent_one HAB3.out.a (by omega)
  have b1 := below_alloc wn3 (.cells #[.slice (some ⟨ga, 0, none⟩) 1 1] 22)
  obtain ⟨x0, hx0⟩ : ∃ x, x = wn3.alloc (.cells #[.slice (some ⟨ga, 0, none⟩) 1 1] 22) := ⟨_, rfl⟩
  have sx0 : x0.heap.size = p4 + 1 := by rw [hx0]; simp [hp4]
  rw [← hx0, hp4] at E1
  rw [← hx0] at b1
  have A0 := HAB3.out.on HG.out b1
  have E2 := ent_two A0.a A0.b (by omega) (by omega)
  have b2 := below_alloc x0 (.cells #[.slice (some ⟨ga, 0, none⟩) 1 1, .slice (some ⟨ga + 1, 0, none⟩) 1 1] 22)
  obtain ⟨x1, hx1⟩ : ∃ x, x = x0.alloc (.cells #[.slice (some ⟨ga, 0, none⟩) 1 1, .slice (some ⟨ga + 1, 0, none⟩) 1 1] 22) := ⟨_, rfl⟩
  rw [← hx1, sx0] at E2
  rw [← hx1] at b2
  have A1 := A0.on HG.out b2
  have E1b := E1.below b2
  have CL0 := leaf_any _ 1 1 [98] x1 A1.b (KB.out _ A1).1 (KB.out _ A1).2 (by omega)
  rw [hlb] at CL0
  have CL := Lib.hid CL0
  have HX := Lib.hid (And.intro (show x1 = (wn3.alloc (.cells #[.slice (some ⟨ga, 0, none⟩) 1 1] 22)).alloc (.cells #[.slice (some ⟨ga, 0, none⟩) 1 1, .slice (some ⟨ga + 1, 0, none⟩) 1 1] 22) by rw [hx1, hx0]) (And.intro hp4 (And.intro E1b (And.intro E2 A1))))
  clear CL0 E1 E1b E2 b1 b2 hx1 hx0 sx0 A1 A0 hp4
  go_wp2_with fail
  rw [HX.out.2.1, ← HX.out.1]
  refine CL.out.mono ?_
  rintro e x2 ⟨rfl, hb2⟩
  have A2 := HX.out.2.2.2.2.on HG.out hb2
  have b3 := below_alloc x2 (.cells (bvs lb).toArray 29)
  obtain ⟨x3, hx3⟩ : ∃ x, x = x2.alloc (.cells (bvs lb).toArray 29) := ⟨_, rfl⟩
  rw [← hx3] at b3
  have A3 := A2.on HG.out b3
  have C0 := link_begins (w := x3) (P := some ⟨x2.heap.size, 0, none⟩) (q := 1) (r := 1) ((HX.out.2.2.1.below hb2).below b3) ((HX.out.2.2.2.1.below hb2).below b3) (by omega) (by omega) rfl
  have C1 := Lib.hid C0
  have HA2 := Lib.hid A3
  have HX3 := Lib.hid hx3
  clear C0 b3 hx3 A2 A3 hb2 CL HX
  go_wp2_with (refine wpList_one_sum rfl _ lb rfl (by simp <;> rfl) lbl ?_; rw [← HX3.out])
  refine C1.out.mono ?_
  rintro e y4 ⟨⟨v, rfl, _, hv⟩, hb⟩
  have hv' := hv rfl
  unfold clv at hv'
  subst hv'
  have A3 := HA2.out.on HG.out hb
  have HAB4 := Lib.hid (A3.on HG.out (below_alloc y4 (.cells #[.slice none 0 0, .slice none 0 0] 24)))
  clear hv hb C1 HX3 HA2 A3
  go_upto_region 7 with fail
  obtain ⟨wn4, hwn⟩ : ∃ x, x = y4.alloc (.cells #[.slice none 0 0, .slice none 0 0] 24) := ⟨_, rfl⟩
  rw [← hwn] at HAB4 ⊢
  clear hwn
  have CT := is_any HAB4.out.a HAB4.out.a (by omega) (by omega) (KB.out _ HAB4.out).1 (KB.out _ HAB4.out).2
  rw [aa_is] at CT
  have C1 := Lib.hid CT
  unfold clv at C1
  clear CT
  go_wp2_with fail
  refine C1.out.mono ?_
  rintro e z1 ⟨rfl, hb1⟩
  have HZ1 := Lib.hid (HAB4.out.on HG.out hb1)
  have CT := is_any HZ1.out.a HZ1.out.b (by omega) (by omega) (KB.out _ HZ1.out).1 (KB.out _ HZ1.out).2
  rw [ab_is] at CT
  have C2 := Lib.hid CT
  unfold clv at C2
  clear CT C1 hb1
  go_wp2_with fail
  refine C2.out.mono ?_
  rintro e z2 ⟨rfl, hb2⟩
  have HZ2 := Lib.hid (HZ1.out.on HG.out hb2)
  obtain ⟨s, hs⟩ : ∃ x, sha [97] = x := ⟨_, rfl⟩
  obtain ⟨t, ht⟩ : ∃ x, sha [98] = x := ⟨_, rfl⟩
  have sl : s.length = 32 := by rw [← hs]; exact sha_length _
  have tl : t.length = 32 := by rw [← ht]; exact sha_length _
  have hst : decide (s = t) = false := by rw [← hs, ← ht]; exact decide_eq_false ab_sums
  have q1 := run_neq_sum s t sl tl
  rw [hst] at q1
  have q2 := run_guard_neq
  have CT := of_any _ 1 1 [97] z2 HZ2.out.a.in_ HZ2.out.a.lt (Nat.le_refl _) (KB.out _ HZ2.out).1 (KB.out _ HZ2.out).2 (by omega)
  rw [hs] at CT
  have C3 := Lib.hid CT
  have HS := Lib.hid (And.intro hs ht)
  clear CT C2 hb2 hst hs ht
  go_wp2_with fail
  refine C3.out.mono ?_
  rintro e z3 ⟨rfl, hb3⟩
  have HZ3 := Lib.hid (HZ2.out.on HG.out hb3)
  have CT := of_any _ 1 1 [98] z3 HZ3.out.b.in_ HZ3.out.b.lt (Nat.le_refl _) (KB.out _ HZ3.out).1 (KB.out _ HZ3.out).2 (by omega)
  rw [HS.out.2] at CT
  have C4 := Lib.hid CT
  clear CT C3 hb3
  go_wp2_with fail
  refine C4.out.mono ?_
  rintro e z4 ⟨rfl, hb4⟩
  have HZ4 := Lib.hid (HZ3.out.on HG.out hb4)
  clear C4 hb4
  go_wp2_with fail
  go_ret
  exact ⟨rfl, HZ4.out.below⟩

/-- At any world behind. -/
theorem calive_on {w W : World} (hk : Knows w) (hks : Starts w) (hW : Below w.heap.size w W) : Calls Tryd.prog 8 #[] W fun e w' => e = .returned (.bool true) ∧ Below W.heap.size W w' :=
  calive_any W (hk.below hW) (hks.below hW)

end Go.Proofs.YtcekfnngnjpeeaaDoor

/-
  SameBytes.
-/
namespace Go.Proofs.YtcekfnngnjpeeaaDoor
open Go.RowKit

set_option maxRecDepth 100000 in
set_option maxHeartbeats 400000 in
theorem sameBytes_yes (A A2 : Option Addr) (n c c2 : Nat) (xs : List Nat) (w : World) (hin : In w A n xs) (hin2 : In w A2 n xs) (hn : n ≤ 200000000000000) :
    Calls Tryd.prog 10 #[.slice A n c, .slice A2 n c2] w fun e w' => e = .returned (.bool true) ∧ ∃ q, w' = w.drewN q := by
  have dn : ((n : Int) != (n : Int)) = false := by simp
  go_enter Tryd.func10, Tryd.ntmps10
  go_wp2
  go_loopw [5] (fun i wr => ∃ j : Nat, j ≤ n ∧ i = .int .i64 (j : Int) ∧ ∃ q, wr = w.drewN q) (fun i _ => n - (intOf i).toNat)
  case atStart => exact ⟨0, Nat.zero_le _, rfl, 0, rfl⟩
  case round =>
    obtain ⟨j, hj, rfl, q, rfl⟩ := hrel
    by_cases hlt : j < n
    · obtain ⟨ad, x, rfl, hx, hc1⟩ := hin.at_ hlt
      obtain ⟨ad2, x2, rfl, hx2, hc2⟩ := hin2.at_ hlt
      obtain rfl : x2 = x := by rw [hx] at hx2; injection hx2 with h; exact h.symm
      clear hx hx2
      have i1 : (j : Int) < (n : Int) := by omega
      go_wp2
      go_quiet (fail)
      rw [World.drewN_drewN]
      go_wp2
      go_roundw
      case rel => exact ⟨j + 1, by omega, by go_num, q + nq, rfl⟩
      case measure => simp [intOf]; omega
    · go_wp2
      go_ret
      exact ⟨rfl, q, rfl⟩

end Go.Proofs.YtcekfnngnjpeeaaDoor

/-
  SameBytes, of any two lists of bytes.
-/
namespace Go.Proofs.YtcekfnngnjpeeaaDoor
open Go.RowKit

set_option maxRecDepth 100000 in
set_option maxHeartbeats 800000 in
theorem sameBytes_any (A A2 : Option Addr) (n m c c2 : Nat) (xs ys : List Nat) (w : World) (hin : In w A n xs) (hin2 : In w A2 m ys) (hn : n ≤ 200000000000000) :
    Calls Tryd.prog 10 #[.slice A n c, .slice A2 m c2] w fun e w' => e = .returned (.bool (decide (xs = ys))) ∧ ∃ q, w' = w.drewN q := by
  by_cases hnm : n = m
  · subst hnm
    have dn : ((n : Int) != (n : Int)) = false := by simp
    go_enter Tryd.func10, Tryd.ntmps10
    go_wp2
    go_loopw [5] (fun i wr => ∃ j : Nat, j ≤ n ∧ i = .int .i64 (j : Int) ∧ Hid (xs.take j = ys.take j) ∧ ∃ q, wr = w.drewN q) (fun i _ => n - (intOf i).toNat)
    case atStart => exact ⟨0, Nat.zero_le _, rfl, Lib.hid rfl, 0, rfl⟩
    case round =>
      obtain ⟨j, hj, rfl, HT, q, rfl⟩ := hrel
      by_cases hlt : j < n
      · obtain ⟨ad, x, rfl, hx, hc1⟩ := hin.at_ hlt
        obtain ⟨ad2, x2, rfl, hx2, hc2⟩ := hin2.at_ hlt
        have i1 : (j : Int) < (n : Int) := by omega
        by_cases hxx : x2 = x
        · subst hxx
          have HN := Lib.hid (show xs.take (j + 1) = ys.take (j + 1) by rw [List.take_add_one, List.take_add_one, HT.out, hx, hx2])
          clear hx hx2 HT
          go_wp2
          go_quiet (fail)
          rw [World.drewN_drewN]
          go_wp2
          go_roundw
          case rel => exact ⟨j + 1, by omega, by go_num, HN, q + nq, rfl⟩
          case measure => simp [intOf]; omega
        · have HN := Lib.hid (show decide (xs = ys) = false from decide_eq_false fun e => by rw [e, hx2] at hx; injection hx with h; exact hxx h)
          have hne : ((x : Int) != (x2 : Int)) = true := by simp; omega
          clear hx hx2 HT hxx
          go_wp2
          go_quiet (fail)
          rw [World.drewN_drewN]
          go_wp2
          go_ret
          exact ⟨by rw [HN.out]; rfl, q + nq, rfl⟩
      · have hji : ¬ ((j : Int) < (n : Int)) := by omega
        have HN := Lib.hid (show decide (xs = ys) = true from decide_eq_true (by
          have := HT.out
          rw [List.take_of_length_le (by rw [hin.len]; omega), List.take_of_length_le (by rw [hin2.len]; omega)] at this
          exact this))
        clear HT
        go_wp2
        go_ret
        exact ⟨by rw [HN.out]; rfl, q, rfl⟩
  · have dn : ((n : Int) != (m : Int)) = true := by simp; omega
    have HN := Lib.hid (show decide (xs = ys) = false from decide_eq_false fun e => hnm (by rw [← hin.len, ← hin2.len, e]))
    go_enter Tryd.func10, Tryd.ntmps10
    go_wp2
    go_ret
    exact ⟨by rw [HN.out]; rfl, 0, rfl⟩

end Go.Proofs.YtcekfnngnjpeeaaDoor
