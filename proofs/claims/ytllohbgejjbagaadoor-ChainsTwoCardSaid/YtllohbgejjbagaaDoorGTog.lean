/-
  fronts.together, with leaves.Node: those ahead and the last one, from the last one on.
-/
import Derived.Test.YtllohbgejjbagaaDoorGBack
namespace Go.Proofs.YtllohbgejjbagaaDoor
open Go.RowKit Go.Shelf

attribute [local go_sem] Oper.semAt_some

/-- What a list of places and sums comes to, one put ahead of the other. -/
def accP (s : List Nat) (pre : List BackP) : List Nat := (pre.map (·.1.2)).foldl (fun acc y => nodeL y acc) s
theorem accP_snoc (s : List Nat) (pre : List BackP) (x : BackP) : accP s (pre ++ [x]) = nodeL x.1.2 (accP s pre) := by simp [accP]
theorem accP_all (s : List Nat) (ss : List (List Nat)) (pre : List BackP) (h : pre.map (·.1.2) = ss.reverse) : accP s pre = tog ss s := by
  rw [accP, h, tog, List.foldl_reverse]
theorem accP_of {P : List Nat → Prop} (hs : ∀ xs, P (sha xs)) (s : List Nat) (h : P s) (pre : List BackP) : P (accP s pre) := by
  rcases List.eq_nil_or_concat pre with rfl | ⟨L, b, rfl⟩
  · exact h
  · rw [List.concat_eq_append, accP_snoc]; exact hs _

theorem keepsOthers_of {w w' : World} (h : Below w.heap.size w w') : KeepsOthers w w' := ⟨h.size, fun k _ hk _ => (h.block k (Array.getElem?_eq_some_iff.1 hk).1).trans hk⟩
theorem keepsBk_of {B0 Bs : Nat} {w w' : World} (h : Below w.heap.size w w') (hB : B0 ≤ w.heap.size) (hs : Bs < w.heap.size) : KeepsBk B0 Bs w w' := fun b hb => h.block b (by rcases hb with hb | hb <;> omega)
theorem keepsBk_set {B0 Bs g : Nat} (w : World) (cs : Array Value) (hB : B0 ≤ g) (hs : Bs ≠ g) : KeepsBk B0 Bs w (w.setRow g cs) := fun b hb => setRow_other w g b cs (by rcases hb with hb | hb <;> omega)

theorem cell_of_block {W W' : World} {a : Addr} (h : W'.heap[a.block]? = W.heap[a.block]?) : W'.cell? a = W.cell? a := by simp [World.cell?, h]

theorem setRow_others (W : World) (g : Nat) (cs : Array Value) : KeepsOthers W (W.setRow g cs) := ⟨by rw [setRow_size]; exact Nat.le_refl _, fun k o hk ho => by
  by_cases h : k = g
  · subst h
    obtain ⟨hlt, hk'⟩ := Array.getElem?_eq_some_iff.1 hk
    show (W.heap.modify k _)[k]? = some o
    rw [Array.getElem?_eq_getElem (by rw [Array.size_modify]; exact hlt), Array.getElem_modify_self, hk']
    cases o <;> first | rfl | (simp [Obj.isCells] at ho)
  · exact (setRow_other W g k cs h).trans hk⟩

/-- What holds between two rounds. -/
structure TogKept (w : World) (g : Nat) (s : List Nat) (pre : List BackP) (W : World) : Prop where
  acc : BArr W g 34 (accP s pre)
  fn : Boxed W (g + 1) 88 (.func (.func 48) #[] #[])
  res : BArr W (g + 2) 34 zero32
  bel : Below w.heap.size w W
  size : g + 4 ≤ W.heap.size
theorem togKept_own {w : World} {g : Nat} {s : List Nat} {B : Nat} (hB : w.heap.size ≤ B) : OwnFrom B (TogKept w g s) := fun _ _ _ _ hs hg hr =>
  ⟨(grownBy_keeps_cells hg (fun r e => (hr r e).2) hs.acc rfl).trans hs.acc, (grownBy_keeps_cells hg (fun r e => (hr r e).2) hs.fn rfl).trans hs.fn, (grownBy_keeps_cells hg (fun r e => (hr r e).2) hs.res rfl).trans hs.res,
    hs.bel.grown hg hs.bel.size (fun k e => Nat.le_trans hB (hr k e).1), Nat.le_trans hs.size hg.size⟩
theorem TogKept.below {w : World} {g : Nat} {s : List Nat} {pre : List BackP} {W W' : World} (h : TogKept w g s pre W) (hb : Below W.heap.size W W') : TogKept w g s pre W' :=
  ⟨h.acc.below hb, (hb.block _ h.fn.lt).trans h.fn, h.res.below hb, below_on h.bel (Nat.le_refl _) hb, Nat.le_trans h.size hb.size⟩


set_option maxRecDepth 100000 in
set_option maxHeartbeats 2000000 in
theorem together_in (A : Option Addr) (n c : Nat) (ss : List (List Nat)) (s : List Nat) (w : World) (hin : InS w A n ss.flatten) (hlen : ss.length = n) (h32 : ∀ x ∈ ss, x.length = 32) (hlt : ∀ x ∈ ss, ∀ y ∈ x, y < 256)
    (hs32 : s.length = 32) (hsl : ∀ x ∈ s, x < 256) (hn : n ≤ 1000000) (hk : Knows w) (hs : Starts w) :
    CallsIn Fence.wide 3 Tryd.prog 47 #[.slice A n c, sv s, .func (.func 48) #[] #[]] w fun e W' => e = .returned (sv (tog ss s)) ∧ Below w.heap.size w W' := by
  have e0 : (bvs zero32).toArray = #[.int .u8 0, .int .u8 0, .int .u8 0, .int .u8 0, .int .u8 0, .int .u8 0, .int .u8 0, .int .u8 0, .int .u8 0, .int .u8 0, .int .u8 0, .int .u8 0, .int .u8 0, .int .u8 0, .int .u8 0, .int .u8 0, .int .u8 0, .int .u8 0, .int .u8 0, .int .u8 0, .int .u8 0, .int .u8 0, .int .u8 0, .int .u8 0, .int .u8 0, .int .u8 0, .int .u8 0, .int .u8 0, .int .u8 0, .int .u8 0, .int .u8 0, .int .u8 0] := rfl
  obtain ⟨W0, hW0⟩ : ∃ W0, W0 = ((w.alloc (.cells (bvs s).toArray 34)).alloc (.cells #[.func (.func 48) #[] #[]] 88)).alloc (.cells #[.int .u8 0, .int .u8 0, .int .u8 0, .int .u8 0, .int .u8 0, .int .u8 0, .int .u8 0, .int .u8 0, .int .u8 0, .int .u8 0, .int .u8 0, .int .u8 0, .int .u8 0, .int .u8 0, .int .u8 0, .int .u8 0, .int .u8 0, .int .u8 0, .int .u8 0, .int .u8 0, .int .u8 0, .int .u8 0, .int .u8 0, .int .u8 0, .int .u8 0, .int .u8 0, .int .u8 0, .int .u8 0, .int .u8 0, .int .u8 0, .int .u8 0, .int .u8 0] 34) := ⟨_, rfl⟩
  have z0 : W0.heap.size = w.heap.size + 3 := by rw [hW0]; simp
  have r0 := ((BArr.new w 34 s).alloc (.cells #[.func (.func 48) #[] #[]] 88)).alloc (.cells (bvs zero32).toArray 34)
  have r1 := (Boxed.new (w.alloc (.cells (bvs s).toArray 34)) 88 (.func (.func 48) #[] #[])).alloc (.cells (bvs zero32).toArray 34)
  have r2 := BArr.new ((w.alloc (.cells (bvs s).toArray 34)).alloc (.cells #[.func (.func 48) #[] #[]] 88)) 34 zero32
  rw [World.size_alloc] at r1
  rw [World.size_alloc, World.size_alloc] at r2
  have b0 : Below w.heap.size w W0 := by rw [hW0]; exact ((below_alloc w _).alloc (by simp) _).alloc (by simp; omega) _
  rw [e0, ← hW0] at r0 r1 r2
  obtain ⟨W1, hW1⟩ : ∃ W1, W1 = W0.alloc (.cells #[.slice A n c] 37) := ⟨_, rfl⟩
  have z1 : W1.heap.size = w.heap.size + 4 := by rw [hW1, World.size_alloc, z0]
  have b1 : Below W0.heap.size W0 W1 := by rw [hW1]; exact below_alloc _ _
  have rb : Boxed W1 (w.heap.size + 3) 37 (.slice A n c) := by rw [hW1, ← z0]; exact Boxed.new _ _ _
  have k0 : TogKept w w.heap.size s [] W1 := ⟨r0.below b1, (b1.block _ r1.lt).trans r1, r2.below b1, below_on b0 (Nat.le_refl _) b1, by omega⟩
  have HW := Lib.hid (And.intro hW0 hW1)
  have HI := Lib.hid hin
  have HX := Lib.hid (And.intro hlen (And.intro h32 (And.intro hlt (And.intro hs32 hsl))))
  obtain ⟨g, hg⟩ : ∃ g, g = w.heap.size := ⟨_, rfl⟩
  rw [← hg] at k0 rb z1
  have HG := Lib.hid (And.intro hg (And.intro z0 z1))
  clear r0 r1 r2 b0 b1 e0 hW0 hW1 hin hlen h32 hlt hs32 hsl hg z0 z1
  refine callsIn_of_wp_marks Tryd.func47 rfl trivial ?_ rfl
  simp only [Tryd.ntmps47, List.size_toArray, List.length_cons, List.length_nil, Nat.reduceAdd, Nat.reduceSub, Array.replicate_succ, Array.replicate_zero, List.push_toArray, List.append_toArray, List.nil_append, List.cons_append]
  unfold sv
  gi_wp2_with (refine ⟨trivial, ?_⟩; gi_at_call 73; refine (back_in Fence.wide _ trivial rfl _ _ _ _).mono ?_; rintro e w3 ⟨rfl, rfl⟩)
  rw [← HW.out.1]
  rw [← HW.out.2, show w.heap.size + 1 + 1 + 1 = g + 3 by have := HG.out.1; omega, show w.heap.size + 1 + 1 = g + 2 by have := HG.out.1; omega, show w.heap.size + 1 = g + 1 by have := HG.out.1; omega, ← HG.out.1]
  have hBK : ∀ W, KeepsBk w.heap.size (g + 3) W1 W → InS W A n ss.flatten := fun W hW => by
    have h1 := HI.out.below k0.bel
    exact ⟨HI.out.len, fun j x hx => by
      obtain ⟨ad, e, hc⟩ := HI.out.rd j x hx
      obtain ⟨ad1, e1, hc1⟩ := h1.rd j x hx
      have : ad1 = ad := by rw [e] at e1; cases e1; rfl
      subst this
      exact ⟨_, e, (cell_of_block (hW _ (.inl (World.block_lt_of_cell? w _ hc)))).trans hc1⟩⟩
  refine wpIn_rangeFunc_ownH rfl (by decide) (gf := 84) (lb := #[.pointer (some ⟨g + 3, 0, none⟩)]) rfl trivial (enters_of Tryd.func84 (by kernel_rfl) rfl)
    (back_stops Fence.wide (3 - 1) trivial rfl (by decide) (g + 3) w.heap.size n c A ss HX.out.1 HX.out.2.1 HX.out.2.2.1 hn W1 rb (by have := HG.out; omega) hBK) KeepsBk.trans
    (fun W l o o' hl _ _ _ b hb => World.putObj_heap_other (by have := HG.out; omega)) (Below.refl _ _) (fun _ => rfl)
    (TogKept w g s) (fun _ _ _ => False) (togKept_own (by have := HG.out; omega)) (fun _ _ _ _ _ hs _ _ => hs) k0
    (fun x a' W => ∃ p, a' = { tmps := #[.slice A n c, .agg (bvs s).toArray, .func (.func 48) #[] #[], undef, .pointer (some ⟨g, 0, none⟩), .pointer (some ⟨g + 1, 0, none⟩), .pointer (some ⟨g + 2, 0, none⟩), undef, .pointer (some ⟨p, 0, none⟩), .slice A n c,
      .func (.func 84) #[] #[.pointer (some ⟨g + 3, 0, none⟩)], .int .i64 (x.1.1 : Int), sv x.1.2, undef, undef, undef, undef, undef], defers := [] } ∧ BArr W p 34 x.1.2) ?own ?assign ?body ?done ?stop
  case own =>
    rintro x a' _ W W' row ⟨p, e, hb⟩ hg hr
    exact ⟨p, e, (grownBy_keeps_cells hg (fun r e => (hr r e).2) hb rfl).trans hb⟩
  case assign =>
    rintro l pre ⟨⟨q, y⟩, hy, hyl⟩ W K hI hK
    have e0 : #[.int .u8 0, .int .u8 0, .int .u8 0, .int .u8 0, .int .u8 0, .int .u8 0, .int .u8 0, .int .u8 0, .int .u8 0, .int .u8 0, .int .u8 0, .int .u8 0, .int .u8 0, .int .u8 0, .int .u8 0, .int .u8 0, .int .u8 0, .int .u8 0, .int .u8 0, .int .u8 0, .int .u8 0, .int .u8 0, .int .u8 0, .int .u8 0, .int .u8 0, .int .u8 0, .int .u8 0, .int .u8 0, .int .u8 0, .int .u8 0, .int .u8 0, .int .u8 0] = (bvs zero32).toArray := rfl
    have HZ := Lib.hid (show zero32.length = 32 from rfl)
    have hB := below_alloc W (.cells (bvs y).toArray 34)
    have hfin : K { tmps := #[.slice A n c, .agg (bvs s).toArray, .func (.func 48) #[] #[], undef, .pointer (some ⟨g, 0, none⟩), .pointer (some ⟨g + 1, 0, none⟩), .pointer (some ⟨g + 2, 0, none⟩), undef, .pointer (some ⟨W.heap.size, 0, none⟩), .slice A n c,
      .func (.func 84) #[] #[.pointer (some ⟨g + 3, 0, none⟩)], .int .i64 (q : Int), sv y, undef, undef, undef, undef, undef], defers := [] } (W.alloc (.cells (bvs y).toArray 34)) := by
      refine hK _ _ ((keepsOthers_of hB).from _) (keepsBk_of hB ?_ ?_) (hI.below hB) ⟨_, rfl, BArr.new _ _ _⟩
      · have := hI.bel.size; omega
      · have := hI.size; omega
    have HF := Lib.hid hfin
    clear hfin hB
    unfold encB
    gi_wp2_with (refine wpListIn_store_sum rfl (.tmp 8) (.tmp 12) rfl W.heap.size rfl zero32 y HZ hy (BArr.new _ _ _) rfl ?_; rw [World.setRow_alloc_new])
    exact HF.out
  case body =>
    rintro l pre ⟨⟨q, y⟩, hy, hyl⟩ a' W hl hrec hI ⟨p, rfl, hp⟩ hlt
    have c1 := hI.fn.cell
    obtain ⟨a, ha⟩ : ∃ a, accP s pre = a := ⟨_, rfl⟩
    have hal : a.length = 32 := by rw [← ha]; exact accP_of (P := fun l => l.length = 32) sha_length s HX.out.2.2.2.1 pre
    have hab : ∀ x ∈ a, x < 256 := by rw [← ha]; exact accP_of (P := fun l => ∀ x ∈ l, x < 256) sha_lt s HX.out.2.2.2.2 pre
    have hacc := hI.acc
    rw [ha] at hacc
    have C := Lib.hid (node_any y a W hy hal hyl hab (hk.below hI.bel) (hs.below hI.bel))
    have hnl := nodeL_length y a
    have hpn : accP s (pre ++ [⟨(q, y), hy, hyl⟩]) = nodeL y a := by rw [accP_snoc, ha]
    obtain ⟨b, hb⟩ : ∃ b, nodeL y a = b := ⟨_, rfl⟩
    rw [hb] at C hnl hpn
    have HA := Lib.hid (And.intro hacc hpn)
    have HAL := Lib.hid hal
    have HP := Lib.hid hp.at_
    have HC := Lib.hid hacc.at_
    have H0 := Lib.hid hI
    clear ha hb hab hacc hpn hp hI
    unfold sv at C
    gi_wp2_with (first
      | refine wpListIn_load_sum rfl (.tmp 8) rfl ⟨p, 0, none⟩ rfl y hy HP.out ?_
      | refine wpListIn_load_sum rfl (.tmp 4) rfl ⟨g, 0, none⟩ rfl a hal HC.out ?_
      | (refine ⟨trivial, ?_⟩; gi_at_call 48; refine (CallsIn.inRound l (callsIn_wide.2 C.out)).mono ?_; rintro e w3 ⟨rfl, bel3⟩; have HB3 := Lib.hid bel3; clear bel3)
      | refine wpListIn_store_sum rfl (.tmp 4) (.tmp 16) rfl g rfl a b HAL hnl (HA.out.1.below HB3.out) rfl ?_)
    have h3 := H0.out.below HB3.out
    have hsz := H0.out.bel.size
    have hgs := H0.out.size
    have hgg := HG.out.1
    refine ⟨(((keepsOthers_of HB3.out).trans (setRow_others w3 g _)).from _), (keepsBk_of HB3.out hsz (by omega)).trans (keepsBk_set w3 _ (by omega) (by omega)), ?_, ?_, ?_, ?_, ?_⟩
    · rw [HA.out.2]; exact (HA.out.1.below HB3.out).setRow b
    · exact (setRow_other w3 g (g + 1) _ (by omega)).trans h3.fn
    · exact (setRow_other w3 g (g + 2) _ (by omega)).trans h3.res
    · exact below_setRow h3.bel (by omega) _
    · rw [setRow_size]; exact h3.size
  case done =>
    intro D xs W hD hS hI hDf
    have hfin := accP_all s ss xs hS
    have hal : (tog ss s).length = 32 := tog_of (P := fun l => l.length = 32) sha_length ss s HX.out.2.2.2.1
    have hacc := hI.acc
    rw [hfin] at hacc
    obtain ⟨b, hb⟩ : ∃ b, tog ss s = b := ⟨_, rfl⟩
    rw [hb] at hacc hal
    have HBq := Lib.hid hb
    have HAt := Lib.hid hacc.at_
    have H0 := Lib.hid hI
    have HZ := Lib.hid (show zero32.length = 32 from rfl)
    clear hb hfin hacc hI hS
    gi_wp2_with (first
      | refine wpListIn_load_sum rfl (.tmp 4) rfl ⟨g, 0, none⟩ rfl b hal HAt.out ?_
      | refine wpListIn_store_sum rfl (.tmp 6) (.tmp 17) rfl (g + 2) rfl zero32 b HZ hal H0.out.res rfl ?_)
    have hf := (H0.out.res).setRow b
    have hDs : D ≠ g + 2 := by
      rintro rfl
      have := H0.out.res
      unfold BArr at this
      rw [this] at hDf
      cases hDf
    have hDf2 : (W.setRow (g + 2) (bvs b).toArray).heap[D]? = some (.deferred (some [])) := (setRow_other W (g + 2) D _ hDs).trans hDf
    refine ⟨by simp, .inl ⟨_, _, rfl, run_takeDeferred hDf2, ?_⟩⟩
    refine ⟨_, results_cell_row (p := 6) (ty := 34) (by kernel_rfl) _ _ (g + 2) 34 (bvs b).toArray (0, 0) _ rfl ((World.putObj_heap_other (Ne.symm hDs)).trans hf) Tryd.underlying34 rfl (by rw [List.size_toArray, bvs_length, hal]; exact sizeSum), ?_⟩
    have hgg := HG.out
    refine ⟨by rw [HBq.out], (below_setRow H0.out.bel (by omega) _).trans (belowK_b (w := w) (Nat.le_refl _) _ D _ _ (by omega) hDf2 rfl rfl)⟩
  case stop =>
    rintro D c' pre W _ _ h _
    exact h.elim

theorem together_any (A : Option Addr) (n c : Nat) (ss : List (List Nat)) (s : List Nat) (w : World) (hin : InS w A n ss.flatten) (hlen : ss.length = n) (h32 : ∀ x ∈ ss, x.length = 32) (hlt : ∀ x ∈ ss, ∀ y ∈ x, y < 256)
    (hs32 : s.length = 32) (hsl : ∀ x ∈ s, x < 256) (hn : n ≤ 1000000) (hk : Knows w) (hs : Starts w) :
    Calls Tryd.prog 47 #[.slice A n c, sv s, .func (.func 48) #[] #[]] w fun e W' => e = .returned (sv (tog ss s)) ∧ Below w.heap.size w W' :=
  (callsIn_wide (n := 3)).1 (together_in A n c ss s w hin hlen h32 hlt hs32 hsl hn hk hs)

end Go.Proofs.YtllohbgejjbagaaDoor
