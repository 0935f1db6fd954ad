/-
  almonerlaw08.alive.
-/
import Derived.Test.YtigmbiigaiajdaaDoorVText
import Derived.Test.YtigmbiigaiajdaaDoorVList
import Derived.Lib.SmallJoins
namespace Go.Proofs.YtigmbiigaiajdaaDoor
open Go.RowKit

def aL : List Nat := leafL [97]
def bL : List Nat := leafL [98]
def cL : List Nat := leafL [99]

set_option maxRecDepth 100000 in
theorem text_none : textS (sha []) = { data := #[101, 51, 98, 48, 99, 52, 52, 50, 57, 56, 102, 99, 49, 99, 49, 52, 57, 97, 102, 98, 102, 52, 99, 56, 57, 57, 54, 102, 98, 57, 50, 52, 50, 55, 97, 101, 52, 49, 101, 52, 54, 52, 57, 98, 57, 51, 52, 99, 97, 52, 57, 53, 57, 57, 49, 98, 55, 56, 53, 50, 98, 56, 53, 53] } := by decide +kernel
set_option maxRecDepth 100000 in
theorem text_leaf : textS (leafL []) = { data := #[54, 101, 51, 52, 48, 98, 57, 99, 102, 102, 98, 51, 55, 97, 57, 56, 57, 99, 97, 53, 52, 52, 101, 54, 98, 98, 55, 56, 48, 97, 50, 99, 55, 56, 57, 48, 49, 100, 51, 102, 98, 51, 51, 55, 51, 56, 55, 54, 56, 53, 49, 49, 97, 51, 48, 54, 49, 55, 97, 102, 97, 48, 49, 100] } := by decide +kernel

/-- The root of three, of one. -/
theorem nth_flat (x y z : List Nat) (hx : x.length = 32) (hy : y.length = 32) (hz : z.length = 32) : nth [x, y, z].flatten 0 = x ∧ nth [x, y, z].flatten 1 = y ∧ nth [x, y, z].flatten 2 = z := by
  have hl : ∀ s ∈ [x, y, z], s.length = 32 := by intro s hs; simp at hs; rcases hs with rfl | rfl | rfl; exact hx; exact hy; exact hz
  exact ⟨nth_flatten _ hl 0 x rfl, nth_flatten _ hl 1 y rfl, nth_flatten _ hl 2 z rfl⟩
theorem rt_three (x y z : List Nat) (hx : x.length = 32) (hy : y.length = 32) (hz : z.length = 32) : rt (nth [x, y, z].flatten) 0 3 = nodeL (nodeL x y) z := by
  obtain ⟨h0, h1, h2⟩ := nth_flat x y z hx hy hz
  have c3 : cutN 3 = 2 := by decide
  have c2 : cutN 2 = 1 := by decide
  rw [rt_cut _ 0 (by omega), c3, rt_cut _ 0 (by omega), c2, rt_one, rt_one, rt_one, h0, h1, h2]
theorem rt_single (x : List Nat) (hx : x.length = 32) : rt (nth [x].flatten) 0 1 = x := by
  rw [rt_one]; exact nth_flatten [x] (by intro s hs; simp at hs; rw [hs]; exact hx) 0 x rfl

/-- Root of a list that a literal made. -/
theorem root_new (B W : World) (ss : List (List Nat)) (n : Nat) (r : List Nat) (hn : n = ss.length) (hl : ∀ s ∈ ss, s.length = 32) (hb : ∀ s ∈ ss, ∀ x ∈ s, x < 256) (h9 : n ≤ 9) (hr : rt (nth ss.flatten) 0 n = r)
    (hB : Below B.heap.size B W) (hk : Knows B) (hs : Starts B) :
    Calls Tryd.prog 14 #[.slice (some ⟨W.heap.size, 0, none⟩) n n] (W.alloc (.cells (bvs ss.flatten).toArray 24)) fun e w' => e = .returned (sv r) ∧ Below B.heap.size B w' := by
  have b2 := hB.alloc hB.size (.cells (bvs ss.flatten).toArray 24)
  have hlen : ss.flatten.length = 32 * n := by
    rw [List.length_flatten, hn]
    clear hr hn hb b2
    induction ss with
    | nil => rfl
    | cons s ss ih =>
      rw [List.map_cons, List.sum_cons, ih (fun x hx => hl x (List.mem_cons_of_mem _ hx)), hl s (List.mem_cons_self ..), List.length_cons]
      omega
  have := root_any (some ⟨W.heap.size, 0, none⟩) n n ss.flatten _ ⟨hlen, (In.new' W ss.flatten 24).rd⟩ (by intro x hx; obtain ⟨s, hs, hxs⟩ := List.mem_flatten.1 hx; exact hb s hs x hxs) (Nat.le_refl _) (by omega) (hk.below b2) (hs.below b2)
  rw [hr] at this
  exact this.mono fun e w' ⟨he, hb'⟩ => ⟨he, below_on b2 (Nat.le_refl _) hb'⟩

/-- Three sums in variables of their own. -/
structure Three (w : World) (g g' g'' : Nat) : Prop where
  a : BArr w g 24 aL
  b : BArr w g' 24 bL
  c : BArr w g'' 24 cL
theorem Three.below {w w' : World} {g g' g'' : Nat} (h : Three w g g' g'') (hb : Below w.heap.size w w') : Three w' g g' g'' := ⟨h.a.below hb, h.b.below hb, h.c.below hb⟩

/-- Leaf of a byte that a literal made, behind whatever memory. -/
theorem leaf_one (x : Nat) (z : Int) (hz : z = (x : Int)) (hx : x < 256) (W : World) (hk : Knows W) (hs : Starts W) :
    Calls Tryd.prog 10 #[.slice (some ⟨W.heap.size, 0, none⟩) 1 1] (W.alloc (.cells #[.int .u8 z] 5 (1, 2))) fun e w' => e = .returned (sv (leafL [x])) ∧ Below W.heap.size W w' := by
  subst hz
  have b2 := below_alloc W (.cells #[.int .u8 (x : Int)] 5 (1, 2))
  have i2 : In (W.alloc (.cells #[.int .u8 (x : Int)] 5 (1, 2))) (some ⟨W.heap.size, 0, none⟩) 1 [x] := ⟨rfl, fun j y hy => ⟨_, rfl, by
    have hj := (List.getElem?_eq_some_iff.1 hy).1
    obtain rfl : j = 0 := by simp at hj; omega
    cases hy
    exact cell_of_row _ _ 0 _ _ (1, 2) (World.alloc_heap_new W _)⟩⟩
  exact (leaf_any (some ⟨W.heap.size, 0, none⟩) 1 1 [x] _ ⟨i2, (by intro y hy; simp at hy; omega), (fun h => by cases h), Nat.le_refl _⟩ (hk.below b2) (hs.below b2) (by omega)).mono fun e w' ⟨he, h⟩ => ⟨he, below_on b2 (Nat.le_refl _) h⟩

/-- The literal itself. -/
theorem lit_one (z : Int) (W : World) : (convert 22 22 (.slice (some ⟨W.heap.size, 0, none⟩) 1 1)).run Tryd.prog (W.alloc (.cells #[.int .u8 z] 5)) = .ok (.slice (some ⟨W.heap.size, 0, none⟩) 1 1) (W.alloc (.cells #[.int .u8 z] 5 (1, 2))) :=
  Joins.run_convert_bytes_const_at W _ _ _ 1 1 _ rfl Tryd.underlying22 Tryd.underlying5

set_option maxRecDepth 100000 in
set_option maxHeartbeats 4000000 in
theorem alive_any (w : World) (hk : Knows w) (hs : Starts w) :
    Calls Tryd.prog 18 #[] w fun e w' => e = .returned (.bool true) ∧ Below w.heap.size w w' := by
  have C1 := Lib.hid (leaf_one 97 97 rfl (by omega) w hk hs)
  have k1 := lit_one 97 w
  have l1 : aL.length = 32 := leafL_length _
  have l2 : bL.length = 32 := leafL_length _
  have l3 : cL.length = 32 := leafL_length _
  have lb1 : ∀ x ∈ aL, x < 256 := leafL_lt _
  have lb2 : ∀ x ∈ bL, x < 256 := leafL_lt _
  have lb3 : ∀ x ∈ cL, x < 256 := leafL_lt _
  have HLt := Lib.hid (And.intro lb1 (And.intro lb2 lb3))
  clear lb1 lb2 lb3
  have eA : leafL [97] = aL := rfl
  have eB : leafL [98] = bL := rfl
  have eC : leafL [99] = cL := rfl
  rw [eA] at C1
  have HE := Lib.hid (And.intro eB eC)
  clear eA eB eC
  go_enter Tryd.func18, Tryd.ntmps18
  go_wp2_with fail
  refine C1.out.mono ?_
  rintro e w1 ⟨rfl, b1⟩
  obtain ⟨w2, hw2⟩ : ∃ w2, w2 = w1.alloc (.cells (bvs aL).toArray 24) := ⟨_, rfl⟩
  have b2 : Below w.heap.size w w2 := by rw [hw2]; exact below_on b1 (Nat.le_refl _) (below_alloc _ _)
  have fa : BArr w2 w1.heap.size 24 aL := by rw [hw2]; exact BArr.new _ _ _
  have C2 := Lib.hid (leaf_one 98 98 rfl (by omega) w2 (hk.below b2) (hs.below b2))
  have k2 := lit_one 98 w2
  rw [HE.out.1] at C2
  have HW := Lib.hid (And.intro b2 (And.intro fa hw2))
  clear b2 fa hw2 C1 k1 b1
  go_upto_region 2 with ((with_reducible refine wpList_store_new w1 _ ?_ rfl (.tmp 1) (.tmp 6) rfl rfl aL l1 rfl ?_); · simp)
  rw [← HW.out.2.2]
  go_wp2_with fail
  refine C2.out.mono ?_
  rintro e w3 ⟨rfl, b3⟩
  obtain ⟨ga, hga⟩ : ∃ ga, w1.heap.size = ga := ⟨_, rfl⟩
  have hl3 : w3.heap.size = w3.heap.size := rfl
  obtain ⟨w4, hw4⟩ : ∃ w4, w4 = w3.alloc (.cells (bvs bL).toArray 24) := ⟨_, rfl⟩
  have b34 : Below w2.heap.size w2 w4 := by rw [hw4]; exact below_on b3 (Nat.le_refl _) (below_alloc _ _)
  have fa : BArr w4 w1.heap.size 24 aL := HW.out.2.1.below b34
  have fb : BArr w4 w3.heap.size 24 bL := by rw [hw4]; exact BArr.new _ _ _
  have b4 := below_on HW.out.1 (Nat.le_refl _) b34
  have C3 := Lib.hid (leaf_one 99 99 rfl (by omega) w4 (hk.below b4) (hs.below b4))
  have k3 := lit_one 99 w4
  rw [HE.out.2] at C3
  have HV := Lib.hid (And.intro b4 (And.intro fa (And.intro fb hw4)))
  clear b4 fa fb hw4 b34 k2 C2 b3 hl3 HW hga ga
  go_upto_region 3 with ((with_reducible refine wpList_store_new w3 _ ?_ rfl (.tmp 2) (.tmp 9) rfl rfl bL l2 rfl ?_); · simp)
  rw [← HV.out.2.2.2]
  go_wp2_with fail
  refine C3.out.mono ?_
  rintro e w5 ⟨rfl, b5⟩
  obtain ⟨w6, hw6⟩ : ∃ w6, w6 = w5.alloc (.cells (bvs cL).toArray 24) := ⟨_, rfl⟩
  have b46 : Below w4.heap.size w4 w6 := by rw [hw6]; exact below_on b5 (Nat.le_refl _) (below_alloc _ _)
  have fa : BArr w6 w1.heap.size 24 aL := HV.out.2.1.below b46
  have fb : BArr w6 w3.heap.size 24 bL := HV.out.2.2.1.below b46
  have fc : BArr w6 w5.heap.size 24 cL := by rw [hw6]; exact BArr.new _ _ _
  have b6 := below_on HV.out.1 (Nat.le_refl _) b46
  have HT := Lib.hid (And.intro b6 (And.intro (Three.mk fa fb fc) (And.intro (hk.below b6) (hs.below b6))))
  have HU := Lib.hid hw6
  clear HV hw6 b46 fa fb fc b6 k3 C3 b5 HE
  go_upto_region 4 with ((with_reducible refine wpList_store_new w5 _ ?_ rfl (.tmp 3) (.tmp 12) rfl rfl cL l3 rfl ?_); · simp)
  rw [← HU.out]
  clear HU
  obtain ⟨ga, hga⟩ : ∃ ga, w1.heap.size = ga := ⟨_, rfl⟩
  obtain ⟨gb, hgb⟩ : ∃ gb, w3.heap.size = gb := ⟨_, rfl⟩
  obtain ⟨gc, hgc⟩ : ∃ gc, w5.heap.size = gc := ⟨_, rfl⟩
  rw [hga, hgb, hgc] at HT ⊢
  clear hga hgb hgc
  have E6 := HT.out.1
  have hk6 := HT.out.2.2.1
  have hs6 := HT.out.2.2.2
  have B6 := Lib.hid (fun (W : World) (hW : Below w6.heap.size w6 W) => HT.out.2.1.below hW)
  obtain ⟨E0, hE0⟩ : ∃ E0, sha [] = E0 := ⟨_, rfl⟩
  obtain ⟨L0, hL0⟩ : ∃ L0, leafL [] = L0 := ⟨_, rfl⟩
  obtain ⟨N1, hN1⟩ : ∃ N1, nodeL aL bL = N1 := ⟨_, rfl⟩
  obtain ⟨R3, hR3⟩ : ∃ R3, nodeL N1 cL = R3 := ⟨_, rfl⟩
  have lE0 : E0.length = 32 := by rw [← hE0]; exact sha_length _
  have lL0 : L0.length = 32 := by rw [← hL0]; exact leafL_length _
  have lN1 : N1.length = 32 := by rw [← hN1]; exact nodeL_length _ _
  have lR3 : R3.length = 32 := by rw [← hR3]; exact nodeL_length _ _
  have CR0 := Lib.hid (fun (W : World) (hW : Below w6.heap.size w6 W) => (root_any none 0 0 [] W (InS.none_ _ _) (by intro x hx; cases hx) (Nat.le_refl _) (by omega) (hk6.below hW) (hs6.below hW)).mono (R' := fun e w' => e = .returned (sv E0) ∧ Below w6.heap.size w6 w') fun e w' ⟨he, hb⟩ => ⟨by rw [he, rt_nil, hE0], below_on hW (Nat.le_refl _) hb⟩)
  have CT0 := Lib.hid (fun (W : World) (hW : Below w6.heap.size w6 W) => (text_any E0 W lE0 (by rw [← hE0]; exact sha_lt _)).mono (R' := fun e w' => e = .returned (.string (textS E0)) ∧ Below w6.heap.size w6 w') fun e w' ⟨he, hb⟩ => ⟨he, below_on hW (Nat.le_refl _) hb⟩)
  have CL0 := Lib.hid (fun (W : World) (hW : Below w6.heap.size w6 W) => (leaf_any none 0 0 [] W ⟨In.none_ _ _, (by intro x hx; cases hx), fun _ => rfl, Nat.le_refl _⟩ (hk6.below hW) (hs6.below hW) (by omega)).mono (R' := fun e w' => e = .returned (sv L0) ∧ Below w6.heap.size w6 w') fun e w' ⟨he, hb⟩ => ⟨by rw [he, hL0], below_on hW (Nat.le_refl _) hb⟩)
  have CT1 := Lib.hid (fun (W : World) (hW : Below w6.heap.size w6 W) => (text_any L0 W lL0 (by rw [← hL0]; exact leafL_lt _)).mono (R' := fun e w' => e = .returned (.string (textS L0)) ∧ Below w6.heap.size w6 w') fun e w' ⟨he, hb⟩ => ⟨he, below_on hW (Nat.le_refl _) hb⟩)
  rw [← hE0, text_none] at CT0
  rw [← hL0, text_leaf] at CT1
  rw [hE0] at CT0
  rw [hL0] at CT1
  have CN1 := Lib.hid (fun (W : World) (hW : Below w6.heap.size w6 W) => (node_any aL bL W l1 l2 HLt.out.1 HLt.out.2.1 (hk6.below hW) (hs6.below hW)).mono (R' := fun e w' => e = .returned (sv N1) ∧ Below w6.heap.size w6 w') fun e w' ⟨he, hb⟩ => ⟨by rw [he, hN1], below_on hW (Nat.le_refl _) hb⟩)
  have CN2 := Lib.hid (fun (W : World) (hW : Below w6.heap.size w6 W) => (node_any N1 cL W lN1 l3 (by rw [← hN1]; exact nodeL_lt _ _) HLt.out.2.2 (hk6.below hW) (hs6.below hW)).mono (R' := fun e w' => e = .returned (sv R3) ∧ Below w6.heap.size w6 w') fun e w' ⟨he, hb⟩ => ⟨by rw [he, hR3], below_on hW (Nat.le_refl _) hb⟩)
  have CR3 := Lib.hid (fun (W : World) (hW : Below w6.heap.size w6 W) => root_new w6 W [aL, bL, cL] 3 R3 rfl (by intro s hs; simp at hs; rcases hs with rfl | rfl | rfl; exact l1; exact l2; exact l3) (by intro s hs; simp at hs; rcases hs with rfl | rfl | rfl; exact HLt.out.1; exact HLt.out.2.1; exact HLt.out.2.2) (by omega) (by rw [rt_three aL bL cL l1 l2 l3, hN1, hR3]) hW hk6 hs6)
  have CR1 := Lib.hid (fun (W : World) (hW : Below w6.heap.size w6 W) => root_new w6 W [aL] 1 aL rfl (by intro s hs; simp at hs; rw [hs]; exact l1) (by intro s hs; simp at hs; rw [hs]; exact HLt.out.1) (by omega) (rt_single aL l1) hW hk6 hs6)
  have q1 := run_eql_sum R3 R3 lR3 lR3
  rw [decide_eq_true rfl] at q1
  have q3 := run_eql_sum aL aL l1 l1
  rw [decide_eq_true rfl] at q3
  have q2 := run_guard_eql
  have HE6 := Lib.hid E6
  clear hE0 hL0 hN1 hR3 lE0 lL0 lN1 lR3 hk6 hs6 E6 hk hs HT
  go_wp2_with fail
  refine wp_region_held_drew (S := fun W => Below w6.heap.size w6 W) (by kernel_rfl) ((Below.refl _ _).drew) (fun hS0 => ?_)
  change wpAnyH _ _ _ _ _ _ _ _ w6.drew
  refine wpAnyH_ready (rs := [0]) (by kernel_rfl) (by simp) ?_
  refine' AllReadyH.cons (o := _) ?hiq0 (fun K hK => ?_) AllReadyH.nil
  case hiq0 => (simp only [List.getElem?_toArray, List.getElem?_cons_zero]; rfl)
  go_simp
  go_at_call 14
  refine (CR0.out _ hS0).mono ?_
  rintro e Wq2 ⟨rfl, hBq1⟩
  refine hK.out _ _ hBq1 (fun _ => ?_)
  clear hK K
  try simp only [Act.put, List.setIfInBounds_toArray, List.set_cons_zero, List.set_cons_succ]
  refine wpAnyH_ready (rs := [1]) (by kernel_rfl) (by simp) ?_
  refine' AllReadyH.cons (o := _) ?hiq1 (fun K hK => ?_) AllReadyH.nil
  case hiq1 => (simp only [List.getElem?_toArray, List.getElem?_cons_zero, List.getElem?_cons_succ]; rfl)
  go_simp
  go_at_call 26
  refine (CT0.out _ hBq1).mono ?_
  rintro e Wq4 ⟨rfl, hBq3⟩
  refine hK.out _ _ hBq3 (fun _ => ?_)
  clear hK K
  try simp only [Act.put, List.setIfInBounds_toArray, List.set_cons_zero, List.set_cons_succ]
  refine' wpAnyH_take (i := 2) (oi := _) (v := _) ?hiq2 (by kernel_rfl) ?hfq2 ?hrq2 ?hQq2 ?hyq2 hBq3 ?restq2
  case hiq2 => (simp only [List.getElem?_toArray, List.getElem?_cons_zero, List.getElem?_cons_succ]; rfl)
  case hfq2 => kernel_rfl
  case hrq2 => kernel_rfl
  case hQq2 => exact fun _ _ _ h => h
  case hyq2 => refine Or.inl ⟨by rfl, ?_⟩; intro W hSw; go_simp; try with_reducible rfl
  try simp only [Act.put, List.setIfInBounds_toArray, List.set_cons_zero, List.set_cons_succ]
  refine' wpAnyH_take (i := 3) (oi := _) (v := _) ?hiq3 (by kernel_rfl) ?hfq3 ?hrq3 ?hQq3 ?hyq3 hBq3 ?restq3
  case hiq3 => (simp only [List.getElem?_toArray, List.getElem?_cons_zero, List.getElem?_cons_succ]; rfl)
  case hfq3 => kernel_rfl
  case hrq3 => kernel_rfl
  case hQq3 => exact fun _ _ _ h => h
  case hyq3 => refine Or.inl ⟨by rfl, ?_⟩; intro W hSw; go_simp; try with_reducible rfl
  try simp only [Act.put, List.setIfInBounds_toArray, List.set_cons_zero, List.set_cons_succ]
  refine wpAnyH_ready (rs := [4]) (by kernel_rfl) (by simp) ?_
  refine' AllReadyH.cons (o := _) ?hiq4 (fun K hK => ?_) AllReadyH.nil
  case hiq4 => (simp only [List.getElem?_toArray, List.getElem?_cons_zero, List.getElem?_cons_succ]; rfl)
  go_simp
  go_at_call 10
  refine (CL0.out _ hBq3).mono ?_
  rintro e Wq6 ⟨rfl, hBq5⟩
  refine hK.out _ _ hBq5 (fun _ => ?_)
  clear hK K
  try simp only [Act.put, List.setIfInBounds_toArray, List.set_cons_zero, List.set_cons_succ]
  refine wpAnyH_ready (rs := [5]) (by kernel_rfl) (by simp) ?_
  refine' AllReadyH.cons (o := _) ?hiq5 (fun K hK => ?_) AllReadyH.nil
  case hiq5 => (simp only [List.getElem?_toArray, List.getElem?_cons_zero, List.getElem?_cons_succ]; rfl)
  go_simp
  go_at_call 26
  refine (CT1.out _ hBq5).mono ?_
  rintro e Wq8 ⟨rfl, hBq7⟩
  refine hK.out _ _ hBq7 (fun _ => ?_)
  clear hK K
  try simp only [Act.put, List.setIfInBounds_toArray, List.set_cons_zero, List.set_cons_succ]
  refine' wpAnyH_take (i := 6) (oi := _) (v := _) ?hiq6 (by kernel_rfl) ?hfq6 ?hrq6 ?hQq6 ?hyq6 hBq7 ?restq6
  case hiq6 => (simp only [List.getElem?_toArray, List.getElem?_cons_zero, List.getElem?_cons_succ]; rfl)
  case hfq6 => kernel_rfl
  case hrq6 => kernel_rfl
  case hQq6 => exact fun _ _ _ h => h
  case hyq6 => refine Or.inl ⟨by rfl, ?_⟩; intro W hSw; go_simp; try with_reducible rfl
  try simp only [Act.put, List.setIfInBounds_toArray, List.set_cons_zero, List.set_cons_succ]
  refine' wpAnyH_take (i := 7) (oi := _) (v := _) ?hiq7 (by kernel_rfl) ?hfq7 ?hrq7 ?hQq7 ?hyq7 hBq7 ?restq7
  case hiq7 => (simp only [List.getElem?_toArray, List.getElem?_cons_zero, List.getElem?_cons_succ]; rfl)
  case hfq7 => kernel_rfl
  case hrq7 => kernel_rfl
  case hQq7 => exact fun _ _ _ h => h
  case hyq7 => refine Or.inl ⟨by rfl, ?_⟩; intro W hSw; go_simp; try with_reducible rfl
  try simp only [Act.put, List.setIfInBounds_toArray, List.set_cons_zero, List.set_cons_succ]
  refine' wpAnyH_take (i := 8) (oi := _) (v := _) ?hiq8 (by kernel_rfl) ?hfq8 ?hrq8 ?hQq8 ?hyq8 hBq7 ?restq8
  case hiq8 => (simp only [List.getElem?_toArray, List.getElem?_cons_zero, List.getElem?_cons_succ]; rfl)
  case hfq8 => kernel_rfl
  case hrq8 => kernel_rfl
  case hQq8 => exact fun _ _ _ h => h
  case hyq8 => refine Or.inl ⟨by rfl, ?_⟩; intro W hSw; go_simp; try with_reducible rfl
  try simp only [Act.put, List.setIfInBounds_toArray, List.set_cons_zero, List.set_cons_succ]
  refine' wpAnyH_take (i := 9) (oi := _) (v := sv (aL)) ?hiq9 (by kernel_rfl) ?hfq9 ?hrq9 ?hQq9 ?hyq9 hBq7 ?restq9
  case hiq9 => (simp only [List.getElem?_toArray, List.getElem?_cons_zero, List.getElem?_cons_succ]; rfl)
  case hfq9 => kernel_rfl
  case hrq9 => kernel_rfl
  case hQq9 => exact fun _ _ _ h => h
  case hyq9 => refine yields_sum ?_ (.tmp 1) rfl ⟨ga, 0, none⟩ rfl aL l1 (fun W hSw => (B6.out W hSw).a.at_); rfl
  try simp only [Act.put, List.setIfInBounds_toArray, List.set_cons_zero, List.set_cons_succ]
  refine' wpAnyH_take (i := 10) (oi := _) (v := sv (bL)) ?hiq10 (by kernel_rfl) ?hfq10 ?hrq10 ?hQq10 ?hyq10 hBq7 ?restq10
  case hiq10 => (simp only [List.getElem?_toArray, List.getElem?_cons_zero, List.getElem?_cons_succ]; rfl)
  case hfq10 => kernel_rfl
  case hrq10 => kernel_rfl
  case hQq10 => exact fun _ _ _ h => h
  case hyq10 => refine yields_sum ?_ (.tmp 2) rfl ⟨gb, 0, none⟩ rfl bL l2 (fun W hSw => (B6.out W hSw).b.at_); rfl
  try simp only [Act.put, List.setIfInBounds_toArray, List.set_cons_zero, List.set_cons_succ]
  refine' wpAnyH_take (i := 11) (oi := _) (v := sv (cL)) ?hiq11 (by kernel_rfl) ?hfq11 ?hrq11 ?hQq11 ?hyq11 hBq7 ?restq11
  case hiq11 => (simp only [List.getElem?_toArray, List.getElem?_cons_zero, List.getElem?_cons_succ]; rfl)
  case hfq11 => kernel_rfl
  case hrq11 => kernel_rfl
  case hQq11 => exact fun _ _ _ h => h
  case hyq11 => refine yields_sum ?_ (.tmp 3) rfl ⟨gc, 0, none⟩ rfl cL l3 (fun W hSw => (B6.out W hSw).c.at_); rfl
  try simp only [Act.put, List.setIfInBounds_toArray, List.set_cons_zero, List.set_cons_succ]
  refine' wpAnyH_take (i := 14) (oi := _) (v := sv (aL)) ?hiq14 (by kernel_rfl) ?hfq14 ?hrq14 ?hQq14 ?hyq14 hBq7 ?restq14
  case hiq14 => (simp only [List.getElem?_toArray, List.getElem?_cons_zero, List.getElem?_cons_succ]; rfl)
  case hfq14 => kernel_rfl
  case hrq14 => kernel_rfl
  case hQq14 => exact fun _ _ _ h => h
  case hyq14 => refine yields_sum ?_ (.tmp 1) rfl ⟨ga, 0, none⟩ rfl aL l1 (fun W hSw => (B6.out W hSw).a.at_); rfl
  try simp only [Act.put, List.setIfInBounds_toArray, List.set_cons_zero, List.set_cons_succ]
  refine' wpAnyH_take (i := 15) (oi := _) (v := sv (bL)) ?hiq15 (by kernel_rfl) ?hfq15 ?hrq15 ?hQq15 ?hyq15 hBq7 ?restq15
  case hiq15 => (simp only [List.getElem?_toArray, List.getElem?_cons_zero, List.getElem?_cons_succ]; rfl)
  case hfq15 => kernel_rfl
  case hrq15 => kernel_rfl
  case hQq15 => exact fun _ _ _ h => h
  case hyq15 => refine yields_sum ?_ (.tmp 2) rfl ⟨gb, 0, none⟩ rfl bL l2 (fun W hSw => (B6.out W hSw).b.at_); rfl
  try simp only [Act.put, List.setIfInBounds_toArray, List.set_cons_zero, List.set_cons_succ]
  refine' wpAnyH_take (i := 17) (oi := _) (v := sv (cL)) ?hiq17 (by kernel_rfl) ?hfq17 ?hrq17 ?hQq17 ?hyq17 hBq7 ?restq17
  case hiq17 => (simp only [List.getElem?_toArray, List.getElem?_cons_zero, List.getElem?_cons_succ]; rfl)
  case hfq17 => kernel_rfl
  case hrq17 => kernel_rfl
  case hQq17 => exact fun _ _ _ h => h
  case hyq17 => refine yields_sum ?_ (.tmp 3) rfl ⟨gc, 0, none⟩ rfl cL l3 (fun W hSw => (B6.out W hSw).c.at_); rfl
  try simp only [Act.put, List.setIfInBounds_toArray, List.set_cons_zero, List.set_cons_succ]
  refine wpAnyH_ready (rs := [12]) (by kernel_rfl) (by simp) ?_
  refine' AllReadyH.cons (o := _) ?hiq12 (fun K hK => ?_) AllReadyH.nil
  case hiq12 => (simp only [List.getElem?_toArray, List.getElem?_cons_zero, List.getElem?_cons_succ]; rfl)
  rw [if_pos (by rfl)]
  refine wp_sums _ [aL, bL, cL] 3 rfl rfl (by simp <;> first | rfl | exact ⟨rfl, rfl, rfl⟩) (by intro s hs; simp at hs; rcases hs with rfl | rfl | rfl; exact l1; exact l2; exact l3) (by omega) (by omega) ?_
  have hBq9 := Below.alloc hBq7 (Below.size hBq7) (.cells (bvs [aL, bL, cL].flatten).toArray 24)
  refine hK.out _ _ hBq9 (fun _ => ?_)
  clear hK K
  try simp only [Act.put, List.setIfInBounds_toArray, List.set_cons_zero, List.set_cons_succ]
  refine wpAnyH_ready (rs := [13]) (by kernel_rfl) (by simp) ?_
  refine' AllReadyH.cons (o := _) ?hiq13 (fun K hK => ?_) AllReadyH.nil
  case hiq13 => (simp only [List.getElem?_toArray, List.getElem?_cons_zero, List.getElem?_cons_succ]; rfl)
  go_simp
  go_at_call 14
  refine (CR3.out _ hBq7).mono ?_
  rintro e Wq11 ⟨rfl, hBq10⟩
  refine hK.out _ _ hBq10 (fun _ => ?_)
  clear hK K
  try simp only [Act.put, List.setIfInBounds_toArray, List.set_cons_zero, List.set_cons_succ]
  refine wpAnyH_ready (rs := [16]) (by kernel_rfl) (by simp) ?_
  refine' AllReadyH.cons (o := _) ?hiq16 (fun K hK => ?_) AllReadyH.nil
  case hiq16 => (simp only [List.getElem?_toArray, List.getElem?_cons_zero, List.getElem?_cons_succ]; rfl)
  go_simp
  go_at_call 12
  refine (CN1.out _ hBq10).mono ?_
  rintro e Wq13 ⟨rfl, hBq12⟩
  refine hK.out _ _ hBq12 (fun _ => ?_)
  clear hK K
  try simp only [Act.put, List.setIfInBounds_toArray, List.set_cons_zero, List.set_cons_succ]
  refine wpAnyH_ready (rs := [18]) (by kernel_rfl) (by simp) ?_
  refine' AllReadyH.cons (o := _) ?hiq18 (fun K hK => ?_) AllReadyH.nil
  case hiq18 => (simp only [List.getElem?_toArray, List.getElem?_cons_zero, List.getElem?_cons_succ]; rfl)
  go_simp
  go_at_call 12
  refine (CN2.out _ hBq12).mono ?_
  rintro e Wq15 ⟨rfl, hBq14⟩
  refine hK.out _ _ hBq14 (fun _ => ?_)
  clear hK K
  try simp only [Act.put, List.setIfInBounds_toArray, List.set_cons_zero, List.set_cons_succ]
  refine' wpAnyH_take (i := 19) (oi := _) (v := _) ?hiq19 (by kernel_rfl) ?hfq19 ?hrq19 ?hQq19 ?hyq19 hBq14 ?restq19
  case hiq19 => (simp only [List.getElem?_toArray, List.getElem?_cons_zero, List.getElem?_cons_succ]; rfl)
  case hfq19 => kernel_rfl
  case hrq19 => kernel_rfl
  case hQq19 => exact fun _ _ _ h => h
  case hyq19 => refine Or.inl ⟨by rfl, ?_⟩; intro W hSw; go_simp; try with_reducible rfl
  try simp only [Act.put, List.setIfInBounds_toArray, List.set_cons_zero, List.set_cons_succ]
  refine' wpAnyH_take (i := 20) (oi := _) (v := _) ?hiq20 (by kernel_rfl) ?hfq20 ?hrq20 ?hQq20 ?hyq20 hBq14 ?restq20
  case hiq20 => (simp only [List.getElem?_toArray, List.getElem?_cons_zero, List.getElem?_cons_succ]; rfl)
  case hfq20 => kernel_rfl
  case hrq20 => kernel_rfl
  case hQq20 => exact fun _ _ _ h => h
  case hyq20 => refine Or.inl ⟨by rfl, ?_⟩; intro W hSw; go_simp; try with_reducible rfl
  try simp only [Act.put, List.setIfInBounds_toArray, List.set_cons_zero, List.set_cons_succ]
  refine' wpAnyH_take (i := 21) (oi := _) (v := _) ?hiq21 (by kernel_rfl) ?hfq21 ?hrq21 ?hQq21 ?hyq21 hBq14 ?restq21
  case hiq21 => (simp only [List.getElem?_toArray, List.getElem?_cons_zero, List.getElem?_cons_succ]; rfl)
  case hfq21 => kernel_rfl
  case hrq21 => kernel_rfl
  case hQq21 => exact fun _ _ _ h => h
  case hyq21 => refine Or.inl ⟨by rfl, ?_⟩; intro W hSw; go_simp; try with_reducible rfl
  try simp only [Act.put, List.setIfInBounds_toArray, List.set_cons_zero, List.set_cons_succ]
  refine' wpAnyH_take (i := 22) (oi := _) (v := sv (aL)) ?hiq22 (by kernel_rfl) ?hfq22 ?hrq22 ?hQq22 ?hyq22 hBq14 ?restq22
  case hiq22 => (simp only [List.getElem?_toArray, List.getElem?_cons_zero, List.getElem?_cons_succ]; rfl)
  case hfq22 => kernel_rfl
  case hrq22 => kernel_rfl
  case hQq22 => exact fun _ _ _ h => h
  case hyq22 => refine yields_sum ?_ (.tmp 1) rfl ⟨ga, 0, none⟩ rfl aL l1 (fun W hSw => (B6.out W hSw).a.at_); rfl
  try simp only [Act.put, List.setIfInBounds_toArray, List.set_cons_zero, List.set_cons_succ]
  refine' wpAnyH_take (i := 25) (oi := _) (v := sv (aL)) ?hiq25 (by kernel_rfl) ?hfq25 ?hrq25 ?hQq25 ?hyq25 hBq14 ?restq25
  case hiq25 => (simp only [List.getElem?_toArray, List.getElem?_cons_zero, List.getElem?_cons_succ]; rfl)
  case hfq25 => kernel_rfl
  case hrq25 => kernel_rfl
  case hQq25 => exact fun _ _ _ h => h
  case hyq25 => refine yields_sum ?_ (.tmp 1) rfl ⟨ga, 0, none⟩ rfl aL l1 (fun W hSw => (B6.out W hSw).a.at_); rfl
  try simp only [Act.put, List.setIfInBounds_toArray, List.set_cons_zero, List.set_cons_succ]
  refine wpAnyH_ready (rs := [23]) (by kernel_rfl) (by simp) ?_
  refine' AllReadyH.cons (o := _) ?hiq23 (fun K hK => ?_) AllReadyH.nil
  case hiq23 => (simp only [List.getElem?_toArray, List.getElem?_cons_zero, List.getElem?_cons_succ]; rfl)
  rw [if_pos (by rfl)]
  refine wp_sums _ [aL] 1 rfl rfl (by simp <;> rfl) (by intro s hs; simp at hs; rw [hs]; exact l1) (by omega) (by omega) ?_
  have hBq16 := Below.alloc hBq14 (Below.size hBq14) (.cells (bvs [aL].flatten).toArray 24)
  refine hK.out _ _ hBq16 (fun _ => ?_)
  clear hK K
  try simp only [Act.put, List.setIfInBounds_toArray, List.set_cons_zero, List.set_cons_succ]
  refine wpAnyH_ready (rs := [24]) (by kernel_rfl) (by simp) ?_
  refine' AllReadyH.cons (o := _) ?hiq24 (fun K hK => ?_) AllReadyH.nil
  case hiq24 => (simp only [List.getElem?_toArray, List.getElem?_cons_zero, List.getElem?_cons_succ]; rfl)
  go_simp
  go_at_call 14
  refine (CR1.out _ hBq14).mono ?_
  rintro e Wq18 ⟨rfl, hBq17⟩
  refine hK.out _ _ hBq17 (fun _ => ?_)
  clear hK K
  try simp only [Act.put, List.setIfInBounds_toArray, List.set_cons_zero, List.set_cons_succ]
  refine' wpAnyH_take (i := 26) (oi := _) (v := _) ?hiq26 (by kernel_rfl) ?hfq26 ?hrq26 ?hQq26 ?hyq26 hBq17 ?restq26
  case hiq26 => (simp only [List.getElem?_toArray, List.getElem?_cons_zero, List.getElem?_cons_succ]; rfl)
  case hfq26 => kernel_rfl
  case hrq26 => kernel_rfl
  case hQq26 => exact fun _ _ _ h => h
  case hyq26 => refine Or.inl ⟨by rfl, ?_⟩; intro W hSw; go_simp; try with_reducible rfl
  try simp only [Act.put, List.setIfInBounds_toArray, List.set_cons_zero, List.set_cons_succ]
  refine' wpAnyH_take (i := 27) (oi := _) (v := _) ?hiq27 (by kernel_rfl) ?hfq27 ?hrq27 ?hQq27 ?hyq27 hBq17 ?restq27
  case hiq27 => (simp only [List.getElem?_toArray, List.getElem?_cons_zero, List.getElem?_cons_succ]; rfl)
  case hfq27 => kernel_rfl
  case hrq27 => kernel_rfl
  case hQq27 => exact fun _ _ _ h => h
  case hyq27 => refine Or.inl ⟨by rfl, ?_⟩; intro W hSw; go_simp; try with_reducible rfl
  try simp only [Act.put, List.setIfInBounds_toArray, List.set_cons_zero, List.set_cons_succ]
  refine' wpAnyH_take (i := 28) (oi := _) (v := _) ?hiq28 (by kernel_rfl) ?hfq28 ?hrq28 ?hQq28 ?hyq28 hBq17 ?restq28
  case hiq28 => (simp only [List.getElem?_toArray, List.getElem?_cons_zero, List.getElem?_cons_succ]; rfl)
  case hfq28 => kernel_rfl
  case hrq28 => kernel_rfl
  case hQq28 => exact fun _ _ _ h => h
  case hyq28 => refine Or.inl ⟨by rfl, ?_⟩; intro W hSw; go_simp; try with_reducible rfl
  try simp only [Act.put, List.setIfInBounds_toArray, List.set_cons_zero]
  refine wpAnyH_done (by kernel_rfl) ?_ _
  go_wp2
  go_ret
  exact ⟨rfl, below_on HE6.out (Nat.le_refl _) hBq17⟩

end Go.Proofs.YtigmbiigaiajdaaDoor
