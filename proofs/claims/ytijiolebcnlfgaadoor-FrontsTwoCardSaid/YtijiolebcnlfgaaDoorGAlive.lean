/-
  almonerlaw09.alive.
-/
import Derived.Test.YtijiolebcnlfgaaDoorGRoot
import Derived.Test.YtijiolebcnlfgaaDoorLSameSums
namespace Go.Proofs.YtijiolebcnlfgaaDoor
open Go.RowKit

def oneS (x : Nat) : List Nat := x :: List.replicate 31 0
def f3 (j : Nat) : List Nat := if j = 0 then oneS 1 else if j = 1 then oneS 2 else oneS 3
theorem oneS_lt {x : Nat} (h : x < 256) : ∀ y ∈ oneS x, y < 256 := by
  intro y hy
  rcases List.mem_cons.1 hy with rfl | hy
  · exact h
  · rw [List.eq_of_mem_replicate hy]; omega
theorem f3_sums : Sums32 f3 3 := ⟨fun j _ => by unfold f3; split; rfl; split; rfl; rfl, fun j _ => by unfold f3; split; exact oneS_lt (by omega); split; exact oneS_lt (by omega); exact oneS_lt (by omega)⟩
def abS : List Nat := nodeL (oneS 1) (oneS 2)
theorem rt2 : rt f3 0 2 = abS := by
  have c2 : cutN 2 = 1 := by decide
  rw [rt_cut _ 0 (by omega), c2, rt_one, rt_one]; rfl
theorem rt3 : rt f3 0 3 = nodeL abS (oneS 3) := by
  have c3 : cutN 3 = 2 := by decide
  rw [rt_cut _ 0 (by omega), c3, rt2, rt_one]; rfl
theorem pop3 : pop 3 = 2 := by rw [pop_step (by omega), show 3 / 2 = 1 from rfl, pop_step (by omega), show 1 / 2 = 0 from rfl, pop_zero]
theorem fr3 : fr f3 0 3 = [abS, oneS 3] := by
  rw [fr_at f3 0 (n := 3) (e := 1) (by decide) (by decide), show 2 ^ 1 = 2 from rfl, rt2, fr_at f3 _ (n := 3 - 2) (e := 0) (by decide) (by decide), show 2 ^ 0 = 1 from rfl, rt_one, show 3 - 2 - 1 = 0 from rfl, fr_nil]; rfl

/-- What stands behind the calls. -/
structure GAl (w W : World) (p r : Nat) (E : List Nat) (n : Nat) : Prop where
  front : Front W w.heap.size f3 n
  none : BArr W p 23 E
  pair : r = 0 ∨ BArr W r 23 abS
  bel : Below w.heap.size w W
  ne : p ≠ w.heap.size
theorem GAl.below {w W W' : World} {p r n : Nat} {E : List Nat} (h : GAl w W p r E n) (hb : Below W.heap.size W W') : GAl w W' p r E n :=
  ⟨h.front.below hb, h.none.below hb, h.pair.imp id fun x => x.below hb, below_on h.bel (Nat.le_refl _) hb, h.ne⟩
theorem gal_add {w W : World} {p n : Nat} {E : List Nat} (h : GAl w W p 0 E n) (hn : n < 3) (hk : Knows w) (hs : Starts w) {v : Value} (hv : v = sv (f3 n)) :
    Calls Tryd.prog 7 #[.pointer (some ⟨w.heap.size, 0, none⟩), v] W fun e W' => e = .returned (.int .i64 0) ∧ GAl w W' p 0 E (n + 1) := by
  subst hv
  refine (add_front h.front (f3_sums.mono (by omega)) (by omega) (hk.below h.bel) (hs.below h.bel)).mono fun e W' ⟨he, hf, hb⟩ => ⟨he, hf, (hb.block p h.none.lt h.ne).trans h.none, .inl rfl, ?_, h.ne⟩
  exact h.bel.trans (hb.below h.bel.size fun b hb => by rw [hb]; exact Nat.le_refl _)

set_option maxRecDepth 100000 in
set_option maxHeartbeats 4000000 in
theorem galive_any (w : World) (hk : Knows w) (hs : Starts w) :
    Calls Tryd.prog 11 #[] w fun e w' => e = .returned (.bool true) ∧ Below w.heap.size w w' := by
  have C0 := Lib.hid (new_front f3 w)
  obtain ⟨E, hE⟩ : ∃ E, sha [] = E := ⟨_, rfl⟩
  have lE : E.length = 32 := by rw [← hE]; exact sha_length _
  have HE := Lib.hid hE
  clear hE
  go_enter Tryd.func11, Tryd.ntmps11
  go_wp2_with fail
  refine C0.out.mono ?_
  rintro e w1 ⟨rfl, hf1, hb1⟩
  have C1 := Lib.hid (root_front hf1 (f3_sums.mono (by omega)) (by omega) (hk.below hb1) (hs.below hb1))
  rw [rt_nil, HE.out] at C1
  have H1 := Lib.hid (And.intro hf1 hb1)
  clear hf1 hb1 C0
  go_wp2_with fail
  refine C1.out.mono ?_
  rintro e w2 ⟨rfl, hb2⟩
  obtain ⟨w3, hw3⟩ : ∃ w3, w3 = w2.alloc (.cells (bvs E).toArray 23) := ⟨_, rfl⟩
  have b23 : Below w2.heap.size w2 w3 := by rw [hw3]; exact below_alloc _ _
  have b13 := below_on hb2 (Nat.le_refl _) b23
  have G3 := Lib.hid (show GAl w w3 w2.heap.size 0 E 0 from ⟨H1.out.1.below b13, by rw [hw3]; exact BArr.new _ _ _, .inl rfl, below_on H1.out.2 (Nat.le_refl _) b13, by have := H1.out.1.lt; have := hb2.size; omega⟩)
  have HW3 := Lib.hid hw3
  clear hw3 b23 b13 hb2 C1 H1
  go_upto_region 3 with ((with_reducible refine wpList_store_new w2 _ ?_ rfl (.tmp 2) (.tmp 9) rfl rfl E lE rfl ?_); · simp)
  rw [← HW3.out]
  clear HW3
  obtain ⟨p, hp⟩ : ∃ p, w2.heap.size = p := ⟨_, rfl⟩
  rw [hp] at G3 ⊢
  clear hp
  have A1 := Lib.hid (gal_add (v := .agg #[.int .u8 1, .int .u8 0, .int .u8 0, .int .u8 0, .int .u8 0, .int .u8 0, .int .u8 0, .int .u8 0, .int .u8 0, .int .u8 0, .int .u8 0, .int .u8 0, .int .u8 0, .int .u8 0, .int .u8 0, .int .u8 0, .int .u8 0, .int .u8 0, .int .u8 0, .int .u8 0, .int .u8 0, .int .u8 0, .int .u8 0, .int .u8 0, .int .u8 0, .int .u8 0, .int .u8 0, .int .u8 0, .int .u8 0, .int .u8 0, .int .u8 0, .int .u8 0]) G3.out (by omega) hk hs rfl)
  go_wp2_with fail
  refine A1.out.mono ?_
  rintro e w4 ⟨rfl, g4⟩
  have A2 := Lib.hid (gal_add (v := .agg #[.int .u8 2, .int .u8 0, .int .u8 0, .int .u8 0, .int .u8 0, .int .u8 0, .int .u8 0, .int .u8 0, .int .u8 0, .int .u8 0, .int .u8 0, .int .u8 0, .int .u8 0, .int .u8 0, .int .u8 0, .int .u8 0, .int .u8 0, .int .u8 0, .int .u8 0, .int .u8 0, .int .u8 0, .int .u8 0, .int .u8 0, .int .u8 0, .int .u8 0, .int .u8 0, .int .u8 0, .int .u8 0, .int .u8 0, .int .u8 0, .int .u8 0, .int .u8 0]) g4 (by omega) hk hs rfl)
  clear A1 g4 G3
  go_wp2_with fail
  refine A2.out.mono ?_
  rintro e w5 ⟨rfl, g5⟩
  have A3 := Lib.hid (gal_add (v := .agg #[.int .u8 3, .int .u8 0, .int .u8 0, .int .u8 0, .int .u8 0, .int .u8 0, .int .u8 0, .int .u8 0, .int .u8 0, .int .u8 0, .int .u8 0, .int .u8 0, .int .u8 0, .int .u8 0, .int .u8 0, .int .u8 0, .int .u8 0, .int .u8 0, .int .u8 0, .int .u8 0, .int .u8 0, .int .u8 0, .int .u8 0, .int .u8 0, .int .u8 0, .int .u8 0, .int .u8 0, .int .u8 0, .int .u8 0, .int .u8 0, .int .u8 0, .int .u8 0]) g5 (by omega) hk hs rfl)
  clear A2 g5
  go_wp2_with fail
  refine A3.out.mono ?_
  rintro e w6 ⟨rfl, g6⟩
  have lN : abS.length = 32 := nodeL_length _ _
  have CN0 := Lib.hid (show Calls Tryd.prog 14 #[.agg #[.int .u8 1, .int .u8 0, .int .u8 0, .int .u8 0, .int .u8 0, .int .u8 0, .int .u8 0, .int .u8 0, .int .u8 0, .int .u8 0, .int .u8 0, .int .u8 0, .int .u8 0, .int .u8 0, .int .u8 0, .int .u8 0, .int .u8 0, .int .u8 0, .int .u8 0, .int .u8 0, .int .u8 0, .int .u8 0, .int .u8 0, .int .u8 0, .int .u8 0, .int .u8 0, .int .u8 0, .int .u8 0, .int .u8 0, .int .u8 0, .int .u8 0, .int .u8 0], .agg #[.int .u8 2, .int .u8 0, .int .u8 0, .int .u8 0, .int .u8 0, .int .u8 0, .int .u8 0, .int .u8 0, .int .u8 0, .int .u8 0, .int .u8 0, .int .u8 0, .int .u8 0, .int .u8 0, .int .u8 0, .int .u8 0, .int .u8 0, .int .u8 0, .int .u8 0, .int .u8 0, .int .u8 0, .int .u8 0, .int .u8 0, .int .u8 0, .int .u8 0, .int .u8 0, .int .u8 0, .int .u8 0, .int .u8 0, .int .u8 0, .int .u8 0, .int .u8 0]] w6 fun e w' => e = .returned (sv abS) ∧ Below w6.heap.size w6 w' from node_any (oneS 1) (oneS 2) w6 rfl rfl (oneS_lt (by omega)) (oneS_lt (by omega)) (hk.below g6.bel) (hs.below g6.bel))
  have G6 := Lib.hid g6
  clear A3 g6
  go_wp2_with fail
  refine CN0.out.mono ?_
  rintro e w7 ⟨rfl, hb7⟩
  obtain ⟨w8, hw8⟩ : ∃ w8, w8 = w7.alloc (.cells (bvs abS).toArray 23) := ⟨_, rfl⟩
  have b78 : Below w7.heap.size w7 w8 := by rw [hw8]; exact below_alloc _ _
  have g8 := G6.out.below (below_on hb7 (Nat.le_refl _) b78)
  have r8 : BArr w8 w7.heap.size 23 abS := by rw [hw8]; exact BArr.new _ _ _
  have H8 := Lib.hid (And.intro g8 r8)
  have HW8 := Lib.hid hw8
  clear hw8 b78 g8 r8 hb7 CN0 G6
  go_upto_region 7 with ((with_reducible refine wpList_store_new w7 _ ?_ rfl (.tmp 6) (.tmp 21) rfl rfl abS lN rfl ?_); · simp)
  rw [← HW8.out]
  clear HW8
  obtain ⟨r, hr⟩ : ∃ r, w7.heap.size = r := ⟨_, rfl⟩
  rw [hr] at H8 ⊢
  clear hr
  obtain ⟨R, hR⟩ : ∃ R, nodeL abS (oneS 3) = R := ⟨_, rfl⟩
  have lR : R.length = 32 := by rw [← hR]; exact nodeL_length _ _
  have CR0 := Lib.hid (fun (W : World) (hW : Below w8.heap.size w8 W) => later (v' := sv E) hW (by rw [rt_nil, HE.out]) (root_any none 0 0 [] W (InS.none_ _ _) (by intro x hx; cases hx) (Nat.le_refl _) (by omega) (hk.below (below_on H8.out.1.bel (Nat.le_refl _) hW)) (hs.below (below_on H8.out.1.bel (Nat.le_refl _) hW))))
  have CS := Lib.hid (fun (W : World) (hW : Below w8.heap.size w8 W) => (size_front (H8.out.1.front.below hW)).mono (R' := fun e w' => e = .returned (.int .u64 3) ∧ Below w8.heap.size w8 w') fun e w' ⟨he, hw⟩ => ⟨he, by rw [hw]; exact hW⟩)
  have CM := Lib.hid (fun (W : World) (hW : Below w8.heap.size w8 W) => sums_front (H8.out.1.front.below hW) (by omega))
  rw [pop3, fr3] at CM
  have CRt := Lib.hid (fun (W : World) (hW : Below w8.heap.size w8 W) => later (v' := sv R) hW (by rw [rt3, hR]) (root_front (H8.out.1.front.below hW) f3_sums (by omega) (hk.below (below_on H8.out.1.bel (Nat.le_refl _) hW)) (hs.below (below_on H8.out.1.bel (Nat.le_refl _) hW))))
  have CN := Lib.hid (fun (W : World) (hW : Below w8.heap.size w8 W) => show Calls Tryd.prog 14 #[sv abS, .agg #[.int .u8 3, .int .u8 0, .int .u8 0, .int .u8 0, .int .u8 0, .int .u8 0, .int .u8 0, .int .u8 0, .int .u8 0, .int .u8 0, .int .u8 0, .int .u8 0, .int .u8 0, .int .u8 0, .int .u8 0, .int .u8 0, .int .u8 0, .int .u8 0, .int .u8 0, .int .u8 0, .int .u8 0, .int .u8 0, .int .u8 0, .int .u8 0, .int .u8 0, .int .u8 0, .int .u8 0, .int .u8 0, .int .u8 0, .int .u8 0, .int .u8 0, .int .u8 0]] W fun e w' => e = .returned (sv R) ∧ Below w8.heap.size w8 w' from later (v' := sv R) hW (by rw [hR]) (node_any abS (oneS 3) W lN rfl (nodeL_lt _ _) (oneS_lt (by omega)) (hk.below (below_on H8.out.1.bel (Nat.le_refl _) hW)) (hs.below (below_on H8.out.1.bel (Nat.le_refl _) hW))))
  have e3 : sv (oneS 3) = .agg #[.int .u8 3, .int .u8 0, .int .u8 0, .int .u8 0, .int .u8 0, .int .u8 0, .int .u8 0, .int .u8 0, .int .u8 0, .int .u8 0, .int .u8 0, .int .u8 0, .int .u8 0, .int .u8 0, .int .u8 0, .int .u8 0, .int .u8 0, .int .u8 0, .int .u8 0, .int .u8 0, .int .u8 0, .int .u8 0, .int .u8 0, .int .u8 0, .int .u8 0, .int .u8 0, .int .u8 0, .int .u8 0, .int .u8 0, .int .u8 0, .int .u8 0, .int .u8 0] := rfl
  have HE3 := Lib.hid e3
  have q1 := run_eql_sum E E lE lE
  rw [decide_eq_true rfl] at q1
  have q3 := run_eql_sum R R lR lR
  rw [decide_eq_true rfl] at q3
  have q2 := run_guard_eql
  have KE := Lib.hid (fun (W : World) (hW : Below w8.heap.size w8 W) => (H8.out.1.none.below hW).at_)
  have KN := Lib.hid (fun (W : World) (hW : Below w8.heap.size w8 W) => (H8.out.2.below hW).at_)
  have BL := Lib.hid (fun (W : World) (hW : Below w8.heap.size w8 W) => below_on H8.out.1.bel (Nat.le_refl _) hW)
  clear hR e3 hk hs H8 HE
  refine wp_region_held_drew (S := fun W => Below w8.heap.size w8 W) (by kernel_rfl) ((Below.refl _ _).drew) (fun hS0 => ?_)
  change wpAnyH _ _ _ _ _ _ _ _ w8.drew
  refine' wpAnyH_take (i := 0) (oi := _) (v := sv (E)) ?hiq0 (by kernel_rfl) ?hfq0 ?hrq0 ?hQq0 ?hyq0 hS0 ?restq0
  case hiq0 => (simp only [List.getElem?_toArray, List.getElem?_cons_zero]; rfl)
  case hfq0 => kernel_rfl
  case hrq0 => kernel_rfl
  case hQq0 => exact fun _ _ _ h => h
  case hyq0 => refine yields_sum ?_ (.tmp 2) rfl ⟨p, 0, none⟩ rfl E lE (fun W hSw => (KE.out W hSw)); rfl
  try simp only [Act.put, List.setIfInBounds_toArray, List.set_cons_zero, List.set_cons_succ]
  refine wpAnyH_ready (rs := [1]) (by kernel_rfl) (by simp) ?_
  refine' AllReadyH.cons (o := _) ?hiq1 (fun K hK => ?_) AllReadyH.nil
  case hiq1 => (simp only [List.getElem?_toArray, List.getElem?_cons_zero, List.getElem?_cons_succ]; rfl)
  go_simp
  go_at_call 13
  refine (CR0.out _ hS0).mono ?_
  rintro e Wq2 ⟨rfl, hBq1⟩
  refine hK.out _ _ hBq1 (fun _ => ?_)
  clear hK K
  try simp only [Act.put, List.setIfInBounds_toArray, List.set_cons_zero, List.set_cons_succ]
  refine' wpAnyH_take (i := 2) (oi := _) (v := _) ?hiq2 (by kernel_rfl) ?hfq2 ?hrq2 ?hQq2 ?hyq2 hBq1 ?restq2
  case hiq2 => (simp only [List.getElem?_toArray, List.getElem?_cons_zero, List.getElem?_cons_succ]; rfl)
  case hfq2 => kernel_rfl
  case hrq2 => kernel_rfl
  case hQq2 => exact fun _ _ _ h => h
  case hyq2 => refine Or.inl ⟨by rfl, ?_⟩; intro W hSw; go_simp; try with_reducible rfl
  try simp only [Act.put, List.setIfInBounds_toArray, List.set_cons_zero, List.set_cons_succ]
  refine' wpAnyH_take (i := 3) (oi := _) (v := _) ?hiq3 (by kernel_rfl) ?hfq3 ?hrq3 ?hQq3 ?hyq3 hBq1 ?restq3
  case hiq3 => (simp only [List.getElem?_toArray, List.getElem?_cons_zero, List.getElem?_cons_succ]; rfl)
  case hfq3 => kernel_rfl
  case hrq3 => kernel_rfl
  case hQq3 => exact fun _ _ _ h => h
  case hyq3 => refine Or.inl ⟨by rfl, ?_⟩; intro W hSw; go_simp; try with_reducible rfl
  try simp only [Act.put, List.setIfInBounds_toArray, List.set_cons_zero, List.set_cons_succ]
  refine' wpAnyH_take (i := 4) (oi := _) (v := _) ?hiq4 (by kernel_rfl) ?hfq4 ?hrq4 ?hQq4 ?hyq4 hBq1 ?restq4
  case hiq4 => (simp only [List.getElem?_toArray, List.getElem?_cons_zero, List.getElem?_cons_succ]; rfl)
  case hfq4 => kernel_rfl
  case hrq4 => kernel_rfl
  case hQq4 => exact fun _ _ _ h => h
  case hyq4 => refine Or.inl ⟨by rfl, ?_⟩; intro W hSw; go_simp; try with_reducible rfl
  try simp only [Act.put, List.setIfInBounds_toArray, List.set_cons_zero, List.set_cons_succ]
  refine' wpAnyH_take (i := 5) (oi := _) (v := _) ?hiq5 (by kernel_rfl) ?hfq5 ?hrq5 ?hQq5 ?hyq5 hBq1 ?restq5
  case hiq5 => (simp only [List.getElem?_toArray, List.getElem?_cons_zero, List.getElem?_cons_succ]; rfl)
  case hfq5 => kernel_rfl
  case hrq5 => kernel_rfl
  case hQq5 => exact fun _ _ _ h => h
  case hyq5 => refine Or.inl ⟨by rfl, ?_⟩; intro W hSw; go_simp; try with_reducible rfl
  try simp only [Act.put, List.setIfInBounds_toArray, List.set_cons_zero, List.set_cons_succ]
  refine' wpAnyH_take (i := 6) (oi := _) (v := _) ?hiq6 (by kernel_rfl) ?hfq6 ?hrq6 ?hQq6 ?hyq6 hBq1 ?restq6
  case hiq6 => (simp only [List.getElem?_toArray, List.getElem?_cons_zero, List.getElem?_cons_succ]; rfl)
  case hfq6 => kernel_rfl
  case hrq6 => kernel_rfl
  case hQq6 => exact fun _ _ _ h => h
  case hyq6 => refine Or.inl ⟨by rfl, ?_⟩; intro W hSw; go_simp; try with_reducible rfl
  try simp only [Act.put, List.setIfInBounds_toArray, List.set_cons_zero, List.set_cons_succ]
  refine' wpAnyH_take (i := 7) (oi := _) (v := _) ?hiq7 (by kernel_rfl) ?hfq7 ?hrq7 ?hQq7 ?hyq7 hBq1 ?restq7
  case hiq7 => (simp only [List.getElem?_toArray, List.getElem?_cons_zero, List.getElem?_cons_succ]; rfl)
  case hfq7 => kernel_rfl
  case hrq7 => kernel_rfl
  case hQq7 => exact fun _ _ _ h => h
  case hyq7 => refine Or.inl ⟨by rfl, ?_⟩; intro W hSw; go_simp; try with_reducible rfl
  try simp only [Act.put, List.setIfInBounds_toArray, List.set_cons_zero, List.set_cons_succ]
  refine' wpAnyH_take (i := 8) (oi := _) (v := _) ?hiq8 (by kernel_rfl) ?hfq8 ?hrq8 ?hQq8 ?hyq8 hBq1 ?restq8
  case hiq8 => (simp only [List.getElem?_toArray, List.getElem?_cons_zero, List.getElem?_cons_succ]; rfl)
  case hfq8 => kernel_rfl
  case hrq8 => kernel_rfl
  case hQq8 => exact fun _ _ _ h => h
  case hyq8 => refine Or.inl ⟨by rfl, ?_⟩; intro W hSw; go_simp; try with_reducible rfl
  try simp only [Act.put, List.setIfInBounds_toArray, List.set_cons_zero, List.set_cons_succ]
  refine' wpAnyH_take (i := 9) (oi := _) (v := _) ?hiq9 (by kernel_rfl) ?hfq9 ?hrq9 ?hQq9 ?hyq9 hBq1 ?restq9
  case hiq9 => (simp only [List.getElem?_toArray, List.getElem?_cons_zero, List.getElem?_cons_succ]; rfl)
  case hfq9 => kernel_rfl
  case hrq9 => kernel_rfl
  case hQq9 => exact fun _ _ _ h => h
  case hyq9 => refine Or.inl ⟨by rfl, ?_⟩; intro W hSw; go_simp; try with_reducible rfl
  try simp only [Act.put, List.setIfInBounds_toArray, List.set_cons_zero, List.set_cons_succ]
  refine' wpAnyH_take (i := 10) (oi := _) (v := _) ?hiq10 (by kernel_rfl) ?hfq10 ?hrq10 ?hQq10 ?hyq10 hBq1 ?restq10
  case hiq10 => (simp only [List.getElem?_toArray, List.getElem?_cons_zero, List.getElem?_cons_succ]; rfl)
  case hfq10 => kernel_rfl
  case hrq10 => kernel_rfl
  case hQq10 => exact fun _ _ _ h => h
  case hyq10 => refine Or.inl ⟨by rfl, ?_⟩; intro W hSw; go_simp; try with_reducible rfl
  try simp only [Act.put, List.setIfInBounds_toArray, List.set_cons_zero, List.set_cons_succ]
  refine' wpAnyH_take (i := 11) (oi := _) (v := _) ?hiq11 (by kernel_rfl) ?hfq11 ?hrq11 ?hQq11 ?hyq11 hBq1 ?restq11
  case hiq11 => (simp only [List.getElem?_toArray, List.getElem?_cons_zero, List.getElem?_cons_succ]; rfl)
  case hfq11 => kernel_rfl
  case hrq11 => kernel_rfl
  case hQq11 => exact fun _ _ _ h => h
  case hyq11 => refine Or.inl ⟨by rfl, ?_⟩; intro W hSw; go_simp; try with_reducible rfl
  try simp only [Act.put, List.setIfInBounds_toArray, List.set_cons_zero, List.set_cons_succ]
  refine' wpAnyH_take (i := 12) (oi := _) (v := _) ?hiq12 (by kernel_rfl) ?hfq12 ?hrq12 ?hQq12 ?hyq12 hBq1 ?restq12
  case hiq12 => (simp only [List.getElem?_toArray, List.getElem?_cons_zero, List.getElem?_cons_succ]; rfl)
  case hfq12 => kernel_rfl
  case hrq12 => kernel_rfl
  case hQq12 => exact fun _ _ _ h => h
  case hyq12 => refine Or.inl ⟨by rfl, ?_⟩; intro W hSw; go_simp; try with_reducible rfl
  try simp only [Act.put, List.setIfInBounds_toArray, List.set_cons_zero, List.set_cons_succ]
  refine' wpAnyH_take (i := 13) (oi := _) (v := _) ?hiq13 (by kernel_rfl) ?hfq13 ?hrq13 ?hQq13 ?hyq13 hBq1 ?restq13
  case hiq13 => (simp only [List.getElem?_toArray, List.getElem?_cons_zero, List.getElem?_cons_succ]; rfl)
  case hfq13 => kernel_rfl
  case hrq13 => kernel_rfl
  case hQq13 => exact fun _ _ _ h => h
  case hyq13 => refine Or.inl ⟨by rfl, ?_⟩; intro W hSw; go_simp; try with_reducible rfl
  try simp only [Act.put, List.setIfInBounds_toArray, List.set_cons_zero, List.set_cons_succ]
  refine' wpAnyH_take (i := 14) (oi := _) (v := _) ?hiq14 (by kernel_rfl) ?hfq14 ?hrq14 ?hQq14 ?hyq14 hBq1 ?restq14
  case hiq14 => (simp only [List.getElem?_toArray, List.getElem?_cons_zero, List.getElem?_cons_succ]; rfl)
  case hfq14 => kernel_rfl
  case hrq14 => kernel_rfl
  case hQq14 => exact fun _ _ _ h => h
  case hyq14 => refine Or.inl ⟨by rfl, ?_⟩; intro W hSw; go_simp; try with_reducible rfl
  try simp only [Act.put, List.setIfInBounds_toArray, List.set_cons_zero, List.set_cons_succ]
  refine' wpAnyH_take (i := 15) (oi := _) (v := _) ?hiq15 (by kernel_rfl) ?hfq15 ?hrq15 ?hQq15 ?hyq15 hBq1 ?restq15
  case hiq15 => (simp only [List.getElem?_toArray, List.getElem?_cons_zero, List.getElem?_cons_succ]; rfl)
  case hfq15 => kernel_rfl
  case hrq15 => kernel_rfl
  case hQq15 => exact fun _ _ _ h => h
  case hyq15 => refine Or.inl ⟨by rfl, ?_⟩; intro W hSw; go_simp; try with_reducible rfl
  try simp only [Act.put, List.setIfInBounds_toArray, List.set_cons_zero, List.set_cons_succ]
  refine' wpAnyH_take (i := 16) (oi := _) (v := _) ?hiq16 (by kernel_rfl) ?hfq16 ?hrq16 ?hQq16 ?hyq16 hBq1 ?restq16
  case hiq16 => (simp only [List.getElem?_toArray, List.getElem?_cons_zero, List.getElem?_cons_succ]; rfl)
  case hfq16 => kernel_rfl
  case hrq16 => kernel_rfl
  case hQq16 => exact fun _ _ _ h => h
  case hyq16 => refine Or.inl ⟨by rfl, ?_⟩; intro W hSw; go_simp; try with_reducible rfl
  try simp only [Act.put, List.setIfInBounds_toArray, List.set_cons_zero, List.set_cons_succ]
  refine wpAnyH_ready (rs := [17]) (by kernel_rfl) (by simp) ?_
  refine' AllReadyH.cons (o := _) ?hiq17 (fun K hK => ?_) AllReadyH.nil
  case hiq17 => (simp only [List.getElem?_toArray, List.getElem?_cons_zero, List.getElem?_cons_succ]; rfl)
  go_simp
  go_at_call 8
  refine (CS.out _ hBq1).mono ?_
  rintro e Wq4 ⟨rfl, hBq3⟩
  refine hK.out _ _ hBq3 (fun _ => ?_)
  clear hK K
  try simp only [Act.put, List.setIfInBounds_toArray, List.set_cons_zero, List.set_cons_succ]
  refine' wpAnyH_take (i := 18) (oi := _) (v := _) ?hiq18 (by kernel_rfl) ?hfq18 ?hrq18 ?hQq18 ?hyq18 hBq3 ?restq18
  case hiq18 => (simp only [List.getElem?_toArray, List.getElem?_cons_zero, List.getElem?_cons_succ]; rfl)
  case hfq18 => kernel_rfl
  case hrq18 => kernel_rfl
  case hQq18 => exact fun _ _ _ h => h
  case hyq18 => refine Or.inl ⟨by rfl, ?_⟩; intro W hSw; go_simp; try with_reducible rfl
  try simp only [Act.put, List.setIfInBounds_toArray, List.set_cons_zero, List.set_cons_succ]
  refine' wpAnyH_take (i := 19) (oi := _) (v := _) ?hiq19 (by kernel_rfl) ?hfq19 ?hrq19 ?hQq19 ?hyq19 hBq3 ?restq19
  case hiq19 => (simp only [List.getElem?_toArray, List.getElem?_cons_zero, List.getElem?_cons_succ]; rfl)
  case hfq19 => kernel_rfl
  case hrq19 => kernel_rfl
  case hQq19 => exact fun _ _ _ h => h
  case hyq19 => refine Or.inl ⟨by rfl, ?_⟩; intro W hSw; go_simp; try with_reducible rfl
  try simp only [Act.put, List.setIfInBounds_toArray, List.set_cons_zero, List.set_cons_succ]
  refine' wpAnyH_take (i := 20) (oi := _) (v := _) ?hiq20 (by kernel_rfl) ?hfq20 ?hrq20 ?hQq20 ?hyq20 hBq3 ?restq20
  case hiq20 => (simp only [List.getElem?_toArray, List.getElem?_cons_zero, List.getElem?_cons_succ]; rfl)
  case hfq20 => kernel_rfl
  case hrq20 => kernel_rfl
  case hQq20 => exact fun _ _ _ h => h
  case hyq20 => refine Or.inl ⟨by rfl, ?_⟩; intro W hSw; go_simp; try with_reducible rfl
  try simp only [Act.put, List.setIfInBounds_toArray, List.set_cons_zero, List.set_cons_succ]
  refine' wpAnyH_take (i := 21) (oi := _) (v := _) ?hiq21 (by kernel_rfl) ?hfq21 ?hrq21 ?hQq21 ?hyq21 hBq3 ?restq21
  case hiq21 => (simp only [List.getElem?_toArray, List.getElem?_cons_zero, List.getElem?_cons_succ]; rfl)
  case hfq21 => kernel_rfl
  case hrq21 => kernel_rfl
  case hQq21 => exact fun _ _ _ h => h
  case hyq21 => refine Or.inl ⟨by rfl, ?_⟩; intro W hSw; go_simp; try with_reducible rfl
  try simp only [Act.put, List.setIfInBounds_toArray, List.set_cons_zero, List.set_cons_succ]
  refine' wpAnyH_take (i := 23) (oi := _) (v := sv (abS)) ?hiq23 (by kernel_rfl) ?hfq23 ?hrq23 ?hQq23 ?hyq23 hBq3 ?restq23
  case hiq23 => (simp only [List.getElem?_toArray, List.getElem?_cons_zero, List.getElem?_cons_succ]; rfl)
  case hfq23 => kernel_rfl
  case hrq23 => kernel_rfl
  case hQq23 => exact fun _ _ _ h => h
  case hyq23 => refine yields_sum ?_ (.tmp 6) rfl ⟨r, 0, none⟩ rfl abS lN (fun W hSw => (KN.out W hSw)); rfl
  try simp only [Act.put, List.setIfInBounds_toArray, List.set_cons_zero, List.set_cons_succ]
  refine' wpAnyH_take (i := 24) (oi := _) (v := _) ?hiq24 (by kernel_rfl) ?hfq24 ?hrq24 ?hQq24 ?hyq24 hBq3 ?restq24
  case hiq24 => (simp only [List.getElem?_toArray, List.getElem?_cons_zero, List.getElem?_cons_succ]; rfl)
  case hfq24 => kernel_rfl
  case hrq24 => kernel_rfl
  case hQq24 => exact fun _ _ _ h => h
  case hyq24 => refine Or.inl ⟨by rfl, ?_⟩; intro W hSw; go_simp; try with_reducible rfl
  try simp only [Act.put, List.setIfInBounds_toArray, List.set_cons_zero, List.set_cons_succ]
  refine wpAnyH_ready (rs := [22, 25]) (by kernel_rfl) (by simp) ?_
  refine' AllReadyH.cons (o := _) ?hiy22 (fun K hK => ?_) (AllReadyH.cons (o := _) ?hiy25 (fun K hK => ?_) AllReadyH.nil)
  case hiy22 => (simp only [List.getElem?_toArray, List.getElem?_cons_zero, List.getElem?_cons_succ]; rfl)
  case hiy25 => (simp only [List.getElem?_toArray, List.getElem?_cons_zero, List.getElem?_cons_succ]; rfl)
  · skip
    go_simp
    go_at_call 10
    refine (CM.out _ hBq3).mono ?_
    rintro e WM ⟨AM, cM, rfl, hoM, hbM⟩
    have hBa51 := below_on hBq3 (Nat.le_refl _) hbM
    refine hK.out _ _ hBa51 (fun _ => ?_)
    clear hK K
    try simp only [Act.put, List.setIfInBounds_toArray, List.set_cons_zero, List.set_cons_succ]
    refine wpAnyH_ready (rs := [25]) (by kernel_rfl) (by simp) ?_
    refine' AllReadyH.cons (o := _) ?hia25 (fun K hK => ?_) AllReadyH.nil
    case hia25 => (simp only [List.getElem?_toArray, List.getElem?_cons_zero, List.getElem?_cons_succ]; rfl)
    rw [if_pos (by rfl)]
    refine wp_sums _ [abS, oneS 3] 2 rfl rfl (by simp <;> exact ⟨rfl, HE3.out⟩) (by intro s hs; simp at hs; rcases hs with rfl | rfl; exact lN; rfl) (by omega) (by omega) ?_
    have hBa52 := Below.alloc hBa51 (Below.size hBa51) (.cells (bvs [abS, oneS 3].flatten).toArray 23)
    have iL : InS (WM.alloc (.cells (bvs [abS, oneS 3].flatten).toArray 23)) (some ⟨WM.heap.size, 0, none⟩) 2 [abS, oneS 3].flatten := ⟨by simp [lN, oneS], (In.new' WM [abS, oneS 3].flatten 23).rd⟩
    refine hK.out _ _ hBa52 (fun _ => ?_)
    clear hK K
    try simp only [Act.put, List.setIfInBounds_toArray, List.set_cons_zero, List.set_cons_succ]
    have CSM := Lib.hid (sameSums_yes AM (some ⟨WM.heap.size, 0, none⟩) 2 cM 2 [abS, oneS 3].flatten (WM.alloc (.cells (bvs [abS, oneS 3].flatten).toArray 23)) ((InS.of_own hoM).below (below_alloc WM (.cells (bvs [abS, oneS 3].flatten).toArray 23))) iL (by omega))
    clear iL hoM hbM
    refine wpAnyH_ready (rs := [26]) (by kernel_rfl) (by simp) ?_
    refine' AllReadyH.cons (o := _) ?hia26 (fun K hK => ?_) AllReadyH.nil
    case hia26 => (simp only [List.getElem?_toArray, List.getElem?_cons_zero, List.getElem?_cons_succ]; rfl)
    go_simp
    go_at_call 20
    refine CSM.out.mono ?_
    rintro e WS ⟨rfl, qS, hqS⟩
    have hBa53 : Below w8.heap.size w8 WS := by rw [hqS]; exact ⟨hBa52.os, hBa52.tape, hBa52.output, hBa52.size, hBa52.block⟩
    clear hqS
    refine hK.out _ _ hBa53 (fun _ => ?_)
    clear hK K
    try simp only [Act.put, List.setIfInBounds_toArray, List.set_cons_zero, List.set_cons_succ]
    refine' wpAnyH_take (i := 27) (oi := _) (v := _) ?hia27 (by kernel_rfl) ?hfa27 ?hra27 ?hQa27 ?hya27 hBa53 ?resta27
    case hia27 => (simp only [List.getElem?_toArray, List.getElem?_cons_zero, List.getElem?_cons_succ]; rfl)
    case hfa27 => kernel_rfl
    case hra27 => kernel_rfl
    case hQa27 => exact fun _ _ _ h => h
    case hya27 => refine Or.inl ⟨by rfl, ?_⟩; intro W hSw; go_simp; try with_reducible rfl
    try simp only [Act.put, List.setIfInBounds_toArray, List.set_cons_zero, List.set_cons_succ]
    refine' wpAnyH_take (i := 28) (oi := _) (v := _) ?hia28 (by kernel_rfl) ?hfa28 ?hra28 ?hQa28 ?hya28 hBa53 ?resta28
    case hia28 => (simp only [List.getElem?_toArray, List.getElem?_cons_zero, List.getElem?_cons_succ]; rfl)
    case hfa28 => kernel_rfl
    case hra28 => kernel_rfl
    case hQa28 => exact fun _ _ _ h => h
    case hya28 => refine Or.inl ⟨by rfl, ?_⟩; intro W hSw; go_simp; try with_reducible rfl
    try simp only [Act.put, List.setIfInBounds_toArray, List.set_cons_zero, List.set_cons_succ]
    refine' wpAnyH_take (i := 29) (oi := _) (v := _) ?hia29 (by kernel_rfl) ?hfa29 ?hra29 ?hQa29 ?hya29 hBa53 ?resta29
    case hia29 => (simp only [List.getElem?_toArray, List.getElem?_cons_zero, List.getElem?_cons_succ]; rfl)
    case hfa29 => kernel_rfl
    case hra29 => kernel_rfl
    case hQa29 => exact fun _ _ _ h => h
    case hya29 => refine Or.inl ⟨by rfl, ?_⟩; intro W hSw; go_simp; try with_reducible rfl
    try simp only [Act.put, List.setIfInBounds_toArray, List.set_cons_zero, List.set_cons_succ]
    refine' wpAnyH_take (i := 31) (oi := _) (v := sv (abS)) ?hia31 (by kernel_rfl) ?hfa31 ?hra31 ?hQa31 ?hya31 hBa53 ?resta31
    case hia31 => (simp only [List.getElem?_toArray, List.getElem?_cons_zero, List.getElem?_cons_succ]; rfl)
    case hfa31 => kernel_rfl
    case hra31 => kernel_rfl
    case hQa31 => exact fun _ _ _ h => h
    case hya31 => refine yields_sum ?_ (.tmp 6) rfl ⟨r, 0, none⟩ rfl abS lN (fun W hSw => (KN.out W hSw)); rfl
    try simp only [Act.put, List.setIfInBounds_toArray, List.set_cons_zero, List.set_cons_succ]
    refine' wpAnyH_take (i := 32) (oi := _) (v := _) ?hia32 (by kernel_rfl) ?hfa32 ?hra32 ?hQa32 ?hya32 hBa53 ?resta32
    case hia32 => (simp only [List.getElem?_toArray, List.getElem?_cons_zero, List.getElem?_cons_succ]; rfl)
    case hfa32 => kernel_rfl
    case hra32 => kernel_rfl
    case hQa32 => exact fun _ _ _ h => h
    case hya32 => refine Or.inl ⟨by rfl, ?_⟩; intro W hSw; go_simp; try with_reducible rfl
    try simp only [Act.put, List.setIfInBounds_toArray, List.set_cons_zero, List.set_cons_succ]
    refine wpAnyH_ready (rs := [30]) (by kernel_rfl) (by simp) ?_
    refine' AllReadyH.cons (o := _) ?hia30 (fun K hK => ?_) AllReadyH.nil
    case hia30 => (simp only [List.getElem?_toArray, List.getElem?_cons_zero, List.getElem?_cons_succ]; rfl)
    go_simp
    go_at_call 9
    refine (CRt.out _ hBa53).mono ?_
    rintro e Wa55 ⟨rfl, hBa54⟩
    refine hK.out _ _ hBa54 (fun _ => ?_)
    clear hK K
    try simp only [Act.put, List.setIfInBounds_toArray, List.set_cons_zero, List.set_cons_succ]
    refine wpAnyH_ready (rs := [33]) (by kernel_rfl) (by simp) ?_
    refine' AllReadyH.cons (o := _) ?hia33 (fun K hK => ?_) AllReadyH.nil
    case hia33 => (simp only [List.getElem?_toArray, List.getElem?_cons_zero, List.getElem?_cons_succ]; rfl)
    go_simp
    go_at_call 14
    refine (CN.out _ hBa54).mono ?_
    rintro e Wa57 ⟨rfl, hBa56⟩
    refine hK.out _ _ hBa56 (fun _ => ?_)
    clear hK K
    try simp only [Act.put, List.setIfInBounds_toArray, List.set_cons_zero, List.set_cons_succ]
    refine' wpAnyH_take (i := 34) (oi := _) (v := _) ?hia34 (by kernel_rfl) ?hfa34 ?hra34 ?hQa34 ?hya34 hBa56 ?resta34
    case hia34 => (simp only [List.getElem?_toArray, List.getElem?_cons_zero, List.getElem?_cons_succ]; rfl)
    case hfa34 => kernel_rfl
    case hra34 => kernel_rfl
    case hQa34 => exact fun _ _ _ h => h
    case hya34 => refine Or.inl ⟨by rfl, ?_⟩; intro W hSw; go_simp; try with_reducible rfl
    try simp only [Act.put, List.setIfInBounds_toArray, List.set_cons_zero, List.set_cons_succ]
    refine' wpAnyH_take (i := 35) (oi := _) (v := _) ?hia35 (by kernel_rfl) ?hfa35 ?hra35 ?hQa35 ?hya35 hBa56 ?resta35
    case hia35 => (simp only [List.getElem?_toArray, List.getElem?_cons_zero, List.getElem?_cons_succ]; rfl)
    case hfa35 => kernel_rfl
    case hra35 => kernel_rfl
    case hQa35 => exact fun _ _ _ h => h
    case hya35 => refine Or.inl ⟨by rfl, ?_⟩; intro W hSw; go_simp; try with_reducible rfl
    try simp only [Act.put, List.setIfInBounds_toArray, List.set_cons_zero, List.set_cons_succ]
    refine' wpAnyH_take (i := 36) (oi := _) (v := _) ?hia36 (by kernel_rfl) ?hfa36 ?hra36 ?hQa36 ?hya36 hBa56 ?resta36
    case hia36 => (simp only [List.getElem?_toArray, List.getElem?_cons_zero, List.getElem?_cons_succ]; rfl)
    case hfa36 => kernel_rfl
    case hra36 => kernel_rfl
    case hQa36 => exact fun _ _ _ h => h
    case hya36 => refine Or.inl ⟨by rfl, ?_⟩; intro W hSw; go_simp; try with_reducible rfl
    try simp only [Act.put, List.setIfInBounds_toArray, List.set_cons_zero]
    refine wpAnyH_done (by kernel_rfl) ?_ _
    go_wp2
    go_ret
    exact ⟨rfl, BL.out _ hBa56⟩
  · skip
    rw [if_pos (by rfl)]
    refine wp_sums _ [abS, oneS 3] 2 rfl rfl (by simp <;> exact ⟨rfl, HE3.out⟩) (by intro s hs; simp at hs; rcases hs with rfl | rfl; exact lN; rfl) (by omega) (by omega) ?_
    have hBb51 := Below.alloc hBq3 (Below.size hBq3) (.cells (bvs [abS, oneS 3].flatten).toArray 23)
    have iL : InS (Wq4.alloc (.cells (bvs [abS, oneS 3].flatten).toArray 23)) (some ⟨Wq4.heap.size, 0, none⟩) 2 [abS, oneS 3].flatten := ⟨by simp [lN, oneS], (In.new' Wq4 [abS, oneS 3].flatten 23).rd⟩
    refine hK.out _ _ hBb51 (fun _ => ?_)
    clear hK K
    try simp only [Act.put, List.setIfInBounds_toArray, List.set_cons_zero, List.set_cons_succ]
    refine wpAnyH_ready (rs := [22]) (by kernel_rfl) (by simp) ?_
    refine' AllReadyH.cons (o := _) ?hib22 (fun K hK => ?_) AllReadyH.nil
    case hib22 => (simp only [List.getElem?_toArray, List.getElem?_cons_zero, List.getElem?_cons_succ]; rfl)
    go_simp
    go_at_call 10
    refine (CM.out _ hBb51).mono ?_
    rintro e WM ⟨AM, cM, rfl, hoM, hbM⟩
    have hBb52 := below_on hBb51 (Nat.le_refl _) hbM
    refine hK.out _ _ hBb52 (fun _ => ?_)
    clear hK K
    try simp only [Act.put, List.setIfInBounds_toArray, List.set_cons_zero, List.set_cons_succ]
    have CSM := Lib.hid (sameSums_yes AM (some ⟨Wq4.heap.size, 0, none⟩) 2 cM 2 [abS, oneS 3].flatten WM (InS.of_own hoM) (iL.below hbM) (by omega))
    clear iL hoM hbM
    refine wpAnyH_ready (rs := [26]) (by kernel_rfl) (by simp) ?_
    refine' AllReadyH.cons (o := _) ?hib26 (fun K hK => ?_) AllReadyH.nil
    case hib26 => (simp only [List.getElem?_toArray, List.getElem?_cons_zero, List.getElem?_cons_succ]; rfl)
    go_simp
    go_at_call 20
    refine CSM.out.mono ?_
    rintro e WS ⟨rfl, qS, hqS⟩
    have hBb53 : Below w8.heap.size w8 WS := by rw [hqS]; exact ⟨hBb52.os, hBb52.tape, hBb52.output, hBb52.size, hBb52.block⟩
    clear hqS
    refine hK.out _ _ hBb53 (fun _ => ?_)
    clear hK K
    try simp only [Act.put, List.setIfInBounds_toArray, List.set_cons_zero, List.set_cons_succ]
    refine' wpAnyH_take (i := 27) (oi := _) (v := _) ?hib27 (by kernel_rfl) ?hfb27 ?hrb27 ?hQb27 ?hyb27 hBb53 ?restb27
    case hib27 => (simp only [List.getElem?_toArray, List.getElem?_cons_zero, List.getElem?_cons_succ]; rfl)
    case hfb27 => kernel_rfl
    case hrb27 => kernel_rfl
    case hQb27 => exact fun _ _ _ h => h
    case hyb27 => refine Or.inl ⟨by rfl, ?_⟩; intro W hSw; go_simp; try with_reducible rfl
    try simp only [Act.put, List.setIfInBounds_toArray, List.set_cons_zero, List.set_cons_succ]
    refine' wpAnyH_take (i := 28) (oi := _) (v := _) ?hib28 (by kernel_rfl) ?hfb28 ?hrb28 ?hQb28 ?hyb28 hBb53 ?restb28
    case hib28 => (simp only [List.getElem?_toArray, List.getElem?_cons_zero, List.getElem?_cons_succ]; rfl)
    case hfb28 => kernel_rfl
    case hrb28 => kernel_rfl
    case hQb28 => exact fun _ _ _ h => h
    case hyb28 => refine Or.inl ⟨by rfl, ?_⟩; intro W hSw; go_simp; try with_reducible rfl
    try simp only [Act.put, List.setIfInBounds_toArray, List.set_cons_zero, List.set_cons_succ]
    refine' wpAnyH_take (i := 29) (oi := _) (v := _) ?hib29 (by kernel_rfl) ?hfb29 ?hrb29 ?hQb29 ?hyb29 hBb53 ?restb29
    case hib29 => (simp only [List.getElem?_toArray, List.getElem?_cons_zero, List.getElem?_cons_succ]; rfl)
    case hfb29 => kernel_rfl
    case hrb29 => kernel_rfl
    case hQb29 => exact fun _ _ _ h => h
    case hyb29 => refine Or.inl ⟨by rfl, ?_⟩; intro W hSw; go_simp; try with_reducible rfl
    try simp only [Act.put, List.setIfInBounds_toArray, List.set_cons_zero, List.set_cons_succ]
    refine' wpAnyH_take (i := 31) (oi := _) (v := sv (abS)) ?hib31 (by kernel_rfl) ?hfb31 ?hrb31 ?hQb31 ?hyb31 hBb53 ?restb31
    case hib31 => (simp only [List.getElem?_toArray, List.getElem?_cons_zero, List.getElem?_cons_succ]; rfl)
    case hfb31 => kernel_rfl
    case hrb31 => kernel_rfl
    case hQb31 => exact fun _ _ _ h => h
    case hyb31 => refine yields_sum ?_ (.tmp 6) rfl ⟨r, 0, none⟩ rfl abS lN (fun W hSw => (KN.out W hSw)); rfl
    try simp only [Act.put, List.setIfInBounds_toArray, List.set_cons_zero, List.set_cons_succ]
    refine' wpAnyH_take (i := 32) (oi := _) (v := _) ?hib32 (by kernel_rfl) ?hfb32 ?hrb32 ?hQb32 ?hyb32 hBb53 ?restb32
    case hib32 => (simp only [List.getElem?_toArray, List.getElem?_cons_zero, List.getElem?_cons_succ]; rfl)
    case hfb32 => kernel_rfl
    case hrb32 => kernel_rfl
    case hQb32 => exact fun _ _ _ h => h
    case hyb32 => refine Or.inl ⟨by rfl, ?_⟩; intro W hSw; go_simp; try with_reducible rfl
    try simp only [Act.put, List.setIfInBounds_toArray, List.set_cons_zero, List.set_cons_succ]
    refine wpAnyH_ready (rs := [30]) (by kernel_rfl) (by simp) ?_
    refine' AllReadyH.cons (o := _) ?hib30 (fun K hK => ?_) AllReadyH.nil
    case hib30 => (simp only [List.getElem?_toArray, List.getElem?_cons_zero, List.getElem?_cons_succ]; rfl)
    go_simp
    go_at_call 9
    refine (CRt.out _ hBb53).mono ?_
    rintro e Wb55 ⟨rfl, hBb54⟩
    refine hK.out _ _ hBb54 (fun _ => ?_)
    clear hK K
    try simp only [Act.put, List.setIfInBounds_toArray, List.set_cons_zero, List.set_cons_succ]
    refine wpAnyH_ready (rs := [33]) (by kernel_rfl) (by simp) ?_
    refine' AllReadyH.cons (o := _) ?hib33 (fun K hK => ?_) AllReadyH.nil
    case hib33 => (simp only [List.getElem?_toArray, List.getElem?_cons_zero, List.getElem?_cons_succ]; rfl)
    go_simp
    go_at_call 14
    refine (CN.out _ hBb54).mono ?_
    rintro e Wb57 ⟨rfl, hBb56⟩
    refine hK.out _ _ hBb56 (fun _ => ?_)
    clear hK K
    try simp only [Act.put, List.setIfInBounds_toArray, List.set_cons_zero, List.set_cons_succ]
    refine' wpAnyH_take (i := 34) (oi := _) (v := _) ?hib34 (by kernel_rfl) ?hfb34 ?hrb34 ?hQb34 ?hyb34 hBb56 ?restb34
    case hib34 => (simp only [List.getElem?_toArray, List.getElem?_cons_zero, List.getElem?_cons_succ]; rfl)
    case hfb34 => kernel_rfl
    case hrb34 => kernel_rfl
    case hQb34 => exact fun _ _ _ h => h
    case hyb34 => refine Or.inl ⟨by rfl, ?_⟩; intro W hSw; go_simp; try with_reducible rfl
    try simp only [Act.put, List.setIfInBounds_toArray, List.set_cons_zero, List.set_cons_succ]
    refine' wpAnyH_take (i := 35) (oi := _) (v := _) ?hib35 (by kernel_rfl) ?hfb35 ?hrb35 ?hQb35 ?hyb35 hBb56 ?restb35
    case hib35 => (simp only [List.getElem?_toArray, List.getElem?_cons_zero, List.getElem?_cons_succ]; rfl)
    case hfb35 => kernel_rfl
    case hrb35 => kernel_rfl
    case hQb35 => exact fun _ _ _ h => h
    case hyb35 => refine Or.inl ⟨by rfl, ?_⟩; intro W hSw; go_simp; try with_reducible rfl
    try simp only [Act.put, List.setIfInBounds_toArray, List.set_cons_zero, List.set_cons_succ]
    refine' wpAnyH_take (i := 36) (oi := _) (v := _) ?hib36 (by kernel_rfl) ?hfb36 ?hrb36 ?hQb36 ?hyb36 hBb56 ?restb36
    case hib36 => (simp only [List.getElem?_toArray, List.getElem?_cons_zero, List.getElem?_cons_succ]; rfl)
    case hfb36 => kernel_rfl
    case hrb36 => kernel_rfl
    case hQb36 => exact fun _ _ _ h => h
    case hyb36 => refine Or.inl ⟨by rfl, ?_⟩; intro W hSw; go_simp; try with_reducible rfl
    try simp only [Act.put, List.setIfInBounds_toArray, List.set_cons_zero]
    refine wpAnyH_done (by kernel_rfl) ?_ _
    go_wp2
    go_ret
    exact ⟨rfl, BL.out _ hBb56⟩

end Go.Proofs.YtijiolebcnlfgaaDoor
