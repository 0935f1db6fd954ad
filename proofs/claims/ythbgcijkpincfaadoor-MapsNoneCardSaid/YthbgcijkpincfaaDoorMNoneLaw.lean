/-
  almonerlaw15.MapsNone.
-/
import Derived.Test.YthbgcijkpincfaaDoorMNo
import Derived.Test.YthbgcijkpincfaaDoorLRow
import Derived.Test.YthbgcijkpincfaaDoorVList
import Derived.Test.YthbgcijkpincfaaDoorLQuietTail
namespace Go.Proofs.YthbgcijkpincfaaDoor
open Go.RowKit

/-- Both maps that are none. -/
structure NoneM (w W : World) (k : List Nat) : Prop where
  key : BArr W w.heap.size 23 k
  c0 : W.cell? ⟨w.heap.size + 2, 0, none⟩ = some (.pointer none)
  c1 : W.cell? ⟨w.heap.size + 2, 1, none⟩ = some (.pointer (some ⟨w.heap.size + 1, 0, none⟩))
  no : NoMap W (some ⟨w.heap.size + 1, 0, none⟩)
  bel : Below w.heap.size w W
theorem NoneM.below {w W W' : World} {k : List Nat} (h : NoneM w W k) (hb : Below W.heap.size W W') : NoneM w W' k :=
  ⟨h.key.below hb, (hb.cell (World.block_lt_of_cell? W _ h.c0)).trans h.c0, (hb.cell (World.block_lt_of_cell? W _ h.c1)).trans h.c1, h.no.below hb, below_on h.bel (Nat.le_refl _) hb⟩
theorem mpair (W : World) (u v : Value) (t : TypeId) : (W.alloc (.cells #[u, v] t)).cell? ⟨W.heap.size, 0, none⟩ = some u ∧ (W.alloc (.cells #[u, v] t)).cell? ⟨W.heap.size, 1, none⟩ = some v :=
  ⟨(cell_of_row _ _ 0 _ _ (0, 0) (World.alloc_heap_new W _)).trans rfl, (cell_of_row _ _ 1 _ _ (0, 0) (World.alloc_heap_new W _)).trans rfl⟩
theorem mone (W : World) (u : Value) (t : TypeId) : (W.alloc (.cells #[u] t)).cell? ⟨W.heap.size, 0, none⟩ = some u :=
  (cell_of_row _ _ 0 _ _ (0, 0) (World.alloc_heap_new W _)).trans rfl

theorem mneq_op {o : Oper} {a : Act} {W : World} (p q : Operand) (ho : o.op = .binOp .neq 23 p q 23) (hp : a.eval p = sv zero32) (hq : a.eval q = sv zero32) :
    (execOp a.eval o).run Tryd.prog W = .ok (.value (.bool false)) W := by
  unfold execOp
  rw [ho]
  simp only [hp, hq, Sem.run_bind, run_guard_neq, Result.andThen_ok, run_neq_sum zero32 zero32 rfl rfl W, Sem.run_pure]
  simp
set_option maxRecDepth 100000 in
set_option maxHeartbeats 4000000 in
theorem mapsNone_law (w : World) {k : List Nat} (lk : k.length = 32) (_bk : ∀ x ∈ k, x < 256) {A : Option Addr} {n c : Nat} {v : List Nat} (_hv : Came w A n c v) :
    Calls Tryd.prog 3 #[.agg (bvs k).toArray, .slice A n c] w fun e w' => e = .returned (.bool true) ∧ Below w.heap.size w w' := by
  obtain ⟨w1, hw1⟩ : ∃ w1, w1 = ((w.alloc (.cells (bvs k).toArray 23)).alloc (.cells #[.map none] 28)).alloc (.cells #[.pointer none, .pointer (some ⟨w.heap.size + 1, 0, none⟩)] 25) := ⟨_, rfl⟩
  have n1 : NoneM w w1 k := by
    have f0 := ((BArr.new w 23 k).alloc (.cells #[.map none] 28)).alloc (.cells #[.pointer none, .pointer (some ⟨w.heap.size + 1, 0, none⟩)] 25)
    have a := mone (w.alloc (.cells (bvs k).toArray 23)) (.map none) 28
    have b := mpair ((w.alloc (.cells (bvs k).toArray 23)).alloc (.cells #[.map none] 28)) (.pointer none) (.pointer (some ⟨w.heap.size + 1, 0, none⟩)) 25
    rw [World.size_alloc] at a
    rw [World.size_alloc, World.size_alloc] at b
    rw [← hw1] at b f0
    have b2 : Below ((w.alloc (.cells (bvs k).toArray 23)).alloc (.cells #[.map none] 28)).heap.size ((w.alloc (.cells (bvs k).toArray 23)).alloc (.cells #[.map none] 28)) w1 := by rw [hw1]; exact below_alloc _ _
    exact ⟨f0, b.1, b.2, .inr ⟨_, rfl, (b2.cell (World.block_lt_of_cell? _ _ a)).trans a⟩, below_on ((below_alloc w _).alloc (by simp) _) (by simp) b2⟩
  have HW := Lib.hid hw1
  have H1 := Lib.hid n1
  clear hw1 n1
  go_enter Tryd.func3, Tryd.ntmps3
  go_upto_region 2 with fail
  rw [← HW.out]
  go_wp2
  go_loopw [6] (fun i wr => ∃ j : Nat, j ≤ 2 ∧ i = .int .i64 (j : Int) ∧ Hid (NoneM w wr k)) (fun i _ => 2 - (intOf i).toNat)
  case atStart => exact ⟨0, by omega, rfl, H1⟩
  case round =>
    obtain ⟨j, hj, rfl, HR⟩ := hrel
    by_cases h2 : j = 2
    · subst h2
      go_wp2
      go_ret
      exact ⟨rfl, HR.out.bel⟩
    · obtain ⟨P, hP, hcell⟩ : ∃ P, NoMap wr P ∧ ∀ W, Below wr.heap.size wr W → W.cell? ⟨w.heap.size + 2, j, none⟩ = some (.pointer P) := by
        obtain rfl | rfl : j = 0 ∨ j = 1 := by omega
        · exact ⟨none, .inl rfl, fun W hW => (HR.out.below hW).c0⟩
        · exact ⟨_, HR.out.no, fun W hW => (HR.out.below hW).c1⟩
      have hjl : (j : Int) < 2 := by omega
      have hjn : ¬ ((2 : Int) ≤ (j : Int)) := by omega
      have HC := Lib.hid hcell
      have HP := Lib.hid hP
      have hc0 := hcell wr (Below.refl _ _)
      clear hcell hP
      go_wp2_with fail
      refine (mno_copy P wr HP.out).mono ?_
      rintro e W1 ⟨rfl, b⟩
      have B1 := Lib.hid (b)
      clear b hc0
      have hc1 := HC.out W1 B1.out
      go_upto_region 6 with fail
      have hSg1 : Below W1.heap.size W1 W1.drew := (Below.refl _ _).drew
      refine wp_region_held_drew (S := fun W => Below W1.heap.size W1 W) (by kernel_rfl) (hSg1) (fun _ => ?_)
      change wpAnyH _ _ _ _ _ _ _ _ W1.drew
      generalize W1.drew = Wg2 at hSg1 ⊢
      refine' wpAnyH_take (i := 0) (oi := _) (v := _) ?hig3 (by kernel_rfl) ?hfg3 ?hrg3 ?hQg3 ?hyg3 (hSg1) ?restg3
      case hig3 => (simp only [List.getElem?_toArray, List.getElem?_cons_zero]; rfl)
      case hfg3 => kernel_rfl
      case hrg3 => kernel_rfl
      case hQg3 => exact fun _ _ _ h => h
      case hyg3 => refine Or.inl ⟨by rfl, ?_⟩; intro W hSw; go_simp; try with_reducible rfl
      try simp only [Act.put, List.setIfInBounds_toArray, List.set_cons_zero, List.set_cons_succ]
      refine' wpAnyH_take (i := 1) (oi := _) (v := _) ?hig4 (by kernel_rfl) ?hfg4 ?hrg4 ?hQg4 ?hyg4 (hSg1) ?restg4
      case hig4 => (simp only [List.getElem?_toArray, List.getElem?_cons_zero, List.getElem?_cons_succ]; rfl)
      case hfg4 => kernel_rfl
      case hrg4 => kernel_rfl
      case hQg4 => exact fun _ _ _ h => h
      case hyg4 => refine Or.inl ⟨by rfl, ?_⟩; intro W hSw; go_simp; try with_reducible rfl
      try simp only [Act.put, List.setIfInBounds_toArray, List.set_cons_zero, List.set_cons_succ]
      refine' wpAnyH_take (i := 2) (oi := _) (v := _) ?hig5 (by kernel_rfl) ?hfg5 ?hrg5 ?hQg5 ?hyg5 (hSg1) ?restg5
      case hig5 => (simp only [List.getElem?_toArray, List.getElem?_cons_zero, List.getElem?_cons_succ]; rfl)
      case hfg5 => kernel_rfl
      case hrg5 => kernel_rfl
      case hQg5 => exact fun _ _ _ h => h
      case hyg5 => refine Or.inl ⟨by rfl, ?_⟩; intro W hSw; go_simp; try with_reducible rfl
      try simp only [Act.put, List.setIfInBounds_toArray, List.set_cons_zero, List.set_cons_succ]
      refine' wpAnyH_take (i := 3) (oi := _) (v := _) ?hig6 (by kernel_rfl) ?hfg6 ?hrg6 ?hQg6 ?hyg6 (hSg1) ?restg6
      case hig6 => (simp only [List.getElem?_toArray, List.getElem?_cons_zero, List.getElem?_cons_succ]; rfl)
      case hfg6 => kernel_rfl
      case hrg6 => kernel_rfl
      case hQg6 => exact fun _ _ _ h => h
      case hyg6 => refine Or.inl ⟨by rfl, ?_⟩; intro W hSw; have hcc := HC.out W (below_on B1.out (Nat.le_refl _) hSw); go_simp; try with_reducible rfl
      try simp only [Act.put, List.setIfInBounds_toArray, List.set_cons_zero, List.set_cons_succ]
      refine' wpAnyH_take (i := 4) (oi := _) (v := sv k) ?hig7 (by kernel_rfl) ?hfg7 ?hrg7 ?hQg7 ?hyg7 (hSg1) ?restg7
      case hig7 => (simp only [List.getElem?_toArray, List.getElem?_cons_zero, List.getElem?_cons_succ]; rfl)
      case hfg7 => kernel_rfl
      case hrg7 => kernel_rfl
      case hQg7 => exact fun _ _ _ h => h
      case hyg7 => exact yields_sum (by rfl) (.tmp 2) (by rfl) _ (by rfl) k lk (fun W hSw => (HR.out.below (below_on B1.out (Nat.le_refl _) hSw)).key.at_)
      try simp only [Act.put, List.setIfInBounds_toArray, List.set_cons_zero, List.set_cons_succ]
      refine wpAnyH_ready (rs := [5]) (by kernel_rfl) (by simp) ?_
      refine' (AllReadyH.cons (o := _) ?hig8 (fun K hK => ?_) AllReadyH.nil)
      case hig8 => (simp only [List.getElem?_toArray, List.getElem?_cons_zero, List.getElem?_cons_succ]; rfl)
      go_simp
      go_at_call 10
      refine (mno_get P k Wg2 (HP.out.below (below_on B1.out (Nat.le_refl _) hSg1))).mono ?_
      rintro e Wg11 ⟨rfl, hbg9⟩
      have hBg10 := below_on hSg1 (Nat.le_refl _) hbg9
      refine hK.out _ _ (hBg10) (fun _ => ?_)
      clear hK K
      try simp only [Act.put, List.setIfInBounds_toArray, List.set_cons_zero, List.set_cons_succ]
      refine' wpAnyH_take (i := 6) (oi := _) (v := _) ?hig12 (by kernel_rfl) ?hfg12 ?hrg12 ?hQg12 ?hyg12 (hBg10) ?restg12
      case hig12 => (simp only [List.getElem?_toArray, List.getElem?_cons_zero, List.getElem?_cons_succ]; rfl)
      case hfg12 => kernel_rfl
      case hrg12 => kernel_rfl
      case hQg12 => exact fun _ _ _ h => h
      case hyg12 => refine Or.inl ⟨by rfl, ?_⟩; intro W hSw; go_simp; try with_reducible rfl
      try simp only [Act.put, List.setIfInBounds_toArray, List.set_cons_zero, List.set_cons_succ]
      refine' wpAnyH_take (i := 7) (oi := _) (v := _) ?hig13 (by kernel_rfl) ?hfg13 ?hrg13 ?hQg13 ?hyg13 (hBg10) ?restg13
      case hig13 => (simp only [List.getElem?_toArray, List.getElem?_cons_zero, List.getElem?_cons_succ]; rfl)
      case hfg13 => kernel_rfl
      case hrg13 => kernel_rfl
      case hQg13 => exact fun _ _ _ h => h
      case hyg13 => refine Or.inl ⟨by rfl, ?_⟩; intro W hSw; go_simp; try with_reducible rfl
      try simp only [Act.put, List.setIfInBounds_toArray, List.set_cons_zero, List.set_cons_succ]
      refine' wpAnyH_take (i := 8) (oi := _) (v := _) ?hig14 (by kernel_rfl) ?hfg14 ?hrg14 ?hQg14 ?hyg14 (hBg10) ?restg14
      case hig14 => (simp only [List.getElem?_toArray, List.getElem?_cons_zero, List.getElem?_cons_succ]; rfl)
      case hfg14 => kernel_rfl
      case hrg14 => kernel_rfl
      case hQg14 => exact fun _ _ _ h => h
      case hyg14 => refine Or.inl ⟨by rfl, ?_⟩; intro W hSw; go_simp; try with_reducible rfl
      try simp only [Act.put, List.setIfInBounds_toArray, List.set_cons_zero, List.set_cons_succ]
      refine' wpAnyH_take (i := 9) (oi := _) (v := _) ?hig15 (by kernel_rfl) ?hfg15 ?hrg15 ?hQg15 ?hyg15 (hBg10) ?restg15
      case hig15 => (simp only [List.getElem?_toArray, List.getElem?_cons_zero, List.getElem?_cons_succ]; rfl)
      case hfg15 => kernel_rfl
      case hrg15 => kernel_rfl
      case hQg15 => exact fun _ _ _ h => h
      case hyg15 => refine Or.inl ⟨by rfl, ?_⟩; intro W hSw; go_simp; try with_reducible rfl
      try simp only [Act.put, List.setIfInBounds_toArray, List.set_cons_zero, List.set_cons_succ]
      refine' wpAnyH_take (i := 10) (oi := _) (v := _) ?hig16 (by kernel_rfl) ?hfg16 ?hrg16 ?hQg16 ?hyg16 (hBg10) ?restg16
      case hig16 => (simp only [List.getElem?_toArray, List.getElem?_cons_zero, List.getElem?_cons_succ]; rfl)
      case hfg16 => kernel_rfl
      case hrg16 => kernel_rfl
      case hQg16 => exact fun _ _ _ h => h
      case hyg16 => refine Or.inl ⟨by rfl, ?_⟩; intro W hSw; go_simp; try with_reducible rfl
      try simp only [Act.put, List.setIfInBounds_toArray, List.set_cons_zero, List.set_cons_succ]
      refine wpAnyH_done (by kernel_rfl) ?_ _
      have B2 := Lib.hid (below_on B1.out (Nat.le_refl _) hBg10)
      go_upto_region 7 with fail
      have hSh1 : Below Wg11.heap.size Wg11 Wg11.drew := (Below.refl _ _).drew
      refine wp_region_held_drew (S := fun W => Below Wg11.heap.size Wg11 W) (by kernel_rfl) (hSh1) (fun _ => ?_)
      change wpAnyH _ _ _ _ _ _ _ _ Wg11.drew
      generalize Wg11.drew = Wh2 at hSh1 ⊢
      refine' wpAnyH_take (i := 0) (oi := _) (v := _) ?hih3 (by kernel_rfl) ?hfh3 ?hrh3 ?hQh3 ?hyh3 (hSh1) ?resth3
      case hih3 => (simp only [List.getElem?_toArray, List.getElem?_cons_zero]; rfl)
      case hfh3 => kernel_rfl
      case hrh3 => kernel_rfl
      case hQh3 => exact fun _ _ _ h => h
      case hyh3 => refine Or.inl ⟨by rfl, ?_⟩; intro W hSw; go_simp; try with_reducible rfl
      try simp only [Act.put, List.setIfInBounds_toArray, List.set_cons_zero, List.set_cons_succ]
      refine' wpAnyH_take (i := 1) (oi := _) (v := _) ?hih4 (by kernel_rfl) ?hfh4 ?hrh4 ?hQh4 ?hyh4 (hSh1) ?resth4
      case hih4 => (simp only [List.getElem?_toArray, List.getElem?_cons_zero, List.getElem?_cons_succ]; rfl)
      case hfh4 => kernel_rfl
      case hrh4 => kernel_rfl
      case hQh4 => exact fun _ _ _ h => h
      case hyh4 => refine Or.inl ⟨by rfl, ?_⟩; intro W hSw; go_simp; try with_reducible rfl
      try simp only [Act.put, List.setIfInBounds_toArray, List.set_cons_zero, List.set_cons_succ]
      refine' wpAnyH_take (i := 2) (oi := _) (v := _) ?hih5 (by kernel_rfl) ?hfh5 ?hrh5 ?hQh5 ?hyh5 (hSh1) ?resth5
      case hih5 => (simp only [List.getElem?_toArray, List.getElem?_cons_zero, List.getElem?_cons_succ]; rfl)
      case hfh5 => kernel_rfl
      case hrh5 => kernel_rfl
      case hQh5 => exact fun _ _ _ h => h
      case hyh5 => refine Or.inl ⟨by rfl, ?_⟩; intro W hSw; go_simp; try with_reducible rfl
      try simp only [Act.put, List.setIfInBounds_toArray, List.set_cons_zero, List.set_cons_succ]
      refine' wpAnyH_take (i := 3) (oi := _) (v := _) ?hih6 (by kernel_rfl) ?hfh6 ?hrh6 ?hQh6 ?hyh6 (hSh1) ?resth6
      case hih6 => (simp only [List.getElem?_toArray, List.getElem?_cons_zero, List.getElem?_cons_succ]; rfl)
      case hfh6 => kernel_rfl
      case hrh6 => kernel_rfl
      case hQh6 => exact fun _ _ _ h => h
      case hyh6 => refine Or.inl ⟨by rfl, ?_⟩; intro W hSw; go_simp; try with_reducible rfl
      try simp only [Act.put, List.setIfInBounds_toArray, List.set_cons_zero, List.set_cons_succ]
      refine' wpAnyH_take (i := 4) (oi := _) (v := _) ?hih7 (by kernel_rfl) ?hfh7 ?hrh7 ?hQh7 ?hyh7 (hSh1) ?resth7
      case hih7 => (simp only [List.getElem?_toArray, List.getElem?_cons_zero, List.getElem?_cons_succ]; rfl)
      case hfh7 => kernel_rfl
      case hrh7 => kernel_rfl
      case hQh7 => exact fun _ _ _ h => h
      case hyh7 => refine Or.inl ⟨by rfl, ?_⟩; intro W hSw; go_simp; try with_reducible rfl
      try simp only [Act.put, List.setIfInBounds_toArray, List.set_cons_zero, List.set_cons_succ]
      refine' wpAnyH_take (i := 5) (oi := _) (v := _) ?hih8 (by kernel_rfl) ?hfh8 ?hrh8 ?hQh8 ?hyh8 (hSh1) ?resth8
      case hih8 => (simp only [List.getElem?_toArray, List.getElem?_cons_zero, List.getElem?_cons_succ]; rfl)
      case hfh8 => kernel_rfl
      case hrh8 => kernel_rfl
      case hQh8 => exact fun _ _ _ h => h
      case hyh8 => refine Or.inl ⟨by rfl, ?_⟩; intro W hSw; go_simp; try with_reducible rfl
      try simp only [Act.put, List.setIfInBounds_toArray, List.set_cons_zero, List.set_cons_succ]
      refine' wpAnyH_take (i := 6) (oi := _) (v := _) ?hih9 (by kernel_rfl) ?hfh9 ?hrh9 ?hQh9 ?hyh9 (hSh1) ?resth9
      case hih9 => (simp only [List.getElem?_toArray, List.getElem?_cons_zero, List.getElem?_cons_succ]; rfl)
      case hfh9 => kernel_rfl
      case hrh9 => kernel_rfl
      case hQh9 => exact fun _ _ _ h => h
      case hyh9 => refine Or.inl ⟨by rfl, ?_⟩; intro W hSw; go_simp; try with_reducible rfl
      try simp only [Act.put, List.setIfInBounds_toArray, List.set_cons_zero, List.set_cons_succ]
      refine' wpAnyH_take (i := 7) (oi := _) (v := _) ?hih10 (by kernel_rfl) ?hfh10 ?hrh10 ?hQh10 ?hyh10 (hSh1) ?resth10
      case hih10 => (simp only [List.getElem?_toArray, List.getElem?_cons_zero, List.getElem?_cons_succ]; rfl)
      case hfh10 => kernel_rfl
      case hrh10 => kernel_rfl
      case hQh10 => exact fun _ _ _ h => h
      case hyh10 => refine Or.inl ⟨by rfl, ?_⟩; intro W hSw; go_simp; try with_reducible rfl
      try simp only [Act.put, List.setIfInBounds_toArray, List.set_cons_zero, List.set_cons_succ]
      refine' wpAnyH_take (i := 8) (oi := _) (v := _) ?hih11 (by kernel_rfl) ?hfh11 ?hrh11 ?hQh11 ?hyh11 (hSh1) ?resth11
      case hih11 => (simp only [List.getElem?_toArray, List.getElem?_cons_zero, List.getElem?_cons_succ]; rfl)
      case hfh11 => kernel_rfl
      case hrh11 => kernel_rfl
      case hQh11 => exact fun _ _ _ h => h
      case hyh11 => refine Or.inl ⟨by rfl, ?_⟩; intro W hSw; go_simp; try with_reducible rfl
      try simp only [Act.put, List.setIfInBounds_toArray, List.set_cons_zero, List.set_cons_succ]
      refine' wpAnyH_take (i := 9) (oi := _) (v := _) ?hih12 (by kernel_rfl) ?hfh12 ?hrh12 ?hQh12 ?hyh12 (hSh1) ?resth12
      case hih12 => (simp only [List.getElem?_toArray, List.getElem?_cons_zero, List.getElem?_cons_succ]; rfl)
      case hfh12 => kernel_rfl
      case hrh12 => kernel_rfl
      case hQh12 => exact fun _ _ _ h => h
      case hyh12 => refine Or.inl ⟨by rfl, ?_⟩; intro W hSw; go_simp; try with_reducible rfl
      try simp only [Act.put, List.setIfInBounds_toArray, List.set_cons_zero, List.set_cons_succ]
      refine' wpAnyH_take (i := 10) (oi := _) (v := _) ?hih13 (by kernel_rfl) ?hfh13 ?hrh13 ?hQh13 ?hyh13 (hSh1) ?resth13
      case hih13 => (simp only [List.getElem?_toArray, List.getElem?_cons_zero, List.getElem?_cons_succ]; rfl)
      case hfh13 => kernel_rfl
      case hrh13 => kernel_rfl
      case hQh13 => exact fun _ _ _ h => h
      case hyh13 => refine Or.inl ⟨by rfl, ?_⟩; intro W hSw; go_simp; try with_reducible rfl
      try simp only [Act.put, List.setIfInBounds_toArray, List.set_cons_zero, List.set_cons_succ]
      refine' wpAnyH_take (i := 11) (oi := _) (v := _) ?hih14 (by kernel_rfl) ?hfh14 ?hrh14 ?hQh14 ?hyh14 (hSh1) ?resth14
      case hih14 => (simp only [List.getElem?_toArray, List.getElem?_cons_zero, List.getElem?_cons_succ]; rfl)
      case hfh14 => kernel_rfl
      case hrh14 => kernel_rfl
      case hQh14 => exact fun _ _ _ h => h
      case hyh14 => refine Or.inl ⟨by rfl, ?_⟩; intro W hSw; go_simp; try with_reducible rfl
      try simp only [Act.put, List.setIfInBounds_toArray, List.set_cons_zero, List.set_cons_succ]
      refine' wpAnyH_take (i := 12) (oi := _) (v := _) ?hih15 (by kernel_rfl) ?hfh15 ?hrh15 ?hQh15 ?hyh15 (hSh1) ?resth15
      case hih15 => (simp only [List.getElem?_toArray, List.getElem?_cons_zero, List.getElem?_cons_succ]; rfl)
      case hfh15 => kernel_rfl
      case hrh15 => kernel_rfl
      case hQh15 => exact fun _ _ _ h => h
      case hyh15 => refine Or.inl ⟨by rfl, ?_⟩; intro W hSw; go_simp; try with_reducible rfl
      try simp only [Act.put, List.setIfInBounds_toArray, List.set_cons_zero, List.set_cons_succ]
      refine' wpAnyH_take (i := 13) (oi := _) (v := _) ?hih16 (by kernel_rfl) ?hfh16 ?hrh16 ?hQh16 ?hyh16 (hSh1) ?resth16
      case hih16 => (simp only [List.getElem?_toArray, List.getElem?_cons_zero, List.getElem?_cons_succ]; rfl)
      case hfh16 => kernel_rfl
      case hrh16 => kernel_rfl
      case hQh16 => exact fun _ _ _ h => h
      case hyh16 => refine Or.inl ⟨by rfl, ?_⟩; intro W hSw; go_simp; try with_reducible rfl
      try simp only [Act.put, List.setIfInBounds_toArray, List.set_cons_zero, List.set_cons_succ]
      refine' wpAnyH_take (i := 14) (oi := _) (v := _) ?hih17 (by kernel_rfl) ?hfh17 ?hrh17 ?hQh17 ?hyh17 (hSh1) ?resth17
      case hih17 => (simp only [List.getElem?_toArray, List.getElem?_cons_zero, List.getElem?_cons_succ]; rfl)
      case hfh17 => kernel_rfl
      case hrh17 => kernel_rfl
      case hQh17 => exact fun _ _ _ h => h
      case hyh17 => refine Or.inl ⟨by rfl, ?_⟩; intro W hSw; go_simp; try with_reducible rfl
      try simp only [Act.put, List.setIfInBounds_toArray, List.set_cons_zero, List.set_cons_succ]
      refine' wpAnyH_take (i := 15) (oi := _) (v := _) ?hih18 (by kernel_rfl) ?hfh18 ?hrh18 ?hQh18 ?hyh18 (hSh1) ?resth18
      case hih18 => (simp only [List.getElem?_toArray, List.getElem?_cons_zero, List.getElem?_cons_succ]; rfl)
      case hfh18 => kernel_rfl
      case hrh18 => kernel_rfl
      case hQh18 => exact fun _ _ _ h => h
      case hyh18 => refine Or.inl ⟨by rfl, ?_⟩; intro W hSw; go_simp; try with_reducible rfl
      try simp only [Act.put, List.setIfInBounds_toArray, List.set_cons_zero, List.set_cons_succ]
      refine' wpAnyH_take (i := 16) (oi := _) (v := _) ?hih19 (by kernel_rfl) ?hfh19 ?hrh19 ?hQh19 ?hyh19 (hSh1) ?resth19
      case hih19 => (simp only [List.getElem?_toArray, List.getElem?_cons_zero, List.getElem?_cons_succ]; rfl)
      case hfh19 => kernel_rfl
      case hrh19 => kernel_rfl
      case hQh19 => exact fun _ _ _ h => h
      case hyh19 => refine Or.inl ⟨by rfl, ?_⟩; intro W hSw; go_simp; try with_reducible rfl
      try simp only [Act.put, List.setIfInBounds_toArray, List.set_cons_zero, List.set_cons_succ]
      refine' wpAnyH_take (i := 17) (oi := _) (v := _) ?hih20 (by kernel_rfl) ?hfh20 ?hrh20 ?hQh20 ?hyh20 (hSh1) ?resth20
      case hih20 => (simp only [List.getElem?_toArray, List.getElem?_cons_zero, List.getElem?_cons_succ]; rfl)
      case hfh20 => kernel_rfl
      case hrh20 => kernel_rfl
      case hQh20 => exact fun _ _ _ h => h
      case hyh20 => refine Or.inl ⟨by rfl, ?_⟩; intro W hSw; go_simp; try with_reducible rfl
      try simp only [Act.put, List.setIfInBounds_toArray, List.set_cons_zero, List.set_cons_succ]
      refine' wpAnyH_take (i := 18) (oi := _) (v := _) ?hih21 (by kernel_rfl) ?hfh21 ?hrh21 ?hQh21 ?hyh21 (hSh1) ?resth21
      case hih21 => (simp only [List.getElem?_toArray, List.getElem?_cons_zero, List.getElem?_cons_succ]; rfl)
      case hfh21 => kernel_rfl
      case hrh21 => kernel_rfl
      case hQh21 => exact fun _ _ _ h => h
      case hyh21 => refine Or.inl ⟨by rfl, ?_⟩; intro W hSw; go_simp; try with_reducible rfl
      try simp only [Act.put, List.setIfInBounds_toArray, List.set_cons_zero, List.set_cons_succ]
      refine' wpAnyH_take (i := 19) (oi := _) (v := _) ?hih22 (by kernel_rfl) ?hfh22 ?hrh22 ?hQh22 ?hyh22 (hSh1) ?resth22
      case hih22 => (simp only [List.getElem?_toArray, List.getElem?_cons_zero, List.getElem?_cons_succ]; rfl)
      case hfh22 => kernel_rfl
      case hrh22 => kernel_rfl
      case hQh22 => exact fun _ _ _ h => h
      case hyh22 => refine Or.inl ⟨by rfl, ?_⟩; intro W hSw; have hcc := HC.out W (below_on B2.out (Nat.le_refl _) hSw); go_simp; try with_reducible rfl
      try simp only [Act.put, List.setIfInBounds_toArray, List.set_cons_zero, List.set_cons_succ]
      refine' wpAnyH_take (i := 20) (oi := _) (v := sv k) ?hih23 (by kernel_rfl) ?hfh23 ?hrh23 ?hQh23 ?hyh23 (hSh1) ?resth23
      case hih23 => (simp only [List.getElem?_toArray, List.getElem?_cons_zero, List.getElem?_cons_succ]; rfl)
      case hfh23 => kernel_rfl
      case hrh23 => kernel_rfl
      case hQh23 => exact fun _ _ _ h => h
      case hyh23 => exact yields_sum (by rfl) (.tmp 2) (by rfl) _ (by rfl) k lk (fun W hSw => (HR.out.below (below_on B2.out (Nat.le_refl _) hSw)).key.at_)
      try simp only [Act.put, List.setIfInBounds_toArray, List.set_cons_zero, List.set_cons_succ]
      refine' wpAnyH_take (i := 21) (oi := _) (v := _) ?hih24 (by kernel_rfl) ?hfh24 ?hrh24 ?hQh24 ?hyh24 (hSh1) ?resth24
      case hih24 => (simp only [List.getElem?_toArray, List.getElem?_cons_zero, List.getElem?_cons_succ]; rfl)
      case hfh24 => kernel_rfl
      case hrh24 => kernel_rfl
      case hQh24 => exact fun _ _ _ h => h
      case hyh24 => refine Or.inl ⟨by rfl, ?_⟩; intro W hSw; go_simp; try with_reducible rfl
      try simp only [Act.put, List.setIfInBounds_toArray, List.set_cons_zero, List.set_cons_succ]
      refine wpAnyH_ready (rs := [22]) (by kernel_rfl) (by simp) ?_
      refine' (AllReadyH.cons (o := _) ?hih25 (fun K hK => ?_) AllReadyH.nil)
      case hih25 => (simp only [List.getElem?_toArray, List.getElem?_cons_zero, List.getElem?_cons_succ]; rfl)
      go_simp
      go_at_call 11
      refine (mno_put P k _ Wh2 (HP.out.below (below_on B2.out (Nat.le_refl _) hSh1))).mono ?_
      rintro e Wh28 ⟨rfl, hbh26⟩
      have hBh27 := below_on hSh1 (Nat.le_refl _) hbh26
      refine hK.out _ _ (hBh27) (fun _ => ?_)
      clear hK K
      try simp only [Act.put, List.setIfInBounds_toArray, List.set_cons_zero, List.set_cons_succ]
      refine' wpAnyH_take (i := 23) (oi := _) (v := _) ?hih29 (by kernel_rfl) ?hfh29 ?hrh29 ?hQh29 ?hyh29 (hBh27) ?resth29
      case hih29 => (simp only [List.getElem?_toArray, List.getElem?_cons_zero, List.getElem?_cons_succ]; rfl)
      case hfh29 => kernel_rfl
      case hrh29 => kernel_rfl
      case hQh29 => exact fun _ _ _ h => h
      case hyh29 => refine Or.inl ⟨by rfl, ?_⟩; intro W hSw; go_simp; try with_reducible rfl
      try simp only [Act.put, List.setIfInBounds_toArray, List.set_cons_zero, List.set_cons_succ]
      refine' wpAnyH_take (i := 24) (oi := _) (v := _) ?hih30 (by kernel_rfl) ?hfh30 ?hrh30 ?hQh30 ?hyh30 (hBh27) ?resth30
      case hih30 => (simp only [List.getElem?_toArray, List.getElem?_cons_zero, List.getElem?_cons_succ]; rfl)
      case hfh30 => kernel_rfl
      case hrh30 => kernel_rfl
      case hQh30 => exact fun _ _ _ h => h
      case hyh30 => refine Or.inl ⟨by rfl, ?_⟩; intro W hSw; go_simp; try with_reducible rfl
      try simp only [Act.put, List.setIfInBounds_toArray, List.set_cons_zero, List.set_cons_succ]
      refine' wpAnyH_take (i := 25) (oi := _) (v := _) ?hih31 (by kernel_rfl) ?hfh31 ?hrh31 ?hQh31 ?hyh31 (hBh27) ?resth31
      case hih31 => (simp only [List.getElem?_toArray, List.getElem?_cons_zero, List.getElem?_cons_succ]; rfl)
      case hfh31 => kernel_rfl
      case hrh31 => kernel_rfl
      case hQh31 => exact fun _ _ _ h => h
      case hyh31 => refine Or.inl ⟨by rfl, ?_⟩; intro W hSw; go_simp; try with_reducible rfl
      try simp only [Act.put, List.setIfInBounds_toArray, List.set_cons_zero, List.set_cons_succ]
      refine' wpAnyH_take (i := 26) (oi := _) (v := _) ?hih32 (by kernel_rfl) ?hfh32 ?hrh32 ?hQh32 ?hyh32 (hBh27) ?resth32
      case hih32 => (simp only [List.getElem?_toArray, List.getElem?_cons_zero, List.getElem?_cons_succ]; rfl)
      case hfh32 => kernel_rfl
      case hrh32 => kernel_rfl
      case hQh32 => exact fun _ _ _ h => h
      case hyh32 => refine Or.inl ⟨by rfl, ?_⟩; intro W hSw; go_simp; try with_reducible rfl
      try simp only [Act.put, List.setIfInBounds_toArray, List.set_cons_zero, List.set_cons_succ]
      refine' wpAnyH_take (i := 27) (oi := _) (v := _) ?hih33 (by kernel_rfl) ?hfh33 ?hrh33 ?hQh33 ?hyh33 (hBh27) ?resth33
      case hih33 => (simp only [List.getElem?_toArray, List.getElem?_cons_zero, List.getElem?_cons_succ]; rfl)
      case hfh33 => kernel_rfl
      case hrh33 => kernel_rfl
      case hQh33 => exact fun _ _ _ h => h
      case hyh33 => refine Or.inl ⟨by rfl, ?_⟩; intro W hSw; go_simp; try with_reducible rfl
      try simp only [Act.put, List.setIfInBounds_toArray, List.set_cons_zero, List.set_cons_succ]
      refine' wpAnyH_take (i := 28) (oi := _) (v := _) ?hih34 (by kernel_rfl) ?hfh34 ?hrh34 ?hQh34 ?hyh34 (hBh27) ?resth34
      case hih34 => (simp only [List.getElem?_toArray, List.getElem?_cons_zero, List.getElem?_cons_succ]; rfl)
      case hfh34 => kernel_rfl
      case hrh34 => kernel_rfl
      case hQh34 => exact fun _ _ _ h => h
      case hyh34 => refine Or.inl ⟨by rfl, ?_⟩; intro W hSw; go_simp; try with_reducible rfl
      try simp only [Act.put, List.setIfInBounds_toArray, List.set_cons_zero, List.set_cons_succ]
      refine' wpAnyH_take (i := 29) (oi := _) (v := _) ?hih35 (by kernel_rfl) ?hfh35 ?hrh35 ?hQh35 ?hyh35 (hBh27) ?resth35
      case hih35 => (simp only [List.getElem?_toArray, List.getElem?_cons_zero, List.getElem?_cons_succ]; rfl)
      case hfh35 => kernel_rfl
      case hrh35 => kernel_rfl
      case hQh35 => exact fun _ _ _ h => h
      case hyh35 => refine Or.inl ⟨by rfl, ?_⟩; intro W hSw; have hcc := HC.out W (below_on B2.out (Nat.le_refl _) hSw); go_simp; try with_reducible rfl
      try simp only [Act.put, List.setIfInBounds_toArray, List.set_cons_zero, List.set_cons_succ]
      refine' wpAnyH_take (i := 31) (oi := _) (v := _) ?hih36 (by kernel_rfl) ?hfh36 ?hrh36 ?hQh36 ?hyh36 (hBh27) ?resth36
      case hih36 => (simp only [List.getElem?_toArray, List.getElem?_cons_zero, List.getElem?_cons_succ]; rfl)
      case hfh36 => kernel_rfl
      case hrh36 => kernel_rfl
      case hQh36 => exact fun _ _ _ h => h
      case hyh36 => refine Or.inl ⟨by rfl, ?_⟩; intro W hSw; go_simp; try with_reducible rfl
      try simp only [Act.put, List.setIfInBounds_toArray, List.set_cons_zero, List.set_cons_succ]
      refine wpAnyH_ready (rs := [30]) (by kernel_rfl) (by simp) ?_
      refine' (AllReadyH.cons (o := _) ?hih37 (fun K hK => ?_) AllReadyH.nil)
      case hih37 => (simp only [List.getElem?_toArray, List.getElem?_cons_zero, List.getElem?_cons_succ]; rfl)
      go_simp
      go_at_call 12
      refine (mno_root P Wh28 (HP.out.below (below_on B2.out (Nat.le_refl _) hBh27))).mono ?_
      rintro e Wh40 ⟨rfl, hbh38⟩
      have hBh39 := below_on hBh27 (Nat.le_refl _) hbh38
      refine hK.out _ _ (hBh39) (fun _ => ?_)
      clear hK K
      try simp only [Act.put, List.setIfInBounds_toArray, List.set_cons_zero, List.set_cons_succ]
      refine' wpAnyH_take (i := 32) (oi := _) (v := .bool false) ?hih41 (by kernel_rfl) ?hfh41 ?hrh41 ?hQh41 ?hyh41 (hBh39) ?resth41
      case hih41 => (simp only [List.getElem?_toArray, List.getElem?_cons_zero, List.getElem?_cons_succ]; rfl)
      case hfh41 => kernel_rfl
      case hrh41 => kernel_rfl
      case hQh41 => exact fun _ _ _ h => h
      case hyh41 => refine Or.inl ⟨by rfl, ?_⟩; intro W hSw; exact mneq_op (.tmp 67) (.tmp 68) rfl rfl rfl
      try simp only [Act.put, List.setIfInBounds_toArray, List.set_cons_zero, List.set_cons_succ]
      refine' wpAnyH_take (i := 33) (oi := _) (v := _) ?hih42 (by kernel_rfl) ?hfh42 ?hrh42 ?hQh42 ?hyh42 (hBh39) ?resth42
      case hih42 => (simp only [List.getElem?_toArray, List.getElem?_cons_zero, List.getElem?_cons_succ]; rfl)
      case hfh42 => kernel_rfl
      case hrh42 => kernel_rfl
      case hQh42 => exact fun _ _ _ h => h
      case hyh42 => refine Or.inl ⟨by rfl, ?_⟩; intro W hSw; go_simp; try with_reducible rfl
      try simp only [Act.put, List.setIfInBounds_toArray, List.set_cons_zero, List.set_cons_succ]
      refine' wpAnyH_take (i := 34) (oi := _) (v := _) ?hih43 (by kernel_rfl) ?hfh43 ?hrh43 ?hQh43 ?hyh43 (hBh39) ?resth43
      case hih43 => (simp only [List.getElem?_toArray, List.getElem?_cons_zero, List.getElem?_cons_succ]; rfl)
      case hfh43 => kernel_rfl
      case hrh43 => kernel_rfl
      case hQh43 => exact fun _ _ _ h => h
      case hyh43 => refine Or.inl ⟨by rfl, ?_⟩; intro W hSw; go_simp; try with_reducible rfl
      try simp only [Act.put, List.setIfInBounds_toArray, List.set_cons_zero, List.set_cons_succ]
      refine' wpAnyH_take (i := 35) (oi := _) (v := _) ?hih44 (by kernel_rfl) ?hfh44 ?hrh44 ?hQh44 ?hyh44 (hBh39) ?resth44
      case hih44 => (simp only [List.getElem?_toArray, List.getElem?_cons_zero, List.getElem?_cons_succ]; rfl)
      case hfh44 => kernel_rfl
      case hrh44 => kernel_rfl
      case hQh44 => exact fun _ _ _ h => h
      case hyh44 => refine Or.inl ⟨by rfl, ?_⟩; intro W hSw; go_simp; try with_reducible rfl
      try simp only [Act.put, List.setIfInBounds_toArray, List.set_cons_zero, List.set_cons_succ]
      refine' wpAnyH_take (i := 36) (oi := _) (v := _) ?hih45 (by kernel_rfl) ?hfh45 ?hrh45 ?hQh45 ?hyh45 (hBh39) ?resth45
      case hih45 => (simp only [List.getElem?_toArray, List.getElem?_cons_zero, List.getElem?_cons_succ]; rfl)
      case hfh45 => kernel_rfl
      case hrh45 => kernel_rfl
      case hQh45 => exact fun _ _ _ h => h
      case hyh45 => refine Or.inl ⟨by rfl, ?_⟩; intro W hSw; go_simp; try with_reducible rfl
      try simp only [Act.put, List.setIfInBounds_toArray, List.set_cons_zero, List.set_cons_succ]
      refine' wpAnyH_take (i := 37) (oi := _) (v := _) ?hih46 (by kernel_rfl) ?hfh46 ?hrh46 ?hQh46 ?hyh46 (hBh39) ?resth46
      case hih46 => (simp only [List.getElem?_toArray, List.getElem?_cons_zero, List.getElem?_cons_succ]; rfl)
      case hfh46 => kernel_rfl
      case hrh46 => kernel_rfl
      case hQh46 => exact fun _ _ _ h => h
      case hyh46 => refine Or.inl ⟨by rfl, ?_⟩; intro W hSw; go_simp; try with_reducible rfl
      try simp only [Act.put, List.setIfInBounds_toArray, List.set_cons_zero, List.set_cons_succ]
      refine' wpAnyH_take (i := 38) (oi := _) (v := _) ?hih47 (by kernel_rfl) ?hfh47 ?hrh47 ?hQh47 ?hyh47 (hBh39) ?resth47
      case hih47 => (simp only [List.getElem?_toArray, List.getElem?_cons_zero, List.getElem?_cons_succ]; rfl)
      case hfh47 => kernel_rfl
      case hrh47 => kernel_rfl
      case hQh47 => exact fun _ _ _ h => h
      case hyh47 => refine Or.inl ⟨by rfl, ?_⟩; intro W hSw; have hcc := HC.out W (below_on B2.out (Nat.le_refl _) hSw); go_simp; try with_reducible rfl
      try simp only [Act.put, List.setIfInBounds_toArray, List.set_cons_zero, List.set_cons_succ]
      refine wpAnyH_ready (rs := [39]) (by kernel_rfl) (by simp) ?_
      refine' (AllReadyH.cons (o := _) ?hih48 (fun K hK => ?_) AllReadyH.nil)
      case hih48 => (simp only [List.getElem?_toArray, List.getElem?_cons_zero, List.getElem?_cons_succ]; rfl)
      go_simp
      go_at_call 13
      refine (mno_pairs P Wh40 (HP.out.below (below_on B2.out (Nat.le_refl _) hBh39))).mono ?_
      rintro e Wh51 ⟨rfl, hbh49⟩
      have hBh50 := below_on hBh39 (Nat.le_refl _) hbh49
      refine hK.out _ _ (hBh50) (fun _ => ?_)
      clear hK K
      try simp only [Act.put, List.setIfInBounds_toArray, List.set_cons_zero, List.set_cons_succ]
      refine' wpAnyH_take (i := 40) (oi := _) (v := _) ?hih52 (by kernel_rfl) ?hfh52 ?hrh52 ?hQh52 ?hyh52 (hBh50) ?resth52
      case hih52 => (simp only [List.getElem?_toArray, List.getElem?_cons_zero, List.getElem?_cons_succ]; rfl)
      case hfh52 => kernel_rfl
      case hrh52 => kernel_rfl
      case hQh52 => exact fun _ _ _ h => h
      case hyh52 => refine Or.inl ⟨by rfl, ?_⟩; intro W hSw; go_simp; try with_reducible rfl
      try simp only [Act.put, List.setIfInBounds_toArray, List.set_cons_zero, List.set_cons_succ]
      refine' wpAnyH_take (i := 41) (oi := _) (v := _) ?hih53 (by kernel_rfl) ?hfh53 ?hrh53 ?hQh53 ?hyh53 (hBh50) ?resth53
      case hih53 => (simp only [List.getElem?_toArray, List.getElem?_cons_zero, List.getElem?_cons_succ]; rfl)
      case hfh53 => kernel_rfl
      case hrh53 => kernel_rfl
      case hQh53 => exact fun _ _ _ h => h
      case hyh53 => refine Or.inl ⟨by rfl, ?_⟩; intro W hSw; go_simp; try with_reducible rfl
      try simp only [Act.put, List.setIfInBounds_toArray, List.set_cons_zero, List.set_cons_succ]
      refine' wpAnyH_take (i := 42) (oi := _) (v := _) ?hih54 (by kernel_rfl) ?hfh54 ?hrh54 ?hQh54 ?hyh54 (hBh50) ?resth54
      case hih54 => (simp only [List.getElem?_toArray, List.getElem?_cons_zero, List.getElem?_cons_succ]; rfl)
      case hfh54 => kernel_rfl
      case hrh54 => kernel_rfl
      case hQh54 => exact fun _ _ _ h => h
      case hyh54 => refine Or.inl ⟨by rfl, ?_⟩; intro W hSw; go_simp; try with_reducible rfl
      try simp only [Act.put, List.setIfInBounds_toArray, List.set_cons_zero, List.set_cons_succ]
      refine wpAnyH_done (by kernel_rfl) ?_ _
      have B3 := Lib.hid (below_on B2.out (Nat.le_refl _) hBh50)
      go_wp2_with fail
      go_roundw
      case rel => exact ⟨j + 1, by omega, by go_num, Lib.hid (HR.out.below B3.out)⟩
      case measure => simp [intOf]; omega

end Go.Proofs.YthbgcijkpincfaaDoor
