/-
  leaves.Node.
-/
import Derived.Test.YtnaebjdccngeoaaDoorVMarked
import Derived.Deep.RegionLaw
namespace Go.Proofs.YtnaebjdccngeoaaDoor
open Go.RowKit

theorem rows_two {W : World} {b g g' : Nat} {l r : List Nat} (ll : ∀ x ∈ l, x < 256) (lr : ∀ x ∈ r, x < 256)
    (h0 : W.cell? ⟨b, 0, none⟩ = some (.slice (some ⟨g, 0, none⟩) 32 32)) (h1 : W.cell? ⟨b, 1, none⟩ = some (.slice (some ⟨g', 0, none⟩) 32 32))
    (hg : In W (some ⟨g, 0, none⟩) 32 l) (hg' : In W (some ⟨g', 0, none⟩) 32 r) : CameRows W (some ⟨b, 0, none⟩) 2 [l, r] :=
  ⟨rfl, fun k xs hx => by
    have hk := (List.getElem?_eq_some_iff.1 hx).1
    obtain rfl | rfl : k = 0 ∨ k = 1 := by simp at hk; omega
    · cases hx
      exact ⟨_, _, 32, 32, rfl, h0, ⟨hg, ll, (fun h => by cases h), Nat.le_refl _⟩, by omega⟩
    · cases hx
      exact ⟨_, _, 32, 32, rfl, h1, ⟨hg', lr, (fun h => by cases h), Nat.le_refl _⟩, by omega⟩⟩

theorem cell_two (W : World) (u v : Value) (t : TypeId) : (W.alloc (.cells #[u, v] t)).cell? ⟨W.heap.size, 0, none⟩ = some u ∧ (W.alloc (.cells #[u, v] t)).cell? ⟨W.heap.size, 1, none⟩ = some v :=
  ⟨(cell_of_row _ _ 0 _ _ (0, 0) (World.alloc_heap_new W _)).trans rfl, (cell_of_row _ _ 1 _ _ (0, 0) (World.alloc_heap_new W _)).trans rfl⟩

set_option maxRecDepth 100000 in
set_option maxHeartbeats 2000000 in
theorem node_any (l r : List Nat) (w : World) (hl : l.length = 32) (hr : r.length = 32) (ll : ∀ x ∈ l, x < 256) (lr : ∀ x ∈ r, x < 256) (hk : Knows w) (hs : Starts w) :
    Calls Tryd.prog 45 #[sv l, sv r] w fun e w' => e = .returned (sv (nodeL l r)) ∧ Below w.heap.size w w' := by
  have e0 : (bvs zero32).toArray = #[.int .u8 0, .int .u8 0, .int .u8 0, .int .u8 0, .int .u8 0, .int .u8 0, .int .u8 0, .int .u8 0, .int .u8 0, .int .u8 0, .int .u8 0, .int .u8 0, .int .u8 0, .int .u8 0, .int .u8 0, .int .u8 0, .int .u8 0, .int .u8 0, .int .u8 0, .int .u8 0, .int .u8 0, .int .u8 0, .int .u8 0, .int .u8 0, .int .u8 0, .int .u8 0, .int .u8 0, .int .u8 0, .int .u8 0, .int .u8 0, .int .u8 0, .int .u8 0] := rfl
  have f0 := ((BArr.new w 36 l).alloc (.cells (bvs r).toArray 36)).alloc (.cells (bvs zero32).toArray 36)
  have f1 := (BArr.new (w.alloc (.cells (bvs l).toArray 36)) 36 r).alloc (.cells (bvs zero32).toArray 36)
  have f2 := BArr.new ((w.alloc (.cells (bvs l).toArray 36)).alloc (.cells (bvs r).toArray 36)) 36 zero32
  have b1 : Below w.heap.size w (((w.alloc (.cells (bvs l).toArray 36)).alloc (.cells (bvs r).toArray 36)).alloc (.cells (bvs zero32).toArray 36)) := ((below_alloc w _).alloc (by simp) _).alloc (by simp; omega) _
  have s1 : (((w.alloc (.cells (bvs l).toArray 36)).alloc (.cells (bvs r).toArray 36)).alloc (.cells (bvs zero32).toArray 36)).heap.size = w.heap.size + 3 := by simp
  rw [World.size_alloc] at f1
  rw [World.size_alloc, World.size_alloc] at f2
  rw [e0] at f0 f1 f2 b1 s1
  clear e0
  have HF := Lib.hid (And.intro f0 (And.intro f1 (And.intro f2 (And.intro b1 s1))))
  have hsl := run_arr_all Tryd.underlying36
  clear f0 f1 f2 b1 s1
  unfold sv
  go_enter Tryd.func45, Tryd.ntmps45
  go_upto_region 1 with fail
  obtain ⟨w1, hw1⟩ : ∃ w1, w1 = ((w.alloc (.cells (bvs l).toArray 36)).alloc (.cells (bvs r).toArray 36)).alloc (.cells #[.int .u8 0, .int .u8 0, .int .u8 0, .int .u8 0, .int .u8 0, .int .u8 0, .int .u8 0, .int .u8 0, .int .u8 0, .int .u8 0, .int .u8 0, .int .u8 0, .int .u8 0, .int .u8 0, .int .u8 0, .int .u8 0, .int .u8 0, .int .u8 0, .int .u8 0, .int .u8 0, .int .u8 0, .int .u8 0, .int .u8 0, .int .u8 0, .int .u8 0, .int .u8 0, .int .u8 0, .int .u8 0, .int .u8 0, .int .u8 0, .int .u8 0, .int .u8 0] 36) := ⟨_, rfl⟩
  rw [← hw1] at HF ⊢
  clear hw1
  have CB := Lib.hid (fun (W : World) (b : Nat) (hW : Below w1.heap.size w1 W) (hc : W.cell? ⟨b, 0, none⟩ = some (.slice (some ⟨w.heap.size, 0, none⟩) 32 32) ∧ W.cell? ⟨b, 1, none⟩ = some (.slice (some ⟨w.heap.size + 1, 0, none⟩) 32 32)) =>
    (marked_any 1 (some ⟨b, 0, none⟩) 2 2 [l, r] W (by omega) (rows_two ll lr hc.1 hc.2 ⟨hl, fun j x hx => ⟨_, rfl, ((HF.out.1.at_).below hW) j x hx⟩⟩ ⟨hr, fun j x hx => ⟨_, rfl, ((HF.out.2.1.at_).below hW) j x hx⟩⟩)
      (hk.below (below_on HF.out.2.2.2.1 (Nat.le_refl _) hW)) (hs.below (below_on HF.out.2.2.2.1 (Nat.le_refl _) hW)) (by simp [tot]; omega) (by omega)).mono (R' := fun e w' => e = .returned (.agg (bvs (nodeL l r)).toArray) ∧ Below w1.heap.size w1 w' ∧ BArr w' (w.heap.size + 2) 36 zero32) fun e w' h => ⟨by rw [h.1, nodeL]; simp [sv], below_on hW (Nat.le_refl _) h.2, HF.out.2.2.1.below (below_on hW (Nat.le_refl _) h.2)⟩)
  have hm := nodeL_length l r
  obtain ⟨m, hm0⟩ : ∃ m, nodeL l r = m := ⟨_, rfl⟩
  rw [hm0] at CB hm
  have HM := Lib.hid hm0
  have HB := Lib.hid HF.out.2.2.2.1
  clear hm0
  have hbm : (bvs m).length = 32 := by rw [bvs_length, hm]
  have hst : ∀ W : World, BArr W (w.heap.size + 2) 36 zero32 → (storeCells ⟨w.heap.size + 2, 0, none⟩ (bvs m)).run Tryd.prog W = .ok () (W.setRow (w.heap.size + 2) (bvs m).toArray) := fun W hW => by
    have := run_storeCells_from (P := Tryd.prog) (w.heap.size + 2) 36 (bvs m) 0 _ W hW (by rw [hbm]; rfl) (bvs_oneCell m)
    simpa using this
  go_region_law (
      (go_simp; go_at_call 63; refine (CB.out _ _ ?_ ?_).mono ?_; (first | exact (Below.refl _ _).drew | exact ((Below.refl _ _).drew).alloc (by simp) _); (first | exact cell_two _ _ _ _); rintro e w7 ⟨rfl, hb7, hf7⟩))
  all_goals
    go_wp2
    refine bodyPost_ret_by (results_cell_row (p := 4) (ty := 36) (by kernel_rfl) _ _ (w.heap.size + 2) 36 (bvs m).toArray (0, 0) _ rfl (hf7.setRow _) Tryd.underlying36 rfl (by rw [List.size_toArray, bvs_length, hm]; exact sizeSum)) rfl ?_
    exact ⟨by rw [HM.out], below_setRow (below_on HB.out (Nat.le_refl _) hb7) (by omega) _⟩

end Go.Proofs.YtnaebjdccngeoaaDoor
