/-
  keys.Side.
-/
import Derived.Test.YtnaebjdccngeoaaDoorJMarked
import Derived.Test.YtnaebjdccngeoaaDoorVNode
import Derived.Deep.RegionLaw
namespace Go.Proofs.YtnaebjdccngeoaaDoor
open Go.RowKit

/-- What two sides come to. -/
def sideL (l r : List Nat) : List Nat := sha (4 :: (l ++ r))
theorem sideL_length (l r : List Nat) : (sideL l r).length = 32 := sha_length _
theorem sideL_lt (l r : List Nat) : ∀ x ∈ sideL l r, x < 256 := sha_lt _

set_option maxRecDepth 100000 in
set_option maxHeartbeats 2000000 in
theorem jside_any (l r : List Nat) (w : World) (hl : l.length = 32) (hr : r.length = 32) (ll : ∀ x ∈ l, x < 256) (lr : ∀ x ∈ r, x < 256) (hk : Knows w) (hs : Starts w) :
    Calls Tryd.prog 25 #[sv l, sv r] w fun e w' => e = .returned (sv (sideL l r)) ∧ Below w.heap.size w w' := by
  have e0 : (bvs zero32).toArray = #[.int .u8 0, .int .u8 0, .int .u8 0, .int .u8 0, .int .u8 0, .int .u8 0, .int .u8 0, .int .u8 0, .int .u8 0, .int .u8 0, .int .u8 0, .int .u8 0, .int .u8 0, .int .u8 0, .int .u8 0, .int .u8 0, .int .u8 0, .int .u8 0, .int .u8 0, .int .u8 0, .int .u8 0, .int .u8 0, .int .u8 0, .int .u8 0, .int .u8 0, .int .u8 0, .int .u8 0, .int .u8 0, .int .u8 0, .int .u8 0, .int .u8 0, .int .u8 0] := rfl
  have f0 := ((BArr.new w 36 l).alloc (.cells (bvs r).toArray 36)).alloc (.cells (bvs zero32).toArray 36)
  have f1 := (BArr.new (w.alloc (.cells (bvs l).toArray 36)) 36 r).alloc (.cells (bvs zero32).toArray 36)
  have f2 := BArr.new ((w.alloc (.cells (bvs l).toArray 36)).alloc (.cells (bvs r).toArray 36)) 36 zero32
  have b1 : Below w.heap.size w (((w.alloc (.cells (bvs l).toArray 36)).alloc (.cells (bvs r).toArray 36)).alloc (.cells (bvs zero32).toArray 36)) := ((below_alloc w _).alloc (by simp) _).alloc (by simp; omega) _
  have s1 : (((w.alloc (.cells (bvs l).toArray 36)).alloc (.cells (bvs r).toArray 36)).alloc (.cells (bvs zero32).toArray 36)).heap.size = w.heap.size + 3 := by simp
  rw [World.size_alloc] at f1
  rw [World.size_alloc, World.size_alloc] at f2
  rw [e0] at f0 f1 f2 b1 s1
  clear e0
  have HF := Lib.hid (And.intro f0 (And.intro f1 (And.intro f2 (And.intro b1 s1))))
  have hsl := run_arr_all Tryd.underlying36
  clear f0 f1 f2 b1 s1
  unfold sv
  go_enter Tryd.func25, Tryd.ntmps25
  go_upto_region 1 with fail
  obtain ⟨w1, hw1⟩ : ∃ w1, w1 = ((w.alloc (.cells (bvs l).toArray 36)).alloc (.cells (bvs r).toArray 36)).alloc (.cells #[.int .u8 0, .int .u8 0, .int .u8 0, .int .u8 0, .int .u8 0, .int .u8 0, .int .u8 0, .int .u8 0, .int .u8 0, .int .u8 0, .int .u8 0, .int .u8 0, .int .u8 0, .int .u8 0, .int .u8 0, .int .u8 0, .int .u8 0, .int .u8 0, .int .u8 0, .int .u8 0, .int .u8 0, .int .u8 0, .int .u8 0, .int .u8 0, .int .u8 0, .int .u8 0, .int .u8 0, .int .u8 0, .int .u8 0, .int .u8 0, .int .u8 0, .int .u8 0] 36) := ⟨_, rfl⟩
  rw [← hw1] at HF ⊢
  clear hw1
  have CB := Lib.hid (fun (W : World) (b : Nat) (hW : Below w1.heap.size w1 W) (hc : W.cell? ⟨b, 0, none⟩ = some (.slice (some ⟨w.heap.size, 0, none⟩) 32 32) ∧ W.cell? ⟨b, 1, none⟩ = some (.slice (some ⟨w.heap.size + 1, 0, none⟩) 32 32)) =>
    (jmarked_any 4 (some ⟨b, 0, none⟩) 2 2 [l, r] W (by omega) (rows_two ll lr hc.1 hc.2 ⟨hl, fun j x hx => ⟨_, rfl, ((HF.out.1.at_).below hW) j x hx⟩⟩ ⟨hr, fun j x hx => ⟨_, rfl, ((HF.out.2.1.at_).below hW) j x hx⟩⟩)
      (hk.below (below_on HF.out.2.2.2.1 (Nat.le_refl _) hW)) (hs.below (below_on HF.out.2.2.2.1 (Nat.le_refl _) hW)) (by simp [tot]; omega) (by omega)).mono (R' := fun e w' => e = .returned (.agg (bvs (sideL l r)).toArray) ∧ Below w1.heap.size w1 w' ∧ BArr w' (w.heap.size + 2) 36 zero32) fun e w' h => ⟨by rw [h.1, sideL]; simp [sv], below_on hW (Nat.le_refl _) h.2, HF.out.2.2.1.below (below_on hW (Nat.le_refl _) h.2)⟩)
  have hm := sideL_length l r
  obtain ⟨m, hm0⟩ : ∃ m, sideL l r = m := ⟨_, rfl⟩
  rw [hm0] at CB hm
  have HM := Lib.hid hm0
  have HB := Lib.hid HF.out.2.2.2.1
  clear hm0
  have hbm : (bvs m).length = 32 := by rw [bvs_length, hm]
  have hst : ∀ W : World, BArr W (w.heap.size + 2) 36 zero32 → (storeCells ⟨w.heap.size + 2, 0, none⟩ (bvs m)).run Tryd.prog W = .ok () (W.setRow (w.heap.size + 2) (bvs m).toArray) := fun W hW => by
    have := run_storeCells_from (P := Tryd.prog) (w.heap.size + 2) 36 (bvs m) 0 _ W hW (by rw [hbm]; rfl) (bvs_oneCell m)
    simpa using this
  go_region_law (
      (go_simp; go_at_call 50; refine (CB.out _ _ ?_ ?_).mono ?_; (first | exact (Below.refl _ _).drew | exact ((Below.refl _ _).drew).alloc (by simp) _); (first | exact cell_two _ _ _ _); rintro e w7 ⟨rfl, hb7, hf7⟩))
  all_goals
    go_wp2
    refine bodyPost_ret_by (results_cell_row (p := 4) (ty := 36) (by kernel_rfl) _ _ (w.heap.size + 2) 36 (bvs m).toArray (0, 0) _ rfl (hf7.setRow _) Tryd.underlying36 rfl (by rw [List.size_toArray, bvs_length, hm]; exact sizeSum)) rfl ?_
    exact ⟨by rw [HM.out], below_setRow (below_on HB.out (Nat.le_refl _) hb7) (by omega) _⟩

end Go.Proofs.YtnaebjdccngeoaaDoor
