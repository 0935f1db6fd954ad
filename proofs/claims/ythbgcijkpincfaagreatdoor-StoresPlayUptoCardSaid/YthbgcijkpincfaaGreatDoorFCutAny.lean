/-
  frames.cut of any bytes.
-/
import Derived.Test.YthbgcijkpincfaaGreatDoorFCut
namespace Go.Proofs.YthbgcijkpincfaaGreatDoor
open Go.RowKit

set_option maxRecDepth 100000 in
set_option maxHeartbeats 4000000 in
theorem cut_less (E : Errs) (A : Option Addr) (n c : Nat) (xs : List Nat) (w : World) (hE : Laid w E) (hin : In w A n xs) (h64 : n < 64) :
    Calls Tryz.prog 238 #[.slice A n c] w (CutPost E xs w) := by
  have hi : (n : Int) < 64 := by omega
  have hcut : Hid (cutL xs = some .short) := cutL_len (by rw [hin.len]; exact h64)
  have fr1 := Fr.new w
  have fr2 := Fr.new (w.alloc (.cells #[.int .u64 0, .int .i64 0, .int .u64 0, .slice none 0 0] 275))
  rw [World.size_alloc] at fr2
  have fr1' := fr1.below (below_alloc _ (.cells #[.int .u64 0, .int .i64 0, .int .u64 0, .slice none 0 0] 275))
  have hb : Below w.heap.size w ((w.alloc (.cells #[.int .u64 0, .int .i64 0, .int .u64 0, .slice none 0 0] 275)).alloc (.cells #[.int .u64 0, .int .i64 0, .int .u64 0, .slice none 0 0] 275)) := below_on (below_alloc w _) (Nat.le_refl _) (below_alloc _ _)
  have HE := Lib.hid hE
  clear hE hin fr1
  go_enter Tryz.func238, Tryz.ntmps238
  go_wp2_with fail
  obtain ⟨W, hW⟩ : ∃ W, ((w.alloc (.cells #[.int .u64 0, .int .i64 0, .int .u64 0, .slice none 0 0] 275)).alloc (.cells #[.int .u64 0, .int .i64 0, .int .u64 0, .slice none 0 0] 275)) = W := ⟨_, rfl⟩
  rw [hW] at fr1' fr2 hb ⊢
  clear hW
  obtain ⟨R, hR⟩ : ∃ R, w.heap.size = R := ⟨_, rfl⟩
  have HB := Lib.hid hb
  clear hb
  have HRw : Hid (w.heap.size ≤ R) := Nat.le_of_eq hR
  rw [hR] at fr1' fr2 ⊢
  clear hR
  have hgs := (HE.out.below HB.out).gs
  have q0 := fr2.c0
  have q1 := fr2.c1
  have q2 := fr2.c2
  have q3 := fr2.c3
  have e0 := fr1'.c0
  have e1 := fr1'.c1
  have e2 := fr1'.c2
  have e3 := fr1'.c3
  have fz := fr1'.free
  have hRg : ∀ v0 v1 v2 v3, ((((W.setCell ⟨R, 0, none⟩ v0).setCell ⟨R, 1, none⟩ v1).setCell ⟨R, 2, none⟩ v2).setCell ⟨R, 3, none⟩ v3).cell? ⟨2, 0, none⟩ = some (.iface 372 (.pointer (some E.s))) := fun v0 v1 v2 v3 => by
    rw [World.cell?_of_block (show _ = W.heap[(2 : Nat)]? from ?_)]
    · exact hgs
    · have hne : (2 : Nat) ≠ R := fr1'.ne_err (Lib.hid hgs)
      rw [heap_setCell_other _ _ _ _ hne, heap_setCell_other _ _ _ _ hne, heap_setCell_other _ _ _ _ hne, heap_setCell_other _ _ _ _ hne]
  clear HE
  go_region
  go_wp2_with fail
  refine bodyPost_ret_by (results_frame (p := 2) (q := 3) (ty := 275) (by kernel_rfl) _ _ ⟨R, 0, none⟩ _ rfl (run_loadVar_row (P := Tryz.prog) _ R 275 275 _ (0, 0) _ ((((fr1'.set0 0).set1 0).set2 0).set3 (.slice none 0 0)) Tryz.underlying275 rfl infoFrame)) rfl ?_
  exact ⟨((((HB.out.setCell HRw.out _).setCell HRw.out _).setCell HRw.out _).setCell HRw.out _).drew, .inl ⟨.short, _, ⟨_, _, _, _, _, _, rfl⟩, hcut.out, rfl⟩⟩

theorem cut_any (E : Errs) (A : Option Addr) (n c : Nat) (xs : List Nat) (w : World) (hE : Laid w E) (hin : In w A n xs) (hx : ∀ x ∈ xs, x < 256) (hA : A = none → n = 0) (hnc : n ≤ c) (hc : n ≤ 1000000000000) :
    Calls Tryz.prog 238 #[.slice A n c] w (CutPost E xs w) := by
  by_cases h64 : n < 64
  · exact cut_less E A n c xs w hE hin h64
  · exact cut_long E A n c xs w hE hin hx hA hnc hc h64

end Go.Proofs.YthbgcijkpincfaaGreatDoor
