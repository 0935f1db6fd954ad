/-
  What the three listed variables hold when a call begins.
-/
import Derived.Test.YthbgcijkpincfaaGreatDoorFIs
import Derived.Test.YthbgcijkpincfaaGreatDoorRows
import Derived.ProofKit
import Derived.LaidMore
import Derived.OpenShut
import Derived.Stop.Joined
import Derived.Stop.LaidErr
import Derived.Stop.LaidTwo
namespace Go.Proofs.YthbgcijkpincfaaGreatDoor
open Go.ChangeShapes Go.WideShapes Go.ChangeAt Go.RowKit

theorem gShort : Tryz.prog.globalNamed "almoner/frames.errShort" = some 2 := by kernel_rfl
theorem gForm : Tryz.prog.globalNamed "almoner/frames.errForm" = some 4 := by kernel_rfl
theorem gSum : Tryz.prog.globalNamed "almoner/frames.errSum" = some 3 := by kernel_rfl
theorem tShort : (Tryz.prog.globals[2]?).map (·.type) = some 251 := by kernel_rfl
theorem tForm : (Tryz.prog.globals[4]?).map (·.type) = some 251 := by kernel_rfl
theorem tSum : (Tryz.prog.globals[3]?).map (·.type) = some 251 := by kernel_rfl
theorem cellsEs : Tryz.prog.cellsOf 396 = 1 := by kernel_rfl
theorem cellsStr : Tryz.prog.cellsOf 9 = 1 := by kernel_rfl
theorem starEs : "*" ++ "errors.errorString" = "*errors.errorString" := by decide
theorem rowEs (u : TypeId) (h : Tryz.prog.typeName? 3 u = some "*errors.errorString") : u = 372 :=
  typeName_ptr_named (nm := "errors.errorString") (by rw [starEs]; kernel_rfl) (by kernel_rfl) (by decide) u (by rw [starEs]; exact h)

def laid3 : List (String × DataW Unit) := [("almoner/frames.errShort", Rows.laid_almoner_frames_errShort), ("almoner/frames.errForm", Rows.laid_almoner_frames_errForm), ("almoner/frames.errSum", Rows.laid_almoner_frames_errSum)]

set_option maxRecDepth 100000 in
theorem of_laid {W : World} (h : laidMetH Tryz.prog laid3 W) : ∃ E, Laid W E := by
  rw [MakeChecks.laidMetH_plain _ _ _ (by kernel_rfl)] at h
  obtain ⟨ps, ⟨g0', t0', cs0, f0, p0, q0, hg0', ht0', hv0, hd0, ⟨g1', t1', cs1, f1, p1, q1, hg1', ht1', hv1, hd1, ⟨g2', t2', cs2, f2, p2, q2, hg2', ht2', hv2, hd2, _, e2⟩, e1⟩, e0⟩, hnd, hrows⟩ := h
  obtain rfl := Option.some.inj (gShort.symm.trans hg0')
  obtain rfl := Option.some.inj (gForm.symm.trans hg1')
  obtain rfl := Option.some.inj (gSum.symm.trans hg2')
  obtain rfl := Option.some.inj (tShort.symm.trans ht0')
  obtain rfl := Option.some.inj (tForm.symm.trans ht1')
  obtain rfl := Option.some.inj (tSum.symm.trans ht2')
  subst e2
  subst e1
  subst e0
  obtain ⟨l0⟩ := cs0
  obtain ⟨l1⟩ := cs1
  obtain ⟨l2⟩ := cs2
  have ok0 : ∀ u v, l0 = [.iface u v] → Value.okWide Tryz.prog W .any 0 u v := fun u v e => by
    subst e
    exact (hrows 2 0 (by simp [MemPlace.row])).2 u v (by simpa using World.var?_cell hg0' hv0 0)
  have ok1 : ∀ u v, l1 = [.iface u v] → Value.okWide Tryz.prog W .any 0 u v := fun u v e => by
    subst e
    exact (hrows 4 0 (by simp [MemPlace.row])).2 u v (by simpa using World.var?_cell hg1' hv1 0)
  have ok2 : ∀ u v, l2 = [.iface u v] → Value.okWide Tryz.prog W .any 0 u v := fun u v e => by
    subst e
    exact (hrows 3 0 (by simp [MemPlace.row])).2 u v (by simpa using World.var?_cell hg2' hv2 0)
  obtain ⟨a0, s0, rfl, hc0, hs0, hz0, rfl⟩ := errorString_of_trod Tryz.underlying251 rowEs Tryz.underlying372 Tryz.underlying396 rfl rfl Tryz.underlying9 cellsEs cellsStr hd0 ok0
  obtain ⟨a1, s1, rfl, hc1, hs1, hz1, rfl⟩ := errorString_of_trod Tryz.underlying251 rowEs Tryz.underlying372 Tryz.underlying396 rfl rfl Tryz.underlying9 cellsEs cellsStr hd1 ok1
  obtain ⟨a2, s2, rfl, hc2, hs2, hz2, rfl⟩ := errorString_of_trod Tryz.underlying251 rowEs Tryz.underlying372 Tryz.underlying396 rfl rfl Tryz.underlying9 cellsEs cellsStr hd2 ok2
  have hb0 := (hrows a0.block a0.off (by simp [MemPlace.row])).1
  have hb1 := (hrows a1.block a1.off (by simp [MemPlace.row])).1
  have hb2 := (hrows a2.block a2.off (by simp [MemPlace.row])).1
  refine ⟨⟨a0, a1, a2⟩, by simpa using World.var?_cell hg0' hv0 0, by simpa using World.var?_cell hg1' hv1 0, by simpa using World.var?_cell hg2' hv2 0, ?_, ?_, ?_, ?_⟩
  · intro b
    cases b
    · exact hb0
    · exact hb1
    · exact hb2
  · show a0 ≠ a1
    rintro rfl
    simp [MemPlace.row] at hnd
  · show a0 ≠ a2
    rintro rfl
    simp [MemPlace.row] at hnd
  · show a1 ≠ a2
    rintro rfl
    simp [MemPlace.row] at hnd

end Go.Proofs.YthbgcijkpincfaaGreatDoor
