/-
  What the three listed variables hold when a call begins: two of package shas, and the sentinel of package links.
-/
import Derived.Test.YtcekfnngnjpeeaaDoorKMiss
import Derived.Test.YtcekfnngnjpeeaaDoorShaLaid
import Derived.LaidSub
import Derived.Stop.LaidErr
import Derived.Stop.LaidTwo
namespace Go.Proofs.YtcekfnngnjpeeaaDoor
open Go.ChangeShapes Go.WideShapes Go.ChangeAt Go.RowKit

theorem gMissing : Tryd.prog.globalNamed "almoner/links.errMissing" = some 0 := by kernel_rfl
theorem tMissing : (Tryd.prog.globals[0]?).map (·.type) = some 72 := by kernel_rfl
theorem cellsEs : Tryd.prog.cellsOf 152 = 1 := by kernel_rfl
theorem cellsStr : Tryd.prog.cellsOf 9 = 1 := by kernel_rfl
theorem starEs : "*" ++ "errors.errorString" = "*errors.errorString" := by decide
theorem rowEs (u : TypeId) (h : Tryd.prog.typeName? 3 u = some "*errors.errorString") : u = 127 :=
  typeName_ptr_named (nm := "errors.errorString") (by rw [starEs]; kernel_rfl) (by kernel_rfl) (by decide) u (by rw [starEs]; exact h)

def laid1 : List (String × DataW Unit) := [("almoner/links.errMissing", Rows.laid_almoner_links_errMissing)]

set_option maxRecDepth 100000 in
theorem of_laid1 {W : World} (h : laidMetH Tryd.prog laid1 W) : ∃ E, Miss W E := by
  rw [MakeChecks.laidMetH_plain _ _ _ (by kernel_rfl)] at h
  obtain ⟨ps, ⟨g0', t0', cs0, f0, p0, q0, hg0', ht0', hv0, hd0, _, e0⟩, hnd, hrows⟩ := h
  obtain rfl := Option.some.inj (gMissing.symm.trans hg0')
  obtain rfl := Option.some.inj (tMissing.symm.trans ht0')
  subst e0
  obtain ⟨l0⟩ := cs0
  have ok0 : ∀ u v, l0 = [.iface u v] → Value.okWide Tryd.prog W .any 0 u v := fun u v e => by
    subst e
    exact (hrows 0 0 (by simp [MemPlace.row])).2 u v (by simpa using World.var?_cell hg0' hv0 0)
  obtain ⟨a0, s0, rfl, hc0, hs0, hz0, rfl⟩ := errorString_of_trod Tryd.underlying72 rowEs Tryd.underlying127 Tryd.underlying152 rfl rfl Tryd.underlying9 cellsEs cellsStr hd0 ok0
  exact ⟨a0, by simpa [Miss, missV] using World.var?_cell hg0' hv0 0⟩

def laidK : List (String × DataW Unit) := [("almoner/shas.start", Rows.laid_almoner_shas_start), ("almoner/shas.added", Rows.laid_almoner_shas_added), ("almoner/links.errMissing", Rows.laid_almoner_links_errMissing)]
def isShas (x : String × DataW Unit) : Bool := ["almoner/shas.start", "almoner/shas.added"].contains x.1
def isMiss (x : String × DataW Unit) : Bool := ["almoner/links.errMissing"].contains x.1
theorem laidK_shas : laidK.filter isShas = laid2 := by
  unfold laidK laid2 isShas
  simp [List.filter]
theorem laidK_miss : laidK.filter isMiss = laid1 := by
  unfold laidK laid1 isMiss
  simp [List.filter]

theorem of_laidK {W : World} (h : laidMetH Tryd.prog laidK W) : (Starts W ∧ Knows W) ∧ ∃ E, Miss W E := by
  have h1 := h.filter isShas
  rw [laidK_shas] at h1
  have h2 := h.filter isMiss
  rw [laidK_miss] at h2
  exact ⟨of_laid h1, of_laid1 h2⟩

end Go.Proofs.YtcekfnngnjpeeaaDoor
