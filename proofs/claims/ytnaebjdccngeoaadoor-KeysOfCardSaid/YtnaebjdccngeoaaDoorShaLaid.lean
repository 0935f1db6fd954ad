/-
  What the listed variables hold when a call begins.
-/
import Derived.Test.YtnaebjdccngeoaaDoorShaNew
import Derived.Test.YtnaebjdccngeoaaDoorRows
import Derived.ProofKit
import Derived.LaidMore
import Derived.OpenShut
import Derived.Stop.Joined
namespace Go.Proofs.YtnaebjdccngeoaaDoor
open Go.ChangeShapes Go.WideShapes Go.ChangeAt Go.RowKit

theorem cellsU32 : Tryd.prog.cellsOf 41 = 1 := by kernel_rfl

/-- An array of numbers of 32 bits that reads as the literals l holds them. -/
theorem cells_of_trod {H : Type} {enc : TypeId × Value → H} {w : World} {base : Nat} {sp : Nat → Bool} {held : Bool} {fuel n : Nat} {T : TypeId} {cs : List Value} {q : List MemPlace} {l : List Nat}
    (ht : Tryd.prog.underlying T = some (.array n 41)) (hl : l.length = n) (h : DataW.trod enc Tryd.prog w base sp held fuel T cs = some (.agg (l.map fun (x : Nat) => .lit (.int .u32 (x : Int))), q)) :
    ∀ i, i < n → cs[i]? = some (.int .u32 ((l.getD i 0 : Nat) : Int)) := by
  obtain ⟨xs, m1, rfl, hx, hlen, hn, hel⟩ := DataW.trod_array ht h
  injection hx with hx1 hx2
  injection hx1 with hx1
  intro i hi
  have he := hel i hi
  have hxi : xs[i]? = some xs[i] := List.getElem?_eq_getElem (by omega)
  rw [hxi, cellsU32, Nat.mul_one] at he
  obtain ⟨z, e1, e2, _⟩ := DataW.trod_int Tryd.underlying41 he
  have e3 : (l.map fun (x : Nat) => (DataW.lit (.int .u32 (x : Int)) : DataW H))[i]? = (xs.map (·.1))[i]? := by rw [hx1]
  rw [List.getElem?_map, List.getElem?_map, hxi, e2, List.getElem?_eq_getElem (by omega)] at e3
  simp only [Option.map_some, Option.some.injEq, DataW.lit.injEq, Lit.int.injEq, true_and] at e3
  have e4 : cs[i]? = some (.int .u32 z) := by
    have := congrArg (fun t => t[0]?) e1
    simpa [List.getElem?_take, List.getElem?_drop] using this
  rw [e4, ← e3, List.getD_eq_getElem?_getD, List.getElem?_eq_getElem (by omega)]
  rfl

theorem gStart : Tryd.prog.globalNamed "almoner/shas.start" = some 1 := by kernel_rfl
theorem gAdded : Tryd.prog.globalNamed "almoner/shas.added" = some 2 := by kernel_rfl
theorem tStart : (Tryd.prog.globals[1]?).map (·.type) = some 112 := by kernel_rfl
theorem tAdded : (Tryd.prog.globals[2]?).map (·.type) = some 140 := by kernel_rfl

def laid2 : List (String × DataW Unit) := [("almoner/shas.start", Rows.laid_almoner_shas_start), ("almoner/shas.added", Rows.laid_almoner_shas_added)]

theorem of_laid {W : World} (h : laidMetH Tryd.prog laid2 W) : Starts W ∧ Knows W := by
  rw [MakeChecks.laidMetH_plain _ _ _ (by kernel_rfl)] at h
  obtain ⟨ps, ⟨g0, t0, cs0, f0, p0, q0, hg0, ht0, hv0, hd0, ⟨g1, t1, cs1, f1, p1, q1, hg1, ht1, hv1, hd1, _, _⟩, _⟩, _, _⟩ := h
  obtain rfl := Option.some.inj (gStart.symm.trans hg0)
  obtain rfl := Option.some.inj (gAdded.symm.trans hg1)
  obtain rfl := Option.some.inj (tStart.symm.trans ht0)
  obtain rfl := Option.some.inj (tAdded.symm.trans ht1)
  have k0 := cells_of_trod (l := h0) Tryd.underlying112 rfl hd0
  have k1 := cells_of_trod (l := kAdd) Tryd.underlying140 rfl hd1
  refine ⟨fun j v hv => ?_, fun i hi => ?_⟩
  · have hj : j < 8 := by have := (List.getElem?_eq_some_iff.1 hv).1; rw [uvs_length] at this; exact this
    have e := World.var?_cell hg0 hv0 j
    rw [Nat.zero_add, e, ← Array.getElem?_toList, k0 j hj, ← hv, uvs_get, List.getD_eq_getElem?_getD, List.getElem?_eq_getElem (show j < h0.length from hj)]
    rfl
  · rw [World.var?_cell hg1 hv1 i, ← Array.getElem?_toList, k1 i hi]

end Go.Proofs.YtnaebjdccngeoaaDoor
