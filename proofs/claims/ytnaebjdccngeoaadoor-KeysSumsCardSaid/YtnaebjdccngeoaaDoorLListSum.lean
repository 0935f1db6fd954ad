/-
  The parts of a struct that came in: a sum, a number of 64 bits, a list of sums.
-/
import Derived.Test.YtnaebjdccngeoaaDoorLRowS
import Derived.Test.YtnaebjdccngeoaaDoorLArrArg
import Derived.ProofKit
import Derived.OpenShut
namespace Go.Proofs.YtnaebjdccngeoaaDoor
open Go.ChangeShapes Go.WideShapes Go.ChangeAt Go.RowKit Go.Deep

theorem list_sum {H : Type} {enc : TypeId × Value → H} {w : World} {base : Nat} {sp : Nat → Bool} {held : Bool} {fuel : Nat} {cs : List Value} {x : DataW H × List MemPlace}
    (h : DataW.trod enc Tryd.prog w base sp held fuel 36 cs = some x) : ∃ xs, cs = bvs xs ∧ xs.length = 32 ∧ ∀ x ∈ xs, x < 256 := by
  obtain ⟨hl, hx⟩ := cells_sum h
  refine ⟨cs.map byteOf, ?_, by rw [List.length_map, hl], fun x hxm => ?_⟩
  · apply List.ext_getElem?
    intro i
    rw [bvs_get, List.getElem?_map]
    by_cases hi : i < 32
    · obtain ⟨z, _, hz⟩ := hx i hi
      rw [hz]; rfl
    · rw [List.getElem?_eq_none (by omega)]; rfl
  · obtain ⟨v, hv, rfl⟩ := List.mem_map.1 hxm
    obtain ⟨i, hi⟩ := List.mem_iff_getElem?.1 hv
    obtain ⟨z, hz, hz2⟩ := hx i (by rw [← hl]; exact (List.getElem?_eq_some_iff.1 hi).1)
    rw [hi] at hz2
    cases hz2
    exact hz

theorem cellsS64 : Tryd.prog.cellsOf 34 = 1 := by kernel_rfl
theorem cellsSpath : Tryd.prog.cellsOf 24 = 1 := by kernel_rfl

theorem one_of (l : List Value) (h : l.length = 1) : ∃ a, l = [a] := by
  match l, h with
  | [a], _ => exact ⟨a, rfl⟩

theorem u64_one {H : Type} {enc : TypeId × Value → H} {W : World} {base fuel : Nat} {sp : Nat → Bool} {held : Bool} {l : List Value} {x : DataW H × List MemPlace} (h : DataW.trod enc Tryd.prog W base sp held fuel 34 l = some x) :
    ∃ q : Nat, l = [.int .u64 (q : Int)] ∧ q < 18446744073709551616 := by
  obtain ⟨z, ez, _, hw⟩ := DataW.trod_int Tryd.underlying34 h
  have hb := bounds_u64 hw
  obtain ⟨q, rfl⟩ := Int.eq_ofNat_of_zero_le hb.1
  exact ⟨q, ez, by omega⟩

end Go.Proofs.YtnaebjdccngeoaaDoor
