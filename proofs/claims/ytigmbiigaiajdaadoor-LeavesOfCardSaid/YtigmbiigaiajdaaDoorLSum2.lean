/-
  An argument that is an array of two sums.
-/
import Derived.Test.YtigmbiigaiajdaaDoorLRowS
import Derived.Test.YtigmbiigaiajdaaDoorLArrArg
namespace Go.Proofs.YtigmbiigaiajdaaDoor
open Go.ChangeShapes Go.WideShapes Go.ChangeAt Go.RowKit

theorem cellsSum2 : Tryd.prog.cellsOf 25 = 64 := by kernel_rfl

theorem came_sum2 {H : Type} {enc : TypeId × Value → H} {W : World} {b0 : Nat} {spare : Nat → Bool} {held : Bool} {r : Reach} {v : Value} {d : DataW H} {ps : List MemPlace}
    (hval : Value.okWide Tryd.prog W r b0 25 v) (hd : DataW.Trod enc Tryd.prog W 0 spare held 25 v d ps) : ∃ x y : List Nat, v = .agg (bvs (x ++ y)).toArray ∧ x.length = 32 ∧ y.length = 32 ∧ (∀ b ∈ x, b < 256) ∧ ∀ b ∈ y, b < 256 := by
  simp only [Value.okWide, Tryd.underlying25] at hval
  obtain ⟨cs, rfl, hsz, _⟩ := hval
  rw [cellsSum2] at hsz
  obtain ⟨fuel, hf⟩ := hd
  obtain ⟨xs, m, rfl, _, _, hlen, hp⟩ := DataW.trod_array Tryd.underlying25 hf
  have hl : cs.toList.length = 64 := by simpa using hsz
  have hx : ∀ i, i < 64 → ∃ z : Nat, z < 256 ∧ cs.toList[i]? = some (bv z) := fun i hi => by
    have h1 := hp (i / 32) (by omega)
    rw [List.getElem?_eq_getElem (by omega), cellsSum] at h1
    obtain ⟨_, hb⟩ := cells_sum h1
    obtain ⟨z, hz, hc⟩ := hb (i % 32) (Nat.mod_lt _ (by omega))
    refine ⟨z, hz, ?_⟩
    simp only [Value.cells] at hc
    rw [List.getElem?_take, if_pos (Nat.mod_lt _ (by omega)), List.getElem?_drop, show i / 32 * 32 + i % 32 = i by omega] at hc
    exact hc
  have hall : ∀ b ∈ cs.toList.map byteOf, b < 256 := fun b hb => by
    obtain ⟨v, hv, rfl⟩ := List.mem_map.1 hb
    obtain ⟨i, hi⟩ := List.mem_iff_getElem?.1 hv
    obtain ⟨z, hz, hz2⟩ := hx i (by rw [← hl]; exact (List.getElem?_eq_some_iff.1 hi).1)
    rw [hi] at hz2
    cases hz2
    exact hz
  refine ⟨(cs.toList.map byteOf).take 32, (cs.toList.map byteOf).drop 32, ?_, by rw [List.length_take, List.length_map, hl]; rfl, by rw [List.length_drop, List.length_map, hl], fun b hb => hall b (List.mem_of_mem_take hb), fun b hb => hall b (List.mem_of_mem_drop hb)⟩
  rw [List.take_append_drop]
  congr 1
  apply Array.ext'
  rw [List.toList_toArray]
  apply List.ext_getElem?
  intro i
  rw [bvs_get, List.getElem?_map]
  by_cases hi : i < 64
  · obtain ⟨z, _, hz⟩ := hx i hi
    rw [hz]; rfl
  · rw [List.getElem?_eq_none (by omega)]; rfl

end Go.Proofs.YtigmbiigaiajdaaDoor
