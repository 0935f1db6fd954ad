/-
  An argument that is an array of two numbers of 16 bits.
-/
import Derived.Test.YtfniddnfkciblaaDoorLPre
import Derived.ProofKit
import Derived.OpenShut
namespace Go.Proofs.YtfniddnfkciblaaDoor
open Go.ChangeShapes Go.WideShapes Go.ChangeAt Go.RowKit

theorem came_two16 {H : Type} {enc : TypeId × Value → H} {P : Program} {W : World} {base b0 : Nat} {spare : Nat → Bool} {held : Bool} {r : Reach} {t e : TypeId} {v : Value} {d : DataW H} {ps : List MemPlace}
    (ht : P.underlying t = some (.array 2 e)) (he : P.underlying e = some (.int .u16)) (hc : P.cellsOf e = 1) (hct : P.cellsOf t = 2)
    (hval : Value.okWide P W r b0 t v) (hd : DataW.Trod enc P W base spare held t v d ps) : ∃ p q : Nat, v = .agg #[.int .u16 (p : Int), .int .u16 (q : Int)] ∧ p < 65536 ∧ q < 65536 := by
  simp only [Value.okWide, ht] at hval
  obtain ⟨cs, rfl, hsz, _⟩ := hval
  rw [hct] at hsz
  obtain ⟨fuel, hf⟩ := hd
  obtain ⟨xs, m, rfl, _, _, hlen, hp⟩ := DataW.trod_array ht hf
  have hx : ∀ i, i < 2 → ∃ z : Nat, z < 65536 ∧ cs.toList[i]? = some (.int .u16 (z : Int)) := fun i hi => by
    have h1 := hp i hi
    rw [List.getElem?_eq_getElem (by omega)] at h1
    obtain ⟨z, hz, _, hw⟩ := DataW.trod_int he h1
    rw [hc, Nat.mul_one] at hz
    have hb := bounds_u16 hw
    obtain ⟨z, rfl⟩ := Int.eq_ofNat_of_zero_le hb.1
    refine ⟨z, by omega, ?_⟩
    have : (List.take 1 (List.drop i cs.toList))[0]? = some (.int .u16 (z : Int)) := by simp only [Value.cells] at hz; rw [hz]; rfl
    rw [List.getElem?_take, if_pos (by omega), List.getElem?_drop, Nat.add_zero] at this
    exact this
  obtain ⟨p, hp1, hp2⟩ := hx 0 (by omega)
  obtain ⟨q, hq1, hq2⟩ := hx 1 (by omega)
  refine ⟨p, q, ?_, hp1, hq1⟩
  have hl : cs.toList.length = 2 := by simpa using hsz
  have e : cs.toList = [.int .u16 (p : Int), .int .u16 (q : Int)] := by
    match h : cs.toList, hl with
    | [a, b], _ =>
      rw [h] at hp2 hq2
      simp at hp2 hq2
      rw [hp2, hq2]
  congr 1
  apply Array.ext'
  rw [e]

end Go.Proofs.YtfniddnfkciblaaDoor
