/-
  An argument of type []api.Sum.
-/
import Derived.Test.YtnaebjdccngeoaaDoorLSum
import Derived.Test.YtnaebjdccngeoaaDoorLRow
import Derived.Deep.Slices
namespace Go.Proofs.YtnaebjdccngeoaaDoor
open Go.ChangeShapes Go.WideShapes Go.ChangeAt Go.RowKit

theorem cellsSum : Tryd.prog.cellsOf 36 = 32 := by kernel_rfl

/-- A slice of sums that came in reads as the bytes ys. -/
structure CameS (w : World) (A : Option Addr) (n c : Nat) (ys : List Nat) : Prop where
  in_ : InS w A n ys
  lt : ∀ x ∈ ys, x < 256
  nil : A = none → c = 0
  cap : n ≤ c

/-- A cell that reads as a byte. -/
theorem cell_byte {H : Type} {enc : TypeId × Value → H} {w : World} {base : Nat} {sp : Nat → Bool} {held : Bool} {fuel : Nat} {cs : List Value} {x : DataW H × List MemPlace}
    (h : DataW.trod enc Tryd.prog w base sp held fuel 5 cs = some x) : ∃ b : Nat, b < 256 ∧ cs = [bv b] := by
  obtain ⟨n, hn, _, hw⟩ := DataW.trod_int Tryd.underlying5 h
  have := bounds_u8 hw
  exact ⟨n.toNat, by omega, by rw [hn, bv, Int.toNat_of_nonneg this.1]⟩

/-- The cells of a sum that is read. -/
theorem cells_sum {H : Type} {enc : TypeId × Value → H} {w : World} {base : Nat} {sp : Nat → Bool} {held : Bool} {fuel : Nat} {cs : List Value} {x : DataW H × List MemPlace}
    (h : DataW.trod enc Tryd.prog w base sp held fuel 36 cs = some x) : cs.length = 32 ∧ ∀ j, j < 32 → ∃ b : Nat, b < 256 ∧ cs[j]? = some (bv b) := by
  obtain ⟨xs, m, _, _, hl, hx, hel⟩ := DataW.trod_array Tryd.underlying36 h
  rw [cellsSum] at hl
  refine ⟨hl, fun j hj => ?_⟩
  have he := hel j hj
  rw [cellsByte, Nat.mul_one] at he
  have hs : xs[j]? = some xs[j] := List.getElem?_eq_getElem (by omega)
  rw [hs] at he
  obtain ⟨b, hb, hc⟩ := cell_byte he
  refine ⟨b, hb, ?_⟩
  have e : (cs.drop j)[0]? = some (bv b) := by
    have := congrArg (fun l => l[0]?) hc
    simpa using this
  simpa using e

theorem cameS_of {H : Type} {enc : TypeId × Value → H} {w : World} {sp : Nat → Bool} {held : Bool} {fuel : Nat} {a : Option Addr} {len cap : Nat} {x : DataW H × List MemPlace}
    (h : DataW.trod enc Tryd.prog w 0 sp held fuel 24 [.slice a len cap] = some x) : ∃ ys, CameS w a len cap ys := by
  rcases Go.Deep.open_slice Tryd.underlying24 h with ⟨h0, _⟩ | ⟨ad, l, c, m, n, D, Pl, h0, _, hl, _, hm, _, hel⟩
  · simp at h0
    obtain ⟨rfl, rfl, rfl⟩ := h0
    exact ⟨[], InS.none_ _ _, (by intro x hx; cases hx), fun _ => rfl, Nat.le_refl _⟩
  · simp at h0
    obtain ⟨rfl, rfl, rfl⟩ := h0
    have hlm : len ≤ m := by rw [hm]; split <;> omega
    have key : ∀ q, q < 32 * len → ∃ b : Nat, b < 256 ∧ w.cell? (ad.add q) = some (bv b) := by
      intro q hq
      obtain ⟨cs', hc, ht⟩ := hel (q / 32) (by omega)
      rw [cellsSum] at hc
      obtain ⟨hlen, hb⟩ := cells_sum ht
      obtain ⟨b, hb1, hb2⟩ := hb (q % 32) (Nat.mod_lt _ (by omega))
      refine ⟨b, hb1, ?_⟩
      have hcell := (World.cells?_some hc).2.2 (q % 32) (Nat.mod_lt _ (by omega))
      rw [add_add, show q / 32 * 32 + q % 32 = q by omega] at hcell
      rw [hcell, hb2]
    obtain ⟨f, hf⟩ := Go.Deep.choose_lt key
    refine ⟨(List.range (32 * len)).map f, ⟨by simp, fun j y hy => ⟨ad, rfl, ?_⟩⟩, ?_, (fun h => by cases h), hl⟩
    · rw [List.getElem?_map] at hy
      obtain ⟨i, hi, rfl⟩ := Option.map_eq_some_iff.1 hy
      have hlt : j < 32 * len := by have := (List.getElem?_eq_some_iff.1 hi).1; simpa using this
      rw [List.getElem?_range hlt] at hi
      cases hi
      exact (hf j hlt).2
    · intro y hy
      obtain ⟨i, hi, rfl⟩ := List.mem_map.1 hy
      exact (hf i (List.mem_range.1 hi)).1

end Go.Proofs.YtnaebjdccngeoaaDoor
