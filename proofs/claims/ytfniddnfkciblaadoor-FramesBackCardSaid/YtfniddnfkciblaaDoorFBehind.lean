/-
  An argument of type Behind: bytes, and a number of 16 bits.
-/
import Derived.Test.YtfniddnfkciblaaDoorLRow
import Derived.Test.YtfniddnfkciblaaDoorLMem
namespace Go.Proofs.YtfniddnfkciblaaDoor
open Go.ChangeShapes Go.WideShapes Go.ChangeAt Go.RowKit

theorem cellsBehind : Tryd.prog.cellsOf 26 = 2 := by kernel_rfl
theorem cellsB16 : Tryd.prog.cellsOf 24 = 1 := by kernel_rfl
theorem cellsBbs : Tryd.prog.cellsOf 23 = 1 := by kernel_rfl

theorem two_of (l : List Value) (h : l.length = 2) : ∃ a b, l = [a, b] := by
  cases l with
  | nil => cases h
  | cons a l =>
    cases l with
    | nil => cases h
    | cons b l =>
      cases l with
      | nil => exact ⟨a, b, rfl⟩
      | cons _ _ => simp at h

set_option maxRecDepth 100000 in
theorem came_behind {H : Type} {enc : TypeId × Value → H} {W : World} {base b0 : Nat} {held : Bool} {r : Reach} {v : Value} {d : DataW H} {ps : List MemPlace}
    (hval : Value.okWide Tryd.prog W r b0 26 v) (hd : DataW.Trod enc Tryd.prog W base (fun _ => true) held 26 v d ps) :
    ∃ (B : Option Addr) (m k q : Nat) (xs : List Nat), v = .agg #[.slice B m k, .int .u16 (q : Int)] ∧ Came W B m k xs ∧ q < 65536 ∧ m ≤ 9223372036854775807 := by
  simp only [Value.okWide, Tryd.underlying26] at hval
  obtain ⟨cs, rfl, hsz, _⟩ := hval
  rw [cellsBehind] at hsz
  obtain ⟨fuel, hf⟩ := hd
  obtain ⟨y0, y1, n, _, hl, h0, h1⟩ := trod_struct2 Tryd.underlying26 hf
  obtain ⟨l⟩ := cs
  have hln : l.length = 2 := by simpa using hsz
  obtain ⟨a, b, rfl⟩ := two_of l hln
  have e0 : ((Value.agg #[a, b]).cells.toList.drop 0).take 1 = [a] := rfl
  have e1 : ((Value.agg #[a, b]).cells.toList.drop 1).take 1 = [b] := rfl
  have h1' : DataW.trod enc Tryd.prog W base (fun _ => true) held n 24 [b] = some y1 := h1
  have h0' : DataW.trod enc Tryd.prog W base (fun _ => true) held n 23 [a] = some y0 := h0
  obtain ⟨z, ez, _, hw⟩ := DataW.trod_int Tryd.underlying24 h1'
  have hb := bounds_u16 hw
  simp only [List.cons.injEq, and_true] at ez
  subst ez
  obtain ⟨q, rfl⟩ := Int.eq_ofNat_of_zero_le hb.1
  rcases open_ints Tryd.underlying23 Tryd.underlying5 (by kernel_rfl) h0' with ⟨hcs, _⟩ | ⟨x, l, k, zs, hcs, _, hl2, hm2, hz, _, hcell, hwz⟩
  · simp at hcs
    subst hcs
    exact ⟨none, 0, 0, q, [], rfl, ⟨In.none_ _ _, (by intro x hx; cases hx), fun _ => rfl, Nat.le_refl _⟩, by omega, by omega⟩
  · simp at hcs
    subst hcs
    obtain ⟨xs, hxs⟩ := came_of (w := W) (a := some x) (len := l) (cap := k) (zs := zs) (.inr ⟨x, rfl, hl2, by simpa using hz, hcell, hwz⟩)
    exact ⟨some x, l, k, q, xs, rfl, hxs, by omega, by unfold maxLen at hm2; omega⟩

end Go.Proofs.YtfniddnfkciblaaDoor
