/-
  Arguments of the statements: []Write, []bool.
-/
import Derived.Test.YtolbchknjcipiaaLRow
import Derived.Test.YtolbchknjcipiaaLRows
import Derived.Test.YtolbchknjcipiaaDFail
import Derived.Deep.Grids
import Derived.Deep.SlicePairs
namespace Go.Proofs.Ytolbchknjcipiaa
open Go.ChangeShapes Go.WideShapes Go.ChangeAt Go.RowKit Go.Deep

/-- A slice of bools that came in. -/
structure CameBools (w : World) (A : Option Addr) (n c : Nat) (ks : List Bool) : Prop where
  in_ : InB w A n ks
  cap : n ≤ c

theorem came_bools {H : Type} {enc : TypeId × Value → H} {w : World} {base fuel n c : Nat} {held : Bool} {A : Option Addr} {x : DataW H × List MemPlace} (h : DataW.trod enc Try.prog w base (fun _ => true) held fuel 23 [.slice A n c] = some x) :
    ∃ ks, CameBools w A n c ks := by
  rcases open_bools Try.underlying23 Try.underlying4 (by kernel_rfl) h with ⟨hcs, _⟩ | ⟨a, len, cap, B, hcs, _, hl, _, _, hcell⟩
  · simp at hcs
    obtain ⟨rfl, rfl, rfl⟩ := hcs
    exact ⟨[], InB.none_ _ _, Nat.le_refl _⟩
  · simp at hcs
    obtain ⟨rfl, rfl, rfl⟩ := hcs
    refine ⟨(List.range n).map B, ⟨by simp, fun j x hx => ⟨a, rfl, ?_⟩⟩, hl⟩
    rw [List.getElem?_map] at hx
    obtain ⟨j', hj', rfl⟩ := Option.map_eq_some_iff.1 hx
    have hlt : j < n := by have := (List.getElem?_eq_some_iff.1 hj').1; rwa [List.length_range] at this
    rw [List.getElem?_range hlt] at hj'
    cases hj'
    exact hcell j (by omega)

/-- A slice of writes that came in. -/
structure CameWrites (w : World) (A : Option Addr) (n c : Nat) (ws : List (Nat × List Nat)) : Prop where
  len : ws.length = n
  cap : n ≤ c
  row : ∀ r x, ws[r]? = some x → ∃ ad B m k, A = some ad ∧ w.cell? (ad.add (r * 2)) = some (.int .u8 (x.1 : Int)) ∧ w.cell? (ad.add (r * 2 + 1)) = some (.slice B m k) ∧ Came w B m k x.2 ∧ m ≤ 9223372036854775807 ∧ x.1 < 256

theorem CameWrites.below {w w' : World} {A : Option Addr} {n c : Nat} {ws : List (Nat × List Nat)} (h : CameWrites w A n c ws) (hb : Below w.heap.size w w') : CameWrites w' A n c ws :=
  ⟨h.len, h.cap, fun r x hx => by
    obtain ⟨ad, B, m, k, e, h1, h2, h3, h4⟩ := h.row r x hx
    exact ⟨ad, B, m, k, e, (hb.cell (World.block_lt_of_cell? w _ h1)).trans h1, (hb.cell (World.block_lt_of_cell? w _ h2)).trans h2, h3.below hb, h4⟩⟩

theorem cellsWriteArg : Try.prog.cellsOf 51 = 2 := by kernel_rfl
theorem cellsU8 : Try.prog.cellsOf 5 = 1 := by kernel_rfl
theorem cellsBs : Try.prog.cellsOf 22 = 1 := by kernel_rfl

theorem came_writes {H : Type} {enc : TypeId × Value → H} {w : World} {base fuel n c : Nat} {held : Bool} {A : Option Addr} {x : DataW H × List MemPlace} (h : DataW.trod enc Try.prog w base (fun _ => true) held fuel 42 [.slice A n c] = some x) :
    ∃ ws, CameWrites w A n c ws := by
  rcases open_slice_pairs Try.underlying42 Try.underlying51 cellsWriteArg rfl rfl cellsU8 cellsBs h with ⟨hcs, _⟩ | ⟨a, len, cap, m, q, V0, V1, D0, D1, P0, P1, hcs, _, hl, _, hm, _, hall⟩
  · simp at hcs
    obtain ⟨rfl, rfl, rfl⟩ := hcs
    exact ⟨[], rfl, Nat.le_refl _, fun r x hx => by simp at hx⟩
  · simp at hcs
    obtain ⟨rfl, rfl, rfl⟩ := hcs
    simp only [if_true] at hm
    subst hm
    have hex : ∀ r, ∃ x : Nat × List Nat, r < m → ∃ B k l, w.cell? (a.add (r * 2)) = some (.int .u8 (x.1 : Int)) ∧ w.cell? (a.add (r * 2 + 1)) = some (.slice B k l) ∧ Came w B k l x.2 ∧ k ≤ 9223372036854775807 ∧ x.1 < 256 := fun r => by
      by_cases hr : r < m
      · obtain ⟨c0, c1, t0, t1⟩ := hall r hr
        obtain ⟨z, e0, _, hw0⟩ := DataW.trod_int Try.underlying5 t0
        have hb := bounds_u8 hw0
        simp only [List.cons.injEq, and_true] at e0
        rw [e0] at c0
        obtain ⟨z', rfl⟩ := Int.eq_ofNat_of_zero_le hb.1
        rcases open_ints Try.underlying22 Try.underlying5 (by kernel_rfl) t1 with ⟨hcs, _⟩ | ⟨b, l, k, zs, hcs, _, hl2, hm2, hz, _, hcell, hwz⟩
        · simp at hcs
          rw [hcs] at c1
          exact ⟨(z', []), fun _ => ⟨none, 0, 0, c0, c1, ⟨In.none_ _ _, (by intro x hx; cases hx), fun _ => rfl, Nat.le_refl _⟩, by omega, by omega⟩⟩
        · simp at hcs
          rw [hcs] at c1
          obtain ⟨xs, hxs⟩ := came_of (w := w) (a := some b) (len := l) (cap := k) (zs := zs) (.inr ⟨b, rfl, hl2, by simpa using hz, hcell, hwz⟩)
          exact ⟨(z', xs), fun _ => ⟨some b, l, k, c0, c1, hxs, by unfold maxLen at hm2; omega, by omega⟩⟩
      · exact ⟨(0, []), fun h => absurd h hr⟩
    obtain ⟨f, hf⟩ := Classical.axiomOfChoice hex
    refine ⟨(List.range n).map f, by rw [List.length_map, List.length_range], hl, fun r x hx => ?_⟩
    rw [List.getElem?_map] at hx
    obtain ⟨r', hr', rfl⟩ := Option.map_eq_some_iff.1 hx
    have hlt : r < n := by have := (List.getElem?_eq_some_iff.1 hr').1; rwa [List.length_range] at this
    rw [List.getElem?_range hlt] at hr'
    cases hr'
    obtain ⟨B, k, l, h1, h2, h3, h4⟩ := hf r (by omega)
    exact ⟨a, B, k, l, rfl, h1, h2, h3, h4⟩

end Go.Proofs.Ytolbchknjcipiaa
