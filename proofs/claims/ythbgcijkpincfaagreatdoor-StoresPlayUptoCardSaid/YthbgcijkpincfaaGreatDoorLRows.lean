/-
  An argument of type [][]byte, and how much it holds.
-/
import Derived.Test.YthbgcijkpincfaaGreatDoorLMem
import Derived.Test.YthbgcijkpincfaaGreatDoorLRow
import Derived.Deep.Matrix
import Derived.SizedLaws
namespace Go.Proofs.YthbgcijkpincfaaGreatDoor
open Go.ChangeShapes Go.WideShapes Go.ChangeAt Go.RowKit Go.Deep

/-- A slice of slices of bytes reads as these lists of bytes. -/
structure CameRows (w : World) (Ao : Option Addr) (no : Nat) (rows : List (List Nat)) : Prop where
  len : rows.length = no
  row : ∀ r xs, rows[r]? = some xs → ∃ ad A n c, Ao = some ad ∧ w.cell? (ad.add r) = some (.slice A n c) ∧ Came w A n c xs ∧ n ≤ 140737488355328

theorem Came.below {w w' : World} {A : Option Addr} {n c : Nat} {xs : List Nat} (h : Came w A n c xs) (hb : Below w.heap.size w w') : Came w' A n c xs := ⟨h.in_.below hb, h.lt, h.nil, h.cap⟩
theorem CameRows.below {w w' : World} {Ao : Option Addr} {no : Nat} {rows : List (List Nat)} (h : CameRows w Ao no rows) (hb : Below w.heap.size w w') : CameRows w' Ao no rows :=
  ⟨h.len, fun r xs hx => by
    obtain ⟨ad, A, n, c, e, hc, hcame, hn⟩ := h.row r xs hx
    exact ⟨ad, A, n, c, e, (hb.cell (World.block_lt_of_cell? w _ hc)).trans hc, hcame.below hb, hn⟩⟩

theorem bytesByte : Tryz.prog.bytesOf 5 = 1 := by kernel_rfl
theorem weights_all {H : Type} {e : TypeId} {l : List (DataW H)} {d : DataW H} (h : d ∈ l) : ∀ n ∈ d.weights Tryz.prog e, n ∈ DataW.weightsAll Tryz.prog e l := by
  induction l with
  | nil => cases h
  | cons x l ih =>
    intro n hn
    rw [DataW.weightsAll, List.mem_append]
    rcases List.mem_cons.1 h with rfl | h
    · exact .inl hn
    · exact .inr (ih h n hn)

theorem came_rows {H : Type} {enc : TypeId × Value → H} {w : World} {base : Nat} {held : Bool} {fuel : Nat} {cs : List Value} {x : DataW H × List MemPlace} (h : DataW.trod enc Tryz.prog w base (fun _ => true) held fuel 69 cs = some x)
    (hw : (x.1.weights Tryz.prog 69).all (· ≤ reachBytes) = true) : ∃ Ao no co rows, cs = [.slice Ao no co] ∧ CameRows w Ao no rows := by
  rcases open_int_rows Tryz.underlying69 Tryz.underlying50 Tryz.underlying5 (by kernel_rfl) (by kernel_rfl) h with ⟨rfl, _⟩ | ⟨a, len, cap, A, L, C, Z, rfl, _, hl, _, rfl, hr⟩
  · exact ⟨none, 0, 0, [], rfl, rfl, fun r xs hx => by simp at hx⟩
  · have hex : ∀ r, ∃ xs, r < cap → Came w (A r) (L r) (C r) xs := fun r => by
      by_cases hc : r < cap
      · obtain ⟨_, h1, h2, h3, h4, h5, h6⟩ := hr r hc
        cases hA : A r with
        | none =>
          have c0 := h5 hA
          obtain ⟨xs, hxs⟩ := came_of (w := w) (a := none) (len := L r) (cap := C r) (zs := []) (.inl ⟨rfl, by omega, c0⟩)
          exact ⟨xs, fun _ => hxs⟩
        | some a' =>
          obtain ⟨xs, hxs⟩ := came_of (w := w) (a := some a') (len := L r) (cap := C r) (zs := Z r) (.inr ⟨a', rfl, h1, h3, fun i hi => (h6 a' hA).2 i (by omega), h4⟩)
          exact ⟨xs, fun _ => hxs⟩
      · exact ⟨[], fun h => absurd h hc⟩
    obtain ⟨f, hf⟩ := Classical.axiomOfChoice hex
    refine ⟨some a, len, cap, (List.range len).map f, rfl, by rw [List.length_map, List.length_range], fun r xs hx => ?_⟩
    rw [List.getElem?_map] at hx
    obtain ⟨r', hr', rfl⟩ := Option.map_eq_some_iff.1 hx
    have hlt : r < len := by have := (List.getElem?_eq_some_iff.1 hr').1; rwa [List.length_range] at this
    rw [List.getElem?_range hlt] at hr'
    cases hr'
    obtain ⟨hcell, h1, h2, h3, h4, h5, h6⟩ := hr r (by omega)
    refine ⟨a, A r, L r, C r, rfl, hcell, hf r (by omega), ?_⟩
    cases hA : A r with
    | none => have := h5 hA; omega
    | some a' =>
      have hmem : intRow (H := H) .u8 (A r) (L r) (Z r) ∈ (List.range len).map (fun r => intRow (H := H) .u8 (A r) (L r) (Z r)) := List.mem_map.2 ⟨r, List.mem_range.2 hlt, rfl⟩
      have h7 := weights_all (e := 50) hmem (C r) (by
        rw [hA, intRow, DataW.weights, Tryz.underlying50]
        refine List.mem_cons.2 (.inl ?_)
        rw [bytesByte, Nat.mul_one]
        simp [lits, h3]
        omega)
      have h8 := List.all_eq_true.1 hw (C r) (by
        rw [DataW.weights, Tryz.underlying69]
        exact List.mem_cons.2 (.inr (List.mem_append.2 (.inl h7))))
      have h9 : C r ≤ reachBytes := by simpa using h8
      have := reachBytes_lt
      omega

end Go.Proofs.YthbgcijkpincfaaGreatDoor
