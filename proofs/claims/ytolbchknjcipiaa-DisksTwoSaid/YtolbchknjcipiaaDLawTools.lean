/-
  What several statements ask: a prelude, all five sectors, a copy in which a byte is turned.
-/
import Derived.Test.YtolbchknjcipiaaDAlive
import Derived.Test.YtolbchknjcipiaaLTwinsB
import Derived.Test.YtolbchknjcipiaaLSameLists
namespace Go.Proofs.Ytolbchknjcipiaa
open Go.RowKit

theorem all_five {w : World} {g : Nat} {base : Nat} {s : St} (h : Above base w g s) (h5 : s.sure.length = 5) :
    Calls Try.prog 20 #[.pointer (some ⟨g, 0, none⟩)] w fun e w' => ∃ (A : Option Addr) (c : Nat), e = .returned (.slice A 5 c) ∧ Fixed (Newly w w') w' (fun w => CameRows w A 5 s.read) ∧ Below w.heap.size w w' := by
  obtain ⟨F, hd, _⟩ := h
  have e : s.read.length = 5 := by rw [s.read_length, h5]
  have := all_any hd
  unfold Shown at this
  rw [e] at this
  exact this

theorem wst_all {ws : List (Nat × List Nat)} {n t : Nat} (hn : ws.length = n) (ht : n ≤ t) : wst ws t n = ⟨zeros 5, ws.map asW, -1, false⟩ := by
  unfold wst
  rw [if_neg (by omega), List.take_of_length_le (by omega)]

/-- A copy of rows, in which a byte is turned. -/
theorem Twins.turn {w : World} {g : Nat} {rows : List (List Nat)} (h : Twins w g rows) (hl : ∀ xs ∈ rows, (∀ x ∈ xs, x < 256) ∧ xs.length ≤ 1000) {r k : Nat} {xs : List Nat} (hx : rows[r]? = some xs) (hk : k < xs.length) :
    ∃ b, g < b ∧ w.cell? ⟨g, r, none⟩ = some (.slice (some ⟨b, 0, none⟩) xs.length (xs.length + 1)) ∧ Twin w b xs.length xs ∧
      ∀ v : Nat, v < 256 → CameRows (w.setCell ⟨b, k, none⟩ (.int .u8 (v : Int))) (some ⟨g, 0, none⟩) rows.length (rows.set r (xs.set k v)) := by
  obtain ⟨bl, vals, m, h1, h2, h3, h4, h5, h6⟩ := h.some_
  have hr := (List.getElem?_eq_some_iff.1 hx).1
  have hb : bl[r]? = some bl[r] := List.getElem?_eq_getElem (by omega)
  obtain ⟨hgb, htw⟩ := h3 r _ xs hb hx
  have hcell : ∀ i b ys, bl[i]? = some b → rows[i]? = some ys → w.cell? ⟨g, i, none⟩ = some (.slice (some ⟨b, 0, none⟩) ys.length (ys.length + 1)) := fun i b ys hi hy => by
    have hil := (List.getElem?_eq_some_iff.1 hi).1
    rw [cell_of_row _ g i _ _ (0, 0) h4, List.getElem?_toArray, List.getElem?_append_left (by rw [h2.len]; omega)]
    exact h2.at_ i b ys hi hy
  refine ⟨bl[r], hgb, hcell r _ xs hb hx, htw, fun v hv => ⟨List.length_set, fun i ys hy => ?_⟩⟩
  have hi := (List.getElem?_eq_some_iff.1 hy).1
  rw [List.length_set] at hi
  have hbi : bl[i]? = some bl[i] := List.getElem?_eq_getElem (by omega)
  have hgr : (w.setCell ⟨bl[r], k, none⟩ (.int .u8 (v : Int))).heap[g]? = w.heap[g]? := heap_setCell_other w ⟨bl[r], k, none⟩ g _ (Nat.ne_of_lt hgb)
  by_cases e : i = r
  · subst e
    rw [List.getElem?_set_self hr] at hy
    cases hy
    refine ⟨_, some ⟨bl[i], 0, none⟩, xs.length, xs.length + 1, rfl, ?_, ?_, ?_⟩
    · rw [show (⟨g, 0, none⟩ : Addr).add i = ⟨g, i, none⟩ from by unfold Addr.add; split <;> simp_all]
      exact (World.cell?_of_block hgr).trans (hcell i _ xs hb hx)
    · have ht2 : Twin (w.setCell ⟨bl[i], k, none⟩ (.int .u8 (v : Int))) bl[i] xs.length (xs.set k v) := by
        refine ⟨List.length_set, ?_⟩
        rw [heap_setCell_same w bl[i] k _ _ (.int .u8 (v : Int)) htw.2, List.setIfInBounds_toArray]
        have : (bvs (xs ++ [77])).set k (.int .u8 (v : Int)) = bvs (xs.set k v ++ [77]) := by
          unfold bvs
          rw [← List.set_append_left _ _ hk, List.map_set]
          rfl
        rw [this]
      refine ⟨ht2.in_, fun y hy => ?_, (fun h => by cases h), Nat.le_succ _⟩
      rcases List.mem_or_eq_of_mem_set hy with h7 | h7
      · exact (hl xs (List.mem_of_getElem? hx)).1 y h7
      · rw [h7]; exact hv
    · have := (hl xs (List.mem_of_getElem? hx)).2; omega
  · rw [List.getElem?_set_ne (by omega)] at hy
    obtain ⟨hgi, hti⟩ := h3 i _ ys hbi hy
    have hp := List.pairwise_iff_getElem.1 h6
    have hne : bl[i] ≠ bl[r] := by
      rcases Nat.lt_or_gt_of_ne e with hlt | hlt
      · exact hp i r (by omega) (by omega) hlt
      · exact (hp r i (by omega) (by omega) hlt).symm
    have hk2 := (hl ys (List.mem_of_getElem? hy))
    refine ⟨_, some ⟨bl[i], 0, none⟩, ys.length, ys.length + 1, rfl, ?_, ?_, by omega⟩
    · rw [show (⟨g, 0, none⟩ : Addr).add i = ⟨g, i, none⟩ from by unfold Addr.add; split <;> simp_all]
      exact (World.cell?_of_block hgr).trans (hcell i _ ys hbi hy)
    · have ht2 : Twin (w.setCell ⟨bl[r], k, none⟩ (.int .u8 (v : Int))) bl[i] ys.length ys := ⟨hti.1, (heap_setCell_other w ⟨bl[r], k, none⟩ bl[i] _ hne).trans hti.2⟩
      exact ⟨ht2.in_, hk2.1, (fun h => by cases h), Nat.le_succ _⟩

theorem tot_five {R : List (List Nat)} (h : ∀ x ∈ R, Sec x) : tot R = 64 * R.length := by
  unfold tot
  induction R with
  | nil => rfl
  | cons s R ih =>
    rw [List.map_cons, List.sum_cons, ih (fun x hx => h x (by simp [hx])), (h s (by simp)).1, List.length_cons]
    omega

end Go.Proofs.Ytolbchknjcipiaa
