/-
  A copy of the call's own, into which is written.
-/
import Derived.Test.YtfniddnfkciblaaDoorLMem
namespace Go.Proofs.YtfniddnfkciblaaDoor
open Go.RowKit

/-- '.slice (some (g, 0)) n c' is a row of bytes that fills the beginning of block g. -/
structure Mine (w : World) (g n c : Nat) (xs : List Nat) : Prop where
  len : xs.length = n
  cap : n ≤ c
  row : ∃ cur : Array Value, w.heap[g]? = some (.cells cur 5 (0, 0)) ∧ cur.size = c ∧ cur.toList.take n = bvs xs

theorem mine_of {w : World} {base n c : Nat} {A : Option Addr} {xs : List Nat} (h : w.ownsRow base 5 1 (.slice A n c) n (bvs xs)) (hn : 0 < n) : ∃ g, A = some ⟨g, 0, none⟩ ∧ base ≤ g ∧ Mine w g n c xs := by
  rcases h.2 with ⟨_, h0⟩ | ⟨g, cap, cur, e1, hb, hg, hc, _, hs, ht⟩
  · omega
  · cases e1
    rw [Nat.mul_one] at hs ht
    exact ⟨g, rfl, hb, by have := h.1; rw [bvs_length] at this; omega, hc, cur, hg, hs, ht⟩
section
variable {w w' : World} {g n c : Nat} {xs : List Nat}
theorem Mine.lt (h : Mine w g n c xs) : g < w.heap.size := by
  obtain ⟨cur, hg, _⟩ := h.row
  exact (Array.getElem?_eq_some_iff.1 hg).1
theorem Mine.below (h : Mine w g n c xs) (hb : Below w.heap.size w w') : Mine w' g n c xs := by
  obtain ⟨cur, hg, r⟩ := h.row
  exact ⟨h.len, h.cap, cur, (hb.block g h.lt).trans hg, r⟩
theorem Mine.cell (h : Mine w g n c xs) {k x : Nat} (hx : xs[k]? = some x) : w.cell? ⟨g, k, none⟩ = some (.int .u8 (x : Int)) := by
  obtain ⟨cur, hg, hs, ht⟩ := h.row
  have hk := (List.getElem?_eq_some_iff.1 hx).1
  have e : cur.toList[k]? = some (bv x) := by
    have := bvs_get xs k
    rw [hx, ← ht, List.getElem?_take, if_pos (by rw [← h.len]; exact hk)] at this
    exact this
  rw [cell_of_row _ g k _ 5 (0, 0) hg, ← Array.getElem?_toList, e]
  rfl
theorem Mine.free (h : Mine w g n c xs) (k : Nat) : w.frozen? ⟨g, k, none⟩ = false := by
  obtain ⟨cur, hg, _⟩ := h.row
  exact frozen_of_row w g k _ 5 hg
theorem Mine.in_ (h : Mine w g n c xs) : In w (some ⟨g, 0, none⟩) n xs :=
  ⟨h.len, fun j x hx => ⟨_, rfl, by
    rw [show (⟨g, 0, none⟩ : Addr).add j = ⟨g, j, none⟩ from by unfold Addr.add; split <;> simp_all]
    exact h.cell hx⟩⟩
theorem Mine.set (h : Mine w g n c xs) (k y : Nat) : Mine (w.setCell ⟨g, k, none⟩ (.int .u8 (y : Int))) g n c (xs.set k y) := by
  obtain ⟨cur, hg, hs, ht⟩ := h.row
  refine ⟨by rw [List.length_set]; exact h.len, h.cap, cur.setIfInBounds k (.int .u8 (y : Int)), heap_setCell_same w g k _ 5 _ hg, by rw [Array.size_setIfInBounds]; exact hs, ?_⟩
  rw [Array.toList_setIfInBounds, List.take_set, ht]
  unfold bvs
  rw [List.map_set]
  rfl
end

end Go.Proofs.YtfniddnfkciblaaDoor
