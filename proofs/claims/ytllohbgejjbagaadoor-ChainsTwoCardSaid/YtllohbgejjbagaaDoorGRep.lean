/-
  A front in memory; fronts.New, isThere, Size, Sums.
-/
import Derived.Test.YtllohbgejjbagaaDoorGMerged
import Derived.Test.YtllohbgejjbagaaDoorVSApp
namespace Go.Proofs.YtllohbgejjbagaaDoor
open Go.RowKit

/-- Block g is the front of the first n of the sums f. -/
structure FrontAt (w : World) (g : Nat) (f : Nat → List Nat) (n : Nat) (A : Option Addr) (c : Nat) : Prop where
  row : w.heap[g]? = some (.cells #[.bool true, .int .u64 (n : Int), .slice A (pop n) c] 85 (0, 0))
  trees : InS w A (pop n) (fr f 0 n).flatten
  cap : pop n ≤ c
  nil : A = none → c = 0
  off : ∀ ad, A = some ad → ad.block ≠ g
def Front (w : World) (g : Nat) (f : Nat → List Nat) (n : Nat) : Prop := ∃ A c, FrontAt w g f n A c

section
variable {w w' : World} {g : Nat} {f : Nat → List Nat} {n c : Nat} {A : Option Addr}
theorem FrontAt.lt (h : FrontAt w g f n A c) : g < w.heap.size := (Array.getElem?_eq_some_iff.1 h.row).1
theorem FrontAt.made (h : FrontAt w g f n A c) : w.cell? ⟨g, 0, none⟩ = some (.bool true) := (cell_of_row _ g 0 _ _ (0, 0) h.row).trans rfl
theorem FrontAt.size (h : FrontAt w g f n A c) : w.cell? ⟨g, 1, none⟩ = some (.int .u64 (n : Int)) := (cell_of_row _ g 1 _ _ (0, 0) h.row).trans rfl
theorem FrontAt.list (h : FrontAt w g f n A c) : w.cell? ⟨g, 2, none⟩ = some (.slice A (pop n) c) := (cell_of_row _ g 2 _ _ (0, 0) h.row).trans rfl
theorem FrontAt.free (h : FrontAt w g f n A c) (i : Nat) : w.frozen? ⟨g, i, none⟩ = false := frozen_of_row w g i _ _ h.row
theorem FrontAt.below (h : FrontAt w g f n A c) (hb : Below w.heap.size w w') : FrontAt w' g f n A c := ⟨(hb.block _ h.lt).trans h.row, h.trees.below hb, h.cap, h.nil, h.off⟩
theorem Front.below (h : Front w g f n) (hb : Below w.heap.size w w') : Front w' g f n := by
  obtain ⟨A, c, h⟩ := h
  exact ⟨A, c, h.below hb⟩
theorem Front.lt (h : Front w g f n) : g < w.heap.size := by
  obtain ⟨A, c, h⟩ := h
  exact h.lt
theorem inS_blocks {w w' : World} {A : Option Addr} {n : Nat} {ys : List Nat} (h : InS w A n ys) (hb : ∀ ad, A = some ad → w'.heap[ad.block]? = w.heap[ad.block]?) : InS w' A n ys :=
  ⟨h.len, fun j x hx => by
    obtain ⟨ad, e, hc⟩ := h.rd j x hx
    refine ⟨ad, e, ?_⟩
    rw [← hc]
    have := hb ad e
    rw [← block_add ad j] at this
    simp [World.cell?, this]⟩
/-- What turns elsewhere is nothing to a front. -/
theorem FrontAt.keep (h : FrontAt w g f n A c) (hg : w'.heap[g]? = w.heap[g]?) (hb : ∀ ad, A = some ad → w'.heap[ad.block]? = w.heap[ad.block]?) : FrontAt w' g f n A c :=
  ⟨hg.trans h.row, inS_blocks h.trees hb, h.cap, h.nil, h.off⟩
theorem Front.congr {f' : Nat → List Nat} (h : Front w g f n) (hf : ∀ j, j < n → f j = f' j) : Front w g f' n := by
  obtain ⟨A, c, h⟩ := h
  refine ⟨A, c, h.row, ?_, h.cap, h.nil, h.off⟩
  have e := fr_congr f f' n 0 0 fun j hj => by rw [Nat.zero_add]; exact hf j hj
  rw [← e]
  exact h.trees
end

/-- The sums are sums. -/
structure Sums32 (f : Nat → List Nat) (n : Nat) : Prop where
  len : ∀ j, j < n → (f j).length = 32
  lt : ∀ j, j < n → ∀ x ∈ f j, x < 256
theorem Sums32.mono {f : Nat → List Nat} {n m : Nat} (h : Sums32 f n) (hm : m ≤ n) : Sums32 f m := ⟨fun j hj => h.len j (by omega), fun j hj => h.lt j (by omega)⟩
theorem Sums32.fr32 {f : Nat → List Nat} {n : Nat} (h : Sums32 f n) : ∀ x ∈ fr f 0 n, x.length = 32 := fr_of (P := fun l => l.length = 32) sha_length f n 0 fun j hj => by rw [Nat.zero_add]; exact h.len j hj
theorem Sums32.frlt {f : Nat → List Nat} {n : Nat} (h : Sums32 f n) : ∀ x ∈ fr f 0 n, ∀ y ∈ x, y < 256 := fr_of (P := fun l => ∀ y ∈ l, y < 256) sha_lt f n 0 fun j hj => by rw [Nat.zero_add]; exact h.lt j hj

set_option maxRecDepth 100000 in
set_option maxHeartbeats 1000000 in
theorem new_front (f : Nat → List Nat) (w : World) : Calls Tryd.prog 55 #[] w fun e w' => e = .returned (.pointer (some ⟨w.heap.size, 0, none⟩)) ∧ Front w' w.heap.size f 0 ∧ Below w.heap.size w w' := by
  go_enter Tryd.func55, Tryd.ntmps55
  go_wp2
  go_ret
  refine ⟨rfl, ⟨none, 0, by rw [pop_zero]; exact World.alloc_heap_new w _, ?_, by rw [pop_zero]; exact Nat.le_refl _, fun _ => rfl, fun ad e => by cases e⟩, below_alloc w _⟩
  rw [fr_nil, pop_zero]
  exact InS.none_ _ _

set_option maxRecDepth 100000 in
set_option maxHeartbeats 1000000 in
theorem there_yes {w : World} {g : Nat} (hc : w.cell? ⟨g, 0, none⟩ = some (.bool true)) : Calls Tryd.prog 45 #[.pointer (some ⟨g, 0, none⟩)] w fun e w' => e = .returned (.bool true) ∧ w' = w := by
  go_enter Tryd.func45, Tryd.ntmps45
  go_wp2
  go_ret
  exact ⟨rfl, rfl⟩

set_option maxRecDepth 100000 in
set_option maxHeartbeats 1000000 in
theorem fthere_no {w : World} {g : Nat} (hc : w.cell? ⟨g, 0, none⟩ = some (.bool false)) : Calls Tryd.prog 45 #[.pointer (some ⟨g, 0, none⟩)] w fun e w' => e = .returned (.bool false) ∧ w' = w := by
  go_enter Tryd.func45, Tryd.ntmps45
  go_wp2
  go_ret
  exact ⟨rfl, rfl⟩

set_option maxRecDepth 100000 in
set_option maxHeartbeats 1000000 in
theorem there_nil (w : World) : Calls Tryd.prog 45 #[.pointer none] w fun e w' => e = .returned (.bool false) ∧ w' = w := by
  go_enter Tryd.func45, Tryd.ntmps45
  go_wp2
  go_ret
  exact ⟨rfl, rfl⟩

set_option maxRecDepth 100000 in
set_option maxHeartbeats 1000000 in
theorem size_front {w : World} {g : Nat} {f : Nat → List Nat} {n : Nat} (h : Front w g f n) : Calls Tryd.prog 35 #[.pointer (some ⟨g, 0, none⟩)] w fun e w' => e = .returned (.int .u64 (n : Int)) ∧ w' = w := by
  obtain ⟨A, c, h⟩ := h
  have C := Lib.hid (there_yes h.made)
  have c1 := h.size
  clear h
  go_enter Tryd.func35, Tryd.ntmps35
  go_wp2_with fail
  refine C.out.mono ?_
  rintro e w' ⟨rfl, rfl⟩
  go_wp2_with fail
  go_ret
  exact ⟨rfl, rfl⟩

end Go.Proofs.YtllohbgejjbagaaDoor
