/-
  A front in memory; fronts.New, isThere, Size, Sums.
-/
import Derived.Test.YtijiolebcnlfgaaGreatDoorGMerged
import Derived.Test.YtijiolebcnlfgaaGreatDoorVSApp
namespace Go.Proofs.YtijiolebcnlfgaaGreatDoor
open Go.RowKit

/-- Block g is the front of the first n of the sums f. -/
structure FrontAt (w : World) (g : Nat) (f : Nat → List Nat) (n : Nat) (A : Option Addr) (c : Nat) : Prop where
  row : w.heap[g]? = some (.cells #[.bool true, .int .u64 (n : Int), .slice A (pop n) c] 51 (0, 0))
  trees : InS w A (pop n) (fr f 0 n).flatten
  cap : pop n ≤ c
  nil : A = none → c = 0
  off : ∀ ad, A = some ad → ad.block ≠ g
def Front (w : World) (g : Nat) (f : Nat → List Nat) (n : Nat) : Prop := ∃ A c, FrontAt w g f n A c

section
variable {w w' : World} {g : Nat} {f : Nat → List Nat} {n c : Nat} {A : Option Addr}
theorem FrontAt.lt (h : FrontAt w g f n A c) : g < w.heap.size := (Array.getElem?_eq_some_iff.1 h.row).1
theorem FrontAt.made (h : FrontAt w g f n A c) : w.cell? ⟨g, 0, none⟩ = some (.bool true) := (cell_of_row _ g 0 _ _ (0, 0) h.row).trans rfl
theorem FrontAt.size (h : FrontAt w g f n A c) : w.cell? ⟨g, 1, none⟩ = some (.int .u64 (n : Int)) := (cell_of_row _ g 1 _ _ (0, 0) h.row).trans rfl
theorem FrontAt.list (h : FrontAt w g f n A c) : w.cell? ⟨g, 2, none⟩ = some (.slice A (pop n) c) := (cell_of_row _ g 2 _ _ (0, 0) h.row).trans rfl
theorem FrontAt.free (h : FrontAt w g f n A c) (i : Nat) : w.frozen? ⟨g, i, none⟩ = false := frozen_of_row w g i _ _ h.row
theorem FrontAt.below (h : FrontAt w g f n A c) (hb : Below w.heap.size w w') : FrontAt w' g f n A c := ⟨(hb.block _ h.lt).trans h.row, h.trees.below hb, h.cap, h.nil, h.off⟩
theorem Front.below (h : Front w g f n) (hb : Below w.heap.size w w') : Front w' g f n := by
  obtain ⟨A, c, h⟩ := h
  exact ⟨A, c, h.below hb⟩
theorem Front.lt (h : Front w g f n) : g < w.heap.size := by
  obtain ⟨A, c, h⟩ := h
  exact h.lt
theorem inS_blocks {w w' : World} {A : Option Addr} {n : Nat} {ys : List Nat} (h : InS w A n ys) (hb : ∀ ad, A = some ad → w'.heap[ad.block]? = w.heap[ad.block]?) : InS w' A n ys :=
  ⟨h.len, fun j x hx => by
    obtain ⟨ad, e, hc⟩ := h.rd j x hx
    refine ⟨ad, e, ?_⟩
    rw [← hc]
    have := hb ad e
    rw [← block_add ad j] at this
    simp [World.cell?, this]⟩
/-- What turns elsewhere is nothing to a front. -/
theorem FrontAt.keep (h : FrontAt w g f n A c) (hg : w'.heap[g]? = w.heap[g]?) (hb : ∀ ad, A = some ad → w'.heap[ad.block]? = w.heap[ad.block]?) : FrontAt w' g f n A c :=
  ⟨hg.trans h.row, inS_blocks h.trees hb, h.cap, h.nil, h.off⟩
theorem Front.congr {f' : Nat → List Nat} (h : Front w g f n) (hf : ∀ j, j < n → f j = f' j) : Front w g f' n := by
  obtain ⟨A, c, h⟩ := h
  refine ⟨A, c, h.row, ?_, h.cap, h.nil, h.off⟩
  have e := fr_congr f f' n 0 0 fun j hj => by rw [Nat.zero_add]; exact hf j hj
  rw [← e]
  exact h.trees
end

/-- The sums are sums. -/
structure Sums32 (f : Nat → List Nat) (n : Nat) : Prop where
  len : ∀ j, j < n → (f j).length = 32
  lt : ∀ j, j < n → ∀ x ∈ f j, x < 256
theorem Sums32.mono {f : Nat → List Nat} {n m : Nat} (h : Sums32 f n) (hm : m ≤ n) : Sums32 f m := ⟨fun j hj => h.len j (by omega), fun j hj => h.lt j (by omega)⟩
theorem Sums32.fr32 {f : Nat → List Nat} {n : Nat} (h : Sums32 f n) : ∀ x ∈ fr f 0 n, x.length = 32 := fr_of (P := fun l => l.length = 32) sha_length f n 0 fun j hj => by rw [Nat.zero_add]; exact h.len j hj
theorem Sums32.frlt {f : Nat → List Nat} {n : Nat} (h : Sums32 f n) : ∀ x ∈ fr f 0 n, ∀ y ∈ x, y < 256 := fr_of (P := fun l => ∀ y ∈ l, y < 256) sha_lt f n 0 fun j hj => by rw [Nat.zero_add]; exact h.lt j hj

set_option maxRecDepth 100000 in
set_option maxHeartbeats 1000000 in
theorem new_front (f : Nat → List Nat) (w : World) : Calls Tryz.prog 4 #[] w fun e w' => e = .returned (.pointer (some ⟨w.heap.size, 0, none⟩)) ∧ Front w' w.heap.size f 0 ∧ Below w.heap.size w w' := by
  go_enter Tryz.func4, Tryz.ntmps4
  go_wp2
  go_ret
  refine ⟨rfl, ⟨none, 0, by rw [pop_zero]; exact World.alloc_heap_new w _, ?_, by rw [pop_zero]; exact Nat.le_refl _, fun _ => rfl, fun ad e => by cases e⟩, below_alloc w _⟩
  rw [fr_nil, pop_zero]
  exact InS.none_ _ _

set_option maxRecDepth 100000 in
set_option maxHeartbeats 1000000 in
theorem there_yes {w : World} {g : Nat} (hc : w.cell? ⟨g, 0, none⟩ = some (.bool true)) : Calls Tryz.prog 14 #[.pointer (some ⟨g, 0, none⟩)] w fun e w' => e = .returned (.bool true) ∧ w' = w := by
  go_enter Tryz.func14, Tryz.ntmps14
  go_wp2
  go_ret
  exact ⟨rfl, rfl⟩

set_option maxRecDepth 100000 in
set_option maxHeartbeats 1000000 in
theorem there_no {w : World} {g : Nat} (hc : w.cell? ⟨g, 0, none⟩ = some (.bool false)) : Calls Tryz.prog 14 #[.pointer (some ⟨g, 0, none⟩)] w fun e w' => e = .returned (.bool false) ∧ w' = w := by
  go_enter Tryz.func14, Tryz.ntmps14
  go_wp2
  go_ret
  exact ⟨rfl, rfl⟩

set_option maxRecDepth 100000 in
set_option maxHeartbeats 1000000 in
theorem there_nil (w : World) : Calls Tryz.prog 14 #[.pointer none] w fun e w' => e = .returned (.bool false) ∧ w' = w := by
  go_enter Tryz.func14, Tryz.ntmps14
  go_wp2
  go_ret
  exact ⟨rfl, rfl⟩

set_option maxRecDepth 100000 in
set_option maxHeartbeats 1000000 in
theorem size_front {w : World} {g : Nat} {f : Nat → List Nat} {n : Nat} (h : Front w g f n) : Calls Tryz.prog 6 #[.pointer (some ⟨g, 0, none⟩)] w fun e w' => e = .returned (.int .u64 (n : Int)) ∧ w' = w := by
  obtain ⟨A, c, h⟩ := h
  have C := Lib.hid (there_yes h.made)
  have c1 := h.size
  clear h
  go_enter Tryz.func6, Tryz.ntmps6
  go_wp2_with fail
  refine C.out.mono ?_
  rintro e w' ⟨rfl, rfl⟩
  go_wp2_with fail
  go_ret
  exact ⟨rfl, rfl⟩

set_option maxRecDepth 100000 in
set_option maxHeartbeats 1000000 in
theorem cloneS_any (A : Option Addr) (n c : Nat) (ys : List Nat) (w : World) (hin : InS w A n ys) (hnil : A = none → c = 0) (hn : n ≤ 1000000) :
    Calls Tryz.prog 15 #[.slice A n c] w fun e w' => ∃ A' c', e = .returned (.slice A' n c') ∧ w'.ownsRow w.heap.size 40 32 (.slice A' n c') n (bvs ys) ∧ Below w.heap.size w w' := by
  have qT : ∀ (w : World) (a : Option Addr) (n c n' c' : Nat), (binOp .eql 22 (.slice a n c) (.slice none n' c')).run Tryz.prog w = .ok (.bool a.isNone) w := fun w a n c n' c' => Lib.run_eql_slice_nil w _ _ a n c n' c' Tryz.underlying22
  cases A with
  | none =>
    obtain rfl : ys = [] := by
      cases ys with
      | nil => rfl
      | cons y ys => obtain ⟨ad, e, _⟩ := hin.rd 0 y rfl; cases e
    obtain rfl : n = 0 := by have := hin.len; simp at this; omega
    go_enter Tryz.func15, Tryz.ntmps15
    go_wp2
    go_ret
    exact ⟨none, 0, rfl, own_none _ _ _ _, Below.refl _ _⟩
  | some ad =>
    have hown0 : (w.alloc (Obj.cells #[] 40)).ownsRow w.heap.size 40 32 (.slice (some ⟨w.heap.size, 0, none⟩) 0 0) 0 (bvs []) :=
      ⟨rfl, .inr ⟨w.heap.size, 0, #[], rfl, Nat.le_refl _, World.alloc_heap_new w _, Nat.le_refl _, Nat.zero_le _, rfl, rfl⟩⟩
    have hbA := below_alloc w (Obj.cells #[] 40)
    have HO := Lib.hid (And.intro hown0 (And.intro hbA (hin.below hbA)))
    clear hown0 hbA hin hnil
    go_enter Tryz.func15, Tryz.ntmps15
    go_wp2_with (refine wpList_step fun K hK => ?_; refine step_sapp (K := K) (by rfl) _ _ (by rfl) w.heap.size (some ⟨w.heap.size, 0, none⟩) 0 0 [] (by rfl) HO.out.1 (some ad) n c ys (by rfl) HO.out.2.2 (fun e => by cases e) (by omega) (by simp) ?_; intro A2 c2 w2 ow2 nx2; refine hK _ _ ?_; clear hK K)
    have hb2 := nx2.below HO.out.1 HO.out.2.1 (Nat.le_refl _) (by simp)
    rw [Nat.zero_add, List.nil_append] at ow2
    go_ret
    refine ⟨A2, c2, ?_, ow2, hb2⟩
    simp

set_option maxRecDepth 100000 in
set_option maxHeartbeats 1000000 in
theorem sums_front {w : World} {g : Nat} {f : Nat → List Nat} {n : Nat} (h : Front w g f n) (hn : n ≤ 1000000) : Calls Tryz.prog 5 #[.pointer (some ⟨g, 0, none⟩)] w fun e w' =>
    ∃ A' c', e = .returned (.slice A' (pop n) c') ∧ w'.ownsRow w.heap.size 40 32 (.slice A' (pop n) c') (pop n) (bvs (fr f 0 n).flatten) ∧ Below w.heap.size w w' := by
  obtain ⟨A, c, h⟩ := h
  have C := Lib.hid (there_yes h.made)
  have D := Lib.hid (cloneS_any A (pop n) c _ w h.trees h.nil (Nat.le_trans (pop_le n) hn))
  have c1 := h.list
  clear h
  go_enter Tryz.func5, Tryz.ntmps5
  go_wp2_with fail
  refine C.out.mono ?_
  rintro e w' ⟨rfl, rfl⟩
  go_wp2_with fail
  refine D.out.mono ?_
  rintro e w2 ⟨A', c', rfl, ho, hb⟩
  have HO := Lib.hid ho
  clear ho
  go_wp2_with fail
  go_ret
  exact ⟨A', c', rfl, HO.out, hb⟩

end Go.Proofs.YtijiolebcnlfgaaGreatDoor
