/-
  bytes.Clone; Get.
-/
import Derived.Test.YthbgcijkpincfaaGreatDoorTSto
namespace Go.Proofs.YthbgcijkpincfaaGreatDoor
open Go.RowKit

set_option maxRecDepth 100000 in
set_option maxHeartbeats 1000000 in
theorem clone_bytes (A : Option Addr) (n c : Nat) (xs : List Nat) (w : World) (hin : In w A n xs) (hA : A = none → c = 0) (hnc : n ≤ c) (hn : n ≤ 1000000000) :
    Calls Tryz.prog 92 #[.slice A n c] w fun e w' => ∃ v, e = .returned v ∧ w'.ownsRow w.heap.size 5 1 v n (bvs xs) ∧ Below w.heap.size w w' := by
  have qT : ∀ (w : World) (a : Option Addr) (n c n' c' : Nat), (binOp .eql 50 (.slice a n c) (.slice none n' c')).run Tryz.prog w = .ok (.bool a.isNone) w := fun w a n c n' c' => Lib.run_eql_slice_nil w _ _ a n c n' c' Tryz.underlying50
  cases A with
  | none =>
    obtain rfl := hA rfl
    obtain rfl : n = 0 := by omega
    have : xs = [] := List.length_eq_zero_iff.1 hin.len
    subst this
    clear hA hin hnc hn
    go_enter Tryz.func92, Tryz.ntmps92
    go_wp2
    go_ret
    exact ⟨_, rfl, ⟨rfl, .inl ⟨rfl, rfl⟩⟩, Below.refl _ _⟩
  | some a =>
    have H := Lib.hid hin
    clear hin
    go_enter Tryz.func92, Tryz.ntmps92
    have h0 : (w.alloc (.cells #[] 5)).ownsRow w.heap.size 5 1 (.slice (some ⟨w.heap.size, 0, none⟩) 0 0) 0 (bvs []) :=
      ⟨rfl, .inr ⟨w.heap.size, 0, #[], rfl, Nat.le_refl _, World.alloc_heap_new w _, Nat.le_refl _, (by unfold maxLen; omega), rfl, rfl⟩⟩
    go_wp2_with (
      at_builtin
      refine wpList_app (w.alloc (.cells #[] 5)) rfl _ _ rfl w.heap.size (some ⟨w.heap.size, 0, none⟩) 0 0 [] rfl h0 (some a) n c xs rfl (H.out.below (below_alloc w _)) (fun h => by cases h) (by omega) (by simp) ?_
      intro A' c' w' ho hb)
    go_ret
    rw [Nat.zero_add, List.nil_append] at ho
    exact ⟨_, rfl, ho, (below_alloc w _).trans hb⟩

set_option maxRecDepth 100000 in
set_option maxHeartbeats 1000000 in
theorem get_sto {w : World} {g gd from_ many : Nat} {v : Value} {vals : List Value} {G : Nat → Prop} {l : List (List Nat)} {down : Bool} {k : Nat} {b : List Nat} (h : StoAt w g gd from_ many v vals G l down) (hb : l[k]? = some b) :
    Calls Tryz.prog 32 #[.pointer (some ⟨g, 0, none⟩), .int .i64 (k : Int)] w fun e w' => ∃ u, e = .returned (.tuple #[u, .int .i64 0]) ∧ w'.ownsRow w.heap.size 5 1 u b.length (bvs b) ∧ Below w.heap.size w w' := by
  have C := there_sto h
  have c3 := h.c3
  have hk := (List.getElem?_eq_some_iff.1 hb).1
  obtain ⟨u, hu⟩ : ∃ u, vals[k]? = some u := ⟨_, List.getElem?_eq_getElem (by rw [h.len]; exact hk)⟩
  have hr := h.recs k u b hu hb
  have hbl := (h.ok b (List.mem_of_getElem? hb)).1
  obtain ⟨A, c, rfl, hnc, hA, _⟩ := row_form h.row
  obtain ⟨g0, rfl⟩ := hA (by omega)
  have cu := h.row.cells rfl k u hu
  obtain ⟨B, d, rfl, hbd, _⟩ := row_form hr.1
  have hB := own_nil hr.1
  have CC := clone_bytes B b.length d b w (In.of_own hr.1) hB hbd (by omega)
  have hki : (k : Int) < (l.length : Int) := by omega
  have hk0 : decide ((k : Int) < 0) = false := by simp
  have hk1 : ¬ l.length ≤ k := by omega
  have cu1 : w.cell? ⟨g0, k, none⟩ = some (.slice B b.length d) := by
    have e : (⟨g0, 0, none⟩ : Addr).add k = ⟨g0, k, none⟩ := by cases k <;> simp [Addr.add]
    rw [← e]; exact cu
  clear h hb hr hu hA hnc cu
  go_enter Tryz.func32, Tryz.ntmps32
  go_wp2_with fail
  refine C.mono ?_
  rintro e w1 ⟨rfl, rfl⟩
  go_wp2_with fail
  refine CC.mono ?_
  rintro e w1 ⟨u, rfl, ho, hb1⟩
  go_wp2
  go_ret2
  exact ⟨_, rfl, ho, hb1⟩

set_option maxRecDepth 100000 in
set_option maxHeartbeats 1000000 in
theorem get_bad {w : World} {g gd from_ many : Nat} {v : Value} {vals : List Value} {G : Nat → Prop} {l : List (List Nat)} {down : Bool} {z : Int} (h : StoAt w g gd from_ many v vals G l down) (hz : ¬ (0 ≤ z ∧ z < (l.length : Int))) :
    Calls Tryz.prog 32 #[.pointer (some ⟨g, 0, none⟩), .int .i64 z] w fun e w' => e = .returned (.tuple #[.slice none 0 0, .int .i64 1]) ∧ w = w' := by
  have C := there_sto h
  have c3 := h.c3
  obtain ⟨A, c, rfl, hnc, _⟩ := row_form h.row
  clear h hnc
  by_cases h0 : z < 0
  · go_enter Tryz.func32, Tryz.ntmps32
    go_wp2_with fail
    refine C.mono ?_
    rintro e w1 ⟨rfl, rfl⟩
    go_wp2
    go_ret2
    exact ⟨rfl, rfl⟩
  · have h1 : ¬ z < (l.length : Int) := by omega
    have h0' : decide (z < 0) = false := by simp; omega
    go_enter Tryz.func32, Tryz.ntmps32
    go_wp2_with fail
    refine C.mono ?_
    rintro e w1 ⟨rfl, rfl⟩
    go_wp2
    go_ret2
    exact ⟨rfl, rfl⟩

end Go.Proofs.YthbgcijkpincfaaGreatDoor
