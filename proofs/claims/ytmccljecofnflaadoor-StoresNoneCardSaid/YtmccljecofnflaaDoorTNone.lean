/-
  StoresNone: each of the two that are no store, asked for all; and no disk.
-/
import Derived.Test.YtmccljecofnflaaDoorTOpenNil
import Derived.Test.YtmccljecofnflaaDoorFIs
namespace Go.Proofs.YtmccljecofnflaaDoor
open Go.RowKit

def NoSto (w : World) (p : Option Addr) : Prop := p = none ∨ ∃ g, p = some ⟨g, 0, none⟩ ∧ w.cell? ⟨g, 0, none⟩ = some (.pointer none)

set_option maxRecDepth 100000 in
theorem there_no (p : Option Addr) (w : World) (h : NoSto w p) :
    Calls Tryd.prog 27 #[.pointer p] w fun e w' => e = .returned (.bool false) ∧ w = w' := by
  rcases h with rfl | ⟨g, rfl, hc⟩
  · go_enter Tryd.func27, Tryd.ntmps27
    go_wp2
    go_ret
    exact ⟨rfl, rfl⟩
  · go_enter Tryd.func27, Tryd.ntmps27
    go_wp2
    go_ret
    exact ⟨by simp, rfl⟩

set_option maxRecDepth 100000 in
theorem sget_no (p : Option Addr) (n : Value) (w : World) (h : NoSto w p) :
    Calls Tryd.prog 10 #[.pointer p, n] w fun e w' => e = .returned (.tuple #[.slice none 0 0, .int .i64 2]) ∧ w = w' := by
  go_enter Tryd.func10, Tryd.ntmps10
  go_wp2_with fail
  refine (there_no p w h).mono ?_
  rintro e w1 ⟨rfl, rfl⟩
  go_wp2
  go_ret2
  exact ⟨rfl, rfl⟩

set_option maxRecDepth 100000 in
theorem sadd_no (p : Option Addr) (b : Value) (w : World) (h : NoSto w p) :
    Calls Tryd.prog 11 #[.pointer p, b] w fun e w' => e = .returned (.int .i64 2) ∧ w = w' := by
  go_enter Tryd.func11, Tryd.ntmps11
  go_wp2_with fail
  refine (there_no p w h).mono ?_
  rintro e w1 ⟨rfl, rfl⟩
  go_wp2
  go_ret
  exact ⟨rfl, rfl⟩

set_option maxRecDepth 100000 in
theorem ssync_no (p : Option Addr) (w : World) (h : NoSto w p) :
    Calls Tryd.prog 12 #[.pointer p] w fun e w' => e = .returned (.int .i64 2) ∧ w = w' := by
  go_enter Tryd.func12, Tryd.ntmps12
  go_wp2_with fail
  refine (there_no p w h).mono ?_
  rintro e w1 ⟨rfl, rfl⟩
  go_wp2
  go_ret
  exact ⟨rfl, rfl⟩

set_option maxRecDepth 100000 in
theorem slen_no (p : Option Addr) (w : World) (h : NoSto w p) :
    Calls Tryd.prog 13 #[.pointer p] w fun e w' => e = .returned (.int .i64 0) ∧ w = w' := by
  go_enter Tryd.func13, Tryd.ntmps13
  go_wp2_with fail
  refine (there_no p w h).mono ?_
  rintro e w1 ⟨rfl, rfl⟩
  go_wp2
  go_ret
  exact ⟨rfl, rfl⟩

set_option maxRecDepth 100000 in
theorem sleft_no (p : Option Addr) (w : World) (h : NoSto w p) :
    Calls Tryd.prog 14 #[.pointer p] w fun e w' => e = .returned (.int .i64 0) ∧ w = w' := by
  go_enter Tryd.func14, Tryd.ntmps14
  go_wp2_with fail
  refine (there_no p w h).mono ?_
  rintro e w1 ⟨rfl, rfl⟩
  go_wp2
  go_ret
  exact ⟨rfl, rfl⟩

set_option maxRecDepth 100000 in
set_option maxHeartbeats 4000000 in
theorem storesNone_law (w : World) (E : Errs) (_ : Laid w E) {b n : Value} :
    Calls Tryd.prog 3 #[b, n] w fun e w' => e = .returned (.bool true) ∧ Below w.heap.size w w' := by
  have ON := fun (p : Option Addr) (f m : Value) (W : World) (h : NoDisk W p) => (callsIn_wide (n := 5)).1 (open_nil (w := W) (p := p) (f := f) (m := m) h)
  go_enter Tryd.func3, Tryd.ntmps3
  go_wp2_with fail
  obtain ⟨w2, e2⟩ : ∃ w2 : World, ((w.alloc (Obj.cells #[Value.pointer none, Value.int IntKind.i64 0, Value.int IntKind.i64 0, Value.slice none 0 0, Value.int IntKind.i64 0, Value.bool false] 29)).alloc (Obj.cells #[Value.pointer none, Value.pointer (some { block := w.heap.size, off := 0 })] 23)) = w2 := ⟨_, rfl⟩
  have hb : Below w.heap.size w w2 := by subst e2; exact ((Below.refl _ w).alloc (Nat.le_refl _) _).alloc (by simp) _
  have hn := World.alloc_heap_new (w.alloc (Obj.cells #[Value.pointer none, Value.int IntKind.i64 0, Value.int IntKind.i64 0, Value.slice none 0 0, Value.int IntKind.i64 0, Value.bool false] 29)) (Obj.cells #[Value.pointer none, Value.pointer (some { block := w.heap.size, off := 0 })] 23)
  rw [World.size_alloc] at hn
  have h0 : w2.cell? ⟨w.heap.size + 1, 0, none⟩ = some (.pointer none) := by
    subst e2
    rw [cell_of_row _ _ 0 _ _ (0, 0) hn]; rfl
  have h1 : w2.cell? ⟨w.heap.size + 1, 1, none⟩ = some (.pointer (some ⟨w.heap.size, 0, none⟩)) := by
    subst e2
    rw [cell_of_row _ _ 1 _ _ (0, 0) hn]; rfl
  have hz : w2.cell? ⟨w.heap.size, 0, none⟩ = some (.pointer none) := by
    subst e2
    have := World.alloc_heap_new w (Obj.cells #[Value.pointer none, Value.int IntKind.i64 0, Value.int IntKind.i64 0, Value.slice none 0 0, Value.int IntKind.i64 0, Value.bool false] 29)
    rw [cell_of_row _ _ 0 _ _ (0, 0) ((heap_alloc_old _ _ _ (by simp)).trans this)]; rfl
  have HP : ∀ j : Nat, j < 2 → ∃ p, w2.cell? ⟨w.heap.size + 1, j, none⟩ = some (.pointer p) ∧ NoSto w2 p := fun j hj => by
    match j, hj with
    | 0, _ => exact ⟨none, h0, .inl rfl⟩
    | 1, _ => exact ⟨_, h1, .inr ⟨_, rfl, hz⟩⟩
  have HH := Lib.hid (And.intro hb HP)
  have HON := Lib.hid ON
  clear hb HP h0 h1 hz hn ON
  rw [e2]
  clear e2
  go_loopw [6] (fun i wr => ∃ j : Nat, j ≤ 2 ∧ i = .int .i64 (j : Int) ∧ wr = w2) (fun i _ => 2 - (intOf i).toNat)
  case atStart => exact ⟨0, by omega, rfl, rfl⟩
  case round =>
    obtain ⟨j, hj, rfl, rfl⟩ := hrel
    by_cases hlt : j < 2
    · obtain ⟨p, hc, hn⟩ := HH.out.2 j hlt
      have hji : (j : Int) < 2 := by omega
      go_wp2_with (first
        | (go_at_call 10; refine (sget_no p _ _ hn).mono ?_; rintro e w3 ⟨rfl, rfl⟩)
        | (go_at_call 11; refine (sadd_no p _ _ hn).mono ?_; rintro e w3 ⟨rfl, rfl⟩)
        | (go_at_call 12; refine (ssync_no p _ hn).mono ?_; rintro e w3 ⟨rfl, rfl⟩)
        | (go_at_call 13; refine (slen_no p _ hn).mono ?_; rintro e w3 ⟨rfl, rfl⟩)
        | (go_at_call 14; refine (sleft_no p _ hn).mono ?_; rintro e w3 ⟨rfl, rfl⟩))
      go_roundw
      case rel => exact ⟨j + 1, by omega, by go_num, trivial⟩
      case measure => simp [intOf]; omega
    · have hji : decide ((j : Int) < 2) = false := by simp; omega
      go_wp2_with fail
      refine (HON.out none _ _ _ (.inl rfl)).mono ?_
      rintro e w3 ⟨rfl, hb3⟩
      have B3 := Lib.hid (below_on HH.out.1 (Nat.le_refl _) hb3)
      clear hb3
      go_wp2_with fail
      refine (HON.out (some ⟨w3.heap.size, 0, none⟩) _ _ _ (.inr ⟨_, rfl, by rw [cell_of_row _ _ 0 _ _ (0, 0) (World.alloc_heap_new w3 _)]; rfl⟩)).mono ?_
      rintro e w4 ⟨rfl, hb4⟩
      go_wp2
      go_ret
      exact ⟨rfl, below_on B3.out (Nat.le_refl _) (below_on (below_alloc w3 _) (Nat.le_refl _) (hb4.mono (by simp)))⟩

end Go.Proofs.YtmccljecofnflaaDoor
