/-
  DisksNone: each of the two that are no disk, asked for all.
-/
import Derived.Test.YtolbchknjcipiaaDNull
namespace Go.Proofs.Ytolbchknjcipiaa
open Go.RowKit

set_option maxRecDepth 100000 in
set_option maxHeartbeats 4000000 in
theorem disksNone_law (w : World) {n b k : Value} :
    Calls Try.prog 3 #[n, b, k] w fun e w' => e = .returned (.bool true) ∧ Below w.heap.size w w' := by
  go_enter Try.func3, Try.ntmps3
  go_wp2_with fail
  obtain ⟨w2, e2⟩ : ∃ w2 : World, ((w.alloc (Obj.cells #[Value.slice none 0 0, Value.slice none 0 0, Value.slice none 0 0, Value.int IntKind.i64 0, Value.bool false] 28)).alloc
      (Obj.cells #[Value.pointer none, Value.pointer (some { block := w.heap.size, off := 0 })] 24)) = w2 := ⟨_, rfl⟩
  have hb : Below w.heap.size w w2 := by subst e2; exact ((Below.refl _ w).alloc (Nat.le_refl _) _).alloc (by simp) _
  have h0 : w2.cell? ⟨w.heap.size + 1, 0, none⟩ = some (.pointer none) := by
    subst e2
    have := World.alloc_heap_new (w.alloc (Obj.cells #[Value.slice none 0 0, Value.slice none 0 0, Value.slice none 0 0, Value.int IntKind.i64 0, Value.bool false] 28)) (Obj.cells #[Value.pointer none, Value.pointer (some { block := w.heap.size, off := 0 })] 24)
    rw [World.size_alloc] at this
    rw [cell_of_row _ _ 0 _ _ (0, 0) this]; rfl
  have h1 : w2.cell? ⟨w.heap.size + 1, 1, none⟩ = some (.pointer (some ⟨w.heap.size, 0, none⟩)) := by
    subst e2
    have := World.alloc_heap_new (w.alloc (Obj.cells #[Value.slice none 0 0, Value.slice none 0 0, Value.slice none 0 0, Value.int IntKind.i64 0, Value.bool false] 28)) (Obj.cells #[Value.pointer none, Value.pointer (some { block := w.heap.size, off := 0 })] 24)
    rw [World.size_alloc] at this
    rw [cell_of_row _ _ 1 _ _ (0, 0) this]; rfl
  have hz : w2.cell? ⟨w.heap.size, 0, none⟩ = some (.slice none 0 0) := by
    subst e2
    have := World.alloc_heap_new w (Obj.cells #[Value.slice none 0 0, Value.slice none 0 0, Value.slice none 0 0, Value.int IntKind.i64 0, Value.bool false] 28)
    rw [cell_of_row _ _ 0 _ _ (0, 0) ((heap_alloc_old _ _ (by simp)).trans this)]; rfl
  have HP : ∀ j : Nat, j < 2 → ∃ p, w2.cell? ⟨w.heap.size + 1, j, none⟩ = some (.pointer p) ∧ NoDisk w2 p := fun j hj => by
    match j, hj with
    | 0, _ => exact ⟨none, h0, .inl rfl⟩
    | 1, _ => exact ⟨_, h1, .inr ⟨_, rfl, hz⟩⟩
  have HH := Lib.hid (And.intro hb HP)
  clear hb HP h0 h1 hz
  rw [e2]
  clear e2
  go_loopw [8] (fun i wr => ∃ j : Nat, j ≤ 2 ∧ i = .int .i64 (j : Int) ∧ wr = w2) (fun i _ => 2 - (intOf i).toNat)
  case atStart => exact ⟨0, by omega, rfl, rfl⟩
  case round =>
    obtain ⟨j, hj, rfl, rfl⟩ := hrel
    by_cases hlt : j < 2
    · obtain ⟨p, hc, hn⟩ := HH.out.2 j hlt
      have hji : (j : Int) < 2 := by omega
      go_wp2_with (first
        | (go_at_call 9; refine (read_no p _ _ hn).mono ?_; rintro e w3 ⟨rfl, rfl⟩)
        | (go_at_call 10; refine (fail_no p _ _ hn).mono ?_; rintro e w3 ⟨rfl, rfl⟩)
        | (go_at_call 11; refine (write_no p _ _ _ hn).mono ?_; rintro e w3 ⟨rfl, rfl⟩)
        | (go_at_call 12; refine (sync_no p _ hn).mono ?_; rintro e w3 ⟨rfl, rfl⟩)
        | (go_at_call 13; refine (turn_no p _ _ _ _ hn).mono ?_; rintro e w3 ⟨rfl, rfl⟩)
        | (go_at_call 14; refine (fuse_no p _ _ hn).mono ?_; rintro e w3 ⟨rfl, rfl⟩)
        | (go_at_call 15; refine (blown_no p _ hn).mono ?_; rintro e w3 ⟨rfl, rfl⟩)
        | (go_at_call 16; refine (waits_no p _ hn).mono ?_; rintro e w3 ⟨rfl, rfl⟩)
        | (go_at_call 17; refine (len_no p _ hn).mono ?_; rintro e w3 ⟨rfl, rfl⟩))
      go_roundw
      case rel => exact ⟨j + 1, by omega, by go_num, trivial⟩
      case measure => simp [intOf]; omega
    · have hji : decide ((j : Int) < 2) = false := by simp; omega
      go_wp2
      go_ret
      exact ⟨rfl, HH.out.1⟩

end Go.Proofs.Ytolbchknjcipiaa
