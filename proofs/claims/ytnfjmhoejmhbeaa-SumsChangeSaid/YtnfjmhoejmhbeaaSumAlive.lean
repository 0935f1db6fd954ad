/-
  almonerlaw04.alive: the chapter's examples.
-/
import Derived.Test.YtnfjmhoejmhbeaaSumOn
import Derived.Lib.SmallJoins
namespace Go.Proofs.Ytnfjmhoejmhbeaa
open Go.RowKit

theorem In.lit (W : World) (xs : List Nat) (fr : Nat × Nat) : In (W.alloc (.cells (bvs xs).toArray 5 fr)) (some ⟨W.heap.size, 0, none⟩) xs.length xs :=
  ⟨rfl, fun j x hx => ⟨_, rfl, by
    rw [show (⟨W.heap.size, 0, none⟩ : Addr).add j = ⟨W.heap.size, j, none⟩ from by unfold Addr.add; split <;> simp_all]
    rw [cell_of_row _ W.heap.size j _ 5 fr (World.alloc_heap_new W _), List.getElem?_toArray, bvs_get, hx]
    rfl⟩⟩
theorem below_then {n : Nat} {w w1 w2 : World} (h : Below n w w1) (hn : n ≤ w.heap.size) (k : Below w1.heap.size w1 w2) : Below n w w2 := h.trans (k.mono (Nat.le_trans hn h.size))
def wiki : List Nat := [87, 105, 107, 105, 112, 101, 100, 105, 97]

set_option maxRecDepth 100000 in
set_option maxHeartbeats 1000000 in
theorem alive_any (w : World) : Calls Try.prog 15 #[] w fun e W' => e = .returned (.bool true) ∧ Below w.heap.size w W' := by
  obtain ⟨a1, a2, a3, a4, a5, a6⟩ := alive_some
  have h1 := fun W => of_any none 0 0 [] W (In.none_ _ _) (by simp) (fun _ => rfl) (by omega) (by omega)
  have h2 := fun W => of_any (some ⟨W.heap.size, 0, none⟩) 9 9 wiki (W.alloc (.cells (bvs wiki).toArray 5 (9, 10))) (In.lit W wiki _) (by decide) (fun e => by cases e) (by omega) (by omega)
  have h3 := fun W => of_any (some ⟨W.heap.size, 0, none⟩) 1 1 [97] (W.alloc (.cells (bvs [97]).toArray 5 (1, 2))) (In.lit W [97] _) (by decide) (fun e => by cases e) (by omega) (by omega)
  have h4 := fun W => on_any 1 (by decide) (some ⟨W.heap.size, 0, none⟩) 1 1 [97] (W.alloc (.cells (bvs [97]).toArray 5 (1, 2))) (In.lit W [97] _) (by decide) (fun e => by cases e) (by omega) (by omega)
  have h5 := fun W => on_any 65537 (by decide) none 0 0 [] W (In.none_ _ _) (by simp) (fun _ => rfl) (by omega) (by omega)
  have h6 := fun W => on_any 65521 (by decide) none 0 0 [] W (In.none_ _ _) (by simp) (fun _ => rfl) (by omega) (by omega)
  rw [a1] at h1
  rw [show ofL wiki = 300286872 from a2] at h2
  rw [a3] at h3
  rw [a4] at h4
  rw [a5] at h5
  rw [a6] at h6
  clear a1 a2 a3 a4 a5 a6
  have kc := fun (W : World) (C : Array Value) (n c g : Nat) (hg : g = W.heap.size) => Joins.run_convert_bytes_const_at (P := Try.prog) W 22 5 C n c g hg Try.underlying22 Try.underlying5
  go_enter Try.func15, Try.ntmps15
  go_wp2_with fail
  refine (h1 _).mono ?_
  rintro e w1 ⟨rfl, b1⟩
  go_wp2_with fail
  refine (h2 _).mono ?_
  rintro e w2 ⟨rfl, b2⟩
  go_wp2_with fail
  refine (h3 _).mono ?_
  rintro e w3 ⟨rfl, b3⟩
  go_wp2_with fail
  refine (h4 _).mono ?_
  rintro e w4 ⟨rfl, b4⟩
  go_wp2_with fail
  refine (h5 _).mono ?_
  rintro e w5 ⟨rfl, b5⟩
  go_wp2_with fail
  refine (h6 _).mono ?_
  rintro e w6 ⟨rfl, b6⟩
  go_wp2_with fail
  go_ret
  exact ⟨rfl, below_then (below_then (below_then (below_then (below_then (below_then (below_then (below_then b1 (Nat.le_refl _) (below_alloc w1 _)) (Nat.le_refl _) b2) (Nat.le_refl _) (below_alloc w2 _)) (Nat.le_refl _) b3) (Nat.le_refl _) (below_alloc w3 _)) (Nat.le_refl _) b4) (Nat.le_refl _) b5) (Nat.le_refl _) b6⟩

end Go.Proofs.Ytnfjmhoejmhbeaa
