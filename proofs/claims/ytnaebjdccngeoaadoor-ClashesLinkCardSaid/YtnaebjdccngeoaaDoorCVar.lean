/-
  A variable of two cells: a clash, or two lists of entries.
-/
import Derived.Test.YtnaebjdccngeoaaDoorCIs
import Derived.Test.YtnaebjdccngeoaaDoorLBut
import Derived.Laws.Tables
namespace Go.Proofs.YtnaebjdccngeoaaDoor
open Go.RowKit

/-- Block g is a variable of these cells. -/
def Cells (w : World) (g : Nat) (T : TypeId) (cs : Array Value) : Prop := w.heap[g]? = some (.cells cs T (0, 0))
section
variable {w w' : World} {g : Nat} {T : TypeId} {cs : Array Value}
theorem Cells.cell (h : Cells w g T cs) (i : Nat) {v : Value} (hv : cs[i]? = some v) : w.cell? ⟨g, i, none⟩ = some v := by rw [cell_of_row _ g i _ T (0, 0) h]; exact hv
theorem Cells.free (h : Cells w g T cs) (i : Nat) : w.frozen? ⟨g, i, none⟩ = false := frozen_of_row w g i _ T h
theorem Cells.below (h : Cells w g T cs) (hb : Below w.heap.size w w') : Cells w' g T cs := (hb.block g (Array.getElem?_eq_some_iff.1 h).1).trans h
theorem Cells.lt (h : Cells w g T cs) : g < w.heap.size := (Array.getElem?_eq_some_iff.1 h).1
theorem Cells.new (w : World) (T : TypeId) (cs : Array Value) : Cells (w.alloc (.cells cs T)) w.heap.size T cs := World.alloc_heap_new w _
theorem Cells.setRow (h : Cells w g T cs) (ds : Array Value) : Cells (w.setRow g ds) g T ds := setRow_heap w g _ _ T (0, 0) h
theorem Cells.setRow_other (h : Cells w g T cs) (k : Nat) (hne : g ≠ k) (ds : Array Value) : Cells (w.setRow k ds) g T cs := by
  unfold Cells
  rw [Go.setRow_other _ _ _ _ hne]
  exact h
end

theorem cells_at {w : World} {ad : Addr} {x y : Value} (h0 : w.cell? ad = some x) (h1 : w.cell? (ad.add 1) = some y) : (loadCells ad 2).run Tryd.prog w = .ok #[x, y] w :=
  run_loadCells_list (P := Tryd.prog) w ad [x, y] (fun j v hv => by
    match j with
    | 0 => cases hv; rw [add_zero']; exact h0
    | 1 => cases hv; exact h1)

theorem sizeClash : (Tryd.prog.info? 30).map (·.size) = some 2 := by kernel_rfl
theorem run_load_clash {w : World} {ad : Addr} {x y : Value} (h0 : w.cell? ad = some x) (h1 : w.cell? (ad.add 1) = some y) : (loadVar 30 ad).run Tryd.prog w = .ok (.agg #[x, y]) w := by
  have hl := cells_at h0 h1
  have hagg : (isAgg 30).run Tryd.prog w = .ok true w := by
    unfold isAgg
    rw [Sem.run_bind, run_underlying Tryd.underlying30 w]
    rfl
  cases hq : Tryd.prog.info? 30 with
  | none => have := sizeClash; simp [hq] at this
  | some i =>
    have hs : i.size = 2 := by have := sizeClash; simpa [hq] using this
    simp [loadVar, Sem.run_bind, hagg, sizeOf, typeInfo, hq, hs, hl]

theorem wpList_store_clash {ops : Array Oper} {rest : List Oper} {o : Oper} {a : Act} {w : World} {Q : Exit → Act → World → Prop} (hgd : o.guard = none) (x y : Operand) (ho : o.op = .store 30 x y)
    (g : Nat) (hx : a.eval x = .pointer (some ⟨g, 0, none⟩)) {T : TypeId} {u v : Value} (hc : Cells w g T #[u, v]) (A : Option Addr) (n c : Nat) (B : Option Addr) (m d : Nat) (hy : a.eval y = clv A n c B m d)
    (h : wpList Tryd.prog ops Q rest (a.put o.dst undef) (w.setRow g #[.slice A n c, .slice B m d])) : wpList Tryd.prog ops Q (o :: rest) a w :=
  wpList_store_row hgd 30 x y ho g #[.slice A n c, .slice B m d] hx hy T #[u, v] hc sizeClash rfl (by simp [Value.oneCell']) h

end Go.Proofs.YtnaebjdccngeoaaDoor
