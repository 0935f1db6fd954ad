/-
  '[]byte("..")' of a constant, in a drawn region: the literal's block need not be the newest one.
-/
import Derived.Test.YtnaebjdccngeoaaDoorLApp2
import Derived.Lib.SmallJoins
namespace Go.Proofs.YtnaebjdccngeoaaDoor
open Go.RowKit

section
variable {w : World} {g k : Nat} {C : Array Value} {e : TypeId}
theorem freeze_heap (h : w.heap[g]? = some (.cells C e (0, 0))) : (w.freeze ⟨g, k, none⟩ 1).heap[g]? = some (.cells C e (k, k + 1)) := by
  unfold World.freeze
  rw [if_neg (by decide)]
  show (w.heap.modify g _)[g]? = _
  rw [Array.getElem?_modify, if_pos rfl, h]
  rfl
theorem freeze_other (w : World) {i : Nat} (hne : i ≠ g) : (w.freeze ⟨g, k, none⟩ 1).heap[i]? = w.heap[i]? := by
  unfold World.freeze
  rw [if_neg (by decide)]
  show (w.heap.modify g _)[i]? = _
  rw [Array.getElem?_modify, if_neg (fun h => hne h.symm)]
theorem freeze_size (w : World) : (w.freeze ⟨g, k, none⟩ 1).heap.size = w.heap.size := by
  unfold World.freeze
  rw [if_neg (by decide)]
  exact Array.size_modify
theorem below_freeze {B : Nat} {w0 : World} (h : Below B w0 w) (hg : B ≤ g) (k : Nat) : Below B w0 (w.freeze ⟨g, k, none⟩ 1) := by
  refine h.trans ⟨?_, ?_, ?_, Nat.le_of_eq (freeze_size w).symm, fun i hi => freeze_other w (by omega)⟩
  all_goals (unfold World.freeze; rw [if_neg (by decide)])
theorem run_conv_lit (n c : Nat) (h : w.heap[g]? = some (.cells C 5 (0, 0))) :
    (convert 23 23 (.slice (some ⟨g, 0, none⟩) n c)).run Tryd.prog w = .ok (.slice (some ⟨g, 0, none⟩) n c) (w.freeze ⟨g, C.size, none⟩ 1) := by
  have hsh : w.shape? g = some (5, C.size) := by
    unfold World.shape?
    rw [h]
  simp [convert, run_underlying (P := Tryd.prog) Tryd.underlying23, run_underlying (P := Tryd.prog) Tryd.underlying5, markStringish, hsh]
/-- In a drawn region. -/
theorem step_conv_lit {o : Oper} {a : Act} {K : Act → World → Prop} {Q : Exit → Act → World → Prop} (x : Operand) (ho : o.op = .convert 23 23 x) {n c : Nat} (hx : a.eval x = .slice (some ⟨g, 0, none⟩) n c)
    (h : w.heap[g]? = some (.cells C 5 (0, 0))) (hk : K (a.put o.dst (.slice (some ⟨g, 0, none⟩) n c)) (w.freeze ⟨g, C.size, none⟩ 1)) : Oper.wp Tryd.prog o a w K Q := by
  unfold Oper.wp execOp
  simp only [ho, hx, Sem.run_bind, Sem.run_pure, run_conv_lit n c h, Result.andThen_ok]
  exact hk
theorem in_frozen {fr : Nat × Nat} {xs : List Nat} {T : TypeId} (h : w.heap[g]? = some (.cells (bvs xs).toArray T fr)) : In w (some ⟨g, 0, none⟩) xs.length xs :=
  ⟨rfl, fun j x hx => ⟨_, rfl, by
    rw [show (⟨g, 0, none⟩ : Addr).add j = ⟨g, j, none⟩ from by unfold Addr.add; split <;> simp_all]
    rw [cell_of_row _ g j _ T fr h, List.getElem?_toArray, bvs_get, hx]
    rfl⟩⟩

/-- A literal's block. -/
def LitAt (w : World) (g : Nat) (xs : List Nat) (fr : Nat × Nat) : Prop := w.heap[g]? = some (.cells (bvs xs).toArray 5 fr)
theorem LitAt.lt {xs : List Nat} {fr : Nat × Nat} (h : LitAt w g xs fr) : g < w.heap.size := (Array.getElem?_eq_some_iff.1 h).1
theorem LitAt.below {w' : World} {xs : List Nat} {fr : Nat × Nat} (h : LitAt w g xs fr) (hb : Below w.heap.size w w') : LitAt w' g xs fr := (hb.block g h.lt).trans h
theorem LitAt.freeze {xs : List Nat} (h : LitAt w g xs (0, 0)) (k : Nat) : LitAt (w.freeze ⟨g, k, none⟩ 1) g xs (k, k + 1) := freeze_heap h
theorem LitAt.other {i : Nat} {xs : List Nat} {fr : Nat × Nat} (h : LitAt w i xs fr) (hne : i ≠ g) : LitAt (w.freeze ⟨g, k, none⟩ 1) i xs fr := (freeze_other w hne).trans h
theorem LitAt.in_ {xs : List Nat} {fr : Nat × Nat} (h : LitAt w g xs fr) : In w (some ⟨g, 0, none⟩) xs.length xs := in_frozen h
end

end Go.Proofs.YtnaebjdccngeoaaDoor
