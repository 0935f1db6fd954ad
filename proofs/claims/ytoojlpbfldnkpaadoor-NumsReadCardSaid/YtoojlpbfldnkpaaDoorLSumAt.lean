/-
  Rows of sums of the call's own: one sum is written; a sum is read; marks.
-/
import Derived.Test.YtoojlpbfldnkpaaDoorLFlat
import Derived.Test.YtoojlpbfldnkpaaDoorLMark
import Derived.Test.YtoojlpbfldnkpaaDoorLFill
import Derived.Laws.CopyRow
namespace Go.Proofs.YtoojlpbfldnkpaaDoor
open Go.RowKit

theorem take_splice {α : Type} (l c : List α) (o n : Nat) (h : o + c.length ≤ n) (hn : n ≤ l.length) : (splice l o c).take n = splice (l.take n) o c := by
  unfold splice
  have h1 : (l.take o).length = o := by rw [List.length_take]; omega
  rw [List.take_append, List.take_append, h1, List.take_take, List.take_take, List.drop_take]
  rw [show min n o = o by omega, show min o n = o by omega, List.take_of_length_le (show c.length ≤ n - o by omega), show n - o - c.length = n - (o + c.length) by omega]

/-- n marks of a number, one behind the other. -/
def marks (n num : Nat) : List Value := bvs (List.replicate n (mark32 num)).flatten
theorem marks_length (n num : Nat) : (marks n num).length = n * 32 := by
  unfold marks
  rw [bvs_length, List.length_flatten, List.map_replicate, List.sum_replicate_nat, mark32_length]
theorem marks_snoc (n num : Nat) : marks (n + 1) num = marks n num ++ bvs (mark32 num) := by
  unfold marks
  rw [List.replicate_succ', List.flatten_append, bvs_append]
  simp
theorem marks_add (n m num : Nat) : marks (n + m) num = marks n num ++ marks m num := by
  unfold marks
  rw [← List.replicate_append_replicate, List.flatten_append, bvs_append]
theorem marks_oneCell (n num : Nat) : ∀ v ∈ marks n num, v.oneCell' = true := bvs_oneCell _
theorem marks_at (n num k : Nat) (hk : k < n) : ∀ j x, (mark32 num)[j]? = some x → (marks n num)[k * 32 + j]? = some (bv x) := by
  intro j x hx
  obtain ⟨m, rfl⟩ : ∃ m, n = k + (1 + m) := ⟨n - k - 1, by omega⟩
  have hj := (List.getElem?_eq_some_iff.1 hx).1
  rw [mark32_length] at hj
  rw [marks_add, List.getElem?_append_right (by rw [marks_length]; omega), marks_length, Nat.add_sub_cancel_left, marks_add, List.getElem?_append_left (by rw [marks_length]; omega)]
  have : marks 1 num = bvs (mark32 num) := by unfold marks; simp
  rw [this, bvs_get, hx]
  rfl

/-- A sum of a row of the call's own is written. -/
theorem own_put {w : World} {base g len cap k : Nat} {xs cs : List Value} {e : TypeId} (h : w.ownsRow base e 32 (.slice (some ⟨g, 0, none⟩) len cap) len xs) (hk : k < len) (hc : cs.length = 32) :
    ∃ cur : List Value, w.heap[g]? = some (.cells cur.toArray e (0, 0)) ∧ k * 32 + 32 ≤ cur.length ∧ (w.setRow g (splice cur (k * 32) cs).toArray).ownsRow base e 32 (.slice (some ⟨g, 0, none⟩) len cap) len (splice xs (k * 32) cs) := by
  rcases h.2 with ⟨e, _⟩ | ⟨g', cap', cur, e, hb, hg, hle, hm, hs, htk⟩
  · cases e
  · cases e
    have hl : cur.toList.length = cap * 32 := by rw [Array.length_toList, hs]
    have hxl := h.1
    refine ⟨cur.toList, by simpa using hg, by omega, ⟨by rw [length_splice _ _ _ (by omega)]; exact hxl, .inr ⟨g, cap, _, rfl, hb, setRow_heap w g cur _ _ (0, 0) hg, hle, hm, by rw [List.size_toArray, length_splice _ _ _ (by omega), hl], ?_⟩⟩⟩
    rw [List.toList_toArray, take_splice _ _ _ _ (by omega) (by omega), htk]

theorem But.setRow {S : Nat → Prop} {a w : World} (h : But S a w) {b : Nat} (cs : Array Value) (hb : b < a.heap.size → S b) : But S a (w.setRow b cs) :=
  h.grown (row := some b) ⟨rfl, rfl, rfl, by rw [size_setRow]; exact Nat.le_refl _, fun k _ hk => setRow_other w b k _ (fun e => hk (by rw [e]))⟩ (fun k e hk => by cases e; exact hb hk)

/-- A value of as many cells as its variable has goes into a block from an offset on. -/
theorem wpList_store_at {ops : Array Oper} {rest : List Oper} {o : Oper} {a : Act} {w : World} {Q : Exit → Act → World → Prop} (hgd : o.guard = none) (ty : TypeId) (x y : Operand) (ho : o.op = .store ty x y)
    (g off : Nat) (cs cur : List Value) (t : TypeId) (hx : a.eval x = .pointer (some ⟨g, off, none⟩)) (hy : a.eval y = .agg cs.toArray) (hg : w.heap[g]? = some (.cells cur.toArray t (0, 0)))
    (hi : (Tryd.prog.info? ty).map (·.size) = some cs.length) (hfit : off + cs.length ≤ cur.length) (h1 : ∀ v ∈ cs, v.oneCell' = true)
    (h : wpList Tryd.prog ops Q rest (a.put o.dst undef) (w.setRow g (splice cur off cs).toArray)) : wpList Tryd.prog ops Q (o :: rest) a w := by
  refine wpList_plain hgd fun K hK => ?_
  have hst := run_storeCells_at Tryd.prog g off t cs 0 cur.toArray w hg (by simpa using hfit) h1
  simp only [Nat.add_zero] at hst
  cases hq : Tryd.prog.info? ty with
  | none => simp [hq] at hi
  | some i =>
    have hs : cs.length = i.size := by simp [hq] at hi; omega
    have hrun : (storeVar ty ⟨g, off, none⟩ (.agg cs.toArray)).run Tryd.prog w = .ok () (w.setRow g (splice cur off cs).toArray) := by
      simp [storeVar, sizeOf, typeInfo, hq, Value.cells, hs, hst, splice]
    unfold Oper.wp execOp
    simp only [ho, hx, hy, Instr.storeAt, Instr.sureAddr, Sem.run_bind, Sem.run_pure, Result.andThen_ok, hrun]
    exact hK _ _ h

/-- One cell is read, in every world of a class. -/
theorem quiet_load_cell {ops : Array Oper} {o : Oper} {a : Act} {C : World → Prop} {K : Act → Prop} {E : Prop} (hw : Region.wanted o (yielded ops a.tmps) = true) (ty : TypeId) (hagg : ∀ w, (isAgg ty).run Tryd.prog w = .ok false w) (x : Operand) (ho : o.op = .load ty x)
    (ad : Addr) (hx : a.eval x = .pointer (some ad)) (v : Value) (hc : ∀ w, C w → w.cell? ad = some v) (h : K (a.put o.dst v)) :
    if Region.wanted o (yielded ops a.tmps) = true then o.quiet Tryd.prog a C K else E := by
  rw [if_pos hw]
  refine ⟨v, fun w hC => ?_, h⟩
  unfold Oper.quietAt execOp
  have hl : (loadVar ty ad).run Tryd.prog w = .ok v w := by simp [loadVar, Sem.run_bind, hagg, hc w hC]
  simp only [ho, hx, Instr.loadAt, Instr.sureAddr, Sem.run_bind, Sem.run_pure, Result.andThen_ok, hl]
  exact ⟨rfl, rfl⟩
theorem agg_sums (w : World) : (isAgg 30).run Tryd.prog w = .ok false w := by
  unfold isAgg
  rw [Sem.run_bind, run_underlying Tryd.underlying30 w]
  rfl
theorem agg_int (w : World) : (isAgg 3).run Tryd.prog w = .ok false w := by
  unfold isAgg
  rw [Sem.run_bind, run_underlying Tryd.underlying3 w]
  rfl

/-- One mark more of an owned row of sums. -/
theorem own_mark_put {w : World} {base g len cap k num : Nat} {xs : List Value} (h : w.ownsRow base 54 32 (.slice (some ⟨g, 0, none⟩) len cap) len xs) (hk : k < len) (ht : xs.take (k * 32) = marks k num) :
    ∃ cur : List Value, w.heap[g]? = some (.cells cur.toArray 54 (0, 0)) ∧ k * 32 + 32 ≤ cur.length ∧ ∃ ys, (w.setRow g (splice cur (k * 32) (bvs (mark32 num))).toArray).ownsRow base 54 32 (.slice (some ⟨g, 0, none⟩) len cap) len ys ∧ ys.take ((k + 1) * 32) = marks (k + 1) num := by
  obtain ⟨cur, h1, h2, h3⟩ := own_put (cs := bvs (mark32 num)) h hk (by rw [bvs_length, mark32_length])
  refine ⟨cur, h1, h2, _, h3, ?_⟩
  have hl := h.1
  have hm : (bvs (mark32 num)).length = 32 := by rw [bvs_length, mark32_length]
  unfold splice
  have e1 : (xs.take (k * 32)).length = k * 32 := by rw [List.length_take]; omega
  rw [← List.append_assoc, List.take_append_of_le_length (by rw [List.length_append, e1, hm]; omega), List.take_of_length_le (by rw [List.length_append, e1, hm]; omega), ht, ← marks_snoc]

end Go.Proofs.YtoojlpbfldnkpaaDoor
