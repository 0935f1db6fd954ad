/-
  Rows of bools of the call's own.
-/
import Derived.Test.YtolbchknjcipiaaDLawTools
namespace Go.Proofs.Ytolbchknjcipiaa
open Go.RowKit

def blv (b : Bool) : Value := .bool b
/-- Block g is just these bools. -/
def BlArr (w : World) (g : Nat) (ks : List Bool) : Prop := w.heap[g]? = some (.cells (ks.map blv).toArray 4 (0, 0))
section
variable {w w' : World} {g : Nat} {ks : List Bool}
theorem BlArr.lt (h : BlArr w g ks) : g < w.heap.size := (Array.getElem?_eq_some_iff.1 h).1
theorem BlArr.block (h : BlArr w g ks) (hb : w'.heap[g]? = w.heap[g]?) : BlArr w' g ks := hb.trans h
theorem BlArr.below (h : BlArr w g ks) (hb : Below w.heap.size w w') : BlArr w' g ks := h.block (hb.block g h.lt)
theorem BlArr.cell (h : BlArr w g ks) {i : Nat} {b : Bool} (hi : ks[i]? = some b) : w.cell? ⟨g, i, none⟩ = some (.bool b) := by
  rw [cell_of_row _ g i _ _ (0, 0) h, List.getElem?_toArray, List.getElem?_map, hi]
  rfl
theorem BlArr.free (h : BlArr w g ks) (i : Nat) : w.frozen? ⟨g, i, none⟩ = false := frozen_of_row w g i _ _ h
theorem BlArr.set (h : BlArr w g ks) (i : Nat) (b : Bool) : BlArr (w.setCell ⟨g, i, none⟩ (.bool b)) g (ks.set i b) := by
  unfold BlArr
  rw [heap_setCell_same w g i _ _ _ h, List.setIfInBounds_toArray, List.map_set]
  rfl
theorem BlArr.in_ (h : BlArr w g ks) : InB w (some ⟨g, 0, none⟩) ks.length ks := ⟨rfl, fun j x hx => ⟨_, rfl, by
  rw [show (⟨g, 0, none⟩ : Addr).add j = ⟨g, j, none⟩ from by unfold Addr.add; split <;> simp_all]
  exact h.cell hx⟩⟩
end

theorem madeCells_bool (m : Nat) : madeCells #[.bool false] m = ((List.replicate m false).map blv).toArray := by
  apply Array.ext'
  simp only [madeCells, List.map_replicate, Array.toList_map, Array.toList_range]
  rw [List.eq_replicate_iff]
  refine ⟨by simp, fun b hb => ?_⟩
  obtain ⟨i, _, rfl⟩ := List.mem_map.1 hb
  simp [Nat.mod_one, blv]
theorem zeroCells_bool (m : Nat) : Builtin.zeroCells #[.bool false] m = ((List.replicate m false).map blv).toArray := by
  apply Array.ext'
  simp only [Builtin.zeroCells, List.map_replicate, Array.toList_map, Array.toList_range]
  rw [List.eq_replicate_iff]
  refine ⟨by simp, fun b hb => ?_⟩
  obtain ⟨i, _, rfl⟩ := List.mem_map.1 hb
  simp [Nat.mod_one, blv]

theorem infoBool : (Try.prog.info? 4).map (fun i => (i.zero, i.size, i.bytes)) = some (some (.bool false), 1, 1) := by kernel_rfl

theorem make_bools (n : Nat) (hn : n ≤ 1000000) (W : World) :
    (Instr.makeSlice 23 (.int .i64 (n : Int)) (.int .i64 (n : Int))).run Try.prog W = .ok (.slice (some ⟨W.heap.size, 0, none⟩) n n) (W.alloc (.cells ((List.replicate n false).map blv).toArray 4)) := by
  obtain ⟨i0, hi, hz0, hz1, hz2⟩ := info_parts infoBool
  have hr := run_make (P := Try.prog) W 23 4 i0 _ Try.underlying23 hi hz0 .i64 .i64 n n (by omega) (by omega) (by rw [hz2]; omega) (by omega)
  rw [hz1] at hr
  rw [← madeCells_bool]
  simpa [Value.cells] using hr

/-- 'append(ks, make([]bool, m)...)'. -/
theorem run_append_falses (w : World) (ty : TypeId) (b n m : Nat) (ks : List Bool) (h : BlArr w b ks) (hl : ks.length = n) (hle : n + m ≤ 1000000) :
    ∃ A' c' w', (Builtin.append_ #[23, 3] ty #[.slice (some ⟨b, 0, none⟩) n n, .int .i64 (m : Int)]).run Try.prog w = .ok (.slice A' (n + m) c') w' ∧
      InB w' A' (n + m) (ks ++ List.replicate m false) ∧ Below w.heap.size w w' := by
  obtain ⟨i0, hi, hz0, hz1, hz2⟩ := info_parts infoBool
  have hw : IntKind.i64.wrap (m : Int) = (m : Int) := by rw [IntKind.wrap_i64]; omega
  have hn0 : ¬ ((m : Int) < 0) := by omega
  have hnb : ¬ (281474976710656 < (m : Int)) := by omega
  by_cases hm : m = 0
  · subst hm
    refine ⟨some ⟨b, 0, none⟩, n, w, ?_, ?_, Below.refl _ _⟩
    · have hw0 : IntKind.i64.wrap 0 = 0 := by decide
      simp [Builtin.append_, run_underlying Try.underlying23, run_underlying Try.underlying3, sizeOf, typeInfo, zeroValue, hi, hz0, asInt, asIntOf, hw0, storeCells, Value.cells]
    · have := h.in_
      rw [hl] at this
      simpa using this
  · have hnn : ¬ (n + m ≤ n) := by omega
    have h63' : ¬ (9223372036854775807 < ((n : Int) + (m : Int))) := by omega
    have hf := growslice_fits (need := n + m) (old := n) (bytes := 1) (by omega) (by omega)
    have h48' : ¬ (281474976710656 < Builtin.nextslicecap (n + m) n) := by omega
    have hfo := run_firstCells_some (P := Try.prog) w.drew 1 n ⟨b, 0, none⟩ n n (ks.map blv) (by rw [List.length_map, hl]; simp) (fun j v hv => by
      rw [List.getElem?_map] at hv
      obtain ⟨y, hy, rfl⟩ := Option.map_eq_some_iff.1 hv
      rw [show (⟨b, 0, none⟩ : Addr).add j = ⟨b, j, none⟩ from by unfold Addr.add; split <;> simp_all]
      exact h.cell hy)
    have hge := grownCap_ge w (n + m) n 4
    have hrun : (Builtin.append_ #[23, 3] ty #[.slice (some ⟨b, 0, none⟩) n n, .int .i64 (m : Int)]).run Try.prog w =
        .ok (.slice (some ⟨w.heap.size, 0, none⟩) (n + m) (grownCap w (n + m) n 4)) (w.drew.alloc (.cells ((ks.map blv).toArray ++ Builtin.zeroCells #[.bool false] m ++ Builtin.zeroCells #[.bool false] (grownCap w (n + m) n 4 - (n + m))) 4)) := by
      simp [Builtin.append_, run_underlying Try.underlying23, run_underlying Try.underlying3, sizeOf, typeInfo, zeroValue, hi, hz0, hz1, hz2, asInt, asIntOf, hw, hn0, hnb, hnn, hm, h63', h48', Question.forced, hfo, newRow, grownCap, Value.cells]
    refine ⟨_, _, _, hrun, ⟨by rw [List.length_append, hl, List.length_replicate], fun j x hx => ⟨_, rfl, ?_⟩⟩, ((Below.refl _ w).drew).alloc (Nat.le_refl _) _⟩
    rw [show (⟨w.heap.size, 0, none⟩ : Addr).add j = ⟨w.heap.size, j, none⟩ from by unfold Addr.add; split <;> simp_all]
    rw [cell_of_row _ w.heap.size j _ 4 (0, 0) (World.alloc_heap_new w.drew _)]
    rw [zeroCells_bool, zeroCells_bool]
    have hlt : j < (ks ++ List.replicate m false).length := (List.getElem?_eq_some_iff.1 hx).1
    rw [List.append_toArray, List.append_toArray, List.getElem?_toArray, ← List.map_append, List.getElem?_append_left (by rw [List.length_map]; exact hlt), List.getElem?_map, hx]
    rfl

/-- The operation, by its run. -/
theorem wpList_falses {ops : Array Oper} {rest : List Oper} {o : Oper} {a : Act} {Q : Exit → Act → World → Prop} {w w' : World} {v1 v2 V : Value} (hgd : o.guard = none) (s x : Operand)
    (ho : o.op = .call { callee := .builtin .append, args := #[s, x], argTypes := #[23, 3] }) (hr : (Builtin.append_ #[23, 3] o.type #[v1, v2]).run Try.prog w = .ok V w')
    (hs : a.eval s = v1) (hx : a.eval x = v2) (h : wpList Try.prog ops Q rest (a.put o.dst V) w') : wpList Try.prog ops Q (o :: rest) a w := by
  refine wpList_plain hgd fun K hK => ?_
  unfold Oper.wp execOp
  simp only [ho, resolve, invoke, builtin, Sem.run_bind, Sem.run_pure, Result.andThen_ok, List.map_toArray, List.map_cons, List.map_nil, hs, hx, hr]
  exact hK _ _ h

theorem pick_true (ws : List (Nat × List Nat)) (k m : Nat) : ∀ j, j ≤ ws.length → j ≤ k + m → pick ws (List.replicate k true ++ List.replicate m false) j = ws.take (min j k) := by
  intro j
  induction j with
  | zero => intro _ _; simp [pick]
  | succ j ih =>
    intro h1 h2
    have hx : ws[j]? = some ws[j] := List.getElem?_eq_getElem (by omega)
    by_cases hj : j < k
    · have hb : (List.replicate k true ++ List.replicate m false)[j]? = some true := by rw [List.getElem?_append_left (by simp; exact hj), List.getElem?_replicate, if_pos hj]
      rw [pick_step hx hb, ih (by omega) (by omega), Nat.min_eq_left (by omega), Nat.min_eq_left (by omega), List.take_add_one, hx]
      rfl
    · have hb : (List.replicate k true ++ List.replicate m false)[j]? = some false := by rw [List.getElem?_append_right (by simp; omega), List.length_replicate, List.getElem?_replicate, if_pos (by omega)]
      rw [pick_step hx hb, ih (by omega) (by omega), Nat.min_eq_right (by omega), Nat.min_eq_right (by omega)]
      simp
theorem kept_true (ws : List (Nat × List Nat)) (k m : Nat) (hk : k ≤ ws.length) : kept ws (List.replicate k true ++ List.replicate m false) = ws.take k := by
  unfold kept
  have hl : (List.replicate k true ++ List.replicate m false).length = k + m := by simp
  rw [hl, pick_true ws k m _ (Nat.min_le_left _ _) (Nat.min_le_right _ _), Nat.min_eq_right (by omega)]

theorem kept_all (ws : List (Nat × List Nat)) (k : Nat) (hk : ws.length ≤ k) : kept ws (List.replicate k true) = ws := by
  have e : List.replicate k true = List.replicate k true ++ List.replicate 0 false := by simp
  rw [e]
  unfold kept
  have hl : (List.replicate k true ++ List.replicate 0 false).length = k + 0 := by simp
  rw [hl, pick_true ws k 0 _ (Nat.min_le_left _ _) (Nat.min_le_right _ _), List.take_of_length_le (by omega)]

theorem set_true (j k : Nat) (h : j < k) : (List.replicate j true ++ List.replicate (k - j) false).set j true = List.replicate (j + 1) true ++ List.replicate (k - (j + 1)) false := by
  have e1 : k - j = (k - (j + 1)) + 1 := by omega
  rw [List.set_append_right _ _ (by simp), List.length_replicate, Nat.sub_self, e1, List.replicate_succ, List.set_cons_zero, List.replicate_succ', List.append_assoc]
  rfl

theorem CameWrites.take {w : World} {A : Option Addr} {n c : Nat} {ws : List (Nat × List Nat)} (h : CameWrites w A n c ws) {m : Nat} (hm : m ≤ n) : CameWrites w A m c (ws.take m) :=
  ⟨by rw [List.length_take, h.len]; omega, Nat.le_trans hm h.cap, fun r x hx => by
    rw [List.getElem?_take] at hx
    split at hx
    · exact h.row r x hx
    · cases hx⟩

end Go.Proofs.Ytolbchknjcipiaa
