/-
  Sums by value, and slices of sums, in a walk.
-/
import Derived.Test.YthbgcijkpincfaaDoorLByte
import Derived.ChangeKeysEq
import Derived.Deep.WholeRow
import Derived.Deep.QuietTactic
namespace Go.Proofs.YthbgcijkpincfaaDoor
open Go.RowKit

theorem sizeSum : (Tryd.prog.info? 23).map (·.size) = some 32 := by kernel_rfl

theorem infoSum : (Tryd.prog.info? 23).map (fun i => (i.zero, i.size, i.bytes)) = some (some (.agg (Array.replicate 32 (.int .u8 0))), 32, 32) := by kernel_rfl

/-- A sum as a value. -/
def sv (s : List Nat) : Value := .agg (bvs s).toArray

set_option maxRecDepth 100000 in
theorem run_load_sum (w : World) (ad : Addr) (s : List Nat) (hl : s.length = 32) (hc : At w ad s) : (loadVar 23 ad).run Tryd.prog w = .ok (sv s) w := by
  have hl' : (bvs s).length = 32 := by rw [bvs_length, hl]
  have h1 : (loadCells ad (bvs s).length).run Tryd.prog w = .ok (bvs s).toArray w :=
    run_loadCells_list (P := Tryd.prog) w ad (bvs s) (fun j v hv => by
      rw [bvs_get] at hv
      obtain ⟨y, hy, rfl⟩ := Option.map_eq_some_iff.1 hv
      exact hc j y hy)
  rw [hl'] at h1
  have hagg : (isAgg 23).run Tryd.prog w = .ok true w := by
    unfold isAgg
    rw [Sem.run_bind, run_underlying Tryd.underlying23 w]
    rfl
  cases hq : Tryd.prog.info? 23 with
  | none => have := sizeSum; simp [hq] at this
  | some i =>
    have hs : i.size = 32 := by have := sizeSum; simpa [hq] using this
    simp [loadVar, Sem.run_bind, hagg, sizeOf, typeInfo, hq, hs, h1, sv]

theorem wpList_load_sum {ops : Array Oper} {rest : List Oper} {o : Oper} {a : Act} {w : World} {Q : Exit → Act → World → Prop} (hgd : o.guard = none) (x : Operand) (ho : o.op = .load 23 x)
    (ad : Addr) (hx : a.eval x = .pointer (some ad)) (s : List Nat) (hl : s.length = 32) (hc : At w ad s)
    (h : wpList Tryd.prog ops Q rest (a.put o.dst (sv s)) w) : wpList Tryd.prog ops Q (o :: rest) a w := by
  refine wpList_plain hgd fun K hK => ?_
  unfold Oper.wp execOp
  simp only [ho, hx, Instr.loadAt, Instr.sureAddr, Sem.run_bind, Sem.run_pure, Result.andThen_ok, run_load_sum w ad s hl hc]
  exact hK _ _ h

theorem quiet_load_sum {ops : Array Oper} {o : Oper} {a : Act} {C : World → Prop} {K : Act → Prop} {E : Prop} (hgd : o.guard = none) (x : Operand) (ho : o.op = .load 23 x)
    (ad : Addr) (hx : a.eval x = .pointer (some ad)) (s : List Nat) (hl : s.length = 32) (hc : ∀ w, C w → At w ad s) (h : K (a.put o.dst (sv s))) :
    if Region.wanted o (yielded ops a.tmps) = true then o.quiet Tryd.prog a C K else E := by
  have hw : Region.wanted o (yielded ops a.tmps) = true := by simp [Region.wanted, hgd]
  rw [if_pos hw]
  refine ⟨sv s, fun w hC => ?_, h⟩
  unfold Oper.quietAt execOp
  simp only [ho, hx, Instr.loadAt, Instr.sureAddr, Sem.run_bind, Sem.run_pure, Result.andThen_ok, run_load_sum w ad s hl (hc w hC)]
  exact ⟨rfl, rfl⟩

set_option maxRecDepth 100000 in
theorem run_part_byte (w : World) (cs : Array Value) (i x : Nat) (h : cs[i]? = some (bv x)) : (part 5 cs i).run Tryd.prog w = .ok (bv x) w := by
  have hagg : (isAgg 5).run Tryd.prog w = .ok false w := by
    unfold isAgg
    rw [Sem.run_bind, run_underlying Tryd.underlying5 w]
    rfl
  simp [part, Sem.run_bind, hagg, h]

set_option maxRecDepth 100000 in
theorem run_eqItems (w : World) (s t : List Nat) (d : Nat) : ∀ (is : List Nat), (∀ i ∈ is, i < s.length ∧ i < t.length) →
    (Op.eqItems (d + 1) 5 1 (bvs s).toArray (bvs t).toArray is).run Tryd.prog w = .ok (is.all fun i => s[i]? == t[i]?) w
  | [], _ => by simp [Op.eqItems]
  | i :: is, h => by
    have h1 := h i (by simp)
    have ih := run_eqItems w s t d is (fun j hj => h j (by simp [hj]))
    have e1 : s[i]? = some s[i] := List.getElem?_eq_getElem h1.1
    have e2 : t[i]? = some t[i] := List.getElem?_eq_getElem h1.2
    have p1 := run_part_byte w (bvs s).toArray (i * 1) s[i] (by rw [Nat.mul_one, List.getElem?_toArray, bvs_get, e1]; rfl)
    have p2 := run_part_byte w (bvs t).toArray (i * 1) t[i] (by rw [Nat.mul_one, List.getElem?_toArray, bvs_get, e2]; rfl)
    have p3 : (Op.equalIn (d + 1) 5 (bv s[i]) (bv t[i])).run Tryd.prog w = .ok (s[i] == t[i]) w := by
      unfold bv
      rw [run_equalIn_int w d 5 .u8 .u8 _ _ Tryd.underlying5]
      congr 1
      rw [Bool.eq_iff_iff, beq_iff_eq, beq_iff_eq]
      exact Int.ofNat_inj
    simp only [Op.eqItems, Sem.run_bind, p1, p2, p3, Result.andThen_ok, List.all_cons, e1, e2]
    by_cases hs : s[i] = t[i]
    · simp [hs, ih]
    · simp [hs]

theorem eq_of_all {s t : List Nat} (hs : s.length = 32) (ht : t.length = 32) : ((List.range 32).all fun i => s[i]? == t[i]?) = decide (s = t) := by
  rw [Bool.eq_iff_iff]
  simp only [List.all_eq_true, List.mem_range, beq_iff_eq, decide_eq_true_eq]
  constructor
  · intro h
    apply List.ext_getElem?
    intro i
    by_cases hi : i < 32
    · exact h i hi
    · rw [List.getElem?_eq_none (by omega), List.getElem?_eq_none (by omega)]
  · rintro rfl i _
    rfl

set_option maxRecDepth 100000 in
theorem run_eq_sum (w : World) (d : Nat) (s t : List Nat) (hs : s.length = 32) (ht : t.length = 32) :
    (Op.equalIn (d + 2) 23 (sv s) (sv t)).run Tryd.prog w = .ok (decide (s = t)) w := by
  obtain ⟨i0, hi, _⟩ := info_parts infoByte
  unfold sv
  rw [run_equalIn_array w (d + 1) (bvs s).toArray (bvs t).toArray Tryd.underlying23 hi, cellsByte,
    run_eqItems w s t d (List.range 32) (fun i hi => by rw [List.mem_range] at hi; omega), eq_of_all hs ht]

set_option maxRecDepth 100000 in
theorem run_neq_sum (s t : List Nat) (hs : s.length = 32) (ht : t.length = 32) (w : World) :
    (binOp .neq 23 (sv s) (sv t)).run Tryd.prog w = .ok (.bool (!decide (s = t))) w := by
  have h := run_eq_sum w 9998 s t hs ht
  unfold sv at h ⊢
  rw [run_neq_struct, h]
  rfl
theorem run_eql_sum (s t : List Nat) (hs : s.length = 32) (ht : t.length = 32) (w : World) :
    (binOp .eql 23 (sv s) (sv t)).run Tryd.prog w = .ok (.bool (decide (s = t))) w := by
  have h := run_eq_sum w 9998 s t hs ht
  unfold sv at h ⊢
  rw [run_eql_struct, h]
  rfl

set_option maxRecDepth 100000 in
theorem run_guard_neq (x y : Operand) (s t : List Nat) (w : World) : (eqGuard .neq 23 x y (sv s) (sv t)).run Tryd.prog w = .ok () w := by
  simp [eqGuard, sv]
theorem run_guard_eql (x y : Operand) (s t : List Nat) (w : World) : (eqGuard .eql 23 x y (sv s) (sv t)).run Tryd.prog w = .ok () w := by
  simp [eqGuard, sv]

/-- A sum into the variable that was made last. -/
theorem wpList_store_new {ops : Array Oper} {rest : List Oper} {o : Oper} {a : Act} {Q : Exit → Act → World → Prop} (w : World) (Z : Array Value) (hZ : Z.size = 32) (hgd : o.guard = none) (x y : Operand) (ho : o.op = .store 23 x y)
    (hx : a.eval x = .pointer (some ⟨w.heap.size, 0, none⟩)) (s : List Nat) (hl : s.length = 32) (hy : a.eval y = sv s)
    (h : wpList Tryd.prog ops Q rest (a.put o.dst undef) (w.alloc (.cells (bvs s).toArray 23))) : wpList Tryd.prog ops Q (o :: rest) a (w.alloc (.cells Z 23)) := by
  have hs : (bvs s).toArray.size = 32 := by rw [List.size_toArray, bvs_length, hl]
  refine wpList_store_row hgd 23 x y ho w.heap.size (bvs s).toArray hx hy 23 Z (World.alloc_heap_new w _) (by rw [hs]; exact sizeSum) (by rw [hZ, hs]) ?_ ?_
  · exact Array.all_eq_true_iff_forall_mem.2 (fun v hv => bvs_oneCell s v (by simpa using hv))
  · rw [World.setRow_alloc_new]
    exact h

/-- A sum that may be asked for, in a region that only reads and calls. -/
theorem quiet_load_sum' {ops : Array Oper} {o : Oper} {a : Act} {C : World → Prop} {K : Act → Prop} {E : Prop} (hw : Region.wanted o (yielded ops a.tmps) = true) (x : Operand) (ho : o.op = .load 23 x)
    (ad : Addr) (hx : a.eval x = .pointer (some ad)) (s : List Nat) (hl : s.length = 32) (hc : ∀ w, C w → At w ad s) (h : K (a.put o.dst (sv s))) :
    if Region.wanted o (yielded ops a.tmps) = true then o.quiet Tryd.prog a C K else E := by
  rw [if_pos hw]
  refine ⟨sv s, fun w hC => ?_, h⟩
  unfold Oper.quietAt execOp
  simp only [ho, hx, Instr.loadAt, Instr.sureAddr, Sem.run_bind, Sem.run_pure, Result.andThen_ok, run_load_sum w ad s hl (hc w hC)]
  exact ⟨rfl, rfl⟩


end Go.Proofs.YthbgcijkpincfaaDoor
