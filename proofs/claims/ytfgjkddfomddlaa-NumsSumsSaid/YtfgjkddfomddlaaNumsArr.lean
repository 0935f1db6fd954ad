/-
  Sums by value: a load of 32 cells, and whether two are the same.
-/
import Derived.Test.YtfgjkddfomddlaaNumsHalves
import Derived.ChangeKeysEq
import Derived.Deep.WholeRow
namespace Go.Proofs.Ytfgjkddfomddlaa
open Go.RowKit

theorem sizeSum : (Try.prog.info? 47).map (·.size) = some 32 := by kernel_rfl
theorem cellsByte : Try.prog.cellsOf 5 = 1 := by kernel_rfl

/-- A sum as a value. -/
def sv (s : List Nat) : Value := .agg (bvs s).toArray

/-- The bytes s lie from the address ad on. -/
def At (w : World) (ad : Addr) (s : List Nat) : Prop := ∀ j x, s[j]? = some x → w.cell? (ad.add j) = some (bv x)

theorem At.below {w w' : World} {ad : Addr} {s : List Nat} (h : At w ad s) (hb : Below w.heap.size w w') : At w' ad s := fun j x hx =>
  (hb.cell (World.block_lt_of_cell? w _ (h j x hx))).trans (h j x hx)

theorem run_load_sum (w : World) (ad : Addr) (s : List Nat) (hl : s.length = 32) (hc : At w ad s) : (loadVar 47 ad).run Try.prog w = .ok (sv s) w := by
  have hl' : (bvs s).length = 32 := by rw [bvs_length, hl]
  have h1 : (loadCells ad (bvs s).length).run Try.prog w = .ok (bvs s).toArray w :=
    run_loadCells_list (P := Try.prog) w ad (bvs s) (fun j v hv => by
      rw [bvs_get] at hv
      obtain ⟨y, hy, rfl⟩ := Option.map_eq_some_iff.1 hv
      exact hc j y hy)
  rw [hl'] at h1
  have hagg : (isAgg 47).run Try.prog w = .ok true w := by
    unfold isAgg
    rw [Sem.run_bind, run_underlying Try.underlying47 w]
    rfl
  cases hq : Try.prog.info? 47 with
  | none => have := sizeSum; simp [hq] at this
  | some i =>
    have hs : i.size = 32 := by have := sizeSum; simpa [hq] using this
    simp [loadVar, Sem.run_bind, hagg, sizeOf, typeInfo, hq, hs, h1, sv]

theorem wpList_load_sum {ops : Array Oper} {rest : List Oper} {o : Oper} {a : Act} {w : World} {Q : Exit → Act → World → Prop} (hgd : o.guard = none) (x : Operand) (ho : o.op = .load 47 x)
    (ad : Addr) (hx : a.eval x = .pointer (some ad)) (s : List Nat) (hl : s.length = 32) (hc : At w ad s)
    (h : wpList Try.prog ops Q rest (a.put o.dst (sv s)) w) : wpList Try.prog ops Q (o :: rest) a w := by
  refine wpList_plain hgd fun K hK => ?_
  unfold Oper.wp execOp
  simp only [ho, hx, Instr.loadAt, Instr.sureAddr, Sem.run_bind, Sem.run_pure, Result.andThen_ok, run_load_sum w ad s hl hc]
  exact hK _ _ h

theorem quiet_load_sum {ops : Array Oper} {o : Oper} {a : Act} {C : World → Prop} {K : Act → Prop} {E : Prop} (hgd : o.guard = none) (x : Operand) (ho : o.op = .load 47 x)
    (ad : Addr) (hx : a.eval x = .pointer (some ad)) (s : List Nat) (hl : s.length = 32) (hc : ∀ w, C w → At w ad s) (h : K (a.put o.dst (sv s))) :
    if Region.wanted o (yielded ops a.tmps) = true then o.quiet Try.prog a C K else E := by
  have hw : Region.wanted o (yielded ops a.tmps) = true := by simp [Region.wanted, hgd]
  rw [if_pos hw]
  refine ⟨sv s, fun w hC => ?_, h⟩
  unfold Oper.quietAt execOp
  simp only [ho, hx, Instr.loadAt, Instr.sureAddr, Sem.run_bind, Sem.run_pure, Result.andThen_ok, run_load_sum w ad s hl (hc w hC)]
  exact ⟨rfl, rfl⟩

theorem run_part_byte (w : World) (cs : Array Value) (i x : Nat) (h : cs[i]? = some (bv x)) : (part 5 cs i).run Try.prog w = .ok (bv x) w := by
  have hagg : (isAgg 5).run Try.prog w = .ok false w := by
    unfold isAgg
    rw [Sem.run_bind, run_underlying Try.underlying5 w]
    rfl
  simp [part, Sem.run_bind, hagg, h]

theorem run_eqItems (w : World) (s t : List Nat) (d : Nat) : ∀ (is : List Nat), (∀ i ∈ is, i < s.length ∧ i < t.length) →
    (Op.eqItems (d + 1) 5 1 (bvs s).toArray (bvs t).toArray is).run Try.prog w = .ok (is.all fun i => s[i]? == t[i]?) w
  | [], _ => by simp [Op.eqItems]
  | i :: is, h => by
    have h1 := h i (by simp)
    have ih := run_eqItems w s t d is (fun j hj => h j (by simp [hj]))
    have e1 : s[i]? = some s[i] := List.getElem?_eq_getElem h1.1
    have e2 : t[i]? = some t[i] := List.getElem?_eq_getElem h1.2
    have p1 := run_part_byte w (bvs s).toArray (i * 1) s[i] (by rw [Nat.mul_one, List.getElem?_toArray, bvs_get, e1]; rfl)
    have p2 := run_part_byte w (bvs t).toArray (i * 1) t[i] (by rw [Nat.mul_one, List.getElem?_toArray, bvs_get, e2]; rfl)
    have p3 : (Op.equalIn (d + 1) 5 (bv s[i]) (bv t[i])).run Try.prog w = .ok (s[i] == t[i]) w := by
      unfold bv
      rw [run_equalIn_int w d 5 .u8 .u8 _ _ Try.underlying5]
      congr 1
      rw [Bool.eq_iff_iff, beq_iff_eq, beq_iff_eq]
      exact Int.ofNat_inj
    simp only [Op.eqItems, Sem.run_bind, p1, p2, p3, Result.andThen_ok, List.all_cons, e1, e2]
    by_cases hs : s[i] = t[i]
    · simp [hs, ih]
    · simp [hs]

theorem eq_of_all {s t : List Nat} (hs : s.length = 32) (ht : t.length = 32) : ((List.range 32).all fun i => s[i]? == t[i]?) = decide (s = t) := by
  rw [Bool.eq_iff_iff]
  simp only [List.all_eq_true, List.mem_range, beq_iff_eq, decide_eq_true_eq]
  constructor
  · intro h
    apply List.ext_getElem?
    intro i
    by_cases hi : i < 32
    · exact h i hi
    · rw [List.getElem?_eq_none (by omega), List.getElem?_eq_none (by omega)]
  · rintro rfl i _
    rfl

theorem run_eq_sum (w : World) (d : Nat) (s t : List Nat) (hs : s.length = 32) (ht : t.length = 32) :
    (Op.equalIn (d + 2) 47 (sv s) (sv t)).run Try.prog w = .ok (decide (s = t)) w := by
  obtain ⟨i0, hi, _⟩ := info_parts infoByte
  unfold sv
  rw [run_equalIn_array w (d + 1) (bvs s).toArray (bvs t).toArray Try.underlying47 hi, cellsByte,
    run_eqItems w s t d (List.range 32) (fun i hi => by rw [List.mem_range] at hi; omega), eq_of_all hs ht]

theorem run_neq_sum (s t : List Nat) (hs : s.length = 32) (ht : t.length = 32) (w : World) :
    (binOp .neq 47 (sv s) (sv t)).run Try.prog w = .ok (.bool (!decide (s = t))) w := by
  have h := run_eq_sum w 9998 s t hs ht
  unfold sv at h ⊢
  rw [run_neq_struct, h]
  rfl
theorem run_eql_sum (s t : List Nat) (hs : s.length = 32) (ht : t.length = 32) (w : World) :
    (binOp .eql 47 (sv s) (sv t)).run Try.prog w = .ok (.bool (decide (s = t))) w := by
  have h := run_eq_sum w 9998 s t hs ht
  unfold sv at h ⊢
  rw [run_eql_struct, h]
  rfl

theorem run_guard_neq (x y : Operand) (s t : List Nat) (w : World) : (eqGuard .neq 47 x y (sv s) (sv t)).run Try.prog w = .ok () w := by
  simp [eqGuard, sv]
theorem run_guard_eql (x y : Operand) (s t : List Nat) (w : World) : (eqGuard .eql 47 x y (sv s) (sv t)).run Try.prog w = .ok () w := by
  simp [eqGuard, sv]

end Go.Proofs.Ytfgjkddfomddlaa
