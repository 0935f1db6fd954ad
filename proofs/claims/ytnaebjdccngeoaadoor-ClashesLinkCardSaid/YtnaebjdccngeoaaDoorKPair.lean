/-
  Two sums as one value: an array of them, loaded, stored, held against another one.
-/
import Derived.Test.YtnaebjdccngeoaaDoorLSum
import Derived.Test.YtnaebjdccngeoaaDoorLBArr
namespace Go.Proofs.YtnaebjdccngeoaaDoor
open Go.RowKit

theorem sizePair : (Tryd.prog.info? 62).map (·.size) = some 64 := by kernel_rfl
theorem cellsSumP : Tryd.prog.cellsOf 36 = 32 := by kernel_rfl

set_option maxRecDepth 100000 in
theorem run_part_sum (w : World) (l s : List Nat) (i : Nat) (h : (l.drop i).take 32 = s) : (part 36 (bvs l).toArray i).run Tryd.prog w = .ok (sv s) w := by
  have hagg : (isAgg 36).run Tryd.prog w = .ok true w := by
    unfold isAgg
    rw [Sem.run_bind, run_underlying Tryd.underlying36 w]
    rfl
  have hx : List.take 32 (List.drop i (bvs l)) = bvs s := by
    rw [← h]
    unfold bvs
    rw [List.map_take, List.map_drop]
  cases hq : Tryd.prog.info? 36 with
  | none => have := sizeSum; simp [hq] at this
  | some j =>
    have hs : j.size = 32 := by have := sizeSum; simpa [hq] using this
    simp [part, Sem.run_bind, hagg, sizeOf, typeInfo, hq, hs, hx, sv]

theorem run_items_cons {P : Program} {w : World} {d : Nat} {e : TypeId} {c i : Nat} {xs ys : Array Value} {is : List Nat} {x y : Value} {r : Bool} (h1 : (part e xs (i * c)).run P w = .ok x w) (h2 : (part e ys (i * c)).run P w = .ok y w)
    (h3 : (Op.equalIn d e x y).run P w = .ok r w) : (Op.eqItems d e c xs ys (i :: is)).run P w = if r = true then (Op.eqItems d e c xs ys is).run P w else .ok false w := by
  simp only [Op.eqItems, Sem.run_bind, h1, h2, h3, Result.andThen_ok]
  cases r <;> rfl

set_option maxRecDepth 100000 in
theorem run_eq_pair (w : World) (d : Nat) (x y x' y' : List Nat) (hx : x.length = 32) (hy : y.length = 32) (hx' : x'.length = 32) (hy' : y'.length = 32) :
    (Op.equalIn (d + 3) 62 (sv (x ++ y)) (sv (x' ++ y'))).run Tryd.prog w = .ok (decide (x = x') && decide (y = y')) w := by
  obtain ⟨i0, hi⟩ : ∃ i0, Tryd.prog.info? 36 = some i0 := by
    cases hq : Tryd.prog.info? 36 with
    | none => have := sizeSum; simp [hq] at this
    | some j => exact ⟨j, rfl⟩
  have p1 := run_part_sum w (x ++ y) x (0 * 32) (by rw [Nat.zero_mul, List.drop_zero, ← hx, List.take_left])
  have p2 := run_part_sum w (x ++ y) y (1 * 32) (by rw [Nat.one_mul, ← hx, List.drop_left, hx, ← hy, List.take_length])
  have p3 := run_part_sum w (x' ++ y') x' (0 * 32) (by rw [Nat.zero_mul, List.drop_zero, ← hx', List.take_left])
  have p4 := run_part_sum w (x' ++ y') y' (1 * 32) (by rw [Nat.one_mul, ← hx', List.drop_left, hx', ← hy', List.take_length])
  have q1 := run_eq_sum w d x x' hx hx'
  have q2 := run_eq_sum w d y y' hy hy'
  generalize hc : (32 : Nat) = c at p1 p2 p3 p4
  have hce : Tryd.prog.cellsOf 36 = c := by rw [← hc]; exact cellsSumP
  have e1 : sv (x ++ y) = .agg (bvs (x ++ y)).toArray := rfl
  have e2 : sv (x' ++ y') = .agg (bvs (x' ++ y')).toArray := rfl
  rw [e1, e2, run_equalIn_array w (d + 2) _ _ Tryd.underlying62 hi, hce, show List.range 2 = [0, 1] from rfl, run_items_cons p1 p3 q1, run_items_cons p2 p4 q2]
  have hnil : (Op.eqItems (d + 2) 36 c (bvs (x ++ y)).toArray (bvs (x' ++ y')).toArray []).run Tryd.prog w = .ok true w := by simp only [Op.eqItems, Sem.run_pure]
  rw [hnil]
  cases decide (x = x') <;> cases decide (y = y') <;> rfl

set_option maxRecDepth 100000 in
theorem run_eql_pair (x y x' y' : List Nat) (hx : x.length = 32) (hy : y.length = 32) (hx' : x'.length = 32) (hy' : y'.length = 32) (w : World) :
    (binOp .eql 62 (sv (x ++ y)) (sv (x' ++ y'))).run Tryd.prog w = .ok (.bool (decide (x = x') && decide (y = y'))) w := by
  have h := run_eq_pair w 9997 x y x' y' hx hy hx' hy'
  unfold sv at h ⊢
  rw [run_eql_struct, h]
  rfl
theorem run_guard_pair (x y : Operand) (s t : List Nat) (w : World) : (eqGuard .eql 62 x y (sv s) (sv t)).run Tryd.prog w = .ok () w := by
  simp [eqGuard, sv]

set_option maxRecDepth 100000 in
theorem run_load_pair (w : World) (ad : Addr) (s : List Nat) (hl : s.length = 64) (hc : At w ad s) : (loadVar 62 ad).run Tryd.prog w = .ok (sv s) w := by
  have hl' : (bvs s).length = 64 := by rw [bvs_length, hl]
  have h1 : (loadCells ad (bvs s).length).run Tryd.prog w = .ok (bvs s).toArray w :=
    run_loadCells_list (P := Tryd.prog) w ad (bvs s) (fun j v hv => by
      rw [bvs_get] at hv
      obtain ⟨y, hy, rfl⟩ := Option.map_eq_some_iff.1 hv
      exact hc j y hy)
  rw [hl'] at h1
  have hagg : (isAgg 62).run Tryd.prog w = .ok true w := by
    unfold isAgg
    rw [Sem.run_bind, run_underlying Tryd.underlying62 w]
    rfl
  cases hq : Tryd.prog.info? 62 with
  | none => have := sizePair; simp [hq] at this
  | some i =>
    have hs : i.size = 64 := by have := sizePair; simpa [hq] using this
    simp [loadVar, Sem.run_bind, hagg, sizeOf, typeInfo, hq, hs, h1, sv]

theorem wpList_load_pair {ops : Array Oper} {rest : List Oper} {o : Oper} {a : Act} {w : World} {Q : Exit → Act → World → Prop} (hgd : o.guard = none) (x : Operand) (ho : o.op = .load 62 x)
    (ad : Addr) (hx : a.eval x = .pointer (some ad)) (s : List Nat) (hl : s.length = 64) (hc : At w ad s)
    (h : wpList Tryd.prog ops Q rest (a.put o.dst (sv s)) w) : wpList Tryd.prog ops Q (o :: rest) a w := by
  refine wpList_plain hgd fun K hK => ?_
  unfold Oper.wp execOp
  simp only [ho, hx, Instr.loadAt, Instr.sureAddr, Sem.run_bind, Sem.run_pure, Result.andThen_ok, run_load_pair w ad s hl hc]
  exact hK _ _ h

/-- A pair into the variable that was made last. -/
theorem wpList_store_newP {ops : Array Oper} {rest : List Oper} {o : Oper} {a : Act} {Q : Exit → Act → World → Prop} (w : World) (Z : Array Value) (hZ : Z.size = 64) (hgd : o.guard = none) (x y : Operand) (ho : o.op = .store 62 x y)
    (hx : a.eval x = .pointer (some ⟨w.heap.size, 0, none⟩)) (s : List Nat) (hl : s.length = 64) (hy : a.eval y = sv s)
    (h : wpList Tryd.prog ops Q rest (a.put o.dst undef) (w.alloc (.cells (bvs s).toArray 62))) : wpList Tryd.prog ops Q (o :: rest) a (w.alloc (.cells Z 62)) := by
  have hs : (bvs s).toArray.size = 64 := by rw [List.size_toArray, bvs_length, hl]
  refine wpList_store_row hgd 62 x y ho w.heap.size (bvs s).toArray hx hy 62 Z (World.alloc_heap_new w _) (by rw [hs]; exact sizePair) (by rw [hZ, hs]) ?_ ?_
  · exact Array.all_eq_true_iff_forall_mem.2 (fun v hv => bvs_oneCell s v (by simpa using hv))
  · rw [World.setRow_alloc_new]
    exact h

theorem wpList_store_pair {ops : Array Oper} {rest : List Oper} {o : Oper} {a : Act} {w : World} {Q : Exit → Act → World → Prop} (hgd : o.guard = none) (x y : Operand) (ho : o.op = .store 62 x y)
    (g : Nat) (hx : a.eval x = .pointer (some ⟨g, 0, none⟩)) {T : TypeId} (xs ys : List Nat) (hl : xs.length = 64) (hl' : ys.length = 64) (hc : BArr w g T xs) (hy : a.eval y = sv ys)
    (h : wpList Tryd.prog ops Q rest (a.put o.dst undef) (w.setRow g (bvs ys).toArray)) : wpList Tryd.prog ops Q (o :: rest) a w := by
  refine wpList_store_row hgd 62 x y ho g (bvs ys).toArray hx hy T (bvs xs).toArray hc (by rw [List.size_toArray, bvs_length, hl']; exact sizePair) (by rw [List.size_toArray, List.size_toArray, bvs_length, bvs_length, hl, hl']) ?_ h
  exact Array.all_eq_true_iff_forall_mem.2 (fun v hv => bvs_oneCell ys v (by simpa using hv))

end Go.Proofs.YtnaebjdccngeoaaDoor
