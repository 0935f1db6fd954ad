/-
  A pair of sums (clashes.pair) as a value, and what is done with such a variable.
-/
import Derived.Test.YtnaebjdccngeoaaDoorKBuild
namespace Go.Proofs.YtnaebjdccngeoaaDoor
open Go.RowKit

theorem sizePairC : (Tryd.prog.info? 63).map (·.size) = some 64 := by kernel_rfl
theorem run_load_pairC (w : World) (ad : Addr) (s : List Nat) (hl : s.length = 64) (hc : At w ad s) : (loadVar 63 ad).run Tryd.prog w = .ok (sv s) w := by
  have hl' : (bvs s).length = 64 := by rw [bvs_length, hl]
  have h1 : (loadCells ad (bvs s).length).run Tryd.prog w = .ok (bvs s).toArray w :=
    run_loadCells_list (P := Tryd.prog) w ad (bvs s) (fun j v hv => by
      rw [bvs_get] at hv
      obtain ⟨y, hy, rfl⟩ := Option.map_eq_some_iff.1 hv
      exact hc j y hy)
  rw [hl'] at h1
  have hagg : (isAgg 63).run Tryd.prog w = .ok true w := by
    unfold isAgg
    rw [Sem.run_bind, run_underlying Tryd.underlying63 w]
    rfl
  cases hq : Tryd.prog.info? 63 with
  | none => have := sizePairC; simp [hq] at this
  | some i =>
    have hs : i.size = 64 := by have := sizePairC; simpa [hq] using this
    simp [loadVar, Sem.run_bind, hagg, sizeOf, typeInfo, hq, hs, h1, sv]

theorem wpList_load_pairC {ops : Array Oper} {rest : List Oper} {o : Oper} {a : Act} {w : World} {Q : Exit → Act → World → Prop} (hgd : o.guard = none) (x : Operand) (ho : o.op = .load 63 x)
    (ad : Addr) (hx : a.eval x = .pointer (some ad)) (s : List Nat) (hl : s.length = 64) (hc : At w ad s)
    (h : wpList Tryd.prog ops Q rest (a.put o.dst (sv s)) w) : wpList Tryd.prog ops Q (o :: rest) a w := by
  refine wpList_plain hgd fun K hK => ?_
  unfold Oper.wp execOp
  simp only [ho, hx, Instr.loadAt, Instr.sureAddr, Sem.run_bind, Sem.run_pure, Result.andThen_ok, run_load_pairC w ad s hl hc]
  exact hK _ _ h

theorem wpList_store_newPC {ops : Array Oper} {rest : List Oper} {o : Oper} {a : Act} {Q : Exit → Act → World → Prop} (w : World) (Z : Array Value) (hZ : Z.size = 64) (hgd : o.guard = none) (x y : Operand) (ho : o.op = .store 63 x y)
    (hx : a.eval x = .pointer (some ⟨w.heap.size, 0, none⟩)) (s : List Nat) (hl : s.length = 64) (hy : a.eval y = sv s)
    (h : wpList Tryd.prog ops Q rest (a.put o.dst undef) (w.alloc (.cells (bvs s).toArray 63))) : wpList Tryd.prog ops Q (o :: rest) a (w.alloc (.cells Z 63)) := by
  have hs : (bvs s).toArray.size = 64 := by rw [List.size_toArray, bvs_length, hl]
  refine wpList_store_row hgd 63 x y ho w.heap.size (bvs s).toArray hx hy 63 Z (World.alloc_heap_new w _) (by rw [hs]; exact sizePairC) (by rw [hZ, hs]) ?_ ?_
  · exact Array.all_eq_true_iff_forall_mem.2 (fun v hv => bvs_oneCell s v (by simpa using hv))
  · rw [World.setRow_alloc_new]
    exact h

theorem wpList_store_pairC {ops : Array Oper} {rest : List Oper} {o : Oper} {a : Act} {w : World} {Q : Exit → Act → World → Prop} (hgd : o.guard = none) (x y : Operand) (ho : o.op = .store 63 x y)
    (g : Nat) (hx : a.eval x = .pointer (some ⟨g, 0, none⟩)) {T : TypeId} (xs ys : List Nat) (hl : xs.length = 64) (hl' : ys.length = 64) (hc : BArr w g T xs) (hy : a.eval y = sv ys)
    (h : wpList Tryd.prog ops Q rest (a.put o.dst undef) (w.setRow g (bvs ys).toArray)) : wpList Tryd.prog ops Q (o :: rest) a w := by
  refine wpList_store_row hgd 63 x y ho g (bvs ys).toArray hx hy T (bvs xs).toArray hc (by rw [List.size_toArray, bvs_length, hl']; exact sizePairC) (by rw [List.size_toArray, List.size_toArray, bvs_length, bvs_length, hl, hl']) ?_ h
  exact Array.all_eq_true_iff_forall_mem.2 (fun v hv => bvs_oneCell ys v (by simpa using hv))

theorem infoPairC : (Tryd.prog.info? 63).map (fun i => (i.zero, i.size, i.bytes)) = some (some (.agg (Array.replicate 64 (.int .u8 0))), 64, 64) := by kernel_rfl

theorem run_build_pairC (x y : List Nat) (hx : x.length = 32) (hy : y.length = 32) (w : World) : (Instr.build 63 #[(0, sv x), (1, sv y)]).run Tryd.prog w = .ok (sv (x ++ y)) w := by
  obtain ⟨i0, hi, hz0, hz1, _⟩ := info_parts infoSum
  obtain ⟨j0, hj, hy0, hy1, _⟩ := info_parts infoPairC
  refine run_build w _ _ _ ?_
  unfold Program.built
  simp only [hj, Tryd.underlying63, hy0, hi, hz1]
  have := fill_all [x, y] [] (List.replicate 64 (.int .u8 0)) 0 (by intro s hs; simp at hs; rcases hs with rfl | rfl; exact hx; exact hy) (by simp) rfl
  rw [List.nil_append, List.nil_append, show [x, y].flatten = x ++ y by simp, List.toArray_replicate] at this
  exact this

theorem run_build_opC {o : Oper} {a : Act} (u v : Operand) (ho : o.op = .build 63 #[(0, u), (1, v)]) (x y : List Nat) (hu : a.eval u = sv x) (hv : a.eval v = sv y) (hx : x.length = 32) (hy : y.length = 32) (w : World) :
    (execOp a.eval o).run Tryd.prog w = .ok (.value (sv (x ++ y))) w := by
  have hp : (#[((0 : Nat), u), (1, v)].map fun ((i, x) : Nat × Operand) => (i, a.eval x)) = #[(0, sv x), (1, sv y)] := by simp [hu, hv]
  unfold execOp
  simp only [ho, hp, Sem.run_bind, Sem.run_pure, Result.andThen_ok, run_build_pairC x y hx hy w]

theorem wpList_build_pairC {ops : Array Oper} {rest : List Oper} {o : Oper} {a : Act} {w : World} {Q : Exit → Act → World → Prop} (hgd : o.guard = none) (u v : Operand) (ho : o.op = .build 63 #[(0, u), (1, v)])
    (x y : List Nat) (hu : a.eval u = sv x) (hv : a.eval v = sv y) (hx : x.length = 32) (hy : y.length = 32)
    (h : wpList Tryd.prog ops Q rest (a.put o.dst (sv (x ++ y))) w) : wpList Tryd.prog ops Q (o :: rest) a w := by
  refine wpList_plain hgd fun K hK => ?_
  unfold Oper.wp
  rw [run_build_opC u v ho x y hu hv hx hy]
  exact hK _ _ h

theorem yields_build_pairC {ops : Array Oper} {S : World → Prop} {o : Oper} {a : Act} (hw : Region.wanted o (yielded ops a.tmps) = true) (u v : Operand) (ho : o.op = .build 63 #[(0, u), (1, v)])
    (x y : List Nat) (hu : a.eval u = sv x) (hv : a.eval v = sv y) (hx : x.length = 32) (hy : y.length = 32) : YieldsIf Tryd.prog ops S o (sv (x ++ y)) a :=
  Or.inl ⟨hw, fun w _ => run_build_opC u v ho x y hu hv hx hy w⟩

theorem yields_pairC {ops : Array Oper} {S : World → Prop} {o : Oper} {a : Act} (hw : Region.wanted o (yielded ops a.tmps) = true) (x : Operand) (ho : o.op = .load 63 x)
    (ad : Addr) (hx : a.eval x = .pointer (some ad)) (s : List Nat) (hl : s.length = 64) (hc : ∀ w, S w → At w ad s) : YieldsIf Tryd.prog ops S o (sv s) a := by
  refine Or.inl ⟨hw, fun w hS => ?_⟩
  unfold execOp
  simp only [ho, hx, Instr.loadAt, Instr.sureAddr, Sem.run_bind, Sem.run_pure, Result.andThen_ok, run_load_pairC w ad s hl (hc w hS)]

theorem step_store_pairC {o : Oper} {a : Act} {w : World} {K : Act → World → Prop} {Q : Exit → Act → World → Prop} (x y : Operand) (ho : o.op = .store 63 x y)
    (g : Nat) (hx : a.eval x = .pointer (some ⟨g, 0, none⟩)) {T : TypeId} (xs ys : List Nat) (hl : xs.length = 64) (hl' : ys.length = 64) (hc : BArr w g T xs) (hy : a.eval y = sv ys)
    (h : K (a.put o.dst undef) (w.setRow g (bvs ys).toArray)) : Oper.wp Tryd.prog o a w K Q := by
  have hr := run_storeVar_row (P := Tryd.prog) w g T 63 (bvs xs).toArray (bvs ys).toArray hc (by rw [List.size_toArray, bvs_length, hl']; exact sizePairC) (by rw [List.size_toArray, bvs_length, hl, List.size_toArray, bvs_length, hl']) (all_oneCell_toArray (bvs_oneCell ys))
  unfold Oper.wp execOp
  simp only [ho, hx, hy, sv, Instr.storeAt, Instr.sureAddr, Sem.run_bind, Sem.run_pure, Result.andThen_ok, hr]
  exact h

end Go.Proofs.YtnaebjdccngeoaaDoor
