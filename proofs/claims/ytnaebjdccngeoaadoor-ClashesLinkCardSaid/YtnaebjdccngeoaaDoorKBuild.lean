/-
  '[2]api.Sum{x, y}', and what is done with such a variable.
-/
import Derived.Test.YtnaebjdccngeoaaDoorKPair
import Derived.Test.YtnaebjdccngeoaaDoorVList
import Derived.Laws.Tables
namespace Go.Proofs.YtnaebjdccngeoaaDoor
open Go.RowKit

theorem infoPair : (Tryd.prog.info? 62).map (fun i => (i.zero, i.size, i.bytes)) = some (some (.agg (Array.replicate 64 (.int .u8 0))), 64, 64) := by kernel_rfl

set_option maxRecDepth 100000 in
theorem run_build_pair (x y : List Nat) (hx : x.length = 32) (hy : y.length = 32) (w : World) : (Instr.build 62 #[(0, sv x), (1, sv y)]).run Tryd.prog w = .ok (sv (x ++ y)) w := by
  obtain ⟨i0, hi, hz0, hz1, _⟩ := info_parts infoSum
  obtain ⟨j0, hj, hy0, hy1, _⟩ := info_parts infoPair
  refine run_build w _ _ _ ?_
  unfold Program.built
  simp only [hj, Tryd.underlying62, hy0, hi, hz1]
  have := fill_all [x, y] [] (List.replicate 64 (.int .u8 0)) 0 (by intro s hs; simp at hs; rcases hs with rfl | rfl; exact hx; exact hy) (by simp) rfl
  rw [List.nil_append, List.nil_append, show [x, y].flatten = x ++ y by simp, List.toArray_replicate] at this
  exact this

theorem run_build_op {o : Oper} {a : Act} (u v : Operand) (ho : o.op = .build 62 #[(0, u), (1, v)]) (x y : List Nat) (hu : a.eval u = sv x) (hv : a.eval v = sv y) (hx : x.length = 32) (hy : y.length = 32) (w : World) :
    (execOp a.eval o).run Tryd.prog w = .ok (.value (sv (x ++ y))) w := by
  have hp : (#[((0 : Nat), u), (1, v)].map fun ((i, x) : Nat × Operand) => (i, a.eval x)) = #[(0, sv x), (1, sv y)] := by simp [hu, hv]
  unfold execOp
  simp only [ho, hp, Sem.run_bind, Sem.run_pure, Result.andThen_ok, run_build_pair x y hx hy w]

theorem wpList_build_pair {ops : Array Oper} {rest : List Oper} {o : Oper} {a : Act} {w : World} {Q : Exit → Act → World → Prop} (hgd : o.guard = none) (u v : Operand) (ho : o.op = .build 62 #[(0, u), (1, v)])
    (x y : List Nat) (hu : a.eval u = sv x) (hv : a.eval v = sv y) (hx : x.length = 32) (hy : y.length = 32)
    (h : wpList Tryd.prog ops Q rest (a.put o.dst (sv (x ++ y))) w) : wpList Tryd.prog ops Q (o :: rest) a w := by
  refine wpList_plain hgd fun K hK => ?_
  unfold Oper.wp
  rw [run_build_op u v ho x y hu hv hx hy]
  exact hK _ _ h

theorem yields_build_pair {ops : Array Oper} {S : World → Prop} {o : Oper} {a : Act} (hw : Region.wanted o (yielded ops a.tmps) = true) (u v : Operand) (ho : o.op = .build 62 #[(0, u), (1, v)])
    (x y : List Nat) (hu : a.eval u = sv x) (hv : a.eval v = sv y) (hx : x.length = 32) (hy : y.length = 32) : YieldsIf Tryd.prog ops S o (sv (x ++ y)) a :=
  Or.inl ⟨hw, fun w _ => run_build_op u v ho x y hu hv hx hy w⟩

theorem yields_pair {ops : Array Oper} {S : World → Prop} {o : Oper} {a : Act} (hw : Region.wanted o (yielded ops a.tmps) = true) (x : Operand) (ho : o.op = .load 62 x)
    (ad : Addr) (hx : a.eval x = .pointer (some ad)) (s : List Nat) (hl : s.length = 64) (hc : ∀ w, S w → At w ad s) : YieldsIf Tryd.prog ops S o (sv s) a := by
  refine Or.inl ⟨hw, fun w hS => ?_⟩
  unfold execOp
  simp only [ho, hx, Instr.loadAt, Instr.sureAddr, Sem.run_bind, Sem.run_pure, Result.andThen_ok, run_load_pair w ad s hl (hc w hS)]

theorem step_store_pair {o : Oper} {a : Act} {w : World} {K : Act → World → Prop} {Q : Exit → Act → World → Prop} (x y : Operand) (ho : o.op = .store 62 x y)
    (g : Nat) (hx : a.eval x = .pointer (some ⟨g, 0, none⟩)) {T : TypeId} (xs ys : List Nat) (hl : xs.length = 64) (hl' : ys.length = 64) (hc : BArr w g T xs) (hy : a.eval y = sv ys)
    (h : K (a.put o.dst undef) (w.setRow g (bvs ys).toArray)) : Oper.wp Tryd.prog o a w K Q := by
  have hr := run_storeVar_row (P := Tryd.prog) w g T 62 (bvs xs).toArray (bvs ys).toArray hc (by rw [List.size_toArray, bvs_length, hl']; exact sizePair) (by rw [List.size_toArray, bvs_length, hl, List.size_toArray, bvs_length, hl']) (all_oneCell_toArray (bvs_oneCell ys))
  unfold Oper.wp execOp
  simp only [ho, hx, hy, sv, Instr.storeAt, Instr.sureAddr, Sem.run_bind, Sem.run_pure, Result.andThen_ok, hr]
  exact h

/-- The two halves of such a variable. -/
theorem BArr.first {w : World} {g : Nat} {T : TypeId} {x y : List Nat} (h : BArr w g T (x ++ y)) : At w ⟨g, 0, none⟩ x := fun j v hv => h.at_ j v (by rw [List.getElem?_append_left (List.getElem?_eq_some_iff.1 hv).1]; exact hv)
theorem BArr.second {w : World} {g : Nat} {T : TypeId} {x y : List Nat} (h : BArr w g T (x ++ y)) (hx : x.length = 32) : At w ⟨g, 32, none⟩ y := fun j v hv => by
  have := h.at_ (32 + j) v (by rw [List.getElem?_append_right (by omega), hx, show 32 + j - 32 = j by omega]; exact hv)
  have ha : ∀ o k : Nat, (⟨g, o, none⟩ : Addr).add k = ⟨g, o + k, none⟩ := fun o k => by unfold Addr.add; split <;> simp_all
  rw [ha] at this ⊢
  rw [Nat.zero_add] at this
  exact this

end Go.Proofs.YtnaebjdccngeoaaDoor
