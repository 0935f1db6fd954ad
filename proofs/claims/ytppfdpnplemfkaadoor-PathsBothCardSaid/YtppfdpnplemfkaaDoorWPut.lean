/-
  A sum of a row of the call's own is written. Two rows, one behind the other: their paths.
-/
import Derived.Test.YtppfdpnplemfkaaDoorWOf
import Derived.Test.YtppfdpnplemfkaaDoorLSums
import Derived.Laws.CopyRow
namespace Go.Proofs.YtppfdpnplemfkaaDoor
open Go.RowKit

theorem take_splice {α : Type} (l c : List α) (o n : Nat) (h : o + c.length ≤ n) (hn : n ≤ l.length) : (splice l o c).take n = splice (l.take n) o c := by
  unfold splice
  have h1 : (l.take o).length = o := by rw [List.length_take]; omega
  rw [List.take_append, List.take_append, h1, List.take_take, List.take_take, List.drop_take]
  rw [show min n o = o by omega, show min o n = o by omega, List.take_of_length_le (show c.length ≤ n - o by omega), show n - o - c.length = n - (o + c.length) by omega]

theorem own_put {w : World} {base g len cap k : Nat} {xs cs : List Value} {e : TypeId} (h : w.ownsRow base e 32 (.slice (some ⟨g, 0, none⟩) len cap) len xs) (hk : k < len) (hc : cs.length = 32) :
    ∃ cur : List Value, w.heap[g]? = some (.cells cur.toArray e (0, 0)) ∧ k * 32 + 32 ≤ cur.length ∧ (w.setRow g (splice cur (k * 32) cs).toArray).ownsRow base e 32 (.slice (some ⟨g, 0, none⟩) len cap) len (splice xs (k * 32) cs) := by
  rcases h.2 with ⟨e, _⟩ | ⟨g', cap', cur, e, hb, hg, hle, hm, hs, htk⟩
  · cases e
  · cases e
    have hl : cur.toList.length = cap * 32 := by rw [Array.length_toList, hs]
    have hxl := h.1
    refine ⟨cur.toList, by simpa using hg, by omega, ⟨by rw [length_splice _ _ _ (by omega)]; exact hxl, .inr ⟨g, cap, _, rfl, hb, setRow_heap w g cur _ _ (0, 0) hg, hle, hm, by rw [List.size_toArray, length_splice _ _ _ (by omega), hl], ?_⟩⟩⟩
    rw [List.toList_toArray, take_splice _ _ _ _ (by omega) (by omega), htk]

theorem step_store_at {o : Oper} {a : Act} {w : World} {K : Act → World → Prop} {Q : Exit → Act → World → Prop} (ty : TypeId) (x y : Operand) (ho : o.op = .store ty x y)
    (g off : Nat) (cs cur : List Value) (t : TypeId) (hx : a.eval x = .pointer (some ⟨g, off, none⟩)) (hy : a.eval y = .agg cs.toArray) (hg : w.heap[g]? = some (.cells cur.toArray t (0, 0)))
    (hi : (Tryd.prog.info? ty).map (·.size) = some cs.length) (hfit : off + cs.length ≤ cur.length) (h1 : ∀ v ∈ cs, v.oneCell' = true)
    (h : K (a.put o.dst undef) (w.setRow g (splice cur off cs).toArray)) : Oper.wp Tryd.prog o a w K Q := by
  have hst := run_storeCells_at Tryd.prog g off t cs 0 cur.toArray w hg (by simpa using hfit) h1
  simp only [Nat.add_zero] at hst
  cases hq : Tryd.prog.info? ty with
  | none => simp [hq] at hi
  | some i =>
    have hs : cs.length = i.size := by simp [hq] at hi; omega
    have hrun : (storeVar ty ⟨g, off, none⟩ (.agg cs.toArray)).run Tryd.prog w = .ok () (w.setRow g (splice cur off cs).toArray) := by
      simp [storeVar, sizeOf, typeInfo, hq, Value.cells, hs, hst, splice]
    unfold Oper.wp execOp
    simp only [ho, hx, hy, Instr.storeAt, Instr.sureAddr, Sem.run_bind, Sem.run_pure, Result.andThen_ok, hrun]
    exact h

section
variable {X Y : List Nat} {k j : Nat}
theorem nth_left (hX : X.length = 32 * k) {i : Nat} (hi : i < k) : nth (X ++ Y) i = nth X i := by
  have := nth_take (ys := X ++ Y) hi
  rw [List.take_left' hX] at this
  exact this.symm
theorem nth_right (hX : X.length = 32 * k) (i : Nat) : nth (X ++ Y) (k + i) = nth Y i := by
  have := nth_drop (X ++ Y) k i
  rw [List.drop_left' hX] at this
  exact this.symm
theorem cut_twice {e : Nat} (h : 2 ^ e = k) : cutN (k + k) = k := by
  subst h
  have := Nat.two_pow_pos e
  exact cutN_of (by omega) (by omega)
theorem path_left {e : Nat} (h : 2 ^ e = k) (hX : X.length = 32 * k) (hj : j < k) : pathL (nth (X ++ Y)) 0 (k + k) j = pathL (nth X) 0 k j ++ [rt (nth Y) 0 k] := by
  have hk : 0 < k := by rw [← h]; exact Nat.two_pow_pos e
  rw [pathL_low _ (by omega) (by rw [cut_twice h]; exact hj), cut_twice h, Nat.zero_add, Nat.add_sub_cancel,
    pathL_congr _ (nth X) k 0 0 j (fun i hi => by rw [Nat.zero_add]; exact nth_left hX hi), rt_congr _ (nth Y) k k 0 (fun i _ => by rw [Nat.zero_add]; exact nth_right hX i)]
theorem path_right {e : Nat} (h : 2 ^ e = k) (hX : X.length = 32 * k) : pathL (nth (X ++ Y)) 0 (k + k) (k + j) = pathL (nth Y) 0 k j ++ [rt (nth X) 0 k] := by
  have hk : 0 < k := by rw [← h]; exact Nat.two_pow_pos e
  rw [pathL_high _ (by omega) (by rw [cut_twice h]; omega), cut_twice h, Nat.zero_add, Nat.add_sub_cancel, Nat.add_sub_cancel_left,
    pathL_congr _ (nth Y) k k 0 j (fun i _ => by rw [Nat.zero_add]; exact nth_right hX i), rt_congr _ (nth X) k 0 0 (fun i hi => by rw [Nat.zero_add]; exact nth_left hX hi)]
theorem dep_left {e : Nat} (h : 2 ^ e = k) (hj : j < k) : dep j (k + k) = dep j k + 1 := by
  rw [dep_low (by omega) (by rw [cut_twice h]; exact hj), cut_twice h]
theorem dep_right {e : Nat} (h : 2 ^ e = k) : dep (k + j) (k + k) = dep j k + 1 := by
  have hk : 0 < k := by rw [← h]; exact Nat.two_pow_pos e
  rw [dep_high (by omega) (by rw [cut_twice h]; omega), cut_twice h, Nat.add_sub_cancel, Nat.add_sub_cancel_left]
end

end Go.Proofs.YtppfdpnplemfkaaDoor
