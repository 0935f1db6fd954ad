/-
  'append(b, make([]byte, m)...)' to a row of the call's own, whether there is room or not, m whatever.
-/
import Derived.Test.YtllohbgejjbagaaDoorLMem
import Derived.Laws.CopyRow
namespace Go.Proofs.YtllohbgejjbagaaDoor
open Go.RowKit

theorem zeroCells_list (m : Nat) : (Builtin.zeroCells #[.int .u8 0] m).toList = bvs (List.replicate m 0) := by rw [zeroCells_bytes]

theorem run_zeros_own (w : World) (ty : TypeId) (base g n c m : Nat) (xs : List Nat) (hown : w.ownsRow base 5 1 (.slice (some ⟨g, 0, none⟩) n c) n (bvs xs)) (hbase : base ≤ w.heap.size) (hle : n + m ≤ 1000000000) :
    ∃ A' c' w', (Builtin.append_ #[22, 3] ty #[.slice (some ⟨g, 0, none⟩) n c, .int .i64 (m : Int)]).run Tryd.prog w = .ok (.slice A' (n + m) c') w' ∧
      In w' A' (n + m) (xs ++ List.replicate m 0) ∧ A' ≠ none ∧ n + m ≤ c' ∧ Below base w w' := by
  have hin : In w (some ⟨g, 0, none⟩) n xs := In.of_own hown
  by_cases hroom : n + m ≤ c
  · obtain ⟨i0, hi, hz0, hz1, hz2⟩ := info_parts infoByte
    rcases hown.2 with ⟨e, _⟩ | ⟨g', cap, cur, e, hbg, hg, hnc, hcm, hcs, htake⟩
    · cases e
    · cases e
      have hl : (bvs (List.replicate m 0)).length = m := by rw [bvs_length, List.length_replicate]
      have hst := run_storeCells_at Tryd.prog g n 5 (bvs (List.replicate m 0)) 0 cur w hg (by rw [hl, hcs]; omega) (bvs_oneCell _)
      rw [Nat.add_zero, hl, ← zeroCells_list] at hst
      have hw : IntKind.i64.wrap (m : Int) = (m : Int) := by rw [IntKind.wrap_i64]; omega
      have hn0 : ¬ ((m : Int) < 0) := by omega
      have hnb : ¬ (281474976710656 < (m : Int)) := by omega
      have hrun : (Builtin.append_ #[22, 3] ty #[.slice (some ⟨g, 0, none⟩) n c, .int .i64 (m : Int)]).run Tryd.prog w =
          .ok (.slice (some ⟨g, 0, none⟩) (n + m) c) (w.setRow g (cur.toList.take n ++ (Builtin.zeroCells #[.int .u8 0] m).toList ++ cur.toList.drop (n + m)).toArray) := by
        by_cases hm : m = 0
        · subst hm
          simp [Builtin.append_, run_underlying Tryd.underlying22, run_underlying Tryd.underlying3, sizeOf, typeInfo, hi, hz1, asInt, asIntOf, IntKind.wrap_i64, storeCells, Builtin.zeroCells]
          rw [if_pos (by omega)]
          simp
          rw [setRow_self w g cur _ (0, 0) hg]
        · simp [Builtin.append_, run_underlying Tryd.underlying22, run_underlying Tryd.underlying3, sizeOf, typeInfo, zeroValue, hi, hz0, hz1, hz2, asInt, asIntOf, hw, hn0, hnb, hroom, hm, Value.cells, Addr.add_lit, hst]
      rw [zeroCells_list] at hrun
      have hx : cur.toList.take n = bvs xs := by rw [← htake, Nat.mul_one]
      rw [hx] at hrun
      refine ⟨_, _, _, hrun, ⟨by rw [List.length_append, hin.len, List.length_replicate], fun j x hj => ⟨_, rfl, ?_⟩⟩, (fun h => by cases h), hroom, below_setRow (Below.refl _ _) hbg _⟩
      rw [show (⟨g, 0, none⟩ : Addr).add j = ⟨g, j, none⟩ from by unfold Addr.add; split <;> simp_all]
      rw [cell_of_row _ g j _ _ (0, 0) (setRow_heap w g cur _ _ (0, 0) hg), List.getElem?_toArray, ← bvs_append]
      have hlt : j < (xs ++ List.replicate m 0).length := (List.getElem?_eq_some_iff.1 hj).1
      rw [List.getElem?_append_left (by rw [bvs_length]; exact hlt), bvs_get, hj]
      rfl
  · obtain ⟨A', c', w', h1, h2, h3, h4⟩ := run_append_zeros w ty ⟨g, 0, none⟩ n c m xs hin (by have := own_cap hown; omega) (by omega) hle
    refine ⟨A', c', w', h1, h2, ?_, h3, h4.mono hbase⟩
    rintro rfl
    have hpos : 0 < n + m := by have := own_cap hown; omega
    obtain ⟨ad, _, e, _⟩ := h2.at_ hpos
    cases e

theorem wpList_zeros_own {ops : Array Oper} {rest : List Oper} {o : Oper} {a : Act} {Q : Exit → Act → World → Prop} (w : World) (hgd : o.guard = none) (s x : Operand)
    (ho : o.op = .call { callee := .builtin .append, args := #[s, x], argTypes := #[22, 3] })
    (base g n c m : Nat) (xs : List Nat) (hs : a.eval s = .slice (some ⟨g, 0, none⟩) n c) (hx : a.eval x = .int .i64 (m : Int)) (hown : w.ownsRow base 5 1 (.slice (some ⟨g, 0, none⟩) n c) n (bvs xs)) (hbase : base ≤ w.heap.size) (hle : n + m ≤ 1000000000)
    (h : ∀ A' c' w', In w' A' (n + m) (xs ++ List.replicate m 0) → A' ≠ none → n + m ≤ c' → Below base w w' → wpList Tryd.prog ops Q rest (a.put o.dst (.slice A' (n + m) c')) w') :
    wpList Tryd.prog ops Q (o :: rest) a w := by
  refine wpList_plain hgd fun K hK => ?_
  obtain ⟨A', c', w', hr, h2, h3, h4, h5⟩ := run_zeros_own w o.type base g n c m xs hown hbase hle
  unfold Oper.wp execOp
  simp only [ho, resolve, invoke, builtin, Sem.run_bind, Sem.run_pure, Result.andThen_ok, List.map_toArray, List.map_cons, List.map_nil, hs, hx, hr]
  exact hK _ _ (h A' c' w' h2 h3 h4 h5)

end Go.Proofs.YtllohbgejjbagaaDoor
