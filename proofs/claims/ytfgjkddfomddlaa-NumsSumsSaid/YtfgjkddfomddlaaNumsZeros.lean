/-
  'append(b, make([]byte, m)...)' where there is no room: so many noughts behind what was there, in a new row.
-/
import Derived.Test.YtfgjkddfomddlaaNumsSums
namespace Go.Proofs.Ytfgjkddfomddlaa
open Go.RowKit

theorem zeroCells_bytes (m : Nat) : Builtin.zeroCells #[.int .u8 0] m = (bvs (List.replicate m 0)).toArray := by
  apply Array.ext'
  simp only [Builtin.zeroCells, bvs, List.map_replicate, Array.toList_map, Array.toList_range]
  rw [List.eq_replicate_iff]
  refine ⟨by simp, fun b hb => ?_⟩
  obtain ⟨i, _, rfl⟩ := List.mem_map.1 hb
  simp [Nat.mod_one, bv]

theorem run_append_zeros (w : World) (ty : TypeId) (b : Addr) (n c m : Nat) (xs : List Nat) (hin : In w (some b) n xs) (hm : 0 < m) (hg : c < n + m) (hle : n + m ≤ 1000000000) :
    ∃ A' c' w', (Builtin.append_ #[23, 3] ty #[.slice (some b) n c, .int .i64 (m : Int)]).run Try.prog w = .ok (.slice A' (n + m) c') w' ∧
      In w' A' (n + m) (xs ++ List.replicate m 0) ∧ n + m ≤ c' ∧ Below w.heap.size w w' := by
  obtain ⟨i0, hi, hz0, hz1, hz2⟩ := info_parts infoByte
  have hn : ¬ (n + m ≤ c) := by omega
  have h63' : ¬ (9223372036854775807 < ((n : Int) + (m : Int))) := by omega
  have hf := growslice_fits (need := n + m) (old := c) (bytes := 1) (by omega) (by omega)
  have h48' : ¬ (281474976710656 < Builtin.nextslicecap (n + m) c) := by omega
  have hw : IntKind.i64.wrap (m : Int) = (m : Int) := by rw [IntKind.wrap_i64]; omega
  have hn0 : ¬ ((m : Int) < 0) := by omega
  have hnb : ¬ (281474976710656 < (m : Int)) := by omega
  have hm0 : ¬ m = 0 := by omega
  have hcl : ∀ j v, (bvs xs)[j]? = some v → w.cell? (b.add j) = some v := by
    intro j v hv
    rw [bvs_get] at hv
    obtain ⟨y, hy, rfl⟩ := Option.map_eq_some_iff.1 hv
    obtain ⟨ad', e, hc'⟩ := hin.rd j y hy
    cases e
    exact hc'
  have hfo := run_firstCells_some (P := Try.prog) w.drew 1 n b n c (bvs xs) (by rw [bvs_length, hin.len]; simp) (by simpa using hcl)
  have hge := grownCap_ge w (n + m) c 5
  have hrun : (Builtin.append_ #[23, 3] ty #[.slice (some b) n c, .int .i64 (m : Int)]).run Try.prog w =
      .ok (.slice (some ⟨w.heap.size, 0, none⟩) (n + m) (grownCap w (n + m) c 5)) (w.drew.alloc (.cells ((bvs xs).toArray ++ Builtin.zeroCells #[.int .u8 0] m ++ Builtin.zeroCells #[.int .u8 0] (grownCap w (n + m) c 5 - (n + m))) 5)) := by
    simp [Builtin.append_, run_underlying Try.underlying23, run_underlying Try.underlying3, sizeOf, typeInfo, zeroValue, hi, hz0, hz1, hz2, asInt, asIntOf, hw, hn0, hnb, hn, hm0, h63', h48', Question.forced, hfo, newRow, grownCap, Value.cells]
  refine ⟨_, _, _, hrun, ⟨by rw [List.length_append, hin.len, List.length_replicate], fun j x hx => ⟨_, rfl, ?_⟩⟩, hge, ?_⟩
  · rw [show (⟨w.heap.size, 0, none⟩ : Addr).add j = ⟨w.heap.size, j, none⟩ from by unfold Addr.add; split <;> simp_all]
    rw [cell_of_row _ w.heap.size j _ 5 (0, 0) (World.alloc_heap_new w.drew _)]
    rw [zeroCells_bytes, zeroCells_bytes]
    have hlt : j < (xs ++ List.replicate m 0).length := (List.getElem?_eq_some_iff.1 hx).1
    rw [List.append_toArray, List.append_toArray, List.getElem?_toArray, ← bvs_append, List.getElem?_append_left (by rw [bvs_length]; exact hlt), bvs_get, hx]
    rfl
  · exact ((Below.refl _ w).drew).alloc (Nat.le_refl _) _

theorem wpList_zeros {ops : Array Oper} {rest : List Oper} {o : Oper} {a : Act} {Q : Exit → Act → World → Prop} (w : World) (hgd : o.guard = none) (s x : Operand)
    (ho : o.op = .call { callee := .builtin .append, args := #[s, x], argTypes := #[23, 3] })
    (b : Addr) (n c m : Nat) (xs : List Nat) (hs : a.eval s = .slice (some b) n c) (hx : a.eval x = .int .i64 (m : Int)) (hin : In w (some b) n xs) (hm : 0 < m) (hg : c < n + m) (hle : n + m ≤ 1000000000)
    (h : ∀ A' c' w', In w' A' (n + m) (xs ++ List.replicate m 0) → n + m ≤ c' → Below w.heap.size w w' → wpList Try.prog ops Q rest (a.put o.dst (.slice A' (n + m) c')) w') :
    wpList Try.prog ops Q (o :: rest) a w := by
  refine wpList_plain hgd fun K hK => ?_
  obtain ⟨A', c', w', hr, h2, h3, h4⟩ := run_append_zeros w o.type b n c m xs hin hm hg hle
  unfold Oper.wp execOp
  simp only [ho, resolve, invoke, builtin, Sem.run_bind, Sem.run_pure, Result.andThen_ok, List.map_toArray, List.map_cons, List.map_nil, hs, hx, hr]
  exact hK _ _ (h A' c' w' h2 h3 h4)

end Go.Proofs.Ytfgjkddfomddlaa
