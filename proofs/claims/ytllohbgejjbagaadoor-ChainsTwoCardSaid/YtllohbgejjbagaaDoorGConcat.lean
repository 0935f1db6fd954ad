/-
  slices.Grow of no sums, slices.Concat of two lists of sums.
-/
import Derived.Test.YtllohbgejjbagaaDoorGRep
import Derived.Test.YtllohbgejjbagaaDoorLZeros
import Derived.Test.YtllohbgejjbagaaDoorLRowApp
namespace Go.Proofs.YtllohbgejjbagaaDoor
open Go.RowKit

/-- 'append([]api.Sum(nil), make([]api.Sum, m)...)'. -/
theorem run_grow_sums (w : World) (ty : TypeId) (m : Nat) (hm : 0 < m) (hle : m ≤ 1000000) :
    ∃ c' w', (Builtin.append_ #[37, 3] ty #[.slice none 0 0, .int .i64 (m : Int)]).run Tryd.prog w = .ok (.slice (some ⟨w.heap.size, 0, none⟩) m c') w' ∧ m ≤ c' ∧
      w'.ownsRow w.heap.size 34 32 (.slice (some ⟨w.heap.size, 0, none⟩) 0 c') 0 (bvs []) ∧ Below w.heap.size w w' := by
  obtain ⟨i0, hi, hz0, hz1, hz2⟩ := info_parts infoSum
  have hf := growslice_fits (need := m) (old := 0) (bytes := 32) (by omega) (by omega)
  have h48' : ¬ (281474976710656 < Builtin.nextslicecap m 0 * 32) := by omega
  have hw : IntKind.i64.wrap (m : Int) = (m : Int) := by rw [IntKind.wrap_i64]; omega
  have hn0 : ¬ ((m : Int) < 0) := by omega
  have hnb : ¬ (281474976710656 < (m : Int) * 32) := by omega
  have hnc : ¬ (9223372036854775807 < (m : Int)) := by omega
  have hm0 : ¬ m = 0 := by omega
  have hge := grownCap_ge w m 0 34
  have hgl := grownCap_le_maxLen w m 0 34 (by unfold maxLen; omega)
  have hfo := run_firstCells_none (P := Tryd.prog) (w := w.drew) 32 0 0 0
  have hrun : (Builtin.append_ #[37, 3] ty #[.slice none 0 0, .int .i64 (m : Int)]).run Tryd.prog w =
      .ok (.slice (some ⟨w.heap.size, 0, none⟩) m (grownCap w m 0 34)) (w.drew.alloc (.cells (#[] ++ Builtin.zeroCells (Array.replicate 32 (.int .u8 0)) m ++ Builtin.zeroCells (Array.replicate 32 (.int .u8 0)) (grownCap w m 0 34 - m)) 34)) := by
    simp [Builtin.append_, run_underlying Tryd.underlying37, run_underlying Tryd.underlying3, sizeOf, typeInfo, zeroValue, hi, hz0, hz1, hz2, asInt, asIntOf, hw, hn0, hnb, hnc, hm0, h48', Question.forced, hfo, newRow, grownCap, Value.cells]
    intro h
    omega
  refine ⟨_, _, hrun, hge, ⟨rfl, .inr ⟨w.heap.size, _, _, rfl, Nat.le_refl _, World.alloc_heap_new w.drew _, Nat.zero_le _, hgl, ?_, rfl⟩⟩, ((Below.refl _ w).drew).alloc (Nat.le_refl _) _⟩
  rw [Array.size_append, Array.size_append, size_zeroCells, size_zeroCells, Array.size_replicate]
  simp
  omega

theorem wpList_grow_sums {ops : Array Oper} {rest : List Oper} {o : Oper} {a : Act} {Q : Exit → Act → World → Prop} (w : World) (hgd : o.guard = none) (s x : Operand)
    (ho : o.op = .call { callee := .builtin .append, args := #[s, x], argTypes := #[37, 3] }) (m : Nat) (hs : a.eval s = .slice none 0 0) (hx : a.eval x = .int .i64 (m : Int)) (hm : 0 < m) (hle : m ≤ 1000000)
    (h : ∀ c' w', m ≤ c' → w'.ownsRow w.heap.size 34 32 (.slice (some ⟨w.heap.size, 0, none⟩) 0 c') 0 (bvs []) → Below w.heap.size w w' → wpList Tryd.prog ops Q rest (a.put o.dst (.slice (some ⟨w.heap.size, 0, none⟩) m c')) w') :
    wpList Tryd.prog ops Q (o :: rest) a w := by
  refine wpList_plain hgd fun K hK => ?_
  obtain ⟨c', w', hr, h2, h3, h4⟩ := run_grow_sums w o.type m hm hle
  unfold Oper.wp execOp
  simp only [ho, resolve, invoke, builtin, Sem.run_bind, Sem.run_pure, Result.andThen_ok, List.map_toArray, List.map_cons, List.map_nil, hs, hx, hr]
  exact hK _ _ (h c' w' h2 h3 h4)

set_option maxRecDepth 100000 in
set_option maxHeartbeats 1000000 in
theorem growS_any (m : Nat) (w : World) (hm : 0 < m) (hle : m ≤ 1000000) :
    Calls Tryd.prog 76 #[.slice none 0 0, .int .i64 (m : Int)] w fun e w' =>
      ∃ c', e = .returned (.slice (some ⟨w.heap.size, 0, none⟩) 0 c') ∧ w'.ownsRow w.heap.size 34 32 (.slice (some ⟨w.heap.size, 0, none⟩) 0 c') 0 (bvs []) ∧ Below w.heap.size w w' := by
  have h0 : ¬ ((m : Int) < 0) := by omega
  have h1 : (0 : Int) < (m : Int) := by omega
  go_enter Tryd.func76, Tryd.ntmps76
  go_wp2_with (refine wpList_grow_sums w rfl _ _ rfl m rfl rfl hm hle ?_; intro c' w1 hc ho hb; have HR := Lib.hid (And.intro ho hb); clear ho hb)
  go_ret
  exact ⟨c', rfl, HR.out.1, HR.out.2⟩

/-- How many, and what, the first j of two lists have. -/
def firstN (n m : Nat) : Nat → Nat
  | 0 => 0
  | 1 => n
  | _ => n + m
def firstL (xs ys : List Nat) : Nat → List Nat
  | 0 => []
  | 1 => xs
  | _ => xs ++ ys

set_option maxRecDepth 100000 in
set_option maxHeartbeats 2000000 in
theorem concat_any (b : Nat) (A A2 : Option Addr) (n c m c2 : Nat) (xs ys : List Nat) (w : World) (h1 : w.cell? ⟨b, 0, none⟩ = some (.slice A n c)) (h2 : w.cell? ⟨b, 1, none⟩ = some (.slice A2 m c2))
    (hx : InS w A n xs) (hy : InS w A2 m ys) (nx : A = none → c = 0) (ny : A2 = none → c2 = 0) (h0 : 0 < n + m) (hle : n + m ≤ 1000000) :
    Calls Tryd.prog 53 #[.slice (some ⟨b, 0, none⟩) 2 2] w fun e w' =>
      ∃ A' c', e = .returned (.slice A' (n + m) c') ∧ w'.ownsRow w.heap.size 34 32 (.slice A' (n + m) c') (n + m) (bvs (xs ++ ys)) ∧ Below w.heap.size w w' := by
  have HX := Lib.hid (And.intro hx (And.intro hy (And.intro nx ny)))
  have G := Lib.hid (growS_any (n + m) w h0 hle)
  have hbl : b < w.heap.size := World.block_lt_of_cell? w _ h1
  clear hx hy nx ny
  go_enter Tryd.func53, Tryd.ntmps53
  go_wp2
  go_loopw [3, 5, 11] (fun sz _ i wr => ∃ j : Nat, j ≤ 2 ∧ i = .int .i64 (j : Int) ∧ sz = .int .i64 (firstN n m j : Int) ∧ wr = w) (fun _ _ i _ => 2 - (intOf i).toNat)
  case atStart => exact ⟨0, by omega, rfl, rfl, rfl⟩
  case round =>
    obtain ⟨j, hj, rfl, rfl, e⟩ := hrel
    have e' := e.symm
    clear e
    subst e'
    obtain rfl | rfl | rfl : j = 0 ∨ j = 1 ∨ j = 2 := by omega
    · have hn : ¬ ((n : Int) < 0) := by omega
      simp only [firstN]
      go_wp2
      go_roundw
      case rel => exact ⟨1, by omega, by go_num, rfl, trivial⟩
      case measure => simp [intOf]
    · have hn : ¬ ((n : Int) + (m : Int) < 0) := by omega
      simp only [firstN]
      go_wp2
      go_roundw
      case rel => exact ⟨2, by omega, by go_num, by simp, trivial⟩
      case measure => simp [intOf]
    · simp only [firstN]
      go_wp2_with fail
      refine G.out.mono ?_
      rintro e w1 ⟨c1, rfl, ho, hb⟩
      have HO := Lib.hid (And.intro ho hb)
      clear ho hb
      have hw1 := HO.out.2
      have d1 : w1.cell? ⟨b, 0, none⟩ = some (.slice A n c) := (hw1.cell (World.block_lt_of_cell? w _ h1)).trans h1
      have d2 : w1.cell? ⟨b, 1, none⟩ = some (.slice A2 m c2) := (hw1.cell (World.block_lt_of_cell? w _ h2)).trans h2
      have HD := Lib.hid (And.intro d1 d2)
      clear h1 h2 hw1 d1 d2
      go_wp2
      go_loopw [6, 8, 27] (fun nw _ i w2 => ∃ (j : Nat) (A' : Option Addr) (c' : Nat), j ≤ 2 ∧ i = .int .i64 (j : Int) ∧ nw = .slice A' (firstN n m j) c' ∧ w2.ownsRow w.heap.size 34 32 (.slice A' (firstN n m j) c') (firstN n m j) (bvs (firstL xs ys j)) ∧ Below w.heap.size w w2 ∧
        w2.cell? ⟨b, 0, none⟩ = some (.slice A n c) ∧ w2.cell? ⟨b, 1, none⟩ = some (.slice A2 m c2)) (fun _ _ i _ => 2 - (intOf i).toNat)
      case atStart => exact ⟨0, _, c1, by omega, rfl, rfl, HO.out.1, HO.out.2, HD.out.1, HD.out.2⟩
      case round =>
        obtain ⟨j, A', c', hj, rfl, rfl, how, hbw, e1, e2⟩ := hrel
        have HW := Lib.hid (And.intro how hbw)
        clear how hbw
        obtain rfl | rfl | rfl : j = 0 ∨ j = 1 ∨ j = 2 := by omega
        · simp only [firstN, firstL] at HW ⊢
          go_wp2_with (refine wpList_step fun K hK => ?_; refine step_sapp (K := K) (by rfl) _ _ (by rfl) w.heap.size A' 0 c' [] (by rfl) HW.out.1 A n c xs (by rfl) (HX.out.1.below HW.out.2) HX.out.2.2.1 (by omega) HW.out.2.size ?_; intro A3 c3 w3 ow3 nx3; have HN := Lib.hid (And.intro ow3 nx3); clear ow3 nx3; refine hK _ _ ?_; clear hK K)
          have hb3 := HN.out.2.below HW.out.1 HW.out.2 (Nat.le_refl _) HW.out.2.size
          have ow3 := HN.out.1
          rw [Nat.zero_add, List.nil_append] at ow3
          have H3 := Lib.hid (And.intro ow3 hb3)
          have k1 := HN.out.2.cell e1 (fun e => by have := (HW.out.1.lt b e.symm).1; omega)
          have k2 := HN.out.2.cell e2 (fun e => by have := (HW.out.1.lt b e.symm).1; omega)
          clear ow3 hb3
          go_wp2
          go_roundw
          case rel => exact ⟨1, A3, c3, by omega, by go_num, by simp, H3.out.1, H3.out.2, k1, k2⟩
          case measure => simp [intOf]
        · simp only [firstN, firstL] at HW ⊢
          go_wp2_with (refine wpList_step fun K hK => ?_; refine step_sapp (K := K) (by rfl) _ _ (by rfl) w.heap.size A' n c' xs (by rfl) HW.out.1 A2 m c2 ys (by rfl) (HX.out.2.1.below HW.out.2) HX.out.2.2.2 (by omega) HW.out.2.size ?_; intro A3 c3 w3 ow3 nx3; have HN := Lib.hid (And.intro ow3 nx3); clear ow3 nx3; refine hK _ _ ?_; clear hK K)
          have hb3 := HN.out.2.below HW.out.1 HW.out.2 (Nat.le_refl _) HW.out.2.size
          have H3 := Lib.hid (And.intro HN.out.1 hb3)
          have k1 := HN.out.2.cell e1 (fun e => by have := (HW.out.1.lt b e.symm).1; omega)
          have k2 := HN.out.2.cell e2 (fun e => by have := (HW.out.1.lt b e.symm).1; omega)
          clear hb3
          go_wp2
          go_roundw
          case rel => exact ⟨2, A3, c3, by omega, by go_num, rfl, H3.out.1, H3.out.2, k1, k2⟩
          case measure => simp [intOf]
        · simp only [firstN, firstL] at HW ⊢
          go_wp2
          go_ret
          exact ⟨A', c', rfl, HW.out.1, HW.out.2⟩

end Go.Proofs.YtllohbgejjbagaaDoor
