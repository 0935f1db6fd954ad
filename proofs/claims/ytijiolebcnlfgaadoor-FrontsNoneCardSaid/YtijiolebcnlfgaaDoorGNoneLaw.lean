/-
  almonerlaw09.FrontsNone.
-/
import Derived.Test.YtijiolebcnlfgaaDoorGNo
import Derived.Test.YtijiolebcnlfgaaDoorLQuietTail
import Derived.Deep.QuietTactic
import Derived.BigQuiet
namespace Go.Proofs.YtijiolebcnlfgaaDoor
open Go.RowKit

theorem neq_nought (W : World) : (binOp .neq 23 (sv zero32) (.agg #[.int .u8 0, .int .u8 0, .int .u8 0, .int .u8 0, .int .u8 0, .int .u8 0, .int .u8 0, .int .u8 0, .int .u8 0, .int .u8 0, .int .u8 0, .int .u8 0, .int .u8 0, .int .u8 0, .int .u8 0, .int .u8 0, .int .u8 0, .int .u8 0, .int .u8 0, .int .u8 0, .int .u8 0, .int .u8 0, .int .u8 0, .int .u8 0, .int .u8 0, .int .u8 0, .int .u8 0, .int .u8 0, .int .u8 0, .int .u8 0, .int .u8 0, .int .u8 0])).run Tryd.prog W = .ok (.bool false) W := by
  have := run_neq_sum zero32 zero32 rfl rfl W
  rw [decide_eq_true rfl] at this
  exact this
theorem guard_neq_nought (x y : Operand) (W : World) : (eqGuard .neq 23 x y (sv zero32) (.agg #[.int .u8 0, .int .u8 0, .int .u8 0, .int .u8 0, .int .u8 0, .int .u8 0, .int .u8 0, .int .u8 0, .int .u8 0, .int .u8 0, .int .u8 0, .int .u8 0, .int .u8 0, .int .u8 0, .int .u8 0, .int .u8 0, .int .u8 0, .int .u8 0, .int .u8 0, .int .u8 0, .int .u8 0, .int .u8 0, .int .u8 0, .int .u8 0, .int .u8 0, .int .u8 0, .int .u8 0, .int .u8 0, .int .u8 0, .int .u8 0, .int .u8 0, .int .u8 0])).run Tryd.prog W = .ok () W := run_guard_neq x y zero32 zero32 W

theorem quiet_load_front {ops : Array Oper} {o : Oper} {a : Act} {C : World → Prop} {K : Act → Prop} {E : Prop} (hw : Region.wanted o (yielded ops a.tmps) = true) (x : Operand) (ho : o.op = .load 24 x)
    (ad : Addr) (hx : a.eval x = .pointer (some ad)) (v : Value) (hc : ∀ w, C w → w.cell? ad = some v) (h : K (a.put o.dst v)) :
    if Region.wanted o (yielded ops a.tmps) = true then o.quiet Tryd.prog a C K else E := by
  rw [if_pos hw]
  refine ⟨v, fun w hC => ?_, h⟩
  unfold Oper.quietAt execOp
  have hl : (loadVar 24 ad).run Tryd.prog w = .ok v w := by simp [loadVar, Sem.run_bind, hc w hC]
  simp only [ho, hx, Instr.loadAt, Instr.sureAddr, Sem.run_bind, Sem.run_pure, Result.andThen_ok, hl]
  exact ⟨rfl, rfl⟩

/-- Both fronts that are none, and the sum. -/
structure NoneAt (w W : World) (s : List Nat) : Prop where
  sum : BArr W w.heap.size 23 s
  c0 : W.cell? ⟨w.heap.size + 2, 0, none⟩ = some (.pointer none)
  c1 : W.cell? ⟨w.heap.size + 2, 1, none⟩ = some (.pointer (some ⟨w.heap.size + 1, 0, none⟩))
  no : NoFront W (some ⟨w.heap.size + 1, 0, none⟩)
  bel : Below w.heap.size w W
theorem NoneAt.below {w W W' : World} {s : List Nat} (h : NoneAt w W s) (hb : Below W.heap.size W W') : NoneAt w W' s :=
  ⟨h.sum.below hb, (hb.cell (World.block_lt_of_cell? W _ h.c0)).trans h.c0, (hb.cell (World.block_lt_of_cell? W _ h.c1)).trans h.c1, h.no.below hb, below_on h.bel (Nat.le_refl _) hb⟩

set_option maxRecDepth 100000 in
set_option maxHeartbeats 4000000 in
theorem frontsNone_law (w : World) {s : List Nat} (hl : s.length = 32) (_hb : ∀ x ∈ s, x < 256) :
    Calls Tryd.prog 3 #[.agg (bvs s).toArray] w fun e w' => e = .returned (.bool true) ∧ Below w.heap.size w w' := by
  obtain ⟨w1, hw1⟩ : ∃ w1, w1 = ((w.alloc (.cells (bvs s).toArray 23)).alloc (.cells #[.bool false, .int .u64 0, .slice none 0 0] 28)).alloc (.cells #[.pointer none, .pointer (some ⟨w.heap.size + 1, 0, none⟩)] 24) := ⟨_, rfl⟩
  have n1 : NoneAt w w1 s := by
    have a := ((BArr.new w 23 s).alloc (.cells #[.bool false, .int .u64 0, .slice none 0 0] 28)).alloc (.cells #[.pointer none, .pointer (some ⟨w.heap.size + 1, 0, none⟩)] 24)
    have b := cell_pair ((w.alloc (.cells (bvs s).toArray 23)).alloc (.cells #[.bool false, .int .u64 0, .slice none 0 0] 28)) (.pointer none) (.pointer (some ⟨w.heap.size + 1, 0, none⟩)) 24
    have c : ((w.alloc (.cells (bvs s).toArray 23)).alloc (.cells #[.bool false, .int .u64 0, .slice none 0 0] 28)).cell? ⟨w.heap.size + 1, 0, none⟩ = some (.bool false) := by
      have := (cell_of_row _ _ 0 _ _ (0, 0) (World.alloc_heap_new (w.alloc (.cells (bvs s).toArray 23)) (.cells #[.bool false, .int .u64 0, .slice none 0 0] 28)))
      rw [World.size_alloc] at this
      exact this.trans rfl
    rw [World.size_alloc, World.size_alloc] at b
    rw [← hw1] at a b
    have b2 : Below ((w.alloc (.cells (bvs s).toArray 23)).alloc (.cells #[.bool false, .int .u64 0, .slice none 0 0] 28)).heap.size ((w.alloc (.cells (bvs s).toArray 23)).alloc (.cells #[.bool false, .int .u64 0, .slice none 0 0] 28)) w1 := by rw [hw1]; exact below_alloc _ _
    exact ⟨a, b.1, b.2, .inr ⟨_, rfl, (b2.cell (World.block_lt_of_cell? _ _ c)).trans c⟩, by rw [hw1]; exact ((below_alloc w _).alloc (by simp) _).alloc (by simp; omega) _⟩
  have HW := Lib.hid hw1
  have H1 := Lib.hid n1
  clear hw1 n1
  go_enter Tryd.func3, Tryd.ntmps3
  go_upto_region 2 with fail
  rw [← HW.out]
  go_wp2
  go_loopw [4] (fun i wr => ∃ j : Nat, j ≤ 2 ∧ i = .int .i64 (j : Int) ∧ Hid (NoneAt w wr s)) (fun i _ => 2 - (intOf i).toNat)
  case atStart => exact ⟨0, by omega, rfl, H1⟩
  case round =>
    obtain ⟨j, hj, rfl, HR⟩ := hrel
    by_cases h2 : j = 2
    · subst h2
      go_wp2
      go_ret
      exact ⟨rfl, HR.out.bel⟩
    · obtain ⟨P, hP, hcell⟩ : ∃ P, NoFront wr P ∧ ∀ W, Below wr.heap.size wr W → W.cell? ⟨w.heap.size + 2, j, none⟩ = some (.pointer P) := by
        obtain rfl | rfl : j = 0 ∨ j = 1 := by omega
        · exact ⟨none, .inl rfl, fun W hW => (HR.out.below hW).c0⟩
        · exact ⟨_, HR.out.no, fun W hW => (HR.out.below hW).c1⟩
      have hjl : (j : Int) < 2 := by omega
      have C1 := Lib.hid (fun (W : World) (hW : Below wr.heap.size wr W) => later (v' := .int .i64 2) hW rfl (add_no s (hP.below hW)))
      have C2 := Lib.hid (fun (W : World) (hW : Below wr.heap.size wr W) => later (v' := .int .u64 0) hW rfl (size_no (hP.below hW)))
      have C3 := Lib.hid (fun (W : World) (hW : Below wr.heap.size wr W) => later (v' := sv zero32) hW rfl (root_no (hP.below hW)))
      have C4 := Lib.hid (fun (W : World) (hW : Below wr.heap.size wr W) => later (v' := .slice none 0 0) hW rfl (sums_no (hP.below hW)))
      have HC := Lib.hid hcell
      have HAt := Lib.hid (fun (W : World) (hW : Below wr.heap.size wr W) => (HR.out.below hW).sum.at_)
      clear hcell hP
      have hjn : ¬ ((2 : Int) ≤ (j : Int)) := by omega
      have q1 := neq_nought
      have q2 := guard_neq_nought
      go_upto_region 5 with fail
      refine wp_region_quiet (C := fun w' => Below wr.heap.size wr w') (by kernel_rfl) (by kernel_rfl) ((Below.refl _ _).drew) ?_
      iterate 3 (refine wpQuiet_step (fun K hK => ?_); go_simp; refine ⟨_, fun _ _ => rfl, hK _ ?_⟩; clear hK K)
      refine wpQuiet_step (fun K hK => ?_)
      refine quiet_load_front (by rfl) (.tmp 16) rfl ⟨w.heap.size + 2, j, none⟩ rfl (.pointer P) (fun W hW => HC.out W hW) ?_
      go_simp
      refine hK _ ?_
      clear hK K
      refine wpQuiet_step (fun K hK => ?_)
      refine quiet_load_sum' rfl (.tmp 1) rfl ⟨w.heap.size, 0, none⟩ rfl s hl (fun W hW => HAt.out W hW) ?_
      go_simp
      refine hK _ ?_
      clear hK K
      refine wpQuiet_step (fun K hK => ?_); go_simp; refine ⟨.int .i64 2, fun W hW => C1.out W hW, hK _ ?_⟩; clear hK K
      iterate 5 (refine wpQuiet_step (fun K hK => ?_); go_simp; refine ⟨_, fun _ _ => rfl, hK _ ?_⟩; clear hK K)
      refine wpQuiet_step (fun K hK => ?_)
      refine quiet_load_front (by rfl) (.tmp 24) rfl ⟨w.heap.size + 2, j, none⟩ rfl (.pointer P) (fun W hW => HC.out W hW) ?_
      go_simp
      refine hK _ ?_
      clear hK K
      refine wpQuiet_step (fun K hK => ?_); go_simp; refine ⟨.int .u64 0, fun W hW => C2.out W hW, hK _ ?_⟩; clear hK K
      iterate 6 (refine wpQuiet_step (fun K hK => ?_); go_simp; refine ⟨_, fun _ _ => rfl, hK _ ?_⟩; clear hK K)
      refine wpQuiet_step (fun K hK => ?_)
      refine quiet_load_front (by rfl) (.tmp 32) rfl ⟨w.heap.size + 2, j, none⟩ rfl (.pointer P) (fun W hW => HC.out W hW) ?_
      go_simp
      refine hK _ ?_
      clear hK K
      refine wpQuiet_step (fun K hK => ?_); go_simp; refine ⟨sv zero32, fun W hW => C3.out W hW, hK _ ?_⟩; clear hK K
      iterate 7 (refine wpQuiet_step (fun K hK => ?_); go_simp; refine ⟨_, fun _ _ => rfl, hK _ ?_⟩; clear hK K)
      refine wpQuiet_step (fun K hK => ?_)
      refine quiet_load_front (by rfl) (.tmp 41) rfl ⟨w.heap.size + 2, j, none⟩ rfl (.pointer P) (fun W hW => HC.out W hW) ?_
      go_simp
      refine hK _ ?_
      clear hK K
      refine wpQuiet_step (fun K hK => ?_); go_simp; refine ⟨.slice none 0 0, fun W hW => C4.out W hW, hK _ ?_⟩; clear hK K
      iterate 3 (refine wpQuiet_step (fun K hK => ?_); go_simp; refine ⟨_, fun _ _ => rfl, hK _ ?_⟩; clear hK K)
      refine wpQuiet_nil ?_
      intro w8 hb8
      go_wp2_with fail
      go_roundw
      case rel => exact ⟨j + 1, by omega, by go_num, Lib.hid (HR.out.below hb8)⟩
      case measure => simp [intOf]; omega

end Go.Proofs.YtijiolebcnlfgaaDoor
