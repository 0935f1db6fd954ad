/-
  almonerref03.Same: the document's answer to whether two sums are the same.
-/
import Derived.Test.YtoojlpbfldnkpaaMacSame
namespace Go.Proofs.Ytoojlpbfldnkpaa
open Go.RowKit

set_option maxRecDepth 100000 in
set_option maxHeartbeats 1000000 in
theorem refSame_any (s t : List Nat) (w : World) (hs : s.length = 32) (ht : t.length = 32) :
    Calls Try.prog 5 #[sv s, sv t] w fun e w' => e = .returned (.bool (decide (s = t))) ∧ Below w.heap.size w w' := by
  obtain ⟨W, hW⟩ : ∃ W, W = (w.alloc (.cells (bvs s).toArray 23)).alloc (.cells (bvs t).toArray 23) := ⟨_, rfl⟩
  have i1 : In W (some ⟨w.heap.size, 0, none⟩) 32 s := by rw [hW, ← hs]; exact (In.new' w s 23).below (below_alloc _ _)
  have i2 : In W (some ⟨w.heap.size + 1, 0, none⟩) 32 t := by
    have := In.new' (w.alloc (.cells (bvs s).toArray 23)) t 23
    rw [World.size_alloc, ht] at this
    rw [hW]; exact this
  have bel : Below w.heap.size w W := by rw [hW]; exact (below_alloc w _).alloc (by simp) _
  have HL := Lib.hid (And.intro hs ht)
  have HI := Lib.hid (And.intro i1 (And.intro i2 bel))
  clear hs ht i1 i2 bel
  go_enter Try.func5, Try.ntmps5
  unfold sv
  go_wp2
  rw [← hW]
  go_loopw [5] (fun i wr => ∃ j : Nat, j ≤ 32 ∧ i = .int .i64 (j : Int) ∧ s.take j = t.take j ∧ ∃ q, wr = W.drewN q) (fun i _ => 32 - (intOf i).toNat)
  case atStart => exact ⟨0, by omega, rfl, by simp, 0, rfl⟩
  case round =>
    obtain ⟨j, hj, rfl, hpre, q, rfl⟩ := hrel
    clear hW
    by_cases hlt : j < 32
    · obtain ⟨ad, x, e1, hx, hc1⟩ := HI.out.1.at_ hlt
      obtain ⟨ad2, y, e2, hy, hc2⟩ := HI.out.2.1.at_ hlt
      cases e1
      cases e2
      rw [add_zero_off] at hc1 hc2
      have HX := Lib.hid (And.intro hx (And.intro hy hpre))
      clear hx hy hpre
      by_cases hxy : x = y
      · subst hxy
        go_wp2
        go_quiet (fail)
        rw [World.drewN_drewN]
        go_wp2
        go_roundw
        case rel =>
          refine ⟨j + 1, by omega, by go_num, ?_, q + nq, rfl⟩
          rw [take_both HX.out.1 HX.out.2.1]
          exact ⟨HX.out.2.2, rfl⟩
        case measure => simp [intOf]; omega
      · have hne : decide (s = t) = false := by
          rw [decide_eq_false_iff_not]
          rintro rfl
          have := HX.out.1.symm.trans HX.out.2.1
          exact hxy (Option.some.inj this)
        have hxy' : ((x : Int) != (y : Int)) = true := by simp; omega
        have hxy2 : ((x : Int) == (y : Int)) = false := by simp; omega
        go_wp2
        go_quiet (fail)
        rw [World.drewN_drewN]
        go_wp2
        go_ret
        exact ⟨by rw [hne]; rfl, ⟨HI.out.2.2.os, HI.out.2.2.tape, HI.out.2.2.output, HI.out.2.2.size, HI.out.2.2.block⟩⟩
    · obtain rfl : j = 32 := by omega
      rw [List.take_of_length_le (by rw [HL.out.1]; omega), List.take_of_length_le (by rw [HL.out.2]; omega)] at hpre
      have hd : decide (s = t) = true := decide_eq_true hpre
      have HD := Lib.hid hd
      clear hd hpre
      go_wp2
      go_ret
      exact ⟨by rw [HD.out]; rfl, ⟨HI.out.2.2.os, HI.out.2.2.tape, HI.out.2.2.output, HI.out.2.2.size, HI.out.2.2.block⟩⟩

end Go.Proofs.Ytoojlpbfldnkpaa
