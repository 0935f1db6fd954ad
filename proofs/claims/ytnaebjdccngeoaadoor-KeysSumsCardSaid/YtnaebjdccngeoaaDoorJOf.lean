/-
  keys.Of.
-/
import Derived.Test.YtnaebjdccngeoaaDoorJPure
import Derived.Test.YtnaebjdccngeoaaDoorLApp2
import Derived.Test.YtnaebjdccngeoaaDoorLPut
import Derived.Lib.SmallJoins
namespace Go.Proofs.YtnaebjdccngeoaaDoor
open Go.RowKit

def keyText : List Nat := [107, 101, 121]
theorem key_word (W : World) : (convert 23 23 (.slice (some ⟨W.heap.size, 0, none⟩) 3 3)).run Tryd.prog (W.alloc (.cells #[.int .u8 107, .int .u8 101, .int .u8 121] 5)) = .ok (.slice (some ⟨W.heap.size, 0, none⟩) 3 3) (W.alloc (.cells #[.int .u8 107, .int .u8 101, .int .u8 121] 5 (3, 4))) :=
  Joins.run_convert_bytes_const_at W _ _ _ 3 3 _ rfl Tryd.underlying23 Tryd.underlying5
theorem key_in (W : World) : In (W.alloc (.cells #[.int .u8 107, .int .u8 101, .int .u8 121] 5 (3, 4))) (some ⟨W.heap.size, 0, none⟩) 3 keyText :=
  ⟨rfl, fun j x hx => ⟨_, rfl, by
    rw [show (⟨W.heap.size, 0, none⟩ : Addr).add j = ⟨W.heap.size, j, none⟩ from by unfold Addr.add; split <;> simp_all]
    rw [cell_of_row _ _ j _ _ (3, 4) (World.alloc_heap_new W _)]
    have hj := (List.getElem?_eq_some_iff.1 hx).1
    obtain rfl | rfl | rfl : j = 0 ∨ j = 1 ∨ j = 2 := by simp [keyText] at hj; omega
    all_goals (cases hx; rfl)⟩⟩

set_option maxRecDepth 100000 in
set_option maxHeartbeats 2000000 in
theorem jof_any (t : Nat) (z : Int) (w : World) (hk : Knows w) (hs : Starts w) (ht : t < 4294967296) (_ : -9223372036854775808 ≤ z ∧ z ≤ 9223372036854775807) :
    Calls Tryd.prog 17 #[.int .u32 (t : Int), .int .i64 z] w fun e w' => e = .returned (sv (keyL t z)) ∧ Below w.heap.size w w' := by
  have e0 : (bvs zero32).toArray = #[.int .u8 0, .int .u8 0, .int .u8 0, .int .u8 0, .int .u8 0, .int .u8 0, .int .u8 0, .int .u8 0, .int .u8 0, .int .u8 0, .int .u8 0, .int .u8 0, .int .u8 0, .int .u8 0, .int .u8 0, .int .u8 0, .int .u8 0, .int .u8 0, .int .u8 0, .int .u8 0, .int .u8 0, .int .u8 0, .int .u8 0, .int .u8 0, .int .u8 0, .int .u8 0, .int .u8 0, .int .u8 0, .int .u8 0, .int .u8 0, .int .u8 0, .int .u8 0] := rfl
  have f1 := BArr.new w 36 zero32
  have b1 := below_alloc w (.cells (bvs zero32).toArray 36)
  rw [e0] at f1 b1
  clear e0
  obtain ⟨w1, hw1⟩ : ∃ w1, w1 = w.alloc (.cells #[.int .u8 0, .int .u8 0, .int .u8 0, .int .u8 0, .int .u8 0, .int .u8 0, .int .u8 0, .int .u8 0, .int .u8 0, .int .u8 0, .int .u8 0, .int .u8 0, .int .u8 0, .int .u8 0, .int .u8 0, .int .u8 0, .int .u8 0, .int .u8 0, .int .u8 0, .int .u8 0, .int .u8 0, .int .u8 0, .int .u8 0, .int .u8 0, .int .u8 0, .int .u8 0, .int .u8 0, .int .u8 0, .int .u8 0, .int .u8 0, .int .u8 0, .int .u8 0] 36) := ⟨_, rfl⟩
  rw [← hw1] at f1 b1
  obtain ⟨g, hg⟩ : ∃ g, w.heap.size = g := ⟨_, rfl⟩
  have kw := key_word w1
  have b2 := below_alloc w1 (.cells #[.int .u8 107, .int .u8 101, .int .u8 121] 5 (3, 4))
  obtain ⟨w2, hw2⟩ : ∃ w2, w2 = w1.alloc (.cells #[.int .u8 107, .int .u8 101, .int .u8 121] 5 (3, 4)) := ⟨_, rfl⟩
  rw [← hw2] at b2 kw
  have i2 : In w2 (some ⟨w1.heap.size, 0, none⟩) 3 keyText := by rw [hw2]; exact key_in w1
  have CP := Lib.hid (put_any (some ⟨w1.heap.size, 0, none⟩) 3 3 keyText t 4 4 rfl w2 i2 (by omega))
  have hb2 := below_on b1 (Nat.le_refl _) b2
  have f2 := f1.below b2
  have ht64 : IntKind.u64.wrap (t : Int) = (t : Int) := by rw [IntKind.wrap_u64]; omega
  have hN : IntKind.u64.wrap z = ((resN z : Nat) : Int) := by rw [IntKind.wrap_u64]; unfold resN; omega
  have hkw := hk.below hb2
  have hsw := hs.below hb2
  rw [hg] at f2
  have HF := Lib.hid (And.intro f2 (And.intro hb2 (And.intro hkw hsw)))
  have HW := Lib.hid hw1
  have HW2 := Lib.hid hw2
  have HG := Lib.hid hg
  clear f1 b1 hw1 b2 hw2 i2 hb2 f2 hkw hsw hg
  go_enter Tryd.func17, Tryd.ntmps17
  go_upto_region 1 with fail
  rw [← HW.out]
  rw [HG.out]
  go_wp2_with fail
  refine CP.out.mono ?_
  rintro e w3 ⟨A3, c3, rfl, ho3, hb3⟩
  have i3 := In.of_own ho3
  have f3 := HF.out.1.below hb3
  have B3 := Lib.hid (below_on HF.out.2.1 (Nat.le_refl _) hb3)
  have CP2 := Lib.hid (put_any A3 7 c3 (keyText ++ dg t 4) (resN z) 1 1 rfl w3 i3 (by omega))
  have hkw := HF.out.2.2.1.below hb3
  have hsw := HF.out.2.2.2.below hb3
  have HF3 := Lib.hid (And.intro f3 (And.intro hkw hsw))
  clear f3 hkw hsw i3 ho3 hb3 CP
  go_wp2_with fail
  refine CP2.out.mono ?_
  rintro e w4 ⟨A4, c4, rfl, ho4, hb4⟩
  have B4 := Lib.hid (below_on B3.out (Nat.le_refl _) hb4)
  have f4 := HF3.out.1.below hb4
  have CO := Lib.hid (of_any A4 (7 + 1) c4 (keyText ++ dg t 4 ++ dg (resN z) 1) w4 (In.of_own ho4) (by
    intro x hx
    rcases List.mem_append.1 hx with hx | hx
    · rcases List.mem_append.1 hx with hx | hx
      · simp [keyText] at hx; omega
      · exact dg_lt _ _ x hx
    · exact dg_lt _ _ x hx) (own_cap ho4) (HF3.out.2.1.below hb4) (HF3.out.2.2.below hb4) (by omega))
  have hl : (keyL t z).length = 32 := keyL_length t z
  have HS : sha (keyText ++ dg t 4 ++ dg (resN z) 1) = keyL t z := rfl
  rw [HS] at CO
  obtain ⟨s, hs0⟩ : ∃ s, keyL t z = s := ⟨_, rfl⟩
  rw [hs0] at CO hl
  have HS0 := Lib.hid hs0
  have F4 := Lib.hid f4
  clear f4 ho4 hb4 HS hs0 CP2 HF3
  go_wp2_with fail
  refine CO.out.mono ?_
  rintro e w5 ⟨rfl, hb5⟩
  have f5 := F4.out.below hb5
  have B5 := Lib.hid (below_on B4.out (Nat.le_refl _) hb5)
  have HZ32 := Lib.hid (show zero32.length = 32 from rfl)
  clear hb5
  go_wp2_with (with_reducible refine wpList_store_sum rfl (.tmp 4) (.tmp 15) rfl g rfl zero32 s HZ32 hl f5 rfl ?_)
  refine bodyPost_ret_by (results_cell_row (p := 4) (ty := 36) (by kernel_rfl) _ _ g 36 (bvs s).toArray (0, 0) _ rfl (f5.setRow _) Tryd.underlying36 rfl (by rw [List.size_toArray, bvs_length, hl]; exact sizeSum)) rfl ?_
  exact ⟨by rw [HS0.out]; rfl, below_setRow B5.out (by rw [HG.out]; exact Nat.le_refl _) _⟩

end Go.Proofs.YtnaebjdccngeoaaDoor
