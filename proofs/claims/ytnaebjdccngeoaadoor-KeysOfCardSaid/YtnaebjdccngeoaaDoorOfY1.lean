/-
  Several texts in one: JOf, JBit, JEmpty, VLeaf, JValue, JRefPut, JRefOf, JRefBit, JRefValue, LRowS, LArrArg, LListSum, JAsked, LTwinB, LTwin, VLen, VSide, VRoot, VList, VTools, JOfLaw.
-/
import Derived.Test.YtnaebjdccngeoaaDoorJPure
import Derived.Test.YtnaebjdccngeoaaDoorLApp2
import Derived.Test.YtnaebjdccngeoaaDoorLPut
import Derived.Lib.SmallJoins
import Derived.WalkMore
import Derived.Test.YtnaebjdccngeoaaDoorVMarked
import Derived.Deep.RegionLaw
import Derived.Deep.QuietTactic
import Derived.BigQuiet
import Derived.Deep.Cut
import Derived.Test.YtnaebjdccngeoaaDoorRefOf
import Derived.Test.YtnaebjdccngeoaaDoorJRefSide
import Derived.Test.YtnaebjdccngeoaaDoorVNode
import Derived.Test.YtnaebjdccngeoaaDoorLSum
import Derived.Test.YtnaebjdccngeoaaDoorLRow
import Derived.Deep.Slices
import Derived.Test.YtnaebjdccngeoaaDoorLPre
import Derived.ProofKit
import Derived.OpenShut
import Derived.Test.YtnaebjdccngeoaaDoorLMem
import Derived.Test.YtnaebjdccngeoaaDoorVPure
import Derived.Lib.Strings
import Derived.Lib.Slices
import Derived.Lib.Small
import Derived.Lib.Walk
import Derived.Lib.BitFns
import Derived.Test.YtnaebjdccngeoaaDoorLSums
import Derived.Laws.EntriesVeiled
import Derived.Great.BuildSlice
import Derived.Deep.RegionHeld
import Derived.Test.YtnaebjdccngeoaaDoorJRefAll
/-
  keys.Of.
-/
namespace Go.Proofs.YtnaebjdccngeoaaDoor
open Go.RowKit

def keyText : List Nat := [107, 101, 121]
theorem key_word (W : World) : (convert 23 23 (.slice (some ⟨W.heap.size, 0, none⟩) 3 3)).run Tryd.prog (W.alloc (.cells #[.int .u8 107, .int .u8 101, .int .u8 121] 5)) = .ok (.slice (some ⟨W.heap.size, 0, none⟩) 3 3) (W.alloc (.cells #[.int .u8 107, .int .u8 101, .int .u8 121] 5 (3, 4))) :=
  Joins.run_convert_bytes_const_at W _ _ _ 3 3 _ rfl Tryd.underlying23 Tryd.underlying5
theorem key_in (W : World) : In (W.alloc (.cells #[.int .u8 107, .int .u8 101, .int .u8 121] 5 (3, 4))) (some ⟨W.heap.size, 0, none⟩) 3 keyText :=
  ⟨rfl, fun j x hx => ⟨_, rfl, by
    rw [show (⟨W.heap.size, 0, none⟩ : Addr).add j = ⟨W.heap.size, j, none⟩ from by unfold Addr.add; split <;> simp_all]
    rw [cell_of_row _ _ j _ _ (3, 4) (World.alloc_heap_new W _)]
    have hj := (List.getElem?_eq_some_iff.1 hx).1
    obtain rfl | rfl | rfl : j = 0 ∨ j = 1 ∨ j = 2 := by simp [keyText] at hj; omega
    all_goals (cases hx; rfl)⟩⟩

set_option maxRecDepth 100000 in
set_option maxHeartbeats 2000000 in
theorem jof_any (t : Nat) (z : Int) (w : World) (hk : Knows w) (hs : Starts w) (ht : t < 4294967296) (_ : -9223372036854775808 ≤ z ∧ z ≤ 9223372036854775807) :
    Calls Tryd.prog 17 #[.int .u32 (t : Int), .int .i64 z] w fun e w' => e = .returned (sv (keyL t z)) ∧ Below w.heap.size w w' := by
  have e0 : (bvs zero32).toArray = #[.int .u8 0, .int .u8 0, .int .u8 0, .int .u8 0, .int .u8 0, .int .u8 0, .int .u8 0, .int .u8 0, .int .u8 0, .int .u8 0, .int .u8 0, .int .u8 0, .int .u8 0, .int .u8 0, .int .u8 0, .int .u8 0, .int .u8 0, .int .u8 0, .int .u8 0, .int .u8 0, .int .u8 0, .int .u8 0, .int .u8 0, .int .u8 0, .int .u8 0, .int .u8 0, .int .u8 0, .int .u8 0, .int .u8 0, .int .u8 0, .int .u8 0, .int .u8 0] := rfl
  have f1 := BArr.new w 36 zero32
  have b1 := below_alloc w (.cells (bvs zero32).toArray 36)
  rw [e0] at f1 b1
  clear e0
  obtain ⟨w1, hw1⟩ : ∃ w1, w1 = w.alloc (.cells #[.int .u8 0, .int .u8 0, .int .u8 0, .int .u8 0, .int .u8 0, .int .u8 0, .int .u8 0, .int .u8 0, .int .u8 0, .int .u8 0, .int .u8 0, .int .u8 0, .int .u8 0, .int .u8 0, .int .u8 0, .int .u8 0, .int .u8 0, .int .u8 0, .int .u8 0, .int .u8 0, .int .u8 0, .int .u8 0, .int .u8 0, .int .u8 0, .int .u8 0, .int .u8 0, .int .u8 0, .int .u8 0, .int .u8 0, .int .u8 0, .int .u8 0, .int .u8 0] 36) := ⟨_, rfl⟩
  rw [← hw1] at f1 b1
  obtain ⟨g, hg⟩ : ∃ g, w.heap.size = g := ⟨_, rfl⟩
  have kw := key_word w1
  have b2 := below_alloc w1 (.cells #[.int .u8 107, .int .u8 101, .int .u8 121] 5 (3, 4))
  obtain ⟨w2, hw2⟩ : ∃ w2, w2 = w1.alloc (.cells #[.int .u8 107, .int .u8 101, .int .u8 121] 5 (3, 4)) := ⟨_, rfl⟩
  rw [← hw2] at b2 kw
  have i2 : In w2 (some ⟨w1.heap.size, 0, none⟩) 3 keyText := by rw [hw2]; exact key_in w1
  have CP := Lib.hid (put_any (some ⟨w1.heap.size, 0, none⟩) 3 3 keyText t 4 4 rfl w2 i2 (by omega))
  have hb2 := below_on b1 (Nat.le_refl _) b2
  have f2 := f1.below b2
  have ht64 : IntKind.u64.wrap (t : Int) = (t : Int) := by rw [IntKind.wrap_u64]; omega
  have hN : IntKind.u64.wrap z = ((resN z : Nat) : Int) := by rw [IntKind.wrap_u64]; unfold resN; omega
  have hkw := hk.below hb2
  have hsw := hs.below hb2
  rw [hg] at f2
  have HF := Lib.hid (And.intro f2 (And.intro hb2 (And.intro hkw hsw)))
  have HW := Lib.hid hw1
  have HW2 := Lib.hid hw2
  have HG := Lib.hid hg
  clear f1 b1 hw1 b2 hw2 i2 hb2 f2 hkw hsw hg
  go_enter Tryd.func17, Tryd.ntmps17
  go_upto_region 1 with fail
  rw [← HW.out]
  rw [HG.out]
  go_wp2_with fail
  refine CP.out.mono ?_
  rintro e w3 ⟨A3, c3, rfl, ho3, hb3⟩
  have i3 := In.of_own ho3
  have f3 := HF.out.1.below hb3
  have B3 := Lib.hid (below_on HF.out.2.1 (Nat.le_refl _) hb3)
  have CP2 := Lib.hid (put_any A3 7 c3 (keyText ++ dg t 4) (resN z) 1 1 rfl w3 i3 (by omega))
  have hkw := HF.out.2.2.1.below hb3
  have hsw := HF.out.2.2.2.below hb3
  have HF3 := Lib.hid (And.intro f3 (And.intro hkw hsw))
  clear f3 hkw hsw i3 ho3 hb3 CP
  go_wp2_with fail
  refine CP2.out.mono ?_
  rintro e w4 ⟨A4, c4, rfl, ho4, hb4⟩
  have B4 := Lib.hid (below_on B3.out (Nat.le_refl _) hb4)
  have f4 := HF3.out.1.below hb4
  have CO := Lib.hid (of_any A4 (7 + 1) c4 (keyText ++ dg t 4 ++ dg (resN z) 1) w4 (In.of_own ho4) (by
    intro x hx
    rcases List.mem_append.1 hx with hx | hx
    · rcases List.mem_append.1 hx with hx | hx
      · simp [keyText] at hx; omega
      · exact dg_lt _ _ x hx
    · exact dg_lt _ _ x hx) (own_cap ho4) (HF3.out.2.1.below hb4) (HF3.out.2.2.below hb4) (by omega))
  have hl : (keyL t z).length = 32 := keyL_length t z
  have HS : sha (keyText ++ dg t 4 ++ dg (resN z) 1) = keyL t z := rfl
  rw [HS] at CO
  obtain ⟨s, hs0⟩ : ∃ s, keyL t z = s := ⟨_, rfl⟩
  rw [hs0] at CO hl
  have HS0 := Lib.hid hs0
  have F4 := Lib.hid f4
  clear f4 ho4 hb4 HS hs0 CP2 HF3
  go_wp2_with fail
  refine CO.out.mono ?_
  rintro e w5 ⟨rfl, hb5⟩
  have f5 := F4.out.below hb5
  have B5 := Lib.hid (below_on B4.out (Nat.le_refl _) hb5)
  have HZ32 := Lib.hid (show zero32.length = 32 from rfl)
  clear hb5
  go_wp2_with (with_reducible refine wpList_store_sum rfl (.tmp 4) (.tmp 15) rfl g rfl zero32 s HZ32 hl f5 rfl ?_)
  refine bodyPost_ret_by (results_cell_row (p := 4) (ty := 36) (by kernel_rfl) _ _ g 36 (bvs s).toArray (0, 0) _ rfl (f5.setRow _) Tryd.underlying36 rfl (by rw [List.size_toArray, bvs_length, hl]; exact sizeSum)) rfl ?_
  exact ⟨by rw [HS0.out]; rfl, below_setRow B5.out (by rw [HG.out]; exact Nat.le_refl _) _⟩

end Go.Proofs.YtnaebjdccngeoaaDoor

/-
  keys.Bit.
-/
namespace Go.Proofs.YtnaebjdccngeoaaDoor
open Go.RowKit

set_option maxRecDepth 100000 in
set_option maxHeartbeats 2000000 in
theorem jbit_any (k : List Nat) (z : Int) (w : World) (hl : k.length = 32) (hb : ∀ x ∈ k, x < 256) (hz : -9223372036854775808 ≤ z ∧ z ≤ 9223372036854775807) :
    Calls Tryd.prog 19 #[sv k, .int .i64 z] w fun e w' => e = .returned (.int .i64 (bitZ k z : Int)) ∧ Below w.heap.size w w' := by
  have hbl := below_alloc w (.cells (bvs k).toArray 36)
  have f1 := BArr.new w 36 k
  have HF := Lib.hid (And.intro f1 hbl)
  clear f1 hbl
  by_cases hneg : z < 0
  · have hv : bitZ k z = 0 := by unfold bitZ; rw [if_pos (.inl hneg)]
    rw [hv]
    unfold sv
    go_enter Tryd.func19, Tryd.ntmps19
    go_wp2_with fail
    go_ret
    exact ⟨rfl, HF.out.2⟩
  · by_cases hbig : 256 ≤ z
    · have hv : bitZ k z = 0 := by unfold bitZ; rw [if_pos (.inr hbig)]
      rw [hv]
      unfold sv
      go_enter Tryd.func19, Tryd.ntmps19
      go_wp2_with fail
      go_ret
      exact ⟨rfl, HF.out.2⟩
    · obtain ⟨d, rfl⟩ := Int.eq_ofNat_of_zero_le (Int.not_lt.1 hneg)
      have hd : d < 256 := by omega
      have hv : bitZ k (d : Int) = bitN k d := by unfold bitZ; rw [if_neg (by omega)]; rfl
      obtain ⟨q, hq⟩ : ∃ q, d / 8 = q := ⟨_, rfl⟩
      obtain ⟨r, hr⟩ : ∃ r, d % 8 = r := ⟨_, rfl⟩
      have hq32 : q < 32 := by omega
      have hr8 : r < 8 := by omega
      have m1 : Int.tmod (d : Int) 8 = (r : Int) := by rw [← hr]; rfl
      have m2 : Int.tdiv (d : Int) 8 = (q : Int) := by rw [← hq]; rfl
      obtain ⟨s, hs⟩ : ∃ s, 7 - r = s := ⟨_, rfl⟩
      have m3 : (7 : Int) - (r : Int) = (s : Int) := by omega
      have hs7 : s ≤ 7 := by omega
      obtain ⟨x, hx⟩ : ∃ x, k.getD q 0 = x := ⟨_, rfl⟩
      have hx256 : x < 256 := by rw [← hx, List.getD_eq_getElem?_getD, List.getElem?_eq_getElem (by omega)]; exact hb _ (List.getElem_mem _)
      obtain ⟨y, hy⟩ : ∃ y, x / 2 ^ s = y := ⟨_, rfl⟩
      have hy256 : y < 256 := by rw [← hy]; exact Nat.lt_of_le_of_lt (Nat.div_le_self _ _) hx256
      obtain ⟨b, hb2⟩ : ∃ b, y % 2 = b := ⟨_, rfl⟩
      have hN : bitN k d = b := by unfold bitN; rw [hq, hr, hs, hx, hy, hb2]
      have m4 := and_one_of hy256 hb2
      have hb1 : b < 2 := by omega
      have m5 : (d : Int) / 8 = (q : Int) := by omega
      have m6 : (d : Int) % 8 = (r : Int) := by omega
      rw [hv, hN]
      unfold sv
      have hcell : (w.alloc (.cells (bvs k).toArray 36)).cell? ⟨w.heap.size, q, none⟩ = some (.int .u8 (x : Int)) := by rw [← hx]; exact HF.out.1.cell (by omega)
      have m7 : (x : Int) / 2 ^ s = (y : Int) := by rw [← hy, Int.natCast_ediv]; simp
      clear hq hr hs hy hx hN hv hb hb2
      go_enter Tryd.func19, Tryd.ntmps19
      go_wp2_with fail
      go_ret
      exact ⟨rfl, HF.out.2⟩

end Go.Proofs.YtnaebjdccngeoaaDoor

/-
  keys.Empty.
-/
namespace Go.Proofs.YtnaebjdccngeoaaDoor
open Go.RowKit

set_option maxRecDepth 100000 in
set_option maxHeartbeats 2000000 in
theorem jempty_any (z : Int) (w : World) (hk : Knows w) (hs : Starts w) (_ : -9223372036854775808 ≤ z ∧ z ≤ 9223372036854775807) :
    Calls Tryd.prog 21 #[.int .i64 z] w fun e w' => e = .returned (sv (emptyZ z)) ∧ Below w.heap.size w w' := by
  have e0 : (bvs zero32).toArray = #[.int .u8 0, .int .u8 0, .int .u8 0, .int .u8 0, .int .u8 0, .int .u8 0, .int .u8 0, .int .u8 0, .int .u8 0, .int .u8 0, .int .u8 0, .int .u8 0, .int .u8 0, .int .u8 0, .int .u8 0, .int .u8 0, .int .u8 0, .int .u8 0, .int .u8 0, .int .u8 0, .int .u8 0, .int .u8 0, .int .u8 0, .int .u8 0, .int .u8 0, .int .u8 0, .int .u8 0, .int .u8 0, .int .u8 0, .int .u8 0, .int .u8 0, .int .u8 0] := rfl
  have f1 := BArr.new w 36 zero32
  have b1 := below_alloc w (.cells (bvs zero32).toArray 36)
  rw [e0] at f1 b1
  clear e0
  obtain ⟨w1, hw1⟩ : ∃ w1, w1 = w.alloc (.cells #[.int .u8 0, .int .u8 0, .int .u8 0, .int .u8 0, .int .u8 0, .int .u8 0, .int .u8 0, .int .u8 0, .int .u8 0, .int .u8 0, .int .u8 0, .int .u8 0, .int .u8 0, .int .u8 0, .int .u8 0, .int .u8 0, .int .u8 0, .int .u8 0, .int .u8 0, .int .u8 0, .int .u8 0, .int .u8 0, .int .u8 0, .int .u8 0, .int .u8 0, .int .u8 0, .int .u8 0, .int .u8 0, .int .u8 0, .int .u8 0, .int .u8 0, .int .u8 0] 36) := ⟨_, rfl⟩
  rw [← hw1] at f1 b1
  have HW := Lib.hid hw1
  have CM := Lib.hid (show Calls Tryd.prog 50 #[.int .u8 2, .slice none 0 0] w1 fun e w' => e = .returned (sv (emptyU 0)) ∧ Below w1.heap.size w1 w' from
    (jmarked_any 2 none 0 0 [] w1 (by omega) ⟨rfl, fun k xs h => by cases h⟩ (hk.below b1) (hs.below b1) (by simp [tot]) (by omega)).mono fun e w' ⟨h, hb⟩ => ⟨h, hb⟩)
  have CS := Lib.hid (fun (j : Nat) (W : World) (hW : Below w.heap.size w W) => jside_any (emptyU j) (emptyU j) W (emptyU_length j) (emptyU_length j) (emptyU_lt j) (emptyU_lt j) (hk.below hW) (hs.below hW))
  obtain ⟨g, hg⟩ : ∃ g, w.heap.size = g := ⟨_, rfl⟩
  have HG := Lib.hid hg
  rw [hg] at f1 b1
  have HF := Lib.hid (And.intro f1 b1)
  rw [hg]
  clear f1 b1 hw1 hg hk hs
  go_enter Tryd.func21, Tryd.ntmps21
  go_wp2_with fail
  go_step3
  go_upto_region 1 with fail
  rw [← HW.out]
  rw [HG.out]
  go_wp2_with fail
  refine CM.out.mono ?_
  rintro e w2 ⟨rfl, hb2⟩
  have l0 := emptyU_length 0
  obtain ⟨w3, hw3⟩ : ∃ w3, w3 = w2.alloc (.cells (bvs (emptyU 0)).toArray 36) := ⟨_, rfl⟩
  have b3 : Below w1.heap.size w1 w3 := by rw [hw3]; exact below_on hb2 (Nat.le_refl _) (below_alloc _ _)
  have f3 : BArr w3 w2.heap.size 36 (emptyU 0) := by rw [hw3]; exact BArr.new _ _ _
  have g3 := HF.out.1.below b3
  have hlt := HF.out.1.lt
  have hsz := hb2.size
  obtain ⟨p, hp⟩ : ∃ p, w2.heap.size = p := ⟨_, rfl⟩
  have hpg : g < p := by omega
  have B3 := Lib.hid (below_on HF.out.2 (Nat.le_of_eq HG.out.symm) b3)
  have HW3 := Lib.hid hw3
  have H3 := Lib.hid (And.intro f3 g3)
  rw [hp] at H3
  have HP := Lib.hid hp
  clear b3 f3 g3 hb2 hw3 hlt hsz hp CM HF
  go_wp2_with (with_reducible refine wpList_store_new w2 _ (by simp) rfl (.tmp 3) (.tmp 5) rfl rfl (emptyU 0) l0 rfl ?_; rw [← HW3.out])
  rw [HP.out]
  go_step3
  go_wp2
  have hcz := clampN_le z
  obtain ⟨c, hc⟩ : ∃ c, clampN z = c := ⟨_, rfl⟩
  have hof : ∀ k, k ≤ 256 → c ≤ k → ((k : Int) ≤ z ∨ k = 0) → c = k := fun k h1 h2 h3 => by rw [← hc] at *; exact clampN_of h1 h2 h3
  have hnx : ∀ k, k ≤ 256 → c ≤ k → ¬ (k : Int) ≤ z → k ≠ 0 → c ≤ k - 1 := fun k h1 h2 h3 h4 => by rw [← hc] at *; exact clampN_next h1 h2 h3 h4
  have HOF := Lib.hid (And.intro hof hnx)
  have HZ := Lib.hid (show emptyZ z = emptyU (256 - c) by unfold emptyZ; rw [hc])
  rw [hc] at hcz
  clear hof hnx hc l0
  go_loopw [4] (fun i wr => ∃ k : Nat, k ≤ 256 ∧ i = .int .i64 (k : Int) ∧ c ≤ k ∧ BArr wr p 36 (emptyU (256 - k)) ∧ BArr wr g 36 zero32 ∧ Below g w wr) (fun i _ => (intOf i).toNat)
  case atStart => exact ⟨256, by omega, rfl, hcz, H3.out.1, H3.out.2, B3.out⟩
  case round =>
    clear H3 B3
    obtain ⟨k, hk, rfl, hck, hf, hr, hb⟩ := hrel
    have hZ32 := Lib.hid (show zero32.length = 32 from rfl)
    have hlk := emptyU_length (256 - k)
    by_cases hz2 : (k : Int) ≤ z
    · have HEQ := Lib.hid (HOF.out.1 k hk hck (.inl hz2))
      have HE := Lib.hid (And.intro hf (And.intro hr hb))
      clear hf hr hb HOF
      have HS2 := Lib.hid (show ∃ s, emptyU (256 - k) = s from ⟨_, rfl⟩)
      obtain ⟨s, hs0⟩ := HS2.out
      rw [hs0] at HE hlk
      have HS0 := Lib.hid hs0
      clear hs0 HS2
      go_wp2_with (first
        | (with_reducible refine wpList_load_sum rfl (.tmp 3) rfl ⟨p, 0, none⟩ rfl s hlk HE.out.1.at_ ?_)
        | (with_reducible refine wpList_store_sum rfl (.tmp 2) (.tmp 17) rfl g rfl zero32 s hZ32 hlk HE.out.2.1 rfl ?_))
      try rw [Exit.noGoto_ret]
      refine bodyPost_ret_by (results_cell_row (p := 2) (ty := 36) (by kernel_rfl) _ _ g 36 _ (0, 0) _ rfl (HE.out.2.1.setRow _) Tryd.underlying36 rfl (by rw [List.size_toArray, bvs_length, hlk]; exact sizeSum)) rfl ?_
      exact ⟨by rw [HZ.out, HEQ.out, HS0.out]; rfl, below_setRow HE.out.2.2 (by omega) _⟩
    · by_cases h0 : k = 0
      · have HEQ := Lib.hid (HOF.out.1 k hk hck (.inr h0))
        have hk0 : ((k : Int) == 0) = true := by simp; omega
        have HE := Lib.hid (And.intro hf (And.intro hr hb))
        clear hf hr hb HOF h0
        have HS2 := Lib.hid (show ∃ s, emptyU (256 - k) = s from ⟨_, rfl⟩)
        obtain ⟨s, hs0⟩ := HS2.out
        rw [hs0] at HE hlk
        have HS0 := Lib.hid hs0
        clear hs0 HS2
        go_wp2_with (first
          | (with_reducible refine wpList_load_sum rfl (.tmp 3) rfl ⟨p, 0, none⟩ rfl s hlk HE.out.1.at_ ?_)
          | (with_reducible refine wpList_store_sum rfl (.tmp 2) (.tmp 17) rfl g rfl zero32 s hZ32 hlk HE.out.2.1 rfl ?_))
        try rw [Exit.noGoto_ret]
        refine bodyPost_ret_by (results_cell_row (p := 2) (ty := 36) (by kernel_rfl) _ _ g 36 _ (0, 0) _ rfl (HE.out.2.1.setRow _) Tryd.underlying36 rfl (by rw [List.size_toArray, bvs_length, hlk]; exact sizeSum)) rfl ?_
        exact ⟨by rw [HZ.out, HEQ.out, HS0.out]; rfl, below_setRow HE.out.2.2 (by omega) _⟩
      · have hn := HOF.out.2 k hk hck hz2 h0
        have C := Lib.hid (CS.out (256 - k) wr (by rw [HG.out]; exact hb))
        have HN := Lib.hid (show emptyU (256 - (k - 1)) = sideL (emptyU (256 - k)) (emptyU (256 - k)) by rw [show 256 - (k - 1) = (256 - k) + 1 by omega]; rfl)
        have hls := sideL_length (emptyU (256 - k)) (emptyU (256 - k))
        obtain ⟨s1, hs1⟩ : ∃ s, emptyU (256 - k) = s := ⟨_, rfl⟩
        rw [hs1] at C HN hls hf hlk
        obtain ⟨s2, hs2⟩ : ∃ s, sideL s1 s1 = s := ⟨_, rfl⟩
        rw [hs2] at C HN hls
        have HS12 := Lib.hid (And.intro hs1 hs2)
        clear hs1 hs2
        have HE := Lib.hid (And.intro hf (And.intro hr hb))
        clear hf hr hb HOF
        have hk0 : ((k : Int) == 0) = false := by simp; omega
        go_wp2_with (with_reducible refine wpList_load_sum rfl (.tmp 3) rfl ⟨p, 0, none⟩ rfl s1 hlk HE.out.1.at_ ?_)
        refine C.out.mono ?_
        rintro e w4 ⟨rfl, hb4⟩
        have f4 := HE.out.1.below hb4
        have g4 := HE.out.2.1.below hb4
        have B4 := Lib.hid (below_on HE.out.2.2 (Nat.le_of_eq HG.out.symm) hb4)
        have G4 := Lib.hid g4
        clear g4 hb4 C HE
        go_wp2_with (with_reducible refine wpList_store_sum rfl (.tmp 3) (.tmp 10) rfl p rfl s1 s2 (Lib.hid hlk) hls f4 rfl ?_)
        go_roundw
        case rel => exact ⟨k - 1, by omega, by go_num, hn, by rw [HN.out]; exact f4.setRow s2, G4.out.setRow_other p (by omega) _, below_setRow B4.out (by omega) _⟩
        case measure => simp [intOf]; omega

end Go.Proofs.YtnaebjdccngeoaaDoor

/-
  leaves.Leaf, leaves.Node.
-/
namespace Go.Proofs.YtnaebjdccngeoaaDoor
open Go.RowKit

set_option maxRecDepth 100000 in
set_option maxHeartbeats 2000000 in
theorem leaf_any (A : Option Addr) (n c : Nat) (xs : List Nat) (w : World) (hx : Came w A n c xs) (hk : Knows w) (hs : Starts w) (hn : n ≤ 800000000) :
    Calls Tryd.prog 34 #[.slice A n c] w fun e w' => e = .returned (sv (leafL xs)) ∧ Below w.heap.size w w' := by
  have e0 : (bvs zero32).toArray = #[.int .u8 0, .int .u8 0, .int .u8 0, .int .u8 0, .int .u8 0, .int .u8 0, .int .u8 0, .int .u8 0, .int .u8 0, .int .u8 0, .int .u8 0, .int .u8 0, .int .u8 0, .int .u8 0, .int .u8 0, .int .u8 0, .int .u8 0, .int .u8 0, .int .u8 0, .int .u8 0, .int .u8 0, .int .u8 0, .int .u8 0, .int .u8 0, .int .u8 0, .int .u8 0, .int .u8 0, .int .u8 0, .int .u8 0, .int .u8 0, .int .u8 0, .int .u8 0] := rfl
  have f1 := BArr.new w 36 zero32
  have b1 := below_alloc w (.cells (bvs zero32).toArray 36)
  have s1 : (w.alloc (.cells (bvs zero32).toArray 36)).heap.size = w.heap.size + 1 := World.size_alloc _ _
  rw [e0] at f1 b1 s1
  clear e0
  have HF := Lib.hid (And.intro f1 (And.intro b1 s1))
  have HX := Lib.hid hx
  clear f1 b1 s1 hx
  go_enter Tryd.func34, Tryd.ntmps34
  go_upto_region 1 with fail
  obtain ⟨w1, hw1⟩ : ∃ w1, w1 = w.alloc (.cells #[.int .u8 0, .int .u8 0, .int .u8 0, .int .u8 0, .int .u8 0, .int .u8 0, .int .u8 0, .int .u8 0, .int .u8 0, .int .u8 0, .int .u8 0, .int .u8 0, .int .u8 0, .int .u8 0, .int .u8 0, .int .u8 0, .int .u8 0, .int .u8 0, .int .u8 0, .int .u8 0, .int .u8 0, .int .u8 0, .int .u8 0, .int .u8 0, .int .u8 0, .int .u8 0, .int .u8 0, .int .u8 0, .int .u8 0, .int .u8 0, .int .u8 0, .int .u8 0] 36) := ⟨_, rfl⟩
  rw [← hw1] at HF ⊢
  clear hw1
  obtain ⟨W, hW⟩ : ∃ W, W = w1.alloc (.cells #[.slice A n c] 23) := ⟨_, rfl⟩
  have hb : Below w1.heap.size w1 W := by rw [hW]; exact below_alloc _ _
  have hcell : W.cell? ⟨w1.heap.size, 0, none⟩ = some (.slice A n c) := by rw [hW]; exact cell_new1 _ _ _
  have bel := below_on HF.out.2.1 (Nat.le_refl _) hb
  have C := Lib.hid (marked_any 0 (some ⟨w1.heap.size, 0, none⟩) 1 1 [xs] W (by omega) ⟨rfl, fun r ys hr => by
    have hr' := (List.getElem?_eq_some_iff.1 hr).1
    obtain rfl : r = 0 := by simp at hr'; omega
    cases hr
    exact ⟨_, A, n, c, rfl, hcell, HX.out.below bel, by omega⟩⟩ (hk.below bel) (hs.below bel) (by have := HX.out.in_.len; simp [tot]; omega) (by omega))
  have hl32 := sha_length (0 :: [xs].flatten)
  have HS : leafL xs = sha (0 :: [xs].flatten) := by rw [leafL]; simp
  obtain ⟨s, hs0⟩ : ∃ s, sha (0 :: [xs].flatten) = s := ⟨_, rfl⟩
  rw [hs0] at C hl32 HS
  have HS' := Lib.hid HS
  clear hs0 HS
  have H1 := Lib.hid (And.intro (HF.out.1.below hb) bel)
  clear hb hcell bel
  go_wp2_with fail
  rw [← hW]
  clear hW
  refine C.out.mono ?_
  rintro e w4 ⟨rfl, hb4⟩
  have f4 := H1.out.1.below hb4
  have HZ32 := Lib.hid (show zero32.length = 32 from rfl)
  go_wp2_with (with_reducible refine wpList_store_sum rfl (.tmp 2) (.tmp 5) rfl w.heap.size rfl zero32 s HZ32 hl32 f4 rfl ?_)
  refine bodyPost_ret_by (results_cell_row (p := 2) (ty := 36) (by kernel_rfl) _ _ w.heap.size 36 (bvs s).toArray (0, 0) _ rfl (f4.setRow _) Tryd.underlying36 rfl (by rw [List.size_toArray, bvs_length, hl32]; exact sizeSum)) rfl ?_
  exact ⟨by rw [HS'.out]; rfl, below_setRow (below_on H1.out.2 (Nat.le_refl _) hb4) (by omega) _⟩

end Go.Proofs.YtnaebjdccngeoaaDoor

/-
  keys.Value.
-/
namespace Go.Proofs.YtnaebjdccngeoaaDoor
open Go.RowKit

theorem rows_keyed {W : World} {b g n c : Nat} {A : Option Addr} {l v : List Nat} (ll : ∀ x ∈ l, x < 256)
    (h0 : W.cell? ⟨b, 0, none⟩ = some (.slice (some ⟨g, 0, none⟩) 32 32)) (h1 : W.cell? ⟨b, 1, none⟩ = some (.slice A n c))
    (hg : In W (some ⟨g, 0, none⟩) 32 l) (hv : Came W A n c v) (hn : n ≤ 140737488355328) : CameRows W (some ⟨b, 0, none⟩) 2 [l, v] :=
  ⟨rfl, fun k xs hx => by
    have hk := (List.getElem?_eq_some_iff.1 hx).1
    obtain rfl | rfl : k = 0 ∨ k = 1 := by simp at hk; omega
    · cases hx
      exact ⟨_, _, 32, 32, rfl, h0, ⟨hg, ll, (fun h => by cases h), Nat.le_refl _⟩, by omega⟩
    · cases hx
      exact ⟨_, _, _, _, rfl, h1, hv, by omega⟩⟩

set_option maxRecDepth 100000 in
set_option maxHeartbeats 2000000 in
theorem jvalue_any (k : List Nat) (A : Option Addr) (n c : Nat) (v : List Nat) (w : World) (hl : k.length = 32) (hkb : ∀ x ∈ k, x < 256) (hv : Came w A n c v) (hn : n ≤ 700000000) (hk : Knows w) (hs : Starts w) :
    Calls Tryd.prog 23 #[sv k, .slice A n c] w fun e w' => e = .returned (sv (valueL k v)) ∧ Below w.heap.size w w' := by
  obtain ⟨g, hg⟩ : ∃ g, w.heap.size = g := ⟨_, rfl⟩
  have e0 : (bvs zero32).toArray = #[.int .u8 0, .int .u8 0, .int .u8 0, .int .u8 0, .int .u8 0, .int .u8 0, .int .u8 0, .int .u8 0, .int .u8 0, .int .u8 0, .int .u8 0, .int .u8 0, .int .u8 0, .int .u8 0, .int .u8 0, .int .u8 0, .int .u8 0, .int .u8 0, .int .u8 0, .int .u8 0, .int .u8 0, .int .u8 0, .int .u8 0, .int .u8 0, .int .u8 0, .int .u8 0, .int .u8 0, .int .u8 0, .int .u8 0, .int .u8 0, .int .u8 0, .int .u8 0] := rfl
  have f0 := BArr.new w 36 k
  have b0 := below_alloc w (.cells (bvs k).toArray 36)
  obtain ⟨w0, hw0⟩ : ∃ w0, w0 = w.alloc (.cells (bvs k).toArray 36) := ⟨_, rfl⟩
  rw [← hw0] at f0 b0
  have s0 : w0.heap.size = g + 1 := by rw [hw0]; simp [hg]
  have f1 := BArr.new w0 36 zero32
  have b1 := below_alloc w0 (.cells (bvs zero32).toArray 36)
  rw [e0] at f1 b1
  obtain ⟨w1, hw1⟩ : ∃ w1, w1 = w0.alloc (.cells #[.int .u8 0, .int .u8 0, .int .u8 0, .int .u8 0, .int .u8 0, .int .u8 0, .int .u8 0, .int .u8 0, .int .u8 0, .int .u8 0, .int .u8 0, .int .u8 0, .int .u8 0, .int .u8 0, .int .u8 0, .int .u8 0, .int .u8 0, .int .u8 0, .int .u8 0, .int .u8 0, .int .u8 0, .int .u8 0, .int .u8 0, .int .u8 0, .int .u8 0, .int .u8 0, .int .u8 0, .int .u8 0, .int .u8 0, .int .u8 0, .int .u8 0, .int .u8 0] 36) := ⟨_, rfl⟩
  rw [← hw1] at f1 b1
  have s1 : w1.heap.size = g + 2 := by rw [hw1]; simp [s0]
  have fk := f0.below b1
  have hb := below_on b0 (Nat.le_refl _) b1
  rw [s0] at f1
  have HW := Lib.hid (show w1 = (w.alloc (.cells (bvs k).toArray 36)).alloc (.cells #[.int .u8 0, .int .u8 0, .int .u8 0, .int .u8 0, .int .u8 0, .int .u8 0, .int .u8 0, .int .u8 0, .int .u8 0, .int .u8 0, .int .u8 0, .int .u8 0, .int .u8 0, .int .u8 0, .int .u8 0, .int .u8 0, .int .u8 0, .int .u8 0, .int .u8 0, .int .u8 0, .int .u8 0, .int .u8 0, .int .u8 0, .int .u8 0, .int .u8 0, .int .u8 0, .int .u8 0, .int .u8 0, .int .u8 0, .int .u8 0, .int .u8 0, .int .u8 0] 36) by rw [hw1, hw0])
  have hkw := hk.below hb
  have hsw := hs.below hb
  have hv1 := hv.below hb
  rw [hg] at fk hb
  have HF := Lib.hid (And.intro fk (And.intro f1 hb))
  have HG := Lib.hid hg
  have hZ := Lib.hid (show zero32.length = 32 from rfl)
  have hsl := run_arr_all Tryd.underlying36
  rw [hg]
  have hvl := hv.in_.len
  unfold sv
  by_cases h0 : n = 0
  · have ev : v = [] := List.length_eq_zero_iff.1 (by omega)
    have CE := Lib.hid (jempty_any 256 w1 hkw hsw (by omega))
    have em : emptyZ 256 = valueL k v := by unfold valueL; rw [if_pos ev]; unfold emptyZ; rw [clamp_big (by omega)]
    rw [em] at CE
    have hlv := valueL_length k v
    have hn0 : ((n : Int) == 0) = true := by simp; omega
    obtain ⟨s, hs0⟩ : ∃ s, valueL k v = s := ⟨_, rfl⟩
    rw [hs0] at CE hlv
    have HS0 := Lib.hid hs0
    clear em hs0 e0 f0 b0 hw0 s0 f1 b1 hw1 s1 fk hb hkw hsw hv1 hg hv hk hs hvl
    go_enter Tryd.func23, Tryd.ntmps23
    go_upto_region 1 with fail
    rw [← HW.out]
    rw [HG.out]
    go_wp2_with fail
    refine CE.out.mono ?_
    rintro e w4 ⟨rfl, hb4⟩
    have f4 := HF.out.2.1.below hb4
    have B4 := Lib.hid (below_on HF.out.2.2 (Nat.le_of_eq HG.out.symm) hb4)
    go_wp2_with (with_reducible refine wpList_store_sum rfl (.tmp 4) (.tmp 8) rfl (g + 1) rfl zero32 s hZ hlv f4 rfl ?_)
    refine bodyPost_ret_by (results_cell_row (p := 4) (ty := 36) (by kernel_rfl) _ _ (g + 1) 36 (bvs s).toArray (0, 0) _ rfl (f4.setRow _) Tryd.underlying36 rfl (by rw [List.size_toArray, bvs_length, hlv]; exact sizeSum)) rfl ?_
    exact ⟨by rw [HS0.out] <;> rfl, below_setRow B4.out (by omega) _⟩
  · obtain ⟨W, hW⟩ : ∃ W, W = w1.alloc (.cells #[.slice (some ⟨g, 0, none⟩) 32 32, .slice A n c] 23) := ⟨_, rfl⟩
    have hbW : Below w1.heap.size w1 W := by rw [hW]; exact below_alloc _ _
    have hc2 := cell_two w1 (.slice (some ⟨g, 0, none⟩) 32 32) (.slice A n c) 23
    rw [← hW] at hc2
    have CM := Lib.hid (jmarked_any 3 (some ⟨w1.heap.size, 0, none⟩) 2 2 [k, v] W (by omega) (rows_keyed hkb hc2.1 hc2.2 ⟨hl, fun j x hx => ⟨_, rfl, (fk.below hbW).at_ j x hx⟩⟩ (hv1.below hbW) (by omega)) (hkw.below hbW) (hsw.below hbW) (by simp [tot]; omega) (by omega))
    have em : sha (3 :: [k, v].flatten) = valueL k v := by unfold valueL; rw [if_neg (by intro e; rw [e] at hvl; exact h0 hvl.symm)]; simp
    rw [em] at CM
    have hlv := valueL_length k v
    have hn0 : ((n : Int) == 0) = false := by simp; omega
    obtain ⟨s, hs0⟩ : ∃ s, valueL k v = s := ⟨_, rfl⟩
    rw [hs0] at CM hlv
    have HS0 := Lib.hid hs0
    have HX := Lib.hid (And.intro hbW hW)
    clear em hs0 e0 f0 b0 hw0 s0 f1 b1 hw1 s1 fk hb hkw hsw hv1 hg hv hk hs hvl hbW hc2 hW
    go_enter Tryd.func23, Tryd.ntmps23
    go_upto_region 1 with fail
    rw [← HW.out]
    rw [HG.out]
    go_wp2_with fail
    rw [← HX.out.2]
    refine CM.out.mono ?_
    rintro e w4 ⟨rfl, hb4⟩
    have b14 := below_on HX.out.1 (Nat.le_refl _) hb4
    have f4 := HF.out.2.1.below b14
    have B4 := Lib.hid (below_on HF.out.2.2 (Nat.le_of_eq HG.out.symm) b14)
    clear b14 hb4
    go_wp2_with (with_reducible refine wpList_store_sum rfl (.tmp 4) (.tmp 12) rfl (g + 1) rfl zero32 s hZ hlv f4 rfl ?_)
    refine bodyPost_ret_by (results_cell_row (p := 4) (ty := 36) (by kernel_rfl) _ _ (g + 1) 36 (bvs s).toArray (0, 0) _ rfl (f4.setRow _) Tryd.underlying36 rfl (by rw [List.size_toArray, bvs_length, hlv]; exact sizeSum)) rfl ?_
    exact ⟨by rw [HS0.out] <;> rfl, below_setRow B4.out (by omega) _⟩

end Go.Proofs.YtnaebjdccngeoaaDoor

/-
  almonerref01.power, Put.
-/
namespace Go.Proofs.YtnaebjdccngeoaaDoor
open Go.RowKit

set_option maxRecDepth 100000 in
set_option maxHeartbeats 400000 in
theorem jpower_any (p P : Nat) (hp : p ≤ 7) (hP : 256 ^ p = P) (w : World) :
    Calls Tryd.prog 75 #[.int .i64 (p : Int)] w fun e w' => e = .returned (.int .u64 (P : Int)) ∧ w' = w := by
  have HP := Lib.hid hP
  clear hP
  go_enter Tryd.func75, Tryd.ntmps75
  go_wp2
  go_loop [3, 4] (fun t i => ∃ j Q : Nat, j ≤ p ∧ i = .int .i64 (j : Int) ∧ t = .int .u64 (Q : Int) ∧ 256 ^ j = Q) (fun _ i => p - (intOf i).toNat)
  case atStart => exact ⟨0, 1, Nat.zero_le _, rfl, rfl, rfl⟩
  case round =>
    obtain ⟨j, Q, hj, rfl, rfl, hQ⟩ := hrel
    by_cases hlt : j < p
    · have hb : Q ≤ 281474976710656 := by
        rw [← hQ]
        exact Nat.le_trans (Nat.pow_le_pow_right (by omega) (show j ≤ 6 by omega)) (by decide)
      have HQ := Lib.hid hQ
      clear hQ
      go_wp2
      go_round
      case rel => exact ⟨j + 1, 256 * Q, by omega, by go_num, by go_num, by rw [Nat.pow_succ, HQ.out]; omega⟩
      case measure => simp [intOf]; omega
    · obtain rfl : j = p := by omega
      obtain rfl : Q = P := hQ.symm.trans HP.out
      go_wp2
      go_ret
      exact ⟨rfl, rfl⟩

theorem jnil_world {P : Program} {f : FuncId} {args : Array Value} {w : World} {v : Value} (h : Calls P f args w fun e w' => e = .returned v ∧ w' = w) : Calls P f args w fun e w' => e = .returned v ∧ w = w' := h.mono fun _ _ ⟨h1, h2⟩ => ⟨h1, h2.symm⟩
theorem jdg_take (N k j : Nat) (h : j < k) : (dg N k).take (j + 1) = (dg N k).take j ++ [N / 256 ^ (k - 1 - j) % 256] := take_snoc_of (dg_get N k j h)

set_option maxRecDepth 100000 in
set_option maxHeartbeats 1000000 in
theorem jrefPut_any (A : Option Addr) (n c : Nat) (xs : List Nat) (N k : Nat) (hk0 : 0 < k) (hk : k ≤ 8) (w : World) (hin : In w A n xs) (hA : A = none → c = 0) (hN : N < 18446744073709551616) (hn : n ≤ 1000000000) :
    Calls Tryd.prog 48 #[.slice A n c, .int .u64 (N : Int), .int .i64 (k : Int)] w (Gives w.heap.size w (n + k) (xs ++ dg N k)) := by
  have hki : (0 : Int) < (k : Int) := by omega
  have HI := Lib.hid hin
  have CP := Lib.hid (fun (p P : Nat) (hp : p ≤ 7) (hP : 256 ^ p = P) (W : World) => jpower_any p P hp hP W)
  clear hin
  go_enter Tryd.func48, Tryd.ntmps48
  go_wp2_with (at_builtin; refine wpList_app _ rfl (.const (.slice none 0 0)) (.tmp 9) rfl w.heap.size none 0 0 [] rfl (World.ownsRow_nil _ _ _ _) A n c xs rfl HI.out hA (by omega) (Nat.le_refl _) ?_; intro A2 c2 w2 ho2 hb2)
  rw [Nat.zero_add, List.nil_append] at ho2
  have HO2 := Lib.hid (And.intro ho2 hb2)
  clear ho2 hb2
  go_loopw [7, 8] (fun o i wr => ∃ (j : Nat) (z : Int) (A3 : Option Addr) (c3 : Nat), j ≤ k ∧ i = .int .i64 z ∧ z = (k : Int) - 1 - (j : Int) ∧ o = .slice A3 (n + j) c3 ∧ wr.ownsRow w.heap.size 5 1 (.slice A3 (n + j) c3) (n + j) (bvs (xs ++ (dg N k).take j)) ∧ Below w.heap.size w wr) (fun _ i _ => (intOf i + 1).toNat)
  case atStart => exact ⟨0, _, A2, c2, by omega, rfl, by omega, rfl, by rw [List.take_zero, List.append_nil]; exact HO2.out.1, HO2.out.2⟩
  case round =>
    obtain ⟨j, z, A3, c3, hj, rfl, hz, rfl, ho, hb⟩ := hrel
    by_cases hlt : j < k
    · obtain ⟨p, hp⟩ : ∃ p, k - 1 - j = p := ⟨_, rfl⟩
      obtain rfl : z = (p : Int) := by omega
      obtain ⟨P, hP⟩ : ∃ P, 256 ^ p = P := ⟨_, rfl⟩
      have hP0 : 0 < P := by rw [← hP]; exact Nat.pow_pos (by omega)
      obtain ⟨e, he⟩ : ∃ e, N / P = e := ⟨_, rfl⟩
      obtain ⟨d, hd⟩ : ∃ d, e % 256 = d := ⟨_, rfl⟩
      have ht : (dg N k).take (j + 1) = (dg N k).take j ++ [d] := by rw [jdg_take N k j hlt, hp, hP, he, hd]
      have q1 : Int.tdiv (N : Int) (P : Int) = (e : Int) := by rw [Int.tdiv_eq_ediv_of_nonneg (by omega), ← he]; simp
      have q2 : Int.tmod (e : Int) 256 = (d : Int) := by rw [Int.tmod_eq_emod_of_nonneg (by omega), ← hd]; simp
      have hd256 : d < 256 := by omega
      have he64 : e < 18446744073709551616 := by rw [← he]; exact Nat.lt_of_le_of_lt (Nat.div_le_self _ _) hN
      have hPne : ((P : Int) == 0) = false := by simp; omega
      have hw64 : IntKind.i64.wrap ((p : Int) - 1) = (p : Int) - 1 := IntWalk.i64_in _ (by omega)
      have CP1 := Lib.hid (CP.out p P (by omega) hP)
      have HO := Lib.hid (And.intro ho hb)
      have HT := Lib.hid ht
      have HZ := Lib.hid hz
      have HP := Lib.hid hp
      clear ho hb ht hP he hd hz hp
      go_wp2_with fail
      refine (jnil_world (CP1.out _)).mono ?_
      rintro e2 _ ⟨rfl, rfl⟩
      go_wp2_with (at_builtin; refine wpList_app _ rfl (.tmp 19) (.tmp 26) rfl w.heap.size A3 (n + j) c3 _ rfl (HO.out.1.alloc _) (some ⟨wr.heap.size, 0, none⟩) 1 1 [d] rfl (In.new wr [d]) (fun h => by cases h) (by omega) (by have := HO.out.2.size; simp; omega) ?_; intro A4 c4 w4 ho4 hb4)
      have H4 := Lib.hid (And.intro ho4 ((HO.out.2.alloc HO.out.2.size _).trans hb4))
      clear ho4 hb4
      go_roundw
      case rel => exact ⟨j + 1, _, A4, c4, by omega, rfl, by have := HZ.out; omega, rfl, by rw [HT.out, ← List.append_assoc]; exact H4.out.1, H4.out.2⟩
      case measure => simp [intOf]
    · obtain rfl : j = k := by omega
      have hz1 : z = -1 := by omega
      subst hz1
      rw [take_all] at ho
      have HO := Lib.hid (And.intro ho hb)
      clear ho hb
      go_wp2
      go_ret
      exact ⟨A3, c3, rfl, HO.out.1, HO.out.2⟩

end Go.Proofs.YtnaebjdccngeoaaDoor

/-
  almonerref14.Of.
-/
namespace Go.Proofs.YtnaebjdccngeoaaDoor
open Go.RowKit

set_option maxRecDepth 100000 in
set_option maxHeartbeats 2000000 in
theorem jrefOf_any (t : Nat) (z : Int) (w : World) (ht : t < 4294967296) (_ : -9223372036854775808 ≤ z ∧ z ≤ 9223372036854775807) :
    Calls Tryd.prog 18 #[.int .u32 (t : Int), .int .i64 z] w fun e w' => e = .returned (sv (keyL t z)) ∧ Below w.heap.size w w' := by
  have e0 : (bvs zero32).toArray = #[.int .u8 0, .int .u8 0, .int .u8 0, .int .u8 0, .int .u8 0, .int .u8 0, .int .u8 0, .int .u8 0, .int .u8 0, .int .u8 0, .int .u8 0, .int .u8 0, .int .u8 0, .int .u8 0, .int .u8 0, .int .u8 0, .int .u8 0, .int .u8 0, .int .u8 0, .int .u8 0, .int .u8 0, .int .u8 0, .int .u8 0, .int .u8 0, .int .u8 0, .int .u8 0, .int .u8 0, .int .u8 0, .int .u8 0, .int .u8 0, .int .u8 0, .int .u8 0] := rfl
  have f1 := BArr.new w 36 zero32
  have b1 := below_alloc w (.cells (bvs zero32).toArray 36)
  rw [e0] at f1 b1
  clear e0
  obtain ⟨w1, hw1⟩ : ∃ w1, w1 = w.alloc (.cells #[.int .u8 0, .int .u8 0, .int .u8 0, .int .u8 0, .int .u8 0, .int .u8 0, .int .u8 0, .int .u8 0, .int .u8 0, .int .u8 0, .int .u8 0, .int .u8 0, .int .u8 0, .int .u8 0, .int .u8 0, .int .u8 0, .int .u8 0, .int .u8 0, .int .u8 0, .int .u8 0, .int .u8 0, .int .u8 0, .int .u8 0, .int .u8 0, .int .u8 0, .int .u8 0, .int .u8 0, .int .u8 0, .int .u8 0, .int .u8 0, .int .u8 0, .int .u8 0] 36) := ⟨_, rfl⟩
  rw [← hw1] at f1 b1
  obtain ⟨g, hg⟩ : ∃ g, w.heap.size = g := ⟨_, rfl⟩
  have kw := key_word w1
  have b2 := below_alloc w1 (.cells #[.int .u8 107, .int .u8 101, .int .u8 121] 5 (3, 4))
  obtain ⟨w2, hw2⟩ : ∃ w2, w2 = w1.alloc (.cells #[.int .u8 107, .int .u8 101, .int .u8 121] 5 (3, 4)) := ⟨_, rfl⟩
  rw [← hw2] at b2 kw
  have i2 : In w2 (some ⟨w1.heap.size, 0, none⟩) 3 keyText := by rw [hw2]; exact key_in w1
  have CP := Lib.hid (jrefPut_any (some ⟨w1.heap.size, 0, none⟩) 3 3 keyText t 4 (by omega) (by omega) w2 i2 (fun e => by cases e) (by omega) (by omega))
  have hb2 := below_on b1 (Nat.le_refl _) b2
  have f2 := f1.below b2
  have ht64 : IntKind.u64.wrap (t : Int) = (t : Int) := by rw [IntKind.wrap_u64]; omega
  have hN : IntKind.u64.wrap z = ((resN z : Nat) : Int) := by rw [IntKind.wrap_u64]; unfold resN; omega
  rw [hg] at f2
  have HF := Lib.hid (And.intro f2 hb2)
  have HW := Lib.hid hw1
  have HW2 := Lib.hid hw2
  have HG := Lib.hid hg
  clear f1 b1 hw1 b2 hw2 i2 hb2 f2 hg
  go_enter Tryd.func18, Tryd.ntmps18
  go_upto_region 1 with fail
  rw [← HW.out]
  rw [HG.out]
  go_wp2_with fail
  refine CP.out.mono ?_
  rintro e w3 ⟨A3, c3, rfl, ho3, hb3⟩
  have i3 := In.of_own ho3
  have f3 := HF.out.1.below hb3
  have B3 := Lib.hid (below_on HF.out.2 (Nat.le_refl _) hb3)
  have CP2 := Lib.hid (jrefPut_any A3 7 c3 (keyText ++ dg t 4) (resN z) 1 (by omega) (by omega) w3 i3 (own_nil ho3) (by unfold resN; omega) (by omega))
  have HF3 := Lib.hid f3
  clear f3 i3 ho3 hb3 CP
  go_wp2_with fail
  refine CP2.out.mono ?_
  rintro e w4 ⟨A4, c4, rfl, ho4, hb4⟩
  have B4 := Lib.hid (below_on B3.out (Nat.le_refl _) hb4)
  have f4 := HF3.out.below hb4
  have CO := Lib.hid (refOf_any A4 (7 + 1) c4 (keyText ++ dg t 4 ++ dg (resN z) 1) w4 (In.of_own ho4) (by
    intro x hx
    rcases List.mem_append.1 hx with hx | hx
    · rcases List.mem_append.1 hx with hx | hx
      · simp [keyText] at hx; omega
      · exact dg_lt _ _ x hx
    · exact dg_lt _ _ x hx) (own_nil ho4) (by omega))
  have hl : (keyL t z).length = 32 := keyL_length t z
  have HS : sha (keyText ++ dg t 4 ++ dg (resN z) 1) = keyL t z := rfl
  rw [HS] at CO
  obtain ⟨s, hs0⟩ : ∃ s, keyL t z = s := ⟨_, rfl⟩
  rw [hs0] at CO hl
  have HS0 := Lib.hid hs0
  have F4 := Lib.hid f4
  clear f4 ho4 hb4 HS hs0 CP2 HF3
  go_wp2_with fail
  refine CO.out.mono ?_
  rintro e w5 ⟨rfl, hb5⟩
  have f5 := F4.out.below hb5
  have B5 := Lib.hid (below_on B4.out (Nat.le_refl _) hb5)
  have HZ32 := Lib.hid (show zero32.length = 32 from rfl)
  clear hb5
  go_wp2_with (with_reducible refine wpList_store_sum rfl (.tmp 4) (.tmp 15) rfl g rfl zero32 s HZ32 hl f5 rfl ?_)
  refine bodyPost_ret_by (results_cell_row (p := 4) (ty := 36) (by kernel_rfl) _ _ g 36 (bvs s).toArray (0, 0) _ rfl (f5.setRow _) Tryd.underlying36 rfl (by rw [List.size_toArray, bvs_length, hl]; exact sizeSum)) rfl ?_
  exact ⟨by rw [HS0.out]; rfl, below_setRow B5.out (by rw [HG.out]; exact Nat.le_refl _) _⟩

end Go.Proofs.YtnaebjdccngeoaaDoor

/-
  almonerref14.Bit.
-/
namespace Go.Proofs.YtnaebjdccngeoaaDoor
open Go.RowKit

theorem and_one64 : ∀ y : Fin 256, bits BinOp.and IntKind.i64 ((y.val : Nat) : Int) 1 = ((y.val % 2 : Nat) : Int) := by decide +kernel
theorem and_one_ofI {y b : Nat} (hy : y < 256) (hb : y % 2 = b) : bits BinOp.and IntKind.i64 (y : Int) 1 = (b : Int) := by rw [← hb]; exact and_one64 ⟨y, hy⟩

set_option maxRecDepth 100000 in
set_option maxHeartbeats 2000000 in
theorem jrefBit_any (k : List Nat) (z : Int) (w : World) (hl : k.length = 32) (hb : ∀ x ∈ k, x < 256) (hz : -9223372036854775808 ≤ z ∧ z ≤ 9223372036854775807) :
    Calls Tryd.prog 20 #[sv k, .int .i64 z] w fun e w' => e = .returned (.int .i64 (bitZ k z : Int)) ∧ Below w.heap.size w w' := by
  have hbl := below_alloc w (.cells (bvs k).toArray 36)
  have f1 := BArr.new w 36 k
  have HF := Lib.hid (And.intro f1 hbl)
  clear f1 hbl
  by_cases hneg : z < 0
  · have hv : bitZ k z = 0 := by unfold bitZ; rw [if_pos (.inl hneg)]
    rw [hv]
    unfold sv
    go_enter Tryd.func20, Tryd.ntmps20
    go_wp2_with fail
    go_ret
    exact ⟨rfl, HF.out.2⟩
  · by_cases hbig : 256 ≤ z
    · have hv : bitZ k z = 0 := by unfold bitZ; rw [if_pos (.inr hbig)]
      rw [hv]
      unfold sv
      go_enter Tryd.func20, Tryd.ntmps20
      go_wp2_with fail
      go_ret
      exact ⟨rfl, HF.out.2⟩
    · obtain ⟨d, rfl⟩ := Int.eq_ofNat_of_zero_le (Int.not_lt.1 hneg)
      have hd : d < 256 := by omega
      have hv : bitZ k (d : Int) = bitN k d := by unfold bitZ; rw [if_neg (by omega)]; rfl
      obtain ⟨q, hq⟩ : ∃ q, d / 8 = q := ⟨_, rfl⟩
      obtain ⟨r, hr⟩ : ∃ r, d % 8 = r := ⟨_, rfl⟩
      have hq32 : q < 32 := by omega
      have hr8 : r < 8 := by omega
      have m1 : Int.tmod (d : Int) 8 = (r : Int) := by rw [← hr]; rfl
      have m2 : Int.tdiv (d : Int) 8 = (q : Int) := by rw [← hq]; rfl
      obtain ⟨s, hs⟩ : ∃ s, 7 - r = s := ⟨_, rfl⟩
      have m3 : (7 : Int) - (r : Int) = (s : Int) := by omega
      have hs7 : s ≤ 7 := by omega
      obtain ⟨x, hx⟩ : ∃ x, k.getD q 0 = x := ⟨_, rfl⟩
      have hx256 : x < 256 := by rw [← hx, List.getD_eq_getElem?_getD, List.getElem?_eq_getElem (by omega)]; exact hb _ (List.getElem_mem _)
      obtain ⟨y, hy⟩ : ∃ y, x / 2 ^ s = y := ⟨_, rfl⟩
      have hy256 : y < 256 := by rw [← hy]; exact Nat.lt_of_le_of_lt (Nat.div_le_self _ _) hx256
      obtain ⟨b, hb2⟩ : ∃ b, y % 2 = b := ⟨_, rfl⟩
      have hN : bitN k d = b := by unfold bitN; rw [hq, hr, hs, hx, hy, hb2]
      have m4 := and_one_ofI hy256 hb2
      have hb1 : b < 2 := by omega
      have m8 : IntKind.u64.wrap (s : Int) = (s : Int) := by rw [IntKind.wrap_u64]; omega
      have m9 : IntKind.i64.wrap (x : Int) = (x : Int) := by rw [IntKind.wrap_i64]; omega
      have m5 : (d : Int) / 8 = (q : Int) := by omega
      have m6 : (d : Int) % 8 = (r : Int) := by omega
      rw [hv, hN]
      unfold sv
      have hcell : (w.alloc (.cells (bvs k).toArray 36)).cell? ⟨w.heap.size, q, none⟩ = some (.int .u8 (x : Int)) := by rw [← hx]; exact HF.out.1.cell (by omega)
      have m7 : (x : Int) / 2 ^ s = (y : Int) := by rw [← hy, Int.natCast_ediv]; simp
      clear hq hr hs hy hx hN hv hb hb2
      go_enter Tryd.func20, Tryd.ntmps20
      go_wp2_with fail
      go_ret
      exact ⟨rfl, HF.out.2⟩

end Go.Proofs.YtnaebjdccngeoaaDoor

/-
  almonerref14.Value.
-/
namespace Go.Proofs.YtnaebjdccngeoaaDoor
open Go.RowKit

set_option maxRecDepth 100000 in
set_option maxHeartbeats 2000000 in
theorem jrefValue_any (k : List Nat) (A : Option Addr) (n c : Nat) (v : List Nat) (w : World) (hl : k.length = 32) (hkb : ∀ x ∈ k, x < 256) (hv : Came w A n c v) (hn : n ≤ 700000000) :
    Calls Tryd.prog 24 #[sv k, .slice A n c] w fun e w' => e = .returned (sv (valueL k v)) ∧ Below w.heap.size w w' := by
  obtain ⟨g, hg⟩ : ∃ g, w.heap.size = g := ⟨_, rfl⟩
  have e0 : (bvs zero32).toArray = #[.int .u8 0, .int .u8 0, .int .u8 0, .int .u8 0, .int .u8 0, .int .u8 0, .int .u8 0, .int .u8 0, .int .u8 0, .int .u8 0, .int .u8 0, .int .u8 0, .int .u8 0, .int .u8 0, .int .u8 0, .int .u8 0, .int .u8 0, .int .u8 0, .int .u8 0, .int .u8 0, .int .u8 0, .int .u8 0, .int .u8 0, .int .u8 0, .int .u8 0, .int .u8 0, .int .u8 0, .int .u8 0, .int .u8 0, .int .u8 0, .int .u8 0, .int .u8 0] := rfl
  have f0 := BArr.new w 36 k
  have b0 := below_alloc w (.cells (bvs k).toArray 36)
  obtain ⟨w0, hw0⟩ : ∃ w0, w0 = w.alloc (.cells (bvs k).toArray 36) := ⟨_, rfl⟩
  rw [← hw0] at f0 b0
  have s0 : w0.heap.size = g + 1 := by rw [hw0]; simp [hg]
  have f1 := BArr.new w0 36 zero32
  have b1 := below_alloc w0 (.cells (bvs zero32).toArray 36)
  rw [e0] at f1 b1
  obtain ⟨w1, hw1⟩ : ∃ w1, w1 = w0.alloc (.cells #[.int .u8 0, .int .u8 0, .int .u8 0, .int .u8 0, .int .u8 0, .int .u8 0, .int .u8 0, .int .u8 0, .int .u8 0, .int .u8 0, .int .u8 0, .int .u8 0, .int .u8 0, .int .u8 0, .int .u8 0, .int .u8 0, .int .u8 0, .int .u8 0, .int .u8 0, .int .u8 0, .int .u8 0, .int .u8 0, .int .u8 0, .int .u8 0, .int .u8 0, .int .u8 0, .int .u8 0, .int .u8 0, .int .u8 0, .int .u8 0, .int .u8 0, .int .u8 0] 36) := ⟨_, rfl⟩
  rw [← hw1] at f1 b1
  have s1 : w1.heap.size = g + 2 := by rw [hw1]; simp [s0]
  have fk := f0.below b1
  have hb := below_on b0 (Nat.le_refl _) b1
  rw [s0] at f1
  have HW := Lib.hid (show w1 = (w.alloc (.cells (bvs k).toArray 36)).alloc (.cells #[.int .u8 0, .int .u8 0, .int .u8 0, .int .u8 0, .int .u8 0, .int .u8 0, .int .u8 0, .int .u8 0, .int .u8 0, .int .u8 0, .int .u8 0, .int .u8 0, .int .u8 0, .int .u8 0, .int .u8 0, .int .u8 0, .int .u8 0, .int .u8 0, .int .u8 0, .int .u8 0, .int .u8 0, .int .u8 0, .int .u8 0, .int .u8 0, .int .u8 0, .int .u8 0, .int .u8 0, .int .u8 0, .int .u8 0, .int .u8 0, .int .u8 0, .int .u8 0] 36) by rw [hw1, hw0])
  have hv1 := hv.below hb
  rw [hg] at fk hb
  have HF := Lib.hid (And.intro fk (And.intro f1 hb))
  have HG := Lib.hid hg
  have hZ := Lib.hid (show zero32.length = 32 from rfl)
  have hsl := run_arr_all Tryd.underlying36
  rw [hg]
  have hvl := hv.in_.len
  unfold sv
  have hlv := valueL_length k v
  by_cases h0 : n = 0
  · have ev : v = [] := List.length_eq_zero_iff.1 (by omega)
    have em : sha [2] = valueL k v := by unfold valueL; rw [if_pos ev]; rfl
    have hn0 : ((n : Int) == 0) = true := by simp; omega
    obtain ⟨W, hW⟩ : ∃ W, W = w1.alloc (.cells #[.int .u8 2] 5) := ⟨_, rfl⟩
    have bW : Below w1.heap.size w1 W := by rw [hW]; exact below_alloc _ _
    have CE := Lib.hid (refOf_any (some ⟨w1.heap.size, 0, none⟩) 1 1 [2] W (by rw [hW]; exact In.new' w1 [2] _) (by intro x hx; simp at hx; omega) (fun e => by cases e) (by omega))
    rw [em] at CE
    obtain ⟨s, hs0⟩ : ∃ s, valueL k v = s := ⟨_, rfl⟩
    rw [hs0] at CE hlv
    have HS0 := Lib.hid hs0
    have HX := Lib.hid (And.intro bW hW)
    clear em hs0 e0 f0 b0 hw0 s0 f1 b1 hw1 s1 fk hb hv1 hg hv hvl bW hW
    go_enter Tryd.func24, Tryd.ntmps24
    go_upto_region 1 with fail
    rw [← HW.out]
    rw [HG.out]
    go_wp2_with fail
    rw [← HX.out.2]
    refine CE.out.mono ?_
    rintro e w4 ⟨rfl, hb4⟩
    have b14 := below_on HX.out.1 (Nat.le_refl _) hb4
    have f4 := HF.out.2.1.below b14
    have B4 := Lib.hid (below_on HF.out.2.2 (Nat.le_of_eq HG.out.symm) b14)
    clear b14 hb4
    go_wp2_with (with_reducible refine wpList_store_sum rfl (.tmp 4) (.tmp 9) rfl (g + 1) rfl zero32 s hZ hlv f4 rfl ?_)
    refine bodyPost_ret_by (results_cell_row (p := 4) (ty := 36) (by kernel_rfl) _ _ (g + 1) 36 (bvs s).toArray (0, 0) _ rfl (f4.setRow _) Tryd.underlying36 rfl (by rw [List.size_toArray, bvs_length, hlv]; exact sizeSum)) rfl ?_
    exact ⟨by rw [HS0.out] <;> rfl, below_setRow B4.out (by omega) _⟩
  · have em : sha ([3] ++ k ++ v) = valueL k v := by unfold valueL; rw [if_neg (by intro e; rw [e] at hvl; exact h0 hvl.symm), List.append_assoc]; rfl
    have hn0 : ((n : Int) == 0) = false := by simp; omega
    obtain ⟨s, hs0⟩ : ∃ s, valueL k v = s := ⟨_, rfl⟩
    rw [hs0] at em hlv
    have HS0 := Lib.hid hs0
    have HV1 := Lib.hid hv1
    have HKB := Lib.hid (And.intro hkb (And.intro hl em))
    obtain ⟨W, hW⟩ : ∃ W, W = w1.alloc (.cells #[.int .u8 3] 5) := ⟨_, rfl⟩
    have bW : Below w1.heap.size w1 W := by rw [hW]; exact below_alloc _ _
    have ow : W.ownsRow w1.heap.size 5 1 (.slice (some ⟨w1.heap.size, 0, none⟩) 1 1) 1 (bvs [3]) := by rw [hW]; exact own_byteR w1 3 w1.heap.size 3 rfl (Nat.le_refl _)
    have iK : In W (some ⟨g, 0, none⟩) 32 k := ⟨hl, fun j x hx => ⟨_, rfl, (fk.below bW).at_ j x hx⟩⟩
    have HO := Lib.hid (And.intro ow (And.intro bW iK))
    have HWW := Lib.hid hW
    clear hs0 em e0 f0 b0 hw0 s0 f1 b1 hw1 s1 fk hb hv1 hg hv hvl bW hW ow iK hkb hl
    go_enter Tryd.func24, Tryd.ntmps24
    go_upto_region 1 with fail
    rw [← HW.out]
    rw [HG.out]
    go_wp2_with (first
      | (rw [← HWW.out]; refine wpList_app_at W rfl (.tmp 10) (.tmp 11) rfl w1.heap.size (some ⟨w1.heap.size, 0, none⟩) 1 1 [3] rfl HO.out.1 (some ⟨g, 0, none⟩) 32 32 k rfl HO.out.2.2 (fun e => by cases e) (by omega) HO.out.2.1.size ?_; intro A2 c2 w2 ow2 nx2; have H2 := Lib.hid (And.intro ow2 (nx2.below HO.out.1 HO.out.2.1 (Nat.le_refl _) HO.out.2.1.size)); clear ow2 nx2)
      | (refine wpList_app_at w2 rfl (.tmp 12) (.tmp 13) rfl w1.heap.size A2 33 c2 ([3] ++ k) rfl H2.out.1 A n c v rfl (HV1.out.below H2.out.2).in_ HV1.out.nil (by omega) H2.out.2.size ?_; intro A3 c3 w3 ow3 nx3))
    have hB3 := nx3.below H2.out.1 H2.out.2 (Nat.le_refl _) H2.out.2.size
    have CO := Lib.hid (refOf_any A3 (33 + n) c3 ([3] ++ k ++ v) w3 (In.of_own ow3) (by
      intro x hx
      rcases List.mem_append.1 hx with hx | hx
      · rcases List.mem_append.1 hx with hx | hx
        · simp at hx; omega
        · exact HKB.out.1 x hx
      · exact HV1.out.lt x hx) (own_nil ow3) (by omega))
    rw [HKB.out.2.2] at CO
    have H3 := Lib.hid hB3
    clear ow3 nx3 hB3
    refine CO.out.mono ?_
    rintro e w4 ⟨rfl, hb4⟩
    have b14 := below_on H3.out (Nat.le_refl _) hb4
    have f4 := HF.out.2.1.below b14
    have B4 := Lib.hid (below_on HF.out.2.2 (Nat.le_of_eq HG.out.symm) b14)
    clear b14 hb4
    go_wp2_with (with_reducible refine wpList_store_sum rfl (.tmp 4) (.tmp 15) rfl (g + 1) rfl zero32 s hZ hlv f4 rfl ?_)
    refine bodyPost_ret_by (results_cell_row (p := 4) (ty := 36) (by kernel_rfl) _ _ (g + 1) 36 (bvs s).toArray (0, 0) _ rfl (f4.setRow _) Tryd.underlying36 rfl (by rw [List.size_toArray, bvs_length, hlv]; exact sizeSum)) rfl ?_
    exact ⟨by rw [HS0.out] <;> rfl, below_setRow B4.out (by omega) _⟩

end Go.Proofs.YtnaebjdccngeoaaDoor

/-
  An argument of type []api.Sum.
-/
namespace Go.Proofs.YtnaebjdccngeoaaDoor
open Go.ChangeShapes Go.WideShapes Go.ChangeAt Go.RowKit

theorem cellsSum : Tryd.prog.cellsOf 36 = 32 := by kernel_rfl

/-- A slice of sums that came in reads as the bytes ys. -/
structure CameS (w : World) (A : Option Addr) (n c : Nat) (ys : List Nat) : Prop where
  in_ : InS w A n ys
  lt : ∀ x ∈ ys, x < 256
  nil : A = none → c = 0
  cap : n ≤ c

/-- A cell that reads as a byte. -/
theorem cell_byte {H : Type} {enc : TypeId × Value → H} {w : World} {base : Nat} {sp : Nat → Bool} {held : Bool} {fuel : Nat} {cs : List Value} {x : DataW H × List MemPlace}
    (h : DataW.trod enc Tryd.prog w base sp held fuel 5 cs = some x) : ∃ b : Nat, b < 256 ∧ cs = [bv b] := by
  obtain ⟨n, hn, _, hw⟩ := DataW.trod_int Tryd.underlying5 h
  have := bounds_u8 hw
  exact ⟨n.toNat, by omega, by rw [hn, bv, Int.toNat_of_nonneg this.1]⟩

/-- The cells of a sum that is read. -/
theorem cells_sum {H : Type} {enc : TypeId × Value → H} {w : World} {base : Nat} {sp : Nat → Bool} {held : Bool} {fuel : Nat} {cs : List Value} {x : DataW H × List MemPlace}
    (h : DataW.trod enc Tryd.prog w base sp held fuel 36 cs = some x) : cs.length = 32 ∧ ∀ j, j < 32 → ∃ b : Nat, b < 256 ∧ cs[j]? = some (bv b) := by
  obtain ⟨xs, m, _, _, hl, hx, hel⟩ := DataW.trod_array Tryd.underlying36 h
  rw [cellsSum] at hl
  refine ⟨hl, fun j hj => ?_⟩
  have he := hel j hj
  rw [cellsByte, Nat.mul_one] at he
  have hs : xs[j]? = some xs[j] := List.getElem?_eq_getElem (by omega)
  rw [hs] at he
  obtain ⟨b, hb, hc⟩ := cell_byte he
  refine ⟨b, hb, ?_⟩
  have e : (cs.drop j)[0]? = some (bv b) := by
    have := congrArg (fun l => l[0]?) hc
    simpa using this
  simpa using e

theorem cameS_of {H : Type} {enc : TypeId × Value → H} {w : World} {sp : Nat → Bool} {held : Bool} {fuel : Nat} {a : Option Addr} {len cap : Nat} {x : DataW H × List MemPlace}
    (h : DataW.trod enc Tryd.prog w 0 sp held fuel 24 [.slice a len cap] = some x) : ∃ ys, CameS w a len cap ys := by
  rcases Go.Deep.open_slice Tryd.underlying24 h with ⟨h0, _⟩ | ⟨ad, l, c, m, n, D, Pl, h0, _, hl, _, hm, _, hel⟩
  · simp at h0
    obtain ⟨rfl, rfl, rfl⟩ := h0
    exact ⟨[], InS.none_ _ _, (by intro x hx; cases hx), fun _ => rfl, Nat.le_refl _⟩
  · simp at h0
    obtain ⟨rfl, rfl, rfl⟩ := h0
    have hlm : len ≤ m := by rw [hm]; split <;> omega
    have key : ∀ q, q < 32 * len → ∃ b : Nat, b < 256 ∧ w.cell? (ad.add q) = some (bv b) := by
      intro q hq
      obtain ⟨cs', hc, ht⟩ := hel (q / 32) (by omega)
      rw [cellsSum] at hc
      obtain ⟨hlen, hb⟩ := cells_sum ht
      obtain ⟨b, hb1, hb2⟩ := hb (q % 32) (Nat.mod_lt _ (by omega))
      refine ⟨b, hb1, ?_⟩
      have hcell := (World.cells?_some hc).2.2 (q % 32) (Nat.mod_lt _ (by omega))
      rw [add_add, show q / 32 * 32 + q % 32 = q by omega] at hcell
      rw [hcell, hb2]
    obtain ⟨f, hf⟩ := Go.Deep.choose_lt key
    refine ⟨(List.range (32 * len)).map f, ⟨by simp, fun j y hy => ⟨ad, rfl, ?_⟩⟩, ?_, (fun h => by cases h), hl⟩
    · rw [List.getElem?_map] at hy
      obtain ⟨i, hi, rfl⟩ := Option.map_eq_some_iff.1 hy
      have hlt : j < 32 * len := by have := (List.getElem?_eq_some_iff.1 hi).1; simpa using this
      rw [List.getElem?_range hlt] at hi
      cases hi
      exact (hf j hlt).2
    · intro y hy
      obtain ⟨i, hi, rfl⟩ := List.mem_map.1 hy
      exact (hf i (List.mem_range.1 hi)).1

end Go.Proofs.YtnaebjdccngeoaaDoor

/-
  An argument that is an array of bytes.
-/
namespace Go.Proofs.YtnaebjdccngeoaaDoor
open Go.ChangeShapes Go.WideShapes Go.ChangeAt Go.RowKit

/-- A value as a byte. -/
def byteOf : Value → Nat
  | .int _ z => z.toNat
  | _ => 0

theorem came_arr {H : Type} {enc : TypeId × Value → H} {P : Program} {W : World} {base b0 n : Nat} {spare : Nat → Bool} {held : Bool} {r : Reach} {t e : TypeId} {v : Value} {d : DataW H} {ps : List MemPlace}
    (ht : P.underlying t = some (.array n e)) (he : P.underlying e = some (.int .u8)) (hc : P.cellsOf e = 1) (hct : P.cellsOf t = n)
    (hval : Value.okWide P W r b0 t v) (hd : DataW.Trod enc P W base spare held t v d ps) : ∃ xs : List Nat, v = .agg (bvs xs).toArray ∧ xs.length = n ∧ ∀ x ∈ xs, x < 256 := by
  simp only [Value.okWide, ht] at hval
  obtain ⟨cs, rfl, hsz, _⟩ := hval
  rw [hct] at hsz
  obtain ⟨fuel, hf⟩ := hd
  obtain ⟨xs, m, rfl, _, _, hlen, hp⟩ := DataW.trod_array ht hf
  have hx : ∀ i, i < n → ∃ z : Nat, z < 256 ∧ cs.toList[i]? = some (bv z) := fun i hi => by
    have h1 := hp i hi
    rw [List.getElem?_eq_getElem (by omega)] at h1
    obtain ⟨z, hz, _, hw⟩ := DataW.trod_int he h1
    rw [hc, Nat.mul_one] at hz
    have hb := bounds_u8 hw
    obtain ⟨z, rfl⟩ := Int.eq_ofNat_of_zero_le hb.1
    refine ⟨z, by omega, ?_⟩
    have : (List.take 1 (List.drop i cs.toList))[0]? = some (.int .u8 (z : Int)) := by simp only [Value.cells] at hz; rw [hz]; rfl
    rw [List.getElem?_take, if_pos (by omega), List.getElem?_drop, Nat.add_zero] at this
    exact this
  have hl : cs.toList.length = n := by simpa using hsz
  refine ⟨cs.toList.map byteOf, ?_, by rw [List.length_map, hl], fun x hxm => ?_⟩
  · congr 1
    apply Array.ext'
    rw [List.toList_toArray]
    apply List.ext_getElem?
    intro i
    rw [bvs_get, List.getElem?_map]
    by_cases hi : i < n
    · obtain ⟨z, _, hz⟩ := hx i hi
      rw [hz]; rfl
    · rw [List.getElem?_eq_none (by omega)]; rfl
  · obtain ⟨v, hv, rfl⟩ := List.mem_map.1 hxm
    obtain ⟨i, hi⟩ := List.mem_iff_getElem?.1 hv
    obtain ⟨z, hz, hz2⟩ := hx i (by rw [← hl]; exact (List.getElem?_eq_some_iff.1 hi).1)
    rw [hi] at hz2
    cases hz2
    exact hz

end Go.Proofs.YtnaebjdccngeoaaDoor

/-
  The parts of a struct that came in: a sum, a number of 64 bits, a list of sums.
-/
namespace Go.Proofs.YtnaebjdccngeoaaDoor
open Go.ChangeShapes Go.WideShapes Go.ChangeAt Go.RowKit Go.Deep

theorem list_sum {H : Type} {enc : TypeId × Value → H} {w : World} {base : Nat} {sp : Nat → Bool} {held : Bool} {fuel : Nat} {cs : List Value} {x : DataW H × List MemPlace}
    (h : DataW.trod enc Tryd.prog w base sp held fuel 36 cs = some x) : ∃ xs, cs = bvs xs ∧ xs.length = 32 ∧ ∀ x ∈ xs, x < 256 := by
  obtain ⟨hl, hx⟩ := cells_sum h
  refine ⟨cs.map byteOf, ?_, by rw [List.length_map, hl], fun x hxm => ?_⟩
  · apply List.ext_getElem?
    intro i
    rw [bvs_get, List.getElem?_map]
    by_cases hi : i < 32
    · obtain ⟨z, _, hz⟩ := hx i hi
      rw [hz]; rfl
    · rw [List.getElem?_eq_none (by omega)]; rfl
  · obtain ⟨v, hv, rfl⟩ := List.mem_map.1 hxm
    obtain ⟨i, hi⟩ := List.mem_iff_getElem?.1 hv
    obtain ⟨z, hz, hz2⟩ := hx i (by rw [← hl]; exact (List.getElem?_eq_some_iff.1 hi).1)
    rw [hi] at hz2
    cases hz2
    exact hz

theorem cellsS64 : Tryd.prog.cellsOf 34 = 1 := by kernel_rfl
theorem cellsSpath : Tryd.prog.cellsOf 24 = 1 := by kernel_rfl

theorem one_of (l : List Value) (h : l.length = 1) : ∃ a, l = [a] := by
  match l, h with
  | [a], _ => exact ⟨a, rfl⟩

theorem u64_one {H : Type} {enc : TypeId × Value → H} {W : World} {base fuel : Nat} {sp : Nat → Bool} {held : Bool} {l : List Value} {x : DataW H × List MemPlace} (h : DataW.trod enc Tryd.prog W base sp held fuel 34 l = some x) :
    ∃ q : Nat, l = [.int .u64 (q : Int)] ∧ q < 18446744073709551616 := by
  obtain ⟨z, ez, _, hw⟩ := DataW.trod_int Tryd.underlying34 h
  have hb := bounds_u64 hw
  obtain ⟨q, rfl⟩ := Int.eq_ofNat_of_zero_le hb.1
  exact ⟨q, ez, by omega⟩

end Go.Proofs.YtnaebjdccngeoaaDoor

/-
  An argument of type Asked: a tenant, a resource, a depth, two sums, and bytes.
-/
namespace Go.Proofs.YtnaebjdccngeoaaDoor
open Go.ChangeShapes Go.WideShapes Go.ChangeAt Go.RowKit Go.Deep

theorem cellsAsked : Tryd.prog.cellsOf 43 = 68 := by kernel_rfl
theorem cellsA32 : Tryd.prog.cellsOf 41 = 1 := by kernel_rfl
theorem cellsAint : Tryd.prog.cellsOf 3 = 1 := by kernel_rfl
theorem cellsAbytes : Tryd.prog.cellsOf 23 = 1 := by kernel_rfl

/-- The cells of one that is asked. -/
def askedL (t : Nat) (z d : Int) (a b : List Nat) (A : Option Addr) (n c : Nat) : List Value := [.int .u32 (t : Int), .int .i64 z, .int .i64 d] ++ (bvs a ++ (bvs b ++ [.slice A n c]))

set_option maxRecDepth 100000 in
theorem came_asked {H : Type} {enc : TypeId × Value → H} {W : World} {b0 : Nat} {held : Bool} {r : Reach} {v : Value} {d : DataW H} {ps : List MemPlace}
    (hval : Value.okWide Tryd.prog W r b0 43 v) (hd : DataW.Trod enc Tryd.prog W 0 (fun _ => true) held 43 v d ps) :
    ∃ (t : Nat) (z d : Int) (a b : List Nat) (A : Option Addr) (n c : Nat) (xs : List Nat), v = .agg (askedL t z d a b A n c).toArray ∧ t < 4294967296 ∧ (-9223372036854775808 ≤ z ∧ z ≤ 9223372036854775807) ∧ (-9223372036854775808 ≤ d ∧ d ≤ 9223372036854775807) ∧ a.length = 32 ∧ (∀ x ∈ a, x < 256) ∧ b.length = 32 ∧ (∀ x ∈ b, x < 256) ∧ Came W A n c xs := by
  simp only [Value.okWide, Tryd.underlying43] at hval
  obtain ⟨cs, rfl, hsz, _⟩ := hval
  rw [cellsAsked] at hsz
  obtain ⟨fuel, hf⟩ := hd
  obtain ⟨xs, n, _, _, hl, hlen, hx⟩ := DataW.trod_struct Tryd.underlying43 hf
  match xs, hlen with
  | [y0, y1, y2, y3, y4, y5], _ =>
    obtain ⟨l⟩ := cs
    have hln : l.length = 68 := by simpa using hsz
    have g0 : DataW.trod enc Tryd.prog W 0 (fun _ => true) held n 41 ((l.drop 0).take (Tryd.prog.cellsOf 41)) = some y0 := hx 0 _ rfl
    rw [cellsA32] at g0
    have g1 : DataW.trod enc Tryd.prog W 0 (fun _ => true) held n 3 ((l.drop 1).take (Tryd.prog.cellsOf 3)) = some y1 := hx 1 _ rfl
    rw [cellsAint] at g1
    have g2 : DataW.trod enc Tryd.prog W 0 (fun _ => true) held n 3 ((l.drop 2).take (Tryd.prog.cellsOf 3)) = some y2 := hx 2 _ rfl
    rw [cellsAint] at g2
    have g3 : DataW.trod enc Tryd.prog W 0 (fun _ => true) held n 36 ((l.drop 3).take (Tryd.prog.cellsOf 36)) = some y3 := hx 3 _ rfl
    rw [cellsSum] at g3
    have g4 : DataW.trod enc Tryd.prog W 0 (fun _ => true) held n 36 ((l.drop 35).take (Tryd.prog.cellsOf 36)) = some y4 := hx 4 _ rfl
    rw [cellsSum] at g4
    have g5 : DataW.trod enc Tryd.prog W 0 (fun _ => true) held n 23 ((l.drop 67).take (Tryd.prog.cellsOf 23)) = some y5 := hx 5 _ rfl
    rw [cellsAbytes] at g5
    obtain ⟨z0, e0, _, hw0⟩ := DataW.trod_int Tryd.underlying41 g0
    have hb0 := bounds_u32 hw0
    obtain ⟨q, rfl⟩ := Int.eq_ofNat_of_zero_le hb0.1
    obtain ⟨z1, e1, _, hw1⟩ := DataW.trod_int Tryd.underlying3 g1
    have hb1 := bounds_i64 hw1
    obtain ⟨z2, e2, _, hw2⟩ := DataW.trod_int Tryd.underlying3 g2
    have hb2 := bounds_i64 hw2
    obtain ⟨a, e3, l3, b3⟩ := list_sum g3
    obtain ⟨b, e4, l4, b4⟩ := list_sum g4
    obtain ⟨u, e5⟩ := one_of ((l.drop 67).take 1) (by rw [List.length_take, List.length_drop]; omega)
    rw [e5] at g5
    obtain ⟨A, m, c, ys, rfl, cm⟩ : ∃ A m c ys, u = .slice A m c ∧ Came W A m c ys := by
      rcases open_ints Tryd.underlying23 Tryd.underlying5 (by kernel_rfl) g5 with ⟨hcs, _⟩ | ⟨x, len, cap, zs, hcs, _, hl, hm, hz, _, hcell, hwz⟩
      · simp at hcs
        subst hcs
        exact ⟨none, 0, 0, [], rfl, In.none_ _ _, (by intro x hx; cases hx), fun _ => rfl, Nat.le_refl _⟩
      · simp at hcs
        subst hcs
        obtain ⟨ys, hys⟩ := came_of (w := W) (a := some x) (len := len) (cap := cap) (zs := zs) (.inr ⟨_, rfl, hl, by simpa using hz, hcell, hwz⟩)
        exact ⟨_, _, _, ys, rfl, hys⟩
    refine ⟨q, z1, z2, a, b, A, m, c, ys, ?_, by omega, ⟨by omega, by omega⟩, ⟨by omega, by omega⟩, l3, b3, l4, b4, cm⟩
    have el : l = (l.drop 0).take 1 ++ ((l.drop 1).take 1 ++ ((l.drop 2).take 1 ++ ((l.drop 3).take 32 ++ ((l.drop 35).take 32 ++ (l.drop 67).take 1)))) := by
      rw [List.drop_zero]
      conv => lhs; rw [← List.take_append_drop 1 l, ← List.take_append_drop 1 (l.drop 1), ← List.take_append_drop 1 ((l.drop 1).drop 1), ← List.take_append_drop 32 (((l.drop 1).drop 1).drop 1), ← List.take_append_drop 32 ((((l.drop 1).drop 1).drop 1).drop 32)]
      rw [List.drop_drop, List.drop_drop, List.drop_drop, List.drop_drop]
      rw [show List.take 1 (List.drop 67 l) = List.drop (1 + 1 + 1 + 32 + 32) l from List.take_of_length_le (by rw [List.length_drop]; omega)]
    rw [e0, e1, e2, e3, e4, e5] at el
    unfold askedL
    rw [el]
    rfl

/-- The variable that such a one lies in. -/
structure AskedAt (w : World) (g : Nat) (t : Nat) (z d : Int) (a b : List Nat) (A : Option Addr) (n c : Nat) : Prop where
  tenant : w.cell? ⟨g, 0, none⟩ = some (.int .u32 (t : Int))
  resource : w.cell? ⟨g, 1, none⟩ = some (.int .i64 z)
  depth : w.cell? ⟨g, 2, none⟩ = some (.int .i64 d)
  l : At w ⟨g, 3, none⟩ a
  r : At w ⟨g, 35, none⟩ b
  v : w.cell? ⟨g, 67, none⟩ = some (.slice A n c)
theorem AskedAt.below {w w' : World} {g t n c : Nat} {z d : Int} {A : Option Addr} {a b : List Nat} (h : AskedAt w g t z d a b A n c) (hb : Below w.heap.size w w') : AskedAt w' g t z d a b A n c :=
  ⟨(hb.cell (World.block_lt_of_cell? w _ h.tenant)).trans h.tenant, (hb.cell (World.block_lt_of_cell? w _ h.resource)).trans h.resource, (hb.cell (World.block_lt_of_cell? w _ h.depth)).trans h.depth, h.l.below hb, h.r.below hb, (hb.cell (World.block_lt_of_cell? w _ h.v)).trans h.v⟩
theorem asked_new (w : World) {t n c : Nat} {z d : Int} {A : Option Addr} {a b : List Nat} (hl : a.length = 32) (hl' : b.length = 32) :
    AskedAt (w.alloc (.cells (askedL t z d a b A n c).toArray 43)) w.heap.size t z d a b A n c := by
  have hc : ∀ i, (w.alloc (.cells (askedL t z d a b A n c).toArray 43)).cell? ⟨w.heap.size, i, none⟩ = (askedL t z d a b A n c)[i]? := fun i => by
    rw [cell_of_row _ w.heap.size i _ _ (0, 0) (World.alloc_heap_new w _), List.getElem?_toArray]
  have ha1 : (bvs a).length = 32 := by rw [bvs_length, hl]
  have hb1 : (bvs b).length = 32 := by rw [bvs_length, hl']
  have ha : ∀ o j : Nat, (⟨w.heap.size, o, none⟩ : Addr).add j = ⟨w.heap.size, o + j, none⟩ := fun o j => by unfold Addr.add; split <;> simp_all
  refine ⟨by rw [hc]; rfl, by rw [hc]; rfl, by rw [hc]; rfl, fun j x hx => ?_, fun j x hx => ?_, ?_⟩
  · rw [ha, hc]
    unfold askedL
    rw [List.getElem?_append_right (by simp), show 3 + j - [Value.int .u32 (t : Int), .int .i64 z, .int .i64 d].length = j by simp, List.getElem?_append_left (by rw [ha1, ← hl]; exact (List.getElem?_eq_some_iff.1 hx).1), bvs_get, hx]
    rfl
  · rw [ha, hc]
    unfold askedL
    rw [List.getElem?_append_right (by simp; omega), show 35 + j - [Value.int .u32 (t : Int), .int .i64 z, .int .i64 d].length = 32 + j by simp; omega, List.getElem?_append_right (by omega), ha1, show 32 + j - 32 = j by omega, List.getElem?_append_left (by rw [hb1, ← hl']; exact (List.getElem?_eq_some_iff.1 hx).1), bvs_get, hx]
    rfl
  · rw [hc]
    unfold askedL
    rw [List.getElem?_append_right (by simp), List.getElem?_append_right (by rw [ha1]; simp), List.getElem?_append_right (by rw [ha1, hb1]; simp), ha1, hb1]
    rfl

end Go.Proofs.YtnaebjdccngeoaaDoor

/-
  TwinBytes: a copy in memory of its own, a mark behind it.
-/
namespace Go.Proofs.YtnaebjdccngeoaaDoor
open Go.RowKit

/-- '.slice A n (n + 1)' is a copy of xs, the mark 77 behind it: block g is just these cells. -/
def Twin (w : World) (g n : Nat) (xs : List Nat) : Prop := xs.length = n ∧ w.heap[g]? = some (.cells (bvs (xs ++ [77])).toArray 5 (0, 0))

theorem Twin.below {w w' : World} {g n : Nat} {xs : List Nat} (h : Twin w g n xs) (hb : Below w.heap.size w w') : Twin w' g n xs :=
  ⟨h.1, (hb.block g (Array.getElem?_eq_some_iff.1 h.2).1).trans h.2⟩
theorem Twin.in_ {w : World} {g n : Nat} {xs : List Nat} (h : Twin w g n xs) : In w (some ⟨g, 0, none⟩) n xs :=
  ⟨h.1, fun j x hx => ⟨_, rfl, by
    rw [show (⟨g, 0, none⟩ : Addr).add j = ⟨g, j, none⟩ from by unfold Addr.add; split <;> simp_all]
    have hj := (List.getElem?_eq_some_iff.1 hx).1
    rw [cell_of_row _ g j _ 5 (0, 0) h.2, List.getElem?_toArray, bvs_get, List.getElem?_append_left hj, hx]
    rfl⟩⟩
theorem Twin.last {w : World} {g n : Nat} {xs : List Nat} (h : Twin w g n xs) : w.cell? ⟨g, n, none⟩ = some (.int .u8 77) := by
  rw [cell_of_row _ g n _ 5 (0, 0) h.2, List.getElem?_toArray, bvs_get, List.getElem?_append_right (by rw [h.1]; omega), h.1]
  simp [bv]
theorem Twin.lt {w : World} {g n : Nat} {xs : List Nat} (h : Twin w g n xs) : g < w.heap.size := (Array.getElem?_eq_some_iff.1 h.2).1

set_option maxRecDepth 100000 in
set_option maxHeartbeats 1000000 in
theorem twinBytes_any (A : Option Addr) (n c : Nat) (xs : List Nat) (w : World) (hin : In w A n xs) (hn : n ≤ 1000000000) :
    Calls Tryd.prog 16 #[.slice A n c] w fun e w' => e = .returned (.slice (some ⟨w.heap.size, 0, none⟩) n (n + 1)) ∧ Twin w' w.heap.size n xs ∧ Below w.heap.size w w' := by
  obtain ⟨i0, hi, hz0, hz1, hz2⟩ := info_parts infoByte
  have hm : n + 1 ≤ maxLen := by unfold maxLen; omega
  go_enter Tryd.func16, Tryd.ntmps16
  go_wp2_with (at_make; refine wpList_make_own _ rfl _ _ 23 rfl w.heap.size 5 i0 _ 1 Tryd.underlying23 hi hz0 hz1 _ _ _ (n + 1) rfl rfl (by omega) (by rw [hz2]; omega) hm (Nat.le_refl _) ?_; intro w1 hown1 hgrow1)
  have hb1 : Below w.heap.size w w1 := (Below.refl _ w).grown hgrow1 (Nat.le_refl _) (fun k hk => by cases hk)
  go_loopw [3, 4] (fun t i wr => ∃ j : Nat, j ≤ n ∧ i = .int .i64 (j : Int) ∧ t = .slice (some ⟨w.heap.size, 0, none⟩) j (n + 1) ∧
      wr.ownsRow w.heap.size 5 1 (.slice (some ⟨w.heap.size, 0, none⟩) j (n + 1)) j (bvs (xs.take j)) ∧ Below w.heap.size w wr) (fun _ i _ => n - (intOf i).toNat)
  case atStart => exact ⟨0, Nat.zero_le _, rfl, rfl, hown1, hb1⟩
  case round =>
    obtain ⟨j, hj, rfl, rfl, hown, hbw⟩ := hrel
    have z1 := hbw.size
    by_cases hlt : j < n
    · obtain ⟨ad, x, rfl, hx, hcell⟩ := (hin.below hbw).at_ hlt
      have HX := Lib.hid hx
      clear hx
      go_wp2_with (at_builtin; refine wpList_append_fits _ rfl _ _ 23 rfl w.heap.size 5 i0 1 Tryd.underlying23 hi hz1 w.heap.size j (n + 1) _ rfl (hown.alloc _) ⟨wr.heap.size, 0, none⟩ 1 1 [.int .u8 (x : Int)] rfl rfl (cell_one_new _ _ _) (by simp [Value.oneCell']) (by omega) ?_; intro w2 hown2 hgrow2)
      go_roundw
      case rel =>
        refine ⟨j + 1, by omega, by go_num, rfl, ?_, (hbw.alloc z1 _).grown hgrow2 (by simp; omega) (fun k hk => by cases hk; exact Nat.le_refl _)⟩
        rw [take_snoc_of HX.out, bvs_append]
        exact hown2
      case measure => simp [intOf]; omega
    · obtain rfl : j = n := by omega
      go_wp2_with (at_builtin; refine wpList_append_fits _ rfl _ _ 23 rfl w.heap.size 5 i0 1 Tryd.underlying23 hi hz1 w.heap.size j (j + 1) _ rfl (hown.alloc _) ⟨wr.heap.size, 0, none⟩ 1 1 [.int .u8 77] rfl rfl (cell_one_new _ _ _) (by simp [Value.oneCell']) (by omega) ?_; intro w2 hown2 hgrow2)
      go_ret
      refine ⟨rfl, ⟨hin.len, ?_⟩, (hbw.alloc z1 _).grown hgrow2 (by simp; omega) (fun k hk => by cases hk; exact Nat.le_refl _)⟩
      rw [List.take_of_length_le (by rw [hin.len]; omega)] at hown2
      rcases hown2.2 with ⟨e1, _⟩ | ⟨g, cap, cur, e1, _, hg, _, _, hs, ht⟩
      · cases e1
      · cases e1
        rw [hg, bvs_append]
        rw [List.take_of_length_le (by rw [Array.length_toList, hs]; omega)] at ht
        have e2 : cur = (bvs xs ++ [Value.int .u8 77]).toArray := by rw [← ht]
        rw [e2]
        rfl

end Go.Proofs.YtnaebjdccngeoaaDoor

/-
  LeftBytes: it is still that copy.
-/
namespace Go.Proofs.YtnaebjdccngeoaaDoor
open Go.RowKit


set_option maxRecDepth 100000 in
set_option maxHeartbeats 1000000 in
theorem leftBytes_yes (A : Option Addr) (g n c : Nat) (xs : List Nat) (w : World) (ht : Twin w g n xs) (hin2 : In w A n xs) (hn : n ≤ 1000000000) :
    Calls Tryd.prog 27 #[.slice (some ⟨g, 0, none⟩) n (n + 1), .slice A n c] w fun e w' => e = .returned (.bool true) ∧ ∃ q, w' = w.drewN q := by
  have dn : ((n : Int) != (n : Int)) = false := by simp
  have hin := ht.in_
  have hlast := ht.last
  go_enter Tryd.func27, Tryd.ntmps27
  go_wp2
  go_loopw [5] (fun i wr => ∃ j : Nat, j ≤ n ∧ i = .int .i64 (j : Int) ∧ ∃ q, wr = w.drewN q) (fun i _ => n - (intOf i).toNat)
  case atStart => exact ⟨0, Nat.zero_le _, rfl, 0, rfl⟩
  case round =>
    obtain ⟨j, hj, rfl, q, rfl⟩ := hrel
    by_cases hlt : j < n
    · obtain ⟨ad, x, e1, hx, hc1⟩ := hin.at_ hlt
      obtain ⟨ad2, x2, rfl, hx2, hc2⟩ := hin2.at_ hlt
      obtain rfl : x2 = x := by rw [hx] at hx2; injection hx2 with h; exact h.symm
      cases e1
      rw [show (⟨g, 0, none⟩ : Addr).add j = ⟨g, j, none⟩ from by unfold Addr.add; split <;> simp_all] at hc1
      clear hx hx2
      have i1 : (j : Int) < (n : Int) := by omega
      go_wp2
      go_quiet (fail)
      rw [World.drewN_drewN]
      go_wp2
      go_roundw
      case rel => exact ⟨j + 1, by omega, by go_num, q + nq, rfl⟩
      case measure => simp [intOf]; omega
    · obtain rfl : j = n := by omega
      go_wp2
      go_ret
      exact ⟨rfl, q, rfl⟩

end Go.Proofs.YtnaebjdccngeoaaDoor

/-
  How many bits a number below 65536 has; how many leaves a left side has.
-/
namespace Go.Proofs.YtnaebjdccngeoaaDoor
open Go.RowKit

theorem tab_len : ∀ n : Fin 256, (Lib.len8tab[n.val]'(by rw [Lib.len8tab_size]; exact n.isLt)).toNat = Lib.bitLen n.val := by decide +kernel

set_option maxRecDepth 100000 in
set_option maxHeartbeats 1000000 in
theorem len64_low (x : Nat) (w : World) (hx : x < 256) :
    Calls Tryd.prog 91 #[.int .u64 (x : Int)] w fun e w' => e = .returned (.int .i64 (Lib.bitLen x)) ∧ w' = w := by
  have h1 : decide (4294967296 ≤ (x : Int)) = false := by simp; omega
  have h2 : decide (65536 ≤ (x : Int)) = false := by simp; omega
  have h3 : decide (256 ≤ (x : Int)) = false := by simp; omega
  go_enter Tryd.func91, Tryd.ntmps91
  go_wp2
  all_goals (go_ret; refine ⟨congrArg Ending.returned (congrArg (Value.int IntKind.i64) ?_), rfl⟩)
  have hv := tab_len ⟨x, hx⟩
  have hle := Lib.bitLen_le8 ⟨x, hx⟩
  dsimp only at hv hle
  rw [hv]
  simp only [wrap64]
  omega

set_option maxRecDepth 100000 in
set_option maxHeartbeats 1000000 in
theorem len64_mid (x : Nat) (w : World) (hx : x < 65536) (h0 : 256 ≤ x) :
    Calls Tryd.prog 91 #[.int .u64 (x : Int)] w fun e w' => e = .returned (.int .i64 (Lib.bitLen x)) ∧ w' = w := by
  have h1 : decide (4294967296 ≤ (x : Int)) = false := by simp; omega
  have h2 : decide (65536 ≤ (x : Int)) = false := by simp; omega
  have h3 : decide (256 ≤ (x : Int)) = true := by simp; omega
  go_enter Tryd.func91, Tryd.ntmps91
  go_wp2
  · go_ret
    refine ⟨congrArg Ending.returned (congrArg (Value.int IntKind.i64) ?_), rfl⟩
    have hq : x / 256 < 256 := by omega
    have hv := tab_len ⟨x / 256, hq⟩
    have hle := Lib.bitLen_le8 ⟨x / 256, hq⟩
    have hs := Lib.bitLen_shift8 x h0 (by omega)
    dsimp only at hv hle
    rw [hv, hs]
    simp only [wrap64]
    omega
  · exfalso
    rename_i hh
    have := Lib.len8tab_size
    omega

theorem len64_any (x : Nat) (w : World) (hx : x < 65536) :
    Calls Tryd.prog 91 #[.int .u64 (x : Int)] w fun e w' => e = .returned (.int .i64 (Lib.bitLen x)) ∧ w' = w := by
  by_cases h : x < 256
  · exact len64_low x w h
  · exact len64_mid x w hx (by omega)

set_option maxRecDepth 100000 in
set_option maxHeartbeats 1000000 in
theorem len_any (x : Nat) (w : World) (hx : x < 65536) :
    Calls Tryd.prog 74 #[.int .u64 (x : Int)] w fun e w' => e = .returned (.int .i64 (Lib.bitLen x)) ∧ w' = w := by
  have C := Lib.hid (len64_any x w hx)
  go_enter Tryd.func74, Tryd.ntmps74
  go_wp2_with fail
  refine C.out.mono ?_
  rintro e w1 ⟨rfl, rfl⟩
  go_wp2_with fail
  go_ret
  exact ⟨rfl, rfl⟩

theorem bitLen_log {x : Nat} (h0 : 0 < x) (hx : x < 18446744073709551616) : Lib.bitLen x = Nat.log2 x + 1 := by
  have h1 : 2 ^ Nat.log2 x ≤ x := Nat.log2_self_le (by omega)
  have h2 : x < 2 ^ (Nat.log2 x + 1) := Nat.lt_log2_self
  rw [Lib.bitLen_shift (Nat.log2 x) x h1 hx]
  have h3 : x / 2 ^ Nat.log2 x = 1 := by
    rw [Nat.pow_succ] at h2
    have hp := Nat.two_pow_pos (Nat.log2 x)
    exact Nat.le_antisymm (Nat.lt_succ_iff.1 ((Nat.div_lt_iff_lt_mul hp).2 (by omega))) ((Nat.le_div_iff_mul_le hp).2 (by omega))
  rw [h3]
  rfl

theorem wrap_pow {b : Nat} (hb : b < 16) : wrap64 ((2 : Int) ^ b) = ((2 ^ b : Nat) : Int) := by
  have e : (2 : Int) ^ b = ((2 ^ b : Nat) : Int) := by simp
  have hle : 2 ^ b ≤ 2 ^ 16 := Nat.pow_le_pow_right (by omega) (by omega)
  rw [e]
  generalize 2 ^ b = q at hle
  simp only [wrap64]
  omega

set_option maxRecDepth 100000 in
set_option maxHeartbeats 1000000 in
theorem left_any (m : Nat) (w : World) (h2 : 2 ≤ m) (hm : m ≤ 65536) :
    Calls Tryd.prog 44 #[.int .i64 (m : Int)] w fun e w' => e = .returned (.int .i64 (cutN m : Int)) ∧ w' = w := by
  have C := Lib.hid (len_any (m - 1) w (by omega))
  obtain ⟨b, hb0⟩ : ∃ b, Nat.log2 (m - 1) = b := ⟨_, rfl⟩
  have hb : Lib.bitLen (m - 1) = b + 1 := by rw [bitLen_log (by omega) (by omega), hb0]
  have hb16 : b < 16 := by rw [← hb0]; exact (Nat.log2_lt (by omega)).2 (by omega)
  rw [hb] at C
  have hcut : cutN m = 2 ^ b := by rw [cutN, hb0]
  have hm1 : (m : Int) - 1 = ((m - 1 : Nat) : Int) := by omega
  have HC := Lib.hid hcut
  clear hcut hb hb0
  go_enter Tryd.func44, Tryd.ntmps44
  go_wp2_with fail
  refine C.out.mono ?_
  rintro e w1 ⟨rfl, rfl⟩
  go_wp2_with fail
  go_ret
  exact ⟨by rw [HC.out, wrap_pow hb16]; rfl, rfl⟩

end Go.Proofs.YtnaebjdccngeoaaDoor

/-
  leaves.cut: one sum of a list; leaves.Root's sides, by what they answer; leaves.Root.
-/
namespace Go.Proofs.YtnaebjdccngeoaaDoor
open Go.RowKit

theorem run_cut_one {A : Option Addr} {n c at_ : Nat} (h : at_ < n) (hc : n ≤ c) (W : World) :
    (Instr.slice 24 (.slice A n c) (some (.int .i64 (at_ : Int))) (some (.int .i64 ((at_ : Int) + 1))) (some (.int .i64 ((at_ : Int) + 1)))).run Tryd.prog W = .ok (.slice (A.map (·.add (at_ * 32))) 1 1) W := by
  obtain ⟨i0, hi, hz0, hz1, hz2⟩ := info_parts infoSum
  have he : Tryd.prog.elem 24 = 36 := by kernel_rfl
  rw [run_slice_lhm W 24 A n c (by rw [he]; exact Tryd.underlying24) .i64 .i64 .i64 (at_ : Int) ((at_ : Int) + 1) ((at_ : Int) + 1) (by omega) (by omega) (by omega) (by omega), he]
  have e1 : ((at_ : Int) + 1).toNat = at_ + 1 := by omega
  simp [sizeOf, typeInfo, hi, hz1, sliced, e1]

set_option maxRecDepth 100000 in
set_option maxHeartbeats 1000000 in
theorem cut_any (A : Option Addr) (n c at_ : Nat) (ys : List Nat) (w : World) (hin : InS w A n ys) (h : at_ < n) (hc : n ≤ c) (hn : n ≤ 1000000) :
    Calls Tryd.prog 43 #[.slice A n c, .int .i64 (at_ : Int)] w fun e w' => e = .returned (sv (nth ys at_)) ∧ Below w.heap.size w w' := by
  obtain ⟨ad, rfl, hl, hat⟩ := hin.at_ h
  have e0 : (bvs zero32).toArray = #[.int .u8 0, .int .u8 0, .int .u8 0, .int .u8 0, .int .u8 0, .int .u8 0, .int .u8 0, .int .u8 0, .int .u8 0, .int .u8 0, .int .u8 0, .int .u8 0, .int .u8 0, .int .u8 0, .int .u8 0, .int .u8 0, .int .u8 0, .int .u8 0, .int .u8 0, .int .u8 0, .int .u8 0, .int .u8 0, .int .u8 0, .int .u8 0, .int .u8 0, .int .u8 0, .int .u8 0, .int .u8 0, .int .u8 0, .int .u8 0, .int .u8 0, .int .u8 0] := rfl
  have f1 := BArr.new w 36 zero32
  have b1 := below_alloc w (.cells (bvs zero32).toArray 36)
  rw [e0] at f1 b1
  clear e0
  have HF := Lib.hid (And.intro f1 b1)
  have hcut := run_cut_one (A := some ad) h hc
  have HA := Lib.hid (hat.below b1)
  obtain ⟨s, hs⟩ : ∃ s, nth ys at_ = s := ⟨_, rfl⟩
  rw [hs] at HA hl ⊢
  have HL := Lib.hid hl
  clear f1 b1 hat hin hs
  go_enter Tryd.func43, Tryd.ntmps43
  go_upto_region 1 with fail
  obtain ⟨w1, hw1⟩ : ∃ w1, w1 = w.alloc (.cells #[.int .u8 0, .int .u8 0, .int .u8 0, .int .u8 0, .int .u8 0, .int .u8 0, .int .u8 0, .int .u8 0, .int .u8 0, .int .u8 0, .int .u8 0, .int .u8 0, .int .u8 0, .int .u8 0, .int .u8 0, .int .u8 0, .int .u8 0, .int .u8 0, .int .u8 0, .int .u8 0, .int .u8 0, .int .u8 0, .int .u8 0, .int .u8 0, .int .u8 0, .int .u8 0, .int .u8 0, .int .u8 0, .int .u8 0, .int .u8 0, .int .u8 0, .int .u8 0] 36) := ⟨_, rfl⟩
  rw [← hw1] at HF HA ⊢
  clear hw1
  have HZ32 := Lib.hid (show zero32.length = 32 from rfl)
  go_wp2_with (first | with_reducible refine wpList_load_sum rfl (.tmp 14) rfl (ad.add (at_ * 32)) rfl s hl HA.out ?_ | with_reducible refine wpList_store_sum rfl (.tmp 4) (.tmp 15) rfl w.heap.size rfl zero32 s HZ32 hl HF.out.1 rfl ?_)
  refine bodyPost_ret_by (results_cell_row (p := 4) (ty := 36) (by kernel_rfl) _ _ w.heap.size 36 (bvs s).toArray (0, 0) _ rfl (HF.out.1.setRow _) Tryd.underlying36 rfl (by rw [List.size_toArray, bvs_length, hl]; exact sizeSum)) rfl ?_
  exact ⟨rfl, below_setRow HF.out.2 (by omega) _⟩

/-- What a side's contract asks: the list and the function itself, in two variables of their own. -/
structure SideIn (w : World) (bl bs : Nat) (A : Option Addr) (n c : Nat) (ys : List Nat) : Prop where
  list : w.cell? ⟨bl, 0, none⟩ = some (.slice A n c)
  self : w.cell? ⟨bs, 0, none⟩ = some (.func (.func 42) #[] #[.pointer (some ⟨bl, 0, none⟩), .pointer (some ⟨bs, 0, none⟩)])
  in_ : InS w A n ys
  lt : ∀ x ∈ ys, x < 256
  cap : n ≤ c
  few : n ≤ 65536
  knows : Knows w
  starts : Starts w

theorem SideIn.below {w w' : World} {bl bs n c : Nat} {A : Option Addr} {ys : List Nat} (h : SideIn w bl bs A n c ys) (hb : Below w.heap.size w w') : SideIn w' bl bs A n c ys :=
  ⟨(hb.cell (World.block_lt_of_cell? w _ h.list)).trans h.list, (hb.cell (World.block_lt_of_cell? w _ h.self)).trans h.self, h.in_.below hb, h.lt, h.cap, h.few, h.knows.below hb, h.starts.below hb⟩

theorem nth_lt {ys : List Nat} (h : ∀ x ∈ ys, x < 256) (k : Nat) : ∀ x ∈ nth ys k, x < 256 := fun x hx => h x (List.mem_of_mem_drop (List.mem_of_mem_take hx))

theorem SideIn.length {w : World} {bl bs n c : Nat} {A : Option Addr} {ys : List Nat} (h : SideIn w bl bs A n c ys) {i m : Nat} (hm : i + m ≤ n) : (rt (nth ys) i m).length = 32 :=
  rt_length _ i m fun j hj => nth_length h.in_.len (by omega)
theorem SideIn.bytes {w : World} {bl bs n c : Nat} {A : Option Addr} {ys : List Nat} (h : SideIn w bl bs A n c ys) (i m : Nat) : ∀ x ∈ rt (nth ys) i m, x < 256 :=
  rt_lt _ i m fun _ _ => nth_lt h.lt _

set_option maxRecDepth 100000 in
set_option maxHeartbeats 1000000 in
theorem side_one (bl bs : Nat) (A : Option Addr) (n c i : Nat) (ys : List Nat) (w : World) (h : SideIn w bl bs A n c ys) (hi : i < n) :
    Calls Tryd.prog 42 #[.int .i64 (i : Int), .int .i64 ((i + 1 : Nat) : Int), .pointer (some ⟨bl, 0, none⟩), .pointer (some ⟨bs, 0, none⟩)] w fun e w' => e = .returned (sv (rt (nth ys) i 1)) ∧ Below w.heap.size w w' := by
  rw [rt_one]
  have e0 : (bvs zero32).toArray = #[.int .u8 0, .int .u8 0, .int .u8 0, .int .u8 0, .int .u8 0, .int .u8 0, .int .u8 0, .int .u8 0, .int .u8 0, .int .u8 0, .int .u8 0, .int .u8 0, .int .u8 0, .int .u8 0, .int .u8 0, .int .u8 0, .int .u8 0, .int .u8 0, .int .u8 0, .int .u8 0, .int .u8 0, .int .u8 0, .int .u8 0, .int .u8 0, .int .u8 0, .int .u8 0, .int .u8 0, .int .u8 0, .int .u8 0, .int .u8 0, .int .u8 0, .int .u8 0] := rfl
  have f1 := BArr.new w 36 zero32
  have b1 := below_alloc w (.cells (bvs zero32).toArray 36)
  rw [e0] at f1 b1
  clear e0
  have HF := Lib.hid (And.intro f1 b1)
  have h1 := Lib.hid (h.below b1)
  have hl := nth_length h.in_.len hi
  clear f1 b1
  go_enter Tryd.func42, Tryd.ntmps42
  go_upto_region 1 with fail
  obtain ⟨w1, hw1⟩ : ∃ w1, w1 = w.alloc (.cells #[.int .u8 0, .int .u8 0, .int .u8 0, .int .u8 0, .int .u8 0, .int .u8 0, .int .u8 0, .int .u8 0, .int .u8 0, .int .u8 0, .int .u8 0, .int .u8 0, .int .u8 0, .int .u8 0, .int .u8 0, .int .u8 0, .int .u8 0, .int .u8 0, .int .u8 0, .int .u8 0, .int .u8 0, .int .u8 0, .int .u8 0, .int .u8 0, .int .u8 0, .int .u8 0, .int .u8 0, .int .u8 0, .int .u8 0, .int .u8 0, .int .u8 0, .int .u8 0] 36) := ⟨_, rfl⟩
  rw [← hw1] at HF h1 ⊢
  clear hw1
  have hlist := h1.out.list
  have C := Lib.hid (cut_any A n c i ys w1 h1.out.in_ hi h.cap (by have := h.few; omega))
  have hd : ((i + 1 : Nat) : Int) - (i : Int) = 1 := by omega
  go_wp2_with fail
  refine C.out.mono ?_
  rintro e w2 ⟨rfl, hb2⟩
  have f2 := HF.out.1.below hb2
  have HZ32 := Lib.hid (show zero32.length = 32 from rfl)
  obtain ⟨s, hs⟩ : ∃ s, nth ys i = s := ⟨_, rfl⟩
  rw [hs] at hl
  go_wp2_with (with_reducible refine wpList_store_sum rfl (.tmp 6) (.tmp 14) rfl w.heap.size rfl zero32 s HZ32 hl f2 rfl ?_)
  refine bodyPost_ret_by (results_cell_row (p := 6) (ty := 36) (by kernel_rfl) _ _ w.heap.size 36 (bvs s).toArray (0, 0) _ rfl (f2.setRow _) Tryd.underlying36 rfl (by rw [List.size_toArray, bvs_length, hl]; exact sizeSum)) rfl ?_
  exact ⟨by rw [hs]; rfl, below_setRow (below_on HF.out.2 (Nat.le_refl _) hb2) (by omega) _⟩

theorem quiet_load_one {ops : Array Oper} {o : Oper} {a : Act} {C : World → Prop} {K : Act → Prop} {E : Prop} (hw : Region.wanted o (yielded ops a.tmps) = true) (ty : TypeId) (hagg : ∀ w, (isAgg ty).run Tryd.prog w = .ok false w) (x : Operand) (ho : o.op = .load ty x)
    (ad : Addr) (hx : a.eval x = .pointer (some ad)) (v : Value) (hc : ∀ w, C w → w.cell? ad = some v) (h : K (a.put o.dst v)) :
    if Region.wanted o (yielded ops a.tmps) = true then o.quiet Tryd.prog a C K else E := by
  rw [if_pos hw]
  refine ⟨v, fun w hC => ?_, h⟩
  unfold Oper.quietAt execOp
  have hl : (loadVar ty ad).run Tryd.prog w = .ok v w := by simp [loadVar, Sem.run_bind, hagg, hc w hC]
  simp only [ho, hx, Instr.loadAt, Instr.sureAddr, Sem.run_bind, Sem.run_pure, Result.andThen_ok, hl]
  exact ⟨rfl, rfl⟩

set_option maxRecDepth 100000 in
set_option maxHeartbeats 2000000 in
theorem side_step (bl bs : Nat) (A : Option Addr) (n c i m : Nat) (ys : List Nat) (w : World) (h : SideIn w bl bs A n c ys) (hm : 2 ≤ m) (hi : i + m ≤ n)
    (ih : ∀ (i' m' : Nat) (w' : World), SideIn w' bl bs A n c ys → m' < m → 1 ≤ m' → i' + m' ≤ n →
      Calls Tryd.prog 42 #[.int .i64 (i' : Int), .int .i64 ((i' + m' : Nat) : Int), .pointer (some ⟨bl, 0, none⟩), .pointer (some ⟨bs, 0, none⟩)] w' fun e w'' => e = .returned (sv (rt (nth ys) i' m')) ∧ Below w'.heap.size w' w'') :
    Calls Tryd.prog 42 #[.int .i64 (i : Int), .int .i64 ((i + m : Nat) : Int), .pointer (some ⟨bl, 0, none⟩), .pointer (some ⟨bs, 0, none⟩)] w fun e w' => e = .returned (sv (rt (nth ys) i m)) ∧ Below w.heap.size w w' := by
  have e0 : (bvs zero32).toArray = #[.int .u8 0, .int .u8 0, .int .u8 0, .int .u8 0, .int .u8 0, .int .u8 0, .int .u8 0, .int .u8 0, .int .u8 0, .int .u8 0, .int .u8 0, .int .u8 0, .int .u8 0, .int .u8 0, .int .u8 0, .int .u8 0, .int .u8 0, .int .u8 0, .int .u8 0, .int .u8 0, .int .u8 0, .int .u8 0, .int .u8 0, .int .u8 0, .int .u8 0, .int .u8 0, .int .u8 0, .int .u8 0, .int .u8 0, .int .u8 0, .int .u8 0, .int .u8 0] := rfl
  have f1 := BArr.new w 36 zero32
  have b1 := below_alloc w (.cells (bvs zero32).toArray 36)
  rw [e0] at f1 b1
  clear e0
  have HF := Lib.hid (And.intro f1 b1)
  have h1 := Lib.hid (h.below b1)
  have hcl := cutN_lt hm
  have hcp := cutN_pos m
  have hfew := h.few
  clear f1 b1
  obtain ⟨k, hk0⟩ : ∃ k, cutN m = k := ⟨_, rfl⟩
  obtain ⟨j, hj⟩ : ∃ j, i + m = j := ⟨_, rfl⟩
  obtain ⟨q, hq⟩ : ∃ q, i + k = q := ⟨_, rfl⟩
  rw [hk0] at hcl hcp
  have hd : (j : Int) - (i : Int) = (m : Int) := by omega
  have hm1 : ((m : Int) == 1) = false := by simp; omega
  have hwm : wrap64 (m : Int) = (m : Int) := by simp only [wrap64]; omega
  have hwq : wrap64 (q : Int) = (q : Int) := by simp only [wrap64]; omega
  have hq' : (i : Int) + (k : Int) = (q : Int) := by omega
  have hrt : rt (nth ys) i m = nodeL (rt (nth ys) i k) (rt (nth ys) q (m - k)) := by rw [rt_cut _ i hm, hk0, hq]
  obtain ⟨L, hL⟩ : ∃ L, rt (nth ys) i k = L := ⟨_, rfl⟩
  obtain ⟨R, hR⟩ : ∃ R, rt (nth ys) q (m - k) = R := ⟨_, rfl⟩
  obtain ⟨w1, hw1⟩ : ∃ w1, w1 = w.alloc (.cells #[.int .u8 0, .int .u8 0, .int .u8 0, .int .u8 0, .int .u8 0, .int .u8 0, .int .u8 0, .int .u8 0, .int .u8 0, .int .u8 0, .int .u8 0, .int .u8 0, .int .u8 0, .int .u8 0, .int .u8 0, .int .u8 0, .int .u8 0, .int .u8 0, .int .u8 0, .int .u8 0, .int .u8 0, .int .u8 0, .int .u8 0, .int .u8 0, .int .u8 0, .int .u8 0, .int .u8 0, .int .u8 0, .int .u8 0, .int .u8 0, .int .u8 0, .int .u8 0] 36) := ⟨_, rfl⟩
  have HW := Lib.hid hw1
  rw [← hw1] at HF h1
  have CL := Lib.hid (fun (W : World) (hW : Below w1.heap.size w1 W) => (ih i k W (h1.out.below hW) hcl hcp (by omega)).mono (R' := fun e w' => e = .returned (sv L) ∧ Below w1.heap.size w1 w') fun e w' ⟨he, hb⟩ => ⟨by rw [he, hL], below_on hW (Nat.le_refl _) hb⟩)
  have CR := Lib.hid (fun (W : World) (hW : Below w1.heap.size w1 W) => (ih q (m - k) W (h1.out.below hW) (by omega) (by omega) (by omega)).mono (R' := fun e w' => e = .returned (sv R) ∧ Below w1.heap.size w1 w') fun e w' ⟨he, hb⟩ => ⟨by rw [he, hR], below_on hW (Nat.le_refl _) hb⟩)
  rw [hq] at CL
  rw [show q + (m - k) = j by omega] at CR
  have hLl : L.length = 32 := by rw [← hL]; exact h.length (by omega)
  have hRl : R.length = 32 := by rw [← hR]; exact h.length (by omega)
  have hLb : ∀ x ∈ L, x < 256 := by rw [← hL]; exact h.bytes _ _
  have hRb : ∀ x ∈ R, x < 256 := by rw [← hR]; exact h.bytes _ _
  rw [hL, hR] at hrt
  obtain ⟨N, hN⟩ : ∃ N, nodeL L R = N := ⟨_, rfl⟩
  have hNl : N.length = 32 := by rw [← hN]; exact nodeL_length _ _
  have CN := Lib.hid (fun (W : World) (hW : Below w1.heap.size w1 W) => (node_any L R W hLl hRl hLb hRb (h1.out.below hW).knows (h1.out.below hW).starts).mono (R' := fun e w' => e = .returned (sv N) ∧ Below w1.heap.size w1 w') fun e w' ⟨he, hb⟩ => ⟨by rw [he, hN], below_on hW (Nat.le_refl _) hb⟩)
  rw [hN] at hrt
  rw [hrt]
  have HS := Lib.hid (fun (W : World) (hW : Below w1.heap.size w1 W) => (h1.out.below hW).self)
  have CM := Lib.hid (left_any m w1 hm (by omega))
  rw [hk0] at CM
  have HN := Lib.hid hNl
  have HJ := Lib.hid hj
  have HK := Lib.hid (And.intro hk0 (And.intro hq (And.intro hL (And.intro hR hN))))
  rw [hj]
  have HI := Lib.hid hi
  clear hw1 hL hR hN hLl hRl hLb hRb hrt hk0 hq hj hNl hi ih h h1 hfew
  go_enter Tryd.func42, Tryd.ntmps42
  go_upto_region 1 with fail
  rw [← HW.out]
  go_wp2_with fail
  refine CM.out.mono ?_
  rintro e w2 ⟨rfl, rfl⟩
  go_upto_region 4 with fail
  refine wp_region_quiet_tail (C := fun w' => Below w2.heap.size w2 w') 9 (by kernel_rfl) (by kernel_rfl) ((Below.refl _ _).drew) ?_
  simp only [List.take_succ_cons, List.take_zero, List.drop_succ_cons, List.drop_zero]
  refine wpQuiet_step (fun K hK => ?_)
  refine quiet_load_one (by rfl) _ Tryd.isAgg72 (.tmp 3) rfl ⟨bs, 0, none⟩ rfl _ HS.out (hK _ ?_)
  clear hK K
  iterate 2 (refine wpQuiet_step (fun K hK => ?_); go_simp; refine ⟨_, fun _ _ => rfl, hK _ ?_⟩; clear hK K)
  refine wpQuiet_step (fun K hK => ?_)
  go_simp
  refine ⟨sv L, fun W hW => CL.out W hW, hK _ ?_⟩
  clear hK K
  refine wpQuiet_step (fun K hK => ?_)
  refine quiet_load_one (by rfl) _ Tryd.isAgg72 (.tmp 3) rfl ⟨bs, 0, none⟩ rfl _ HS.out (hK _ ?_)
  clear hK K
  iterate 2 (refine wpQuiet_step (fun K hK => ?_); go_simp; refine ⟨_, fun _ _ => rfl, hK _ ?_⟩; clear hK K)
  refine wpQuiet_step (fun K hK => ?_)
  go_simp
  refine ⟨sv R, fun W hW => CR.out W hW, hK _ ?_⟩
  clear hK K
  refine wpQuiet_step (fun K hK => ?_)
  go_simp
  refine ⟨sv N, fun W hW => CN.out W hW, hK _ ?_⟩
  clear hK K
  refine wpQuiet_nil ?_
  intro w3 hb3
  have f3 := HF.out.1.below hb3
  have HZ32 := Lib.hid (show zero32.length = 32 from rfl)
  have hl := HN.out
  refine wpList_store_sum rfl (.tmp 6) (.tmp 29) rfl w.heap.size rfl zero32 N HZ32 hl f3 rfl ?_
  go_wp2
  refine bodyPost_ret_by (results_cell_row (p := 6) (ty := 36) (by kernel_rfl) _ _ w.heap.size 36 (bvs N).toArray (0, 0) _ rfl (f3.setRow _) Tryd.underlying36 rfl (by rw [List.size_toArray, bvs_length, hl]; exact sizeSum)) rfl ?_
  exact ⟨rfl, below_setRow (below_on HF.out.2 (Nat.le_refl _) hb3) (by omega) _⟩

theorem side_any (bl bs : Nat) (A : Option Addr) (n c : Nat) (ys : List Nat) : ∀ (m i : Nat) (w : World), SideIn w bl bs A n c ys → 1 ≤ m → i + m ≤ n →
    Calls Tryd.prog 42 #[.int .i64 (i : Int), .int .i64 ((i + m : Nat) : Int), .pointer (some ⟨bl, 0, none⟩), .pointer (some ⟨bs, 0, none⟩)] w fun e w' => e = .returned (sv (rt (nth ys) i m)) ∧ Below w.heap.size w w' := by
  intro m
  induction m using Nat.strongRecOn with
  | ind m ih =>
    intro i w h h1 hi
    by_cases hm : m = 1
    · subst hm
      exact side_one bl bs A n c i ys w h (by omega)
    · exact side_step bl bs A n c i m ys w h (by omega) hi fun i' m' w' h' hlt h1' hi' => ih m' hlt i' w' h' h1' hi'

end Go.Proofs.YtnaebjdccngeoaaDoor

/-
  leaves.Root.
-/
namespace Go.Proofs.YtnaebjdccngeoaaDoor
open Go.RowKit

/-- The world in which Root begins. -/
structure RootIn (w w1 : World) (A : Option Addr) (n c : Nat) : Prop where
  list : w1.cell? ⟨w.heap.size, 0, none⟩ = some (.slice A n c)
  res : BArr w1 (w.heap.size + 1) 36 zero32
  below : Below w.heap.size w w1
  size : w1.heap.size = w.heap.size + 2

theorem rootIn_of (w : World) (A : Option Addr) (n c : Nat) : RootIn w ((w.alloc (.cells #[.slice A n c] 24)).alloc (.cells (bvs zero32).toArray 36)) A n c := by
  have b2 := below_alloc (w.alloc (.cells #[.slice A n c] 24)) (.cells (bvs zero32).toArray 36)
  have hc := cell_new1 w (.slice A n c) 24
  refine ⟨(b2.cell (World.block_lt_of_cell? _ _ hc)).trans hc, ?_, (below_alloc w _).alloc (by simp) _, by simp⟩
  have := BArr.new (w.alloc (.cells #[.slice A n c] 24)) 36 zero32
  rwa [World.size_alloc] at this

set_option maxRecDepth 100000 in
set_option maxHeartbeats 2000000 in
theorem root_none (A : Option Addr) (c : Nat) (f : Nat → List Nat) (w : World) (hk : Knows w) (hs : Starts w) :
    Calls Tryd.prog 12 #[.slice A 0 c] w fun e w' => e = .returned (sv (rt f 0 0)) ∧ Below w.heap.size w w' := by
  have e0 : (bvs zero32).toArray = #[.int .u8 0, .int .u8 0, .int .u8 0, .int .u8 0, .int .u8 0, .int .u8 0, .int .u8 0, .int .u8 0, .int .u8 0, .int .u8 0, .int .u8 0, .int .u8 0, .int .u8 0, .int .u8 0, .int .u8 0, .int .u8 0, .int .u8 0, .int .u8 0, .int .u8 0, .int .u8 0, .int .u8 0, .int .u8 0, .int .u8 0, .int .u8 0, .int .u8 0, .int .u8 0, .int .u8 0, .int .u8 0, .int .u8 0, .int .u8 0, .int .u8 0, .int .u8 0] := rfl
  have h1 := rootIn_of w A 0 c
  rw [e0] at h1
  clear e0
  obtain ⟨w1, hw1⟩ : ∃ w1, w1 = (w.alloc (.cells #[.slice A 0 c] 24)).alloc (.cells #[.int .u8 0, .int .u8 0, .int .u8 0, .int .u8 0, .int .u8 0, .int .u8 0, .int .u8 0, .int .u8 0, .int .u8 0, .int .u8 0, .int .u8 0, .int .u8 0, .int .u8 0, .int .u8 0, .int .u8 0, .int .u8 0, .int .u8 0, .int .u8 0, .int .u8 0, .int .u8 0, .int .u8 0, .int .u8 0, .int .u8 0, .int .u8 0, .int .u8 0, .int .u8 0, .int .u8 0, .int .u8 0, .int .u8 0, .int .u8 0, .int .u8 0, .int .u8 0] 36) := ⟨_, rfl⟩
  rw [← hw1] at h1
  have H1 := Lib.hid h1
  have HW := Lib.hid hw1
  clear h1 hw1
  have C := Lib.hid (of_any none 0 0 [] w1 (In.none_ _ _) (by intro x hx; cases hx) (Nat.le_refl _) (hk.below H1.out.below) (hs.below H1.out.below) (by omega))
  rw [rt_nil]
  have hl := sha_length []
  obtain ⟨s, hs0⟩ : ∃ s, sha [] = s := ⟨_, rfl⟩
  rw [hs0] at C hl ⊢
  have hcell : w1.cell? ⟨w.heap.size, 0, none⟩ = some (.slice A 0 c) := H1.out.list
  clear hs0
  go_enter Tryd.func12, Tryd.ntmps12
  go_upto_region 1 with fail
  rw [← HW.out]
  go_wp2_with fail
  refine C.out.mono ?_
  rintro e w2 ⟨rfl, hb2⟩
  have f2 := H1.out.res.below hb2
  have HZ32 := Lib.hid (show zero32.length = 32 from rfl)
  go_wp2_with (with_reducible refine wpList_store_sum rfl (.tmp 2) (.tmp 7) rfl (w.heap.size + 1) rfl zero32 s HZ32 hl f2 rfl ?_)
  refine bodyPost_ret_by (results_cell_row (p := 2) (ty := 36) (by kernel_rfl) _ _ (w.heap.size + 1) 36 (bvs s).toArray (0, 0) _ rfl (f2.setRow _) Tryd.underlying36 rfl (by rw [List.size_toArray, bvs_length, hl]; exact sizeSum)) rfl ?_
  exact ⟨rfl, below_setRow (below_on H1.out.below (Nat.le_refl _) hb2) (by omega) _⟩

set_option maxRecDepth 100000 in
set_option maxHeartbeats 2000000 in
theorem root_some (A : Option Addr) (n c : Nat) (ys : List Nat) (w : World) (hin : InS w A n ys) (hx : ∀ x ∈ ys, x < 256) (hc : n ≤ c) (h0 : 0 < n) (hn : n ≤ 65536) (hk : Knows w) (hs : Starts w) :
    Calls Tryd.prog 12 #[.slice A n c] w fun e w' => e = .returned (sv (rt (nth ys) 0 n)) ∧ Below w.heap.size w w' := by
  have e0 : (bvs zero32).toArray = #[.int .u8 0, .int .u8 0, .int .u8 0, .int .u8 0, .int .u8 0, .int .u8 0, .int .u8 0, .int .u8 0, .int .u8 0, .int .u8 0, .int .u8 0, .int .u8 0, .int .u8 0, .int .u8 0, .int .u8 0, .int .u8 0, .int .u8 0, .int .u8 0, .int .u8 0, .int .u8 0, .int .u8 0, .int .u8 0, .int .u8 0, .int .u8 0, .int .u8 0, .int .u8 0, .int .u8 0, .int .u8 0, .int .u8 0, .int .u8 0, .int .u8 0, .int .u8 0] := rfl
  have h1 := rootIn_of w A n c
  rw [e0] at h1
  clear e0
  obtain ⟨w1, hw1⟩ : ∃ w1, w1 = (w.alloc (.cells #[.slice A n c] 24)).alloc (.cells #[.int .u8 0, .int .u8 0, .int .u8 0, .int .u8 0, .int .u8 0, .int .u8 0, .int .u8 0, .int .u8 0, .int .u8 0, .int .u8 0, .int .u8 0, .int .u8 0, .int .u8 0, .int .u8 0, .int .u8 0, .int .u8 0, .int .u8 0, .int .u8 0, .int .u8 0, .int .u8 0, .int .u8 0, .int .u8 0, .int .u8 0, .int .u8 0, .int .u8 0, .int .u8 0, .int .u8 0, .int .u8 0, .int .u8 0, .int .u8 0, .int .u8 0, .int .u8 0] 36) := ⟨_, rfl⟩
  rw [← hw1] at h1
  have H1 := Lib.hid h1
  have HW := Lib.hid hw1
  have HX := Lib.hid (And.intro hin hx)
  have hz := Lib.hid h1.size
  clear h1 hw1 hin hx
  have hl : (rt (nth ys) 0 n).length = 32 := rt_length _ 0 n fun j hj => nth_length HX.out.1.len (by omega)
  have hcell : w1.cell? ⟨w.heap.size, 0, none⟩ = some (.slice A n c) := H1.out.list
  have hnz : ((n : Int) == 0) = false := by simp; omega
  have hmf : ∀ (fn : Fn) (first cap : Array Value) (w : World), (Instr.makeFunc fn first cap).run Tryd.prog w = .ok (.func fn first cap) w := fun _ _ _ _ => rfl
  go_enter Tryd.func12, Tryd.ntmps12
  go_upto_region 1 with fail
  rw [← HW.out]
  go_upto_region 5 with fail
  obtain ⟨w2, hw2⟩ : ∃ w2, w2 = w1.alloc (.cells #[.func (.func 42) #[] #[.pointer (some ⟨w.heap.size, 0, none⟩), .pointer (some ⟨w1.heap.size, 0, none⟩)]] 72) := ⟨_, rfl⟩
  have hb2 : Below w1.heap.size w1 w2 := by rw [hw2]; exact below_alloc _ _
  have hself : w2.cell? ⟨w1.heap.size, 0, none⟩ = some (.func (.func 42) #[] #[.pointer (some ⟨w.heap.size, 0, none⟩), .pointer (some ⟨w1.heap.size, 0, none⟩)]) := by rw [hw2]; exact cell_new1 _ _ _
  have hcell2 : w2.cell? ⟨w.heap.size, 0, none⟩ = some (.slice A n c) := (hb2.cell (World.block_lt_of_cell? _ _ hcell)).trans hcell
  rw [← hw2]
  have bel2 := below_on H1.out.below (Nat.le_refl _) hb2
  have SI : SideIn w2 w.heap.size w1.heap.size A n c ys := ⟨hcell2, hself, HX.out.1.below bel2, HX.out.2, hc, hn, hk.below bel2, hs.below bel2⟩
  have C := Lib.hid (side_any w.heap.size w1.heap.size A n c ys n 0 w2 SI h0 (by omega))
  have H2 := Lib.hid (And.intro (H1.out.res.below hb2) bel2)
  rw [Nat.zero_add] at C
  have C' : Hid (Calls Tryd.prog 42 #[.int .i64 0, .int .i64 (n : Int), .pointer (some ⟨w.heap.size, 0, none⟩), .pointer (some ⟨w1.heap.size, 0, none⟩)] w2 fun e w' => e = .returned (sv (rt (nth ys) 0 n)) ∧ Below w2.heap.size w2 w') := C
  clear C SI hw2 hb2 bel2 hcell
  obtain ⟨s, hs0⟩ : ∃ s, rt (nth ys) 0 n = s := ⟨_, rfl⟩
  rw [hs0] at C' hl
  have HS := Lib.hid hs0
  clear hs0
  go_wp2_with fail
  refine C'.out.mono ?_
  rintro e w3 ⟨rfl, hb3⟩
  have f3 := H2.out.1.below hb3
  have HZ32 := Lib.hid (show zero32.length = 32 from rfl)
  go_wp2_with (with_reducible refine wpList_store_sum rfl (.tmp 2) (.tmp 12) rfl (w.heap.size + 1) rfl zero32 s HZ32 hl f3 rfl ?_)
  refine bodyPost_ret_by (results_cell_row (p := 2) (ty := 36) (by kernel_rfl) _ _ (w.heap.size + 1) 36 (bvs s).toArray (0, 0) _ rfl (f3.setRow _) Tryd.underlying36 rfl (by rw [List.size_toArray, bvs_length, hl]; exact sizeSum)) rfl ?_
  exact ⟨by rw [HS.out]; rfl, below_setRow (below_on H2.out.2 (Nat.le_refl _) hb3) (by omega) _⟩

theorem root_any (A : Option Addr) (n c : Nat) (ys : List Nat) (w : World) (hin : InS w A n ys) (hx : ∀ x ∈ ys, x < 256) (hc : n ≤ c) (hn : n ≤ 65536) (hk : Knows w) (hs : Starts w) :
    Calls Tryd.prog 12 #[.slice A n c] w fun e w' => e = .returned (sv (rt (nth ys) 0 n)) ∧ Below w.heap.size w w' := by
  by_cases h0 : n = 0
  · subst h0; exact root_none A c _ w hk hs
  · exact root_some A n c ys w hin hx hc (by omega) hn hk hs

end Go.Proofs.YtnaebjdccngeoaaDoor

/-
  '[]api.Sum{..}' of one and of three, and a sum that is loaded, in a region that draws its order.
-/
namespace Go.Proofs.YtnaebjdccngeoaaDoor
open Go.RowKit

theorem vfold (l : List Value) : ∀ (pre suf tail : List Value) (base off : Nat), suf.length = l.length → pre.length = base + off →
    ((l.zipIdx off).foldl (fun (cs : Array Value) (x : Value × Nat) => cs.setIfInBounds (base + x.2) x.1) (pre ++ suf ++ tail).toArray) = (pre ++ l ++ tail).toArray := by
  induction l with
  | nil =>
    intro pre suf tail base off h _
    obtain rfl : suf = [] := List.eq_nil_of_length_eq_zero h
    rfl
  | cons x l ih =>
    intro pre suf tail base off h hp
    cases suf with
    | nil => simp at h
    | cons y suf =>
      rw [List.zipIdx_cons, List.foldl_cons]
      have e : (pre ++ y :: suf ++ tail).toArray.setIfInBounds (base + off) x = ((pre ++ [x]) ++ suf ++ tail).toArray := by
        rw [List.setIfInBounds_toArray, List.append_assoc, List.set_append_right _ _ (by omega), hp, Nat.sub_self, List.cons_append, List.set_cons_zero]
        simp
      rw [e, ih (pre ++ [x]) suf tail base (off + 1) (by simpa using h) (by rw [List.length_append, hp]; rfl)]
      simp

theorem fill_step (cs pre suf tail : List Value) (k : Nat) (rest : List (Nat × Value)) (hl : cs.length = 32) (hs : suf.length = 32) (hp : pre.length = k * 32) :
    Instr.fill (fun i => some (i * 32, 32)) (pre ++ suf ++ tail).toArray ((k, .agg cs.toArray) :: rest) = Instr.fill (fun i => some (i * 32, 32)) (pre ++ cs ++ tail).toArray rest := by
  have e := vfold cs pre suf tail (k * 32) 0 (by rw [hl, hs]) (by rw [hp]; rfl)
  have e2 : (cs.toArray.zipIdx.foldl (fun (c : Array Value) (x : Value × Nat) => c.setIfInBounds (k * 32 + x.2) x.1) (pre ++ suf ++ tail).toArray) = (pre ++ cs ++ tail).toArray := by
    rw [← Array.foldl_toList]
    have : cs.toArray.zipIdx.toList = cs.zipIdx 0 := by simp
    rw [this]
    exact e
  have hv : (Value.agg cs.toArray).cells = cs.toArray := rfl
  have hc : ¬ ((cs.toArray.size ≠ 32 || decide (k * 32 + cs.toArray.size > (pre ++ suf ++ tail).toArray.size)) = true) := by
    simp only [List.size_toArray, List.length_append, hl, hs, hp]
    simp
  rw [Instr.fill]
  simp only [hv]
  rw [if_neg hc]
  exact congrArg (fun c => Instr.fill (fun i => some (i * 32, 32)) c rest) e2

/-- A list of sums, one behind the other. -/
def flatS (ss : List (List Nat)) : List Nat := ss.flatten

theorem fill_all : ∀ (ss : List (List Nat)) (pre suf : List Value) (k : Nat), (∀ s ∈ ss, s.length = 32) → suf.length = 32 * ss.length → pre.length = k * 32 →
    Instr.fill (fun i => some (i * 32, 32)) (pre ++ suf).toArray ((ss.zipIdx k).map fun (p : List Nat × Nat) => (p.2, sv p.1)) = some (pre ++ bvs ss.flatten).toArray := by
  intro ss
  induction ss with
  | nil =>
    intro pre suf k _ hs _
    obtain rfl : suf = [] := List.eq_nil_of_length_eq_zero hs
    rfl
  | cons s ss ih =>
    intro pre suf k hl hs hp
    have hs0 := hl s (List.mem_cons_self ..)
    rw [List.length_cons] at hs
    rw [List.zipIdx_cons, List.map_cons]
    have hsplit : pre ++ suf = pre ++ suf.take 32 ++ suf.drop 32 := by rw [List.append_assoc, List.take_append_drop]
    have h1 := fill_step (bvs s) pre (suf.take 32) (suf.drop 32) k ((ss.zipIdx (k + 1)).map fun (p : List Nat × Nat) => (p.2, sv p.1)) (by rw [bvs_length, hs0]) (by rw [List.length_take]; omega) hp
    rw [hsplit]
    refine h1.trans ?_
    rw [ih (pre ++ bvs s) (suf.drop 32) (k + 1) (fun x hx => hl x (List.mem_cons_of_mem _ hx)) (by rw [List.length_drop]; omega) (by rw [List.length_append, bvs_length, hp, hs0]; omega), List.flatten_cons, bvs_append, List.append_assoc]

/-- The k-th sum of a list. -/
theorem nth_flatten : ∀ (ss : List (List Nat)), (∀ s ∈ ss, s.length = 32) → ∀ (k : Nat) (s : List Nat), ss[k]? = some s → nth ss.flatten k = s := by
  intro ss
  induction ss with
  | nil => intro _ k s h; simp at h
  | cons t ts ih =>
    intro hl k s h
    have ht := hl t (List.mem_cons_self ..)
    rw [List.flatten_cons, nth]
    cases k with
    | zero =>
      cases h
      rw [Nat.mul_zero, List.drop_zero, List.take_append_of_le_length (by omega), List.take_of_length_le (by omega)]
    | succ k =>
      rw [show 32 * (k + 1) = t.length + 32 * k by omega, List.drop_length_add_append]
      exact ih (fun x hx => hl x (List.mem_cons_of_mem _ hx)) k s h

/-- The operation, as a region that draws asks it. -/
theorem wp_sums {o : Oper} {a : Act} {w : World} {K : Act → World → Prop} {Q : Exit → Act → World → Prop} (parts : Array (Nat × Operand)) (ss : List (List Nat)) (n : Nat) (ho : o.op = .buildSlice 24 n parts) (hn : n = ss.length)
    (hx : (parts.map fun (i, x) => (i, a.eval x)).toList = (ss.zipIdx 0).map fun (p : List Nat × Nat) => (p.2, sv p.1)) (hl : ∀ s ∈ ss, s.length = 32) (h0 : 0 < n) (h9 : n ≤ 9)
    (h : K (a.put o.dst (.slice (some ⟨w.heap.size, 0, none⟩) n n)) (w.alloc (.cells (bvs ss.flatten).toArray 36))) : o.wp Tryd.prog a w K Q := by
  subst hn
  obtain ⟨i0, hi, hz0, hz1, hz2⟩ := info_parts infoSum
  refine wp_buildSlice 24 36 ss.length parts ho (bvs ss.flatten).toArray i0 _ Tryd.underlying24 hi hz0 (by rw [hz1]; omega) (by rw [hz1]; omega) ?_ h
  rw [hx, hz1]
  have := fill_all ss [] ((Array.range (ss.length * 32)).map ((Value.agg (Array.replicate 32 (.int .u8 0))).cells[· % (Value.agg (Array.replicate 32 (.int .u8 0))).cells.size]!)).toList 0 hl (by simp; omega) rfl
  rw [List.nil_append, Array.toArray_toList, List.nil_append] at this
  exact this

/-- A sum that is loaded, in every world that keeps it. -/
theorem yields_sum {ops : Array Oper} {S : World → Prop} {o : Oper} {a : Act} (hw : Region.wanted o (yielded ops a.tmps) = true) (x : Operand) (ho : o.op = .load 36 x)
    (ad : Addr) (hx : a.eval x = .pointer (some ad)) (s : List Nat) (hl : s.length = 32) (hc : ∀ w, S w → At w ad s) : YieldsIf Tryd.prog ops S o (sv s) a := by
  refine Or.inl ⟨hw, fun w hS => ?_⟩
  unfold execOp
  simp only [ho, hx, Instr.loadAt, Instr.sureAddr, Sem.run_bind, Sem.run_pure, Result.andThen_ok, run_load_sum w ad s hl (hc w hS)]

end Go.Proofs.YtnaebjdccngeoaaDoor

/-
  What the laws of layer 8 share: parts of a list of sums.
-/
namespace Go.Proofs.YtnaebjdccngeoaaDoor
open Go.RowKit

/-- The root of three, of one. -/
theorem nth_flat (x y z : List Nat) (hx : x.length = 32) (hy : y.length = 32) (hz : z.length = 32) : nth [x, y, z].flatten 0 = x ∧ nth [x, y, z].flatten 1 = y ∧ nth [x, y, z].flatten 2 = z := by
  have hl : ∀ s ∈ [x, y, z], s.length = 32 := by intro s hs; simp at hs; rcases hs with rfl | rfl | rfl; exact hx; exact hy; exact hz
  exact ⟨nth_flatten _ hl 0 x rfl, nth_flatten _ hl 1 y rfl, nth_flatten _ hl 2 z rfl⟩
theorem rt_three (x y z : List Nat) (hx : x.length = 32) (hy : y.length = 32) (hz : z.length = 32) : rt (nth [x, y, z].flatten) 0 3 = nodeL (nodeL x y) z := by
  obtain ⟨h0, h1, h2⟩ := nth_flat x y z hx hy hz
  have c3 : cutN 3 = 2 := by decide
  have c2 : cutN 2 = 1 := by decide
  rw [rt_cut _ 0 (by omega), c3, rt_cut _ 0 (by omega), c2, rt_one, rt_one, rt_one, h0, h1, h2]
theorem rt_single (x : List Nat) (hx : x.length = 32) : rt (nth [x].flatten) 0 1 = x := by
  rw [rt_one]; exact nth_flatten [x] (by intro s hs; simp at hs; rw [hs]; exact hx) 0 x rfl

/-- Root of a list that a literal made. -/
theorem root_new (B W : World) (ss : List (List Nat)) (n : Nat) (r : List Nat) (hn : n = ss.length) (hl : ∀ s ∈ ss, s.length = 32) (hb : ∀ s ∈ ss, ∀ x ∈ s, x < 256) (h9 : n ≤ 9) (hr : rt (nth ss.flatten) 0 n = r)
    (hB : Below B.heap.size B W) (hk : Knows B) (hs : Starts B) :
    Calls Tryd.prog 12 #[.slice (some ⟨W.heap.size, 0, none⟩) n n] (W.alloc (.cells (bvs ss.flatten).toArray 36)) fun e w' => e = .returned (sv r) ∧ Below B.heap.size B w' := by
  have b2 := hB.alloc hB.size (.cells (bvs ss.flatten).toArray 36)
  have hlen : ss.flatten.length = 32 * n := by
    rw [List.length_flatten, hn]
    clear hr hn hb b2
    induction ss with
    | nil => rfl
    | cons s ss ih =>
      rw [List.map_cons, List.sum_cons, ih (fun x hx => hl x (List.mem_cons_of_mem _ hx)), hl s (List.mem_cons_self ..), List.length_cons]
      omega
  have := root_any (some ⟨W.heap.size, 0, none⟩) n n ss.flatten _ ⟨hlen, (In.new' W ss.flatten 36).rd⟩ (by intro x hx; obtain ⟨s, hs, hxs⟩ := List.mem_flatten.1 hx; exact hb s hs x hxs) (Nat.le_refl _) (by omega) (hk.below b2) (hs.below b2)
  rw [hr] at this
  exact this.mono fun e w' ⟨he, hb'⟩ => ⟨he, below_on b2 (Nat.le_refl _) hb'⟩

theorem add_zero' (a : Addr) : a.add 0 = a := by unfold Addr.add; split <;> simp_all

theorem run_take_sums {ad : Addr} {n c k : Nat} (hk : k ≤ n) (hc : n ≤ c) (W : World) :
    (Instr.slice 24 (.slice (some ad) n c) none (some (.int .i64 (k : Int))) none).run Tryd.prog W = .ok (.slice (some ad) k c) W := by
  obtain ⟨i0, hi, hz0, hz1, hz2⟩ := info_parts infoSum
  have he : Tryd.prog.elem 24 = 36 := by kernel_rfl
  rw [run_slice_h W 24 (some ad) n c (by rw [he]; exact Tryd.underlying24) .i64 (k : Int) (by omega) (by omega), he]
  simp [sizeOf, typeInfo, hi, hz1, sliced, add_zero']

theorem run_drop_sums {ad : Addr} {n c k : Nat} (hk : k < n) (hc : n ≤ c) (W : World) :
    (Instr.slice 24 (.slice (some ad) n c) (some (.int .i64 (k : Int))) none none).run Tryd.prog W = .ok (.slice (some (ad.add (k * 32))) (n - k) (c - k)) W := by
  obtain ⟨i0, hi, hz0, hz1, hz2⟩ := info_parts infoSum
  have he : Tryd.prog.elem 24 = 36 := by kernel_rfl
  rw [run_slice_l W 24 (some ad) n c (by rw [he]; exact Tryd.underlying24) .i64 (k : Int) (by omega) (by omega), he]
  have hne : c ≠ k := by omega
  simp [sizeOf, typeInfo, hi, hz1, sliced, hne]

theorem nth_take {ys : List Nat} {k j : Nat} (h : j < k) : nth (ys.take (32 * k)) j = nth ys j := by
  rw [nth, nth, List.drop_take, List.take_take, Nat.min_eq_left (by omega)]
theorem nth_drop (ys : List Nat) (k j : Nat) : nth (ys.drop (32 * k)) j = nth ys (k + j) := by
  rw [nth, nth, List.drop_drop, Nat.mul_add]
theorem rt_take (ys : List Nat) (k : Nat) : rt (nth (ys.take (32 * k))) 0 k = rt (nth ys) 0 k := rt_congr _ _ k 0 0 fun j hj => by rw [Nat.zero_add]; exact nth_take hj
theorem rt_drop (ys : List Nat) (k m : Nat) : rt (nth (ys.drop (32 * k))) 0 m = rt (nth ys) k m := rt_congr _ _ m 0 k fun j _ => by rw [Nat.zero_add]; exact nth_drop ys k j

theorem InS.some_ {w : World} {A : Option Addr} {n : Nat} {ys : List Nat} (h : InS w A n ys) (hn : 0 < n) : ∃ ad, A = some ad := by
  obtain ⟨ad, e, _⟩ := h.at_ hn
  exact ⟨ad, e⟩
theorem InS.drop_ {w : World} {ad : Addr} {n : Nat} {ys : List Nat} (h : InS w (some ad) n ys) (k : Nat) (hk : k ≤ n) : InS w (some (ad.add (k * 32))) (n - k) (ys.drop (32 * k)) :=
  ⟨by rw [List.length_drop, h.len]; omega, by rw [Nat.mul_comm k]; exact h.rd.drop (32 * k)⟩

/-- A contract, from a world that came later. -/
theorem later {P : Program} {f : FuncId} {args : Array Value} {B W : World} {v v' : Value} (hW : Below B.heap.size B W) (hv : v = v')
    (h : Calls P f args W fun e w' => e = .returned v ∧ Below W.heap.size W w') : Calls P f args W fun e w' => e = .returned v' ∧ Below B.heap.size B w' :=
  h.mono fun _ _ ⟨he, hb⟩ => ⟨by rw [he, hv], below_on hW (Nat.le_refl _) hb⟩

/-- A sum that is asked for behind '&&'. -/
theorem wpList_load_sum_g {ops : Array Oper} {rest : List Oper} {o : Oper} {a : Act} {w : World} {Q : Exit → Act → World → Prop} (hw : Region.wanted o (yielded ops a.tmps) = true) (x : Operand) (ho : o.op = .load 36 x)
    (ad : Addr) (hx : a.eval x = .pointer (some ad)) (s : List Nat) (hl : s.length = 32) (hc : At w ad s)
    (h : wpList Tryd.prog ops Q rest (a.put o.dst (sv s)) w) : wpList Tryd.prog ops Q (o :: rest) a w := by
  refine wpList_step fun K hK => ?_
  rw [if_pos hw]
  unfold Oper.wp execOp
  simp only [ho, hx, Instr.loadAt, Instr.sureAddr, Sem.run_bind, Sem.run_pure, Result.andThen_ok, run_load_sum w ad s hl hc]
  exact hK _ _ h

end Go.Proofs.YtnaebjdccngeoaaDoor

/-
  almonerlaw14.KeysOf.
-/
namespace Go.Proofs.YtnaebjdccngeoaaDoor
open Go.RowKit

set_option maxRecDepth 100000 in
set_option maxHeartbeats 8000000 in
theorem keysOf_law (w : World) (hk : Knows w) (hks : Starts w) {t n c : Nat} {z d : Int} {a b v : List Nat} {A : Option Addr} (ht : t < 4294967296) (hz : -9223372036854775808 ≤ z ∧ z ≤ 9223372036854775807) (hd : -9223372036854775808 ≤ d ∧ d ≤ 9223372036854775807)
    (la : a.length = 32) (ba : ∀ x ∈ a, x < 256) (lb : b.length = 32) (bb : ∀ x ∈ b, x < 256) (hv : Came w A n c v) :
    Calls Tryd.prog 4 #[.agg (askedL t z d a b A n c).toArray] w fun e w' => e = .returned (.bool true) ∧ Below w.heap.size w w' := by
  obtain ⟨g, hg⟩ : ∃ g, w.heap.size = g := ⟨_, rfl⟩
  have c1 := asked_new w (t := t) (z := z) (d := d) (A := A) (n := n) (c := c) la lb
  have b1 := below_alloc w (.cells (askedL t z d a b A n c).toArray 43)
  obtain ⟨w1, hw1⟩ : ∃ x, x = w.alloc (.cells (askedL t z d a b A n c).toArray 43) := ⟨_, rfl⟩
  rw [← hw1] at c1 b1
  have b01 := b1
  rw [hg] at c1 b01
  have HW := Lib.hid hw1
  have HG := Lib.hid hg
  have HC := Lib.hid (fun (W : World) (hW : Below w1.heap.size w1 W) => show AskedAt W g t z d a b A n c from c1.below hW)
  have H1 := Lib.hid b01
  have hcn := c1.v
  have HV := Lib.hid (hv.below b1)
  have HK := Lib.hid (And.intro (hk.below b1) (hks.below b1))
  rw [hg]
  by_cases hbig : 20000 < n
  · have hb2 : (20000 : Int) < (n : Int) := by omega
    clear hw1 hg c1 b1 b01 hk hks la ba lb bb hv
    go_enter Tryd.func4, Tryd.ntmps4
    go_upto_region 1 with fail
    rw [← HW.out]
    rw [HG.out]
    go_wp2_with fail
    go_ret
    exact ⟨rfl, H1.out⟩
  · have hb2 : ¬ (20000 : Int) < (n : Int) := by omega
    have CT := Lib.hid (twinBytes_any A n c v w1 HV.out.in_ (by omega))
    obtain ⟨sK, hsK⟩ : ∃ s, keyL t z = s := ⟨_, rfl⟩
    have lK : sK.length = 32 := by rw [← hsK]; exact keyL_length _ _
    obtain ⟨sE, hsE⟩ : ∃ s, emptyZ d = s := ⟨_, rfl⟩
    have lE : sE.length = 32 := by rw [← hsE]; exact emptyZ_length _
    obtain ⟨sV, hsV⟩ : ∃ s, valueL a v = s := ⟨_, rfl⟩
    have lV : sV.length = 32 := by rw [← hsV]; exact valueL_length _ _
    obtain ⟨sX, hsX⟩ : ∃ s, sideL a b = s := ⟨_, rfl⟩
    have lX : sX.length = 32 := by rw [← hsX]; exact sideL_length _ _
    obtain ⟨q, hq⟩ : ∃ q, bitZ a d = q := ⟨_, rfl⟩
    have HLS := Lib.hid (And.intro lK (And.intro lE (And.intro lV lX)))
    have C1 := Lib.hid (fun (W : World) (hW : Below w1.heap.size w1 W) => show Calls Tryd.prog 17 #[.int .u32 (t : Int), .int .i64 z] W fun e w' => e = .returned (sv sK) ∧ Below W.heap.size W w' from by rw [← hsK]; exact jof_any t z W (HK.out.1.below hW) (HK.out.2.below hW) ht hz)
    have C2 := Lib.hid (fun (W : World) (_ : Below w1.heap.size w1 W) => show Calls Tryd.prog 18 #[.int .u32 (t : Int), .int .i64 z] W fun e w' => e = .returned (sv sK) ∧ Below W.heap.size W w' from by rw [← hsK]; exact jrefOf_any t z W ht hz)
    have C3 := Lib.hid (fun (W : World) (_ : Below w1.heap.size w1 W) => show Calls Tryd.prog 19 #[sv a, .int .i64 d] W fun e w' => e = .returned (.int .i64 (q : Int)) ∧ Below W.heap.size W w' from by rw [← hq]; exact jbit_any a d W la ba hd)
    have C4 := Lib.hid (fun (W : World) (_ : Below w1.heap.size w1 W) => show Calls Tryd.prog 20 #[sv a, .int .i64 d] W fun e w' => e = .returned (.int .i64 (q : Int)) ∧ Below W.heap.size W w' from by rw [← hq]; exact jrefBit_any a d W la ba hd)
    have C5 := Lib.hid (fun (W : World) (hW : Below w1.heap.size w1 W) => show Calls Tryd.prog 21 #[.int .i64 d] W fun e w' => e = .returned (sv sE) ∧ Below W.heap.size W w' from by rw [← hsE]; exact jempty_any d W (HK.out.1.below hW) (HK.out.2.below hW) hd)
    have C6 := Lib.hid (fun (W : World) (_ : Below w1.heap.size w1 W) => show Calls Tryd.prog 22 #[.int .i64 d] W fun e w' => e = .returned (sv sE) ∧ Below W.heap.size W w' from by rw [← hsE]; exact jrefEmpty_any d W hd)
    have C8 := Lib.hid (fun (W : World) (hW : Below w1.heap.size w1 W) => show Calls Tryd.prog 24 #[sv a, .slice A n c] W fun e w' => e = .returned (sv sV) ∧ Below W.heap.size W w' from by rw [← hsV]; exact jrefValue_any a A n c v W la ba (HV.out.below hW) (by omega))
    have C9 := Lib.hid (fun (W : World) (hW : Below w1.heap.size w1 W) => show Calls Tryd.prog 25 #[sv a, sv b] W fun e w' => e = .returned (sv sX) ∧ Below W.heap.size W w' from by rw [← hsX]; exact jside_any a b W la lb ba bb (HK.out.1.below hW) (HK.out.2.below hW))
    have C10 := Lib.hid (fun (W : World) (_ : Below w1.heap.size w1 W) => show Calls Tryd.prog 26 #[sv a, sv b] W fun e w' => e = .returned (sv sX) ∧ Below W.heap.size W w' from by rw [← hsX]; exact jrefSide_any a b W la lb ba bb)
    have HL := Lib.hid (And.intro la (And.intro ba (And.intro lb bb)))
    have HSV := Lib.hid hsV
    clear hw1 hg c1 b1 b01 hk hks la ba lb bb hv hsK lK hsE lE hsV lV hsX lX hq
    go_enter Tryd.func4, Tryd.ntmps4
    go_upto_region 1 with fail
    rw [← HW.out]
    rw [HG.out]
    go_wp2_with fail
    refine CT.out.mono ?_
    rintro e w2 ⟨rfl, htw, hb2⟩
    obtain ⟨p, hp⟩ : ∃ p, w1.heap.size = p := ⟨_, rfl⟩
    rw [hp] at htw ⊢
    have HTW := Lib.hid htw
    have HPP := Lib.hid hp
    have hB0 := hb2
    have C7 := Lib.hid (fun (W : World) (hW : Below w2.heap.size w2 W) (h1 : Below w1.heap.size w1 W) => show Calls Tryd.prog 23 #[sv a, .slice (some ⟨p, 0, none⟩) n (n + 1)] W fun e w' => e = .returned (sv sV) ∧ Below W.heap.size W w' from by
      rw [← HSV.out]
      exact jvalue_any a (some ⟨p, 0, none⟩) n (n + 1) v W HL.out.1 HL.out.2.1 ⟨(HTW.out.below hW).in_, HV.out.lt, (fun e => by cases e), by omega⟩ (by omega) (HK.out.1.below h1) (HK.out.2.below h1))
    have CL := Lib.hid (fun (W : World) (hW : Below w2.heap.size w2 W) (h1 : Below w1.heap.size w1 W) => show Calls Tryd.prog 27 #[.slice (some ⟨p, 0, none⟩) n (n + 1), .slice A n c] W fun e w' => e = .returned (.bool true) ∧ Below W.heap.size W w' from
      (leftBytes_yes A p n c v W (HTW.out.below hW) (HV.out.below h1).in_ (by omega)).mono fun e w' ⟨h, m, hm⟩ => ⟨h, by rw [hm]; exact ⟨rfl, rfl, rfl, Nat.le_refl _, fun _ _ => rfl⟩⟩)
    have hC0 : Below w2.heap.size w2 w2 := Below.refl _ _
    clear htw hp hb2 hcn
    have HT2 := Lib.hid (fun (W : World) (hW : Below w2.heap.size w2 W) => show W.cell? ⟨g, 0, none⟩ = some (.int .u32 (t : Int)) from (HC.out W (below_on hB0 (Nat.le_refl _) hW)).tenant)
    have HR2 := Lib.hid (fun (W : World) (hW : Below w2.heap.size w2 W) => show W.cell? ⟨g, 1, none⟩ = some (.int .i64 z) from (HC.out W (below_on hB0 (Nat.le_refl _) hW)).resource)
    have HD2 := Lib.hid (fun (W : World) (hW : Below w2.heap.size w2 W) => show W.cell? ⟨g, 2, none⟩ = some (.int .i64 d) from (HC.out W (below_on hB0 (Nat.le_refl _) hW)).depth)
    have HV2 := Lib.hid (fun (W : World) (hW : Below w2.heap.size w2 W) => show W.cell? ⟨g, 67, none⟩ = some (.slice A n c) from (HC.out W (below_on hB0 (Nat.le_refl _) hW)).v)
    have HA2 := Lib.hid (fun (W : World) (hW : Below w2.heap.size w2 W) => show AskedAt W g t z d a b A n c from HC.out W (below_on hB0 (Nat.le_refl _) hW))
    have HB0 := Lib.hid hB0
    clear hB0 hC0
    go_upto_region 4 with fail
    simp only [List.append_eq, List.cons_append, List.nil_append]
    have hSa1 : Below w2.heap.size w2 w2.drew := (Below.refl _ _).drew
    refine wp_region_held_drew (S := fun W => Below w2.heap.size w2 W) (by kernel_rfl) (hSa1) (fun _ => ?_)
    change wpAnyH _ _ _ _ _ _ _ _ w2.drew
    generalize w2.drew = Wa2 at hSa1 ⊢
    refine' wpAnyH_take (i := 0) (oi := _) (v := _) ?hia3 (by kernel_rfl) ?hfa3 ?hra3 ?hQa3 ?hya3 (hSa1) ?resta3
    case hia3 => (simp only [List.getElem?_toArray, List.getElem?_cons_zero]; rfl)
    case hfa3 => kernel_rfl
    case hra3 => kernel_rfl
    case hQa3 => exact fun _ _ _ h => h
    case hya3 => refine Or.inl ⟨by rfl, ?_⟩; intro W hSw; go_simp; try with_reducible rfl
    try simp only [Act.put, List.setIfInBounds_toArray, List.set_cons_zero, List.set_cons_succ]
    refine' wpAnyH_take (i := 1) (oi := _) (v := .int .u32 (t : Int)) ?hia4 (by kernel_rfl) ?hfa4 ?hra4 ?hQa4 ?hya4 (hSa1) ?resta4
    case hia4 => (simp only [List.getElem?_toArray, List.getElem?_cons_zero, List.getElem?_cons_succ]; rfl)
    case hfa4 => kernel_rfl
    case hra4 => kernel_rfl
    case hQa4 => exact fun _ _ _ h => h
    case hya4 => refine Or.inl ⟨by rfl, ?_⟩; intro W hSw; have hcc := HT2.out W hSw; go_simp; try with_reducible rfl
    try simp only [Act.put, List.setIfInBounds_toArray, List.set_cons_zero, List.set_cons_succ]
    refine' wpAnyH_take (i := 2) (oi := _) (v := _) ?hia5 (by kernel_rfl) ?hfa5 ?hra5 ?hQa5 ?hya5 (hSa1) ?resta5
    case hia5 => (simp only [List.getElem?_toArray, List.getElem?_cons_zero, List.getElem?_cons_succ]; rfl)
    case hfa5 => kernel_rfl
    case hra5 => kernel_rfl
    case hQa5 => exact fun _ _ _ h => h
    case hya5 => refine Or.inl ⟨by rfl, ?_⟩; intro W hSw; go_simp; try with_reducible rfl
    try simp only [Act.put, List.setIfInBounds_toArray, List.set_cons_zero, List.set_cons_succ]
    refine' wpAnyH_take (i := 3) (oi := _) (v := .int .i64 z) ?hia6 (by kernel_rfl) ?hfa6 ?hra6 ?hQa6 ?hya6 (hSa1) ?resta6
    case hia6 => (simp only [List.getElem?_toArray, List.getElem?_cons_zero, List.getElem?_cons_succ]; rfl)
    case hfa6 => kernel_rfl
    case hra6 => kernel_rfl
    case hQa6 => exact fun _ _ _ h => h
    case hya6 => refine Or.inl ⟨by rfl, ?_⟩; intro W hSw; have hcc := HR2.out W hSw; go_simp; try with_reducible rfl
    try simp only [Act.put, List.setIfInBounds_toArray, List.set_cons_zero, List.set_cons_succ]
    refine' wpAnyH_take (i := 5) (oi := _) (v := _) ?hia7 (by kernel_rfl) ?hfa7 ?hra7 ?hQa7 ?hya7 (hSa1) ?resta7
    case hia7 => (simp only [List.getElem?_toArray, List.getElem?_cons_zero, List.getElem?_cons_succ]; rfl)
    case hfa7 => kernel_rfl
    case hra7 => kernel_rfl
    case hQa7 => exact fun _ _ _ h => h
    case hya7 => refine Or.inl ⟨by rfl, ?_⟩; intro W hSw; go_simp; try with_reducible rfl
    try simp only [Act.put, List.setIfInBounds_toArray, List.set_cons_zero, List.set_cons_succ]
    refine' wpAnyH_take (i := 6) (oi := _) (v := .int .u32 (t : Int)) ?hia8 (by kernel_rfl) ?hfa8 ?hra8 ?hQa8 ?hya8 (hSa1) ?resta8
    case hia8 => (simp only [List.getElem?_toArray, List.getElem?_cons_zero, List.getElem?_cons_succ]; rfl)
    case hfa8 => kernel_rfl
    case hra8 => kernel_rfl
    case hQa8 => exact fun _ _ _ h => h
    case hya8 => refine Or.inl ⟨by rfl, ?_⟩; intro W hSw; have hcc := HT2.out W hSw; go_simp; try with_reducible rfl
    try simp only [Act.put, List.setIfInBounds_toArray, List.set_cons_zero, List.set_cons_succ]
    refine' wpAnyH_take (i := 7) (oi := _) (v := _) ?hia9 (by kernel_rfl) ?hfa9 ?hra9 ?hQa9 ?hya9 (hSa1) ?resta9
    case hia9 => (simp only [List.getElem?_toArray, List.getElem?_cons_zero, List.getElem?_cons_succ]; rfl)
    case hfa9 => kernel_rfl
    case hra9 => kernel_rfl
    case hQa9 => exact fun _ _ _ h => h
    case hya9 => refine Or.inl ⟨by rfl, ?_⟩; intro W hSw; go_simp; try with_reducible rfl
    try simp only [Act.put, List.setIfInBounds_toArray, List.set_cons_zero, List.set_cons_succ]
    refine' wpAnyH_take (i := 8) (oi := _) (v := .int .i64 z) ?hia10 (by kernel_rfl) ?hfa10 ?hra10 ?hQa10 ?hya10 (hSa1) ?resta10
    case hia10 => (simp only [List.getElem?_toArray, List.getElem?_cons_zero, List.getElem?_cons_succ]; rfl)
    case hfa10 => kernel_rfl
    case hra10 => kernel_rfl
    case hQa10 => exact fun _ _ _ h => h
    case hya10 => refine Or.inl ⟨by rfl, ?_⟩; intro W hSw; have hcc := HR2.out W hSw; go_simp; try with_reducible rfl
    try simp only [Act.put, List.setIfInBounds_toArray, List.set_cons_zero, List.set_cons_succ]
    refine wpAnyH_ready (rs := [4]) (by kernel_rfl) (by simp) ?_
    refine' (AllReadyH.cons (o := _) ?hia11 (fun K hK => ?_) AllReadyH.nil)
    case hia11 => (simp only [List.getElem?_toArray, List.getElem?_cons_zero, List.getElem?_cons_succ]; rfl)
    go_simp
    go_at_call 17
    refine (C1.out Wa2 (below_on HB0.out (Nat.le_refl _) hSa1)).mono ?_
    rintro e Wa14 ⟨rfl, hba12⟩
    have hBa13 := below_on hSa1 (Nat.le_refl _) hba12
    refine hK.out _ _ (hBa13) (fun _ => ?_)
    clear hK K
    try simp only [Act.put, List.setIfInBounds_toArray, List.set_cons_zero, List.set_cons_succ]
    refine wpAnyH_ready (rs := [9]) (by kernel_rfl) (by simp) ?_
    refine' (AllReadyH.cons (o := _) ?hia15 (fun K hK => ?_) AllReadyH.nil)
    case hia15 => (simp only [List.getElem?_toArray, List.getElem?_cons_zero, List.getElem?_cons_succ]; rfl)
    go_simp
    go_at_call 18
    refine (C2.out Wa14 (below_on HB0.out (Nat.le_refl _) hBa13)).mono ?_
    rintro e Wa18 ⟨rfl, hba16⟩
    have hBa17 := below_on hBa13 (Nat.le_refl _) hba16
    refine hK.out _ _ (hBa17) (fun _ => ?_)
    clear hK K
    try simp only [Act.put, List.setIfInBounds_toArray, List.set_cons_zero, List.set_cons_succ]
    refine' wpAnyH_take (i := 10) (oi := _) (v := .bool true) ?hia19 (by kernel_rfl) ?hfa19 ?hra19 ?hQa19 ?hya19 (hBa17) ?resta19
    case hia19 => (simp only [List.getElem?_toArray, List.getElem?_cons_zero, List.getElem?_cons_succ]; rfl)
    case hfa19 => kernel_rfl
    case hra19 => kernel_rfl
    case hQa19 => exact fun _ _ _ h => h
    case hya19 => refine Or.inl ⟨by rfl, ?_⟩; intro W hSw; exact jeql_op (.tmp 15) (.tmp 20) (by rfl) (by rfl) (by rfl) HLS.out.1
    try simp only [Act.put, List.setIfInBounds_toArray, List.set_cons_zero, List.set_cons_succ]
    refine' wpAnyH_take (i := 11) (oi := _) (v := _) ?hia20 (by kernel_rfl) ?hfa20 ?hra20 ?hQa20 ?hya20 (hBa17) ?resta20
    case hia20 => (simp only [List.getElem?_toArray, List.getElem?_cons_zero, List.getElem?_cons_succ]; rfl)
    case hfa20 => kernel_rfl
    case hra20 => kernel_rfl
    case hQa20 => exact fun _ _ _ h => h
    case hya20 => refine Or.inl ⟨by rfl, ?_⟩; intro W hSw; go_simp; try with_reducible rfl
    try simp only [Act.put, List.setIfInBounds_toArray, List.set_cons_zero, List.set_cons_succ]
    refine' wpAnyH_take (i := 12) (oi := _) (v := _) ?hia21 (by kernel_rfl) ?hfa21 ?hra21 ?hQa21 ?hya21 (hBa17) ?resta21
    case hia21 => (simp only [List.getElem?_toArray, List.getElem?_cons_zero, List.getElem?_cons_succ]; rfl)
    case hfa21 => kernel_rfl
    case hra21 => kernel_rfl
    case hQa21 => exact fun _ _ _ h => h
    case hya21 => refine Or.inl ⟨by rfl, ?_⟩; intro W hSw; go_simp; try with_reducible rfl
    try simp only [Act.put, List.setIfInBounds_toArray, List.set_cons_zero, List.set_cons_succ]
    refine' wpAnyH_take (i := 13) (oi := _) (v := sv a) ?hia22 (by kernel_rfl) ?hfa22 ?hra22 ?hQa22 ?hya22 (hBa17) ?resta22
    case hia22 => (simp only [List.getElem?_toArray, List.getElem?_cons_zero, List.getElem?_cons_succ]; rfl)
    case hfa22 => kernel_rfl
    case hra22 => kernel_rfl
    case hQa22 => exact fun _ _ _ h => h
    case hya22 => refine Or.inl ⟨by rfl, ?_⟩; intro W hSw; exact jload_sum_op (.tmp 23) (by rfl) (by rfl) HL.out.1 (HA2.out W hSw).l
    try simp only [Act.put, List.setIfInBounds_toArray, List.set_cons_zero, List.set_cons_succ]
    refine' wpAnyH_take (i := 14) (oi := _) (v := _) ?hia23 (by kernel_rfl) ?hfa23 ?hra23 ?hQa23 ?hya23 (hBa17) ?resta23
    case hia23 => (simp only [List.getElem?_toArray, List.getElem?_cons_zero, List.getElem?_cons_succ]; rfl)
    case hfa23 => kernel_rfl
    case hra23 => kernel_rfl
    case hQa23 => exact fun _ _ _ h => h
    case hya23 => refine Or.inl ⟨by rfl, ?_⟩; intro W hSw; go_simp; try with_reducible rfl
    try simp only [Act.put, List.setIfInBounds_toArray, List.set_cons_zero, List.set_cons_succ]
    refine' wpAnyH_take (i := 15) (oi := _) (v := .int .i64 d) ?hia24 (by kernel_rfl) ?hfa24 ?hra24 ?hQa24 ?hya24 (hBa17) ?resta24
    case hia24 => (simp only [List.getElem?_toArray, List.getElem?_cons_zero, List.getElem?_cons_succ]; rfl)
    case hfa24 => kernel_rfl
    case hra24 => kernel_rfl
    case hQa24 => exact fun _ _ _ h => h
    case hya24 => refine Or.inl ⟨by rfl, ?_⟩; intro W hSw; have hcc := HD2.out W hSw; go_simp; try with_reducible rfl
    try simp only [Act.put, List.setIfInBounds_toArray, List.set_cons_zero, List.set_cons_succ]
    refine' wpAnyH_take (i := 17) (oi := _) (v := _) ?hia25 (by kernel_rfl) ?hfa25 ?hra25 ?hQa25 ?hya25 (hBa17) ?resta25
    case hia25 => (simp only [List.getElem?_toArray, List.getElem?_cons_zero, List.getElem?_cons_succ]; rfl)
    case hfa25 => kernel_rfl
    case hra25 => kernel_rfl
    case hQa25 => exact fun _ _ _ h => h
    case hya25 => refine Or.inl ⟨by rfl, ?_⟩; intro W hSw; go_simp; try with_reducible rfl
    try simp only [Act.put, List.setIfInBounds_toArray, List.set_cons_zero, List.set_cons_succ]
    refine' wpAnyH_take (i := 18) (oi := _) (v := sv a) ?hia26 (by kernel_rfl) ?hfa26 ?hra26 ?hQa26 ?hya26 (hBa17) ?resta26
    case hia26 => (simp only [List.getElem?_toArray, List.getElem?_cons_zero, List.getElem?_cons_succ]; rfl)
    case hfa26 => kernel_rfl
    case hra26 => kernel_rfl
    case hQa26 => exact fun _ _ _ h => h
    case hya26 => refine Or.inl ⟨by rfl, ?_⟩; intro W hSw; exact jload_sum_op (.tmp 28) (by rfl) (by rfl) HL.out.1 (HA2.out W hSw).l
    try simp only [Act.put, List.setIfInBounds_toArray, List.set_cons_zero, List.set_cons_succ]
    refine' wpAnyH_take (i := 19) (oi := _) (v := _) ?hia27 (by kernel_rfl) ?hfa27 ?hra27 ?hQa27 ?hya27 (hBa17) ?resta27
    case hia27 => (simp only [List.getElem?_toArray, List.getElem?_cons_zero, List.getElem?_cons_succ]; rfl)
    case hfa27 => kernel_rfl
    case hra27 => kernel_rfl
    case hQa27 => exact fun _ _ _ h => h
    case hya27 => refine Or.inl ⟨by rfl, ?_⟩; intro W hSw; go_simp; try with_reducible rfl
    try simp only [Act.put, List.setIfInBounds_toArray, List.set_cons_zero, List.set_cons_succ]
    refine' wpAnyH_take (i := 20) (oi := _) (v := .int .i64 d) ?hia28 (by kernel_rfl) ?hfa28 ?hra28 ?hQa28 ?hya28 (hBa17) ?resta28
    case hia28 => (simp only [List.getElem?_toArray, List.getElem?_cons_zero, List.getElem?_cons_succ]; rfl)
    case hfa28 => kernel_rfl
    case hra28 => kernel_rfl
    case hQa28 => exact fun _ _ _ h => h
    case hya28 => refine Or.inl ⟨by rfl, ?_⟩; intro W hSw; have hcc := HD2.out W hSw; go_simp; try with_reducible rfl
    try simp only [Act.put, List.setIfInBounds_toArray, List.set_cons_zero, List.set_cons_succ]
    refine wpAnyH_ready (rs := [16]) (by kernel_rfl) (by simp) ?_
    refine' (AllReadyH.cons (o := _) ?hia29 (fun K hK => ?_) AllReadyH.nil)
    case hia29 => (simp only [List.getElem?_toArray, List.getElem?_cons_zero, List.getElem?_cons_succ]; rfl)
    go_simp
    go_at_call 19
    refine (C3.out Wa18 (below_on HB0.out (Nat.le_refl _) hBa17)).mono ?_
    rintro e Wa32 ⟨rfl, hba30⟩
    have hBa31 := below_on hBa17 (Nat.le_refl _) hba30
    refine hK.out _ _ (hBa31) (fun _ => ?_)
    clear hK K
    try simp only [Act.put, List.setIfInBounds_toArray, List.set_cons_zero, List.set_cons_succ]
    refine wpAnyH_ready (rs := [21]) (by kernel_rfl) (by simp) ?_
    refine' (AllReadyH.cons (o := _) ?hia33 (fun K hK => ?_) AllReadyH.nil)
    case hia33 => (simp only [List.getElem?_toArray, List.getElem?_cons_zero, List.getElem?_cons_succ]; rfl)
    go_simp
    go_at_call 20
    refine (C4.out Wa32 (below_on HB0.out (Nat.le_refl _) hBa31)).mono ?_
    rintro e Wa36 ⟨rfl, hba34⟩
    have hBa35 := below_on hBa31 (Nat.le_refl _) hba34
    refine hK.out _ _ (hBa35) (fun _ => ?_)
    clear hK K
    try simp only [Act.put, List.setIfInBounds_toArray, List.set_cons_zero, List.set_cons_succ]
    refine' wpAnyH_take (i := 22) (oi := _) (v := _) ?hia37 (by kernel_rfl) ?hfa37 ?hra37 ?hQa37 ?hya37 (hBa35) ?resta37
    case hia37 => (simp only [List.getElem?_toArray, List.getElem?_cons_zero, List.getElem?_cons_succ]; rfl)
    case hfa37 => kernel_rfl
    case hra37 => kernel_rfl
    case hQa37 => exact fun _ _ _ h => h
    case hya37 => refine Or.inl ⟨by rfl, ?_⟩; intro W hSw; go_simp; try with_reducible rfl
    try simp only [Act.put, List.setIfInBounds_toArray, List.set_cons_zero, List.set_cons_succ]
    refine' wpAnyH_take (i := 23) (oi := _) (v := _) ?hia38 (by kernel_rfl) ?hfa38 ?hra38 ?hQa38 ?hya38 (hBa35) ?resta38
    case hia38 => (simp only [List.getElem?_toArray, List.getElem?_cons_zero, List.getElem?_cons_succ]; rfl)
    case hfa38 => kernel_rfl
    case hra38 => kernel_rfl
    case hQa38 => exact fun _ _ _ h => h
    case hya38 => refine Or.inl ⟨by rfl, ?_⟩; intro W hSw; go_simp; try with_reducible rfl
    try simp only [Act.put, List.setIfInBounds_toArray, List.set_cons_zero, List.set_cons_succ]
    refine' wpAnyH_take (i := 24) (oi := _) (v := _) ?hia39 (by kernel_rfl) ?hfa39 ?hra39 ?hQa39 ?hya39 (hBa35) ?resta39
    case hia39 => (simp only [List.getElem?_toArray, List.getElem?_cons_zero, List.getElem?_cons_succ]; rfl)
    case hfa39 => kernel_rfl
    case hra39 => kernel_rfl
    case hQa39 => exact fun _ _ _ h => h
    case hya39 => refine Or.inl ⟨by rfl, ?_⟩; intro W hSw; go_simp; try with_reducible rfl
    try simp only [Act.put, List.setIfInBounds_toArray, List.set_cons_zero, List.set_cons_succ]
    refine' wpAnyH_take (i := 25) (oi := _) (v := _) ?hia40 (by kernel_rfl) ?hfa40 ?hra40 ?hQa40 ?hya40 (hBa35) ?resta40
    case hia40 => (simp only [List.getElem?_toArray, List.getElem?_cons_zero, List.getElem?_cons_succ]; rfl)
    case hfa40 => kernel_rfl
    case hra40 => kernel_rfl
    case hQa40 => exact fun _ _ _ h => h
    case hya40 => refine Or.inl ⟨by rfl, ?_⟩; intro W hSw; go_simp; try with_reducible rfl
    try simp only [Act.put, List.setIfInBounds_toArray, List.set_cons_zero, List.set_cons_succ]
    refine' wpAnyH_take (i := 26) (oi := _) (v := .int .i64 d) ?hia41 (by kernel_rfl) ?hfa41 ?hra41 ?hQa41 ?hya41 (hBa35) ?resta41
    case hia41 => (simp only [List.getElem?_toArray, List.getElem?_cons_zero, List.getElem?_cons_succ]; rfl)
    case hfa41 => kernel_rfl
    case hra41 => kernel_rfl
    case hQa41 => exact fun _ _ _ h => h
    case hya41 => refine Or.inl ⟨by rfl, ?_⟩; intro W hSw; have hcc := HD2.out W hSw; go_simp; try with_reducible rfl
    try simp only [Act.put, List.setIfInBounds_toArray, List.set_cons_zero, List.set_cons_succ]
    refine' wpAnyH_take (i := 28) (oi := _) (v := _) ?hia42 (by kernel_rfl) ?hfa42 ?hra42 ?hQa42 ?hya42 (hBa35) ?resta42
    case hia42 => (simp only [List.getElem?_toArray, List.getElem?_cons_zero, List.getElem?_cons_succ]; rfl)
    case hfa42 => kernel_rfl
    case hra42 => kernel_rfl
    case hQa42 => exact fun _ _ _ h => h
    case hya42 => refine Or.inl ⟨by rfl, ?_⟩; intro W hSw; go_simp; try with_reducible rfl
    try simp only [Act.put, List.setIfInBounds_toArray, List.set_cons_zero, List.set_cons_succ]
    refine' wpAnyH_take (i := 29) (oi := _) (v := .int .i64 d) ?hia43 (by kernel_rfl) ?hfa43 ?hra43 ?hQa43 ?hya43 (hBa35) ?resta43
    case hia43 => (simp only [List.getElem?_toArray, List.getElem?_cons_zero, List.getElem?_cons_succ]; rfl)
    case hfa43 => kernel_rfl
    case hra43 => kernel_rfl
    case hQa43 => exact fun _ _ _ h => h
    case hya43 => refine Or.inl ⟨by rfl, ?_⟩; intro W hSw; have hcc := HD2.out W hSw; go_simp; try with_reducible rfl
    try simp only [Act.put, List.setIfInBounds_toArray, List.set_cons_zero, List.set_cons_succ]
    refine wpAnyH_ready (rs := [27]) (by kernel_rfl) (by simp) ?_
    refine' (AllReadyH.cons (o := _) ?hia44 (fun K hK => ?_) AllReadyH.nil)
    case hia44 => (simp only [List.getElem?_toArray, List.getElem?_cons_zero, List.getElem?_cons_succ]; rfl)
    go_simp
    go_at_call 21
    refine (C5.out Wa36 (below_on HB0.out (Nat.le_refl _) hBa35)).mono ?_
    rintro e Wa47 ⟨rfl, hba45⟩
    have hBa46 := below_on hBa35 (Nat.le_refl _) hba45
    refine hK.out _ _ (hBa46) (fun _ => ?_)
    clear hK K
    try simp only [Act.put, List.setIfInBounds_toArray, List.set_cons_zero, List.set_cons_succ]
    refine wpAnyH_ready (rs := [30]) (by kernel_rfl) (by simp) ?_
    refine' (AllReadyH.cons (o := _) ?hia48 (fun K hK => ?_) AllReadyH.nil)
    case hia48 => (simp only [List.getElem?_toArray, List.getElem?_cons_zero, List.getElem?_cons_succ]; rfl)
    go_simp
    go_at_call 22
    refine (C6.out Wa47 (below_on HB0.out (Nat.le_refl _) hBa46)).mono ?_
    rintro e Wa51 ⟨rfl, hba49⟩
    have hBa50 := below_on hBa46 (Nat.le_refl _) hba49
    refine hK.out _ _ (hBa50) (fun _ => ?_)
    clear hK K
    try simp only [Act.put, List.setIfInBounds_toArray, List.set_cons_zero, List.set_cons_succ]
    refine' wpAnyH_take (i := 31) (oi := _) (v := .bool true) ?hia52 (by kernel_rfl) ?hfa52 ?hra52 ?hQa52 ?hya52 (hBa50) ?resta52
    case hia52 => (simp only [List.getElem?_toArray, List.getElem?_cons_zero, List.getElem?_cons_succ]; rfl)
    case hfa52 => kernel_rfl
    case hra52 => kernel_rfl
    case hQa52 => exact fun _ _ _ h => h
    case hya52 => refine Or.inl ⟨by rfl, ?_⟩; intro W hSw; exact jeql_op (.tmp 38) (.tmp 41) (by rfl) (by rfl) (by rfl) HLS.out.2.1
    try simp only [Act.put, List.setIfInBounds_toArray, List.set_cons_zero, List.set_cons_succ]
    refine' wpAnyH_take (i := 32) (oi := _) (v := _) ?hia53 (by kernel_rfl) ?hfa53 ?hra53 ?hQa53 ?hya53 (hBa50) ?resta53
    case hia53 => (simp only [List.getElem?_toArray, List.getElem?_cons_zero, List.getElem?_cons_succ]; rfl)
    case hfa53 => kernel_rfl
    case hra53 => kernel_rfl
    case hQa53 => exact fun _ _ _ h => h
    case hya53 => refine Or.inl ⟨by rfl, ?_⟩; intro W hSw; go_simp; try with_reducible rfl
    try simp only [Act.put, List.setIfInBounds_toArray, List.set_cons_zero, List.set_cons_succ]
    refine' wpAnyH_take (i := 33) (oi := _) (v := _) ?hia54 (by kernel_rfl) ?hfa54 ?hra54 ?hQa54 ?hya54 (hBa50) ?resta54
    case hia54 => (simp only [List.getElem?_toArray, List.getElem?_cons_zero, List.getElem?_cons_succ]; rfl)
    case hfa54 => kernel_rfl
    case hra54 => kernel_rfl
    case hQa54 => exact fun _ _ _ h => h
    case hya54 => refine Or.inl ⟨by rfl, ?_⟩; intro W hSw; go_simp; try with_reducible rfl
    try simp only [Act.put, List.setIfInBounds_toArray, List.set_cons_zero, List.set_cons_succ]
    refine' wpAnyH_take (i := 34) (oi := _) (v := _) ?hia55 (by kernel_rfl) ?hfa55 ?hra55 ?hQa55 ?hya55 (hBa50) ?resta55
    case hia55 => (simp only [List.getElem?_toArray, List.getElem?_cons_zero, List.getElem?_cons_succ]; rfl)
    case hfa55 => kernel_rfl
    case hra55 => kernel_rfl
    case hQa55 => exact fun _ _ _ h => h
    case hya55 => refine Or.inl ⟨by rfl, ?_⟩; intro W hSw; go_simp; try with_reducible rfl
    try simp only [Act.put, List.setIfInBounds_toArray, List.set_cons_zero, List.set_cons_succ]
    refine' wpAnyH_take (i := 35) (oi := _) (v := sv a) ?hia56 (by kernel_rfl) ?hfa56 ?hra56 ?hQa56 ?hya56 (hBa50) ?resta56
    case hia56 => (simp only [List.getElem?_toArray, List.getElem?_cons_zero, List.getElem?_cons_succ]; rfl)
    case hfa56 => kernel_rfl
    case hra56 => kernel_rfl
    case hQa56 => exact fun _ _ _ h => h
    case hya56 => refine Or.inl ⟨by rfl, ?_⟩; intro W hSw; exact jload_sum_op (.tmp 45) (by rfl) (by rfl) HL.out.1 (HA2.out W hSw).l
    try simp only [Act.put, List.setIfInBounds_toArray, List.set_cons_zero, List.set_cons_succ]
    refine' wpAnyH_take (i := 36) (oi := _) (v := _) ?hia57 (by kernel_rfl) ?hfa57 ?hra57 ?hQa57 ?hya57 (hBa50) ?resta57
    case hia57 => (simp only [List.getElem?_toArray, List.getElem?_cons_zero, List.getElem?_cons_succ]; rfl)
    case hfa57 => kernel_rfl
    case hra57 => kernel_rfl
    case hQa57 => exact fun _ _ _ h => h
    case hya57 => refine Or.inl ⟨by rfl, ?_⟩; intro W hSw; go_simp; try with_reducible rfl
    try simp only [Act.put, List.setIfInBounds_toArray, List.set_cons_zero, List.set_cons_succ]
    refine' wpAnyH_take (i := 38) (oi := _) (v := _) ?hia58 (by kernel_rfl) ?hfa58 ?hra58 ?hQa58 ?hya58 (hBa50) ?resta58
    case hia58 => (simp only [List.getElem?_toArray, List.getElem?_cons_zero, List.getElem?_cons_succ]; rfl)
    case hfa58 => kernel_rfl
    case hra58 => kernel_rfl
    case hQa58 => exact fun _ _ _ h => h
    case hya58 => refine Or.inl ⟨by rfl, ?_⟩; intro W hSw; go_simp; try with_reducible rfl
    try simp only [Act.put, List.setIfInBounds_toArray, List.set_cons_zero, List.set_cons_succ]
    refine' wpAnyH_take (i := 39) (oi := _) (v := sv a) ?hia59 (by kernel_rfl) ?hfa59 ?hra59 ?hQa59 ?hya59 (hBa50) ?resta59
    case hia59 => (simp only [List.getElem?_toArray, List.getElem?_cons_zero, List.getElem?_cons_succ]; rfl)
    case hfa59 => kernel_rfl
    case hra59 => kernel_rfl
    case hQa59 => exact fun _ _ _ h => h
    case hya59 => refine Or.inl ⟨by rfl, ?_⟩; intro W hSw; exact jload_sum_op (.tmp 49) (by rfl) (by rfl) HL.out.1 (HA2.out W hSw).l
    try simp only [Act.put, List.setIfInBounds_toArray, List.set_cons_zero, List.set_cons_succ]
    refine' wpAnyH_take (i := 40) (oi := _) (v := _) ?hia60 (by kernel_rfl) ?hfa60 ?hra60 ?hQa60 ?hya60 (hBa50) ?resta60
    case hia60 => (simp only [List.getElem?_toArray, List.getElem?_cons_zero, List.getElem?_cons_succ]; rfl)
    case hfa60 => kernel_rfl
    case hra60 => kernel_rfl
    case hQa60 => exact fun _ _ _ h => h
    case hya60 => refine Or.inl ⟨by rfl, ?_⟩; intro W hSw; go_simp; try with_reducible rfl
    try simp only [Act.put, List.setIfInBounds_toArray, List.set_cons_zero, List.set_cons_succ]
    refine' wpAnyH_take (i := 41) (oi := _) (v := .slice A n c) ?hia61 (by kernel_rfl) ?hfa61 ?hra61 ?hQa61 ?hya61 (hBa50) ?resta61
    case hia61 => (simp only [List.getElem?_toArray, List.getElem?_cons_zero, List.getElem?_cons_succ]; rfl)
    case hfa61 => kernel_rfl
    case hra61 => kernel_rfl
    case hQa61 => exact fun _ _ _ h => h
    case hya61 => refine Or.inl ⟨by rfl, ?_⟩; intro W hSw; have hcc := HV2.out W hSw; go_simp; try with_reducible rfl
    try simp only [Act.put, List.setIfInBounds_toArray, List.set_cons_zero, List.set_cons_succ]
    refine wpAnyH_ready (rs := [37]) (by kernel_rfl) (by simp) ?_
    refine' (AllReadyH.cons (o := _) ?hia62 (fun K hK => ?_) AllReadyH.nil)
    case hia62 => (simp only [List.getElem?_toArray, List.getElem?_cons_zero, List.getElem?_cons_succ]; rfl)
    go_simp
    go_at_call 23
    refine (C7.out Wa51 hBa50 (below_on HB0.out (Nat.le_refl _) hBa50)).mono ?_
    rintro e Wa65 ⟨rfl, hba63⟩
    have hBa64 := below_on hBa50 (Nat.le_refl _) hba63
    refine hK.out _ _ (hBa64) (fun _ => ?_)
    clear hK K
    try simp only [Act.put, List.setIfInBounds_toArray, List.set_cons_zero, List.set_cons_succ]
    refine wpAnyH_ready (rs := [42]) (by kernel_rfl) (by simp) ?_
    refine' (AllReadyH.cons (o := _) ?hia66 (fun K hK => ?_) AllReadyH.nil)
    case hia66 => (simp only [List.getElem?_toArray, List.getElem?_cons_zero, List.getElem?_cons_succ]; rfl)
    go_simp
    go_at_call 24
    refine (C8.out Wa65 (below_on HB0.out (Nat.le_refl _) hBa64)).mono ?_
    rintro e Wa69 ⟨rfl, hba67⟩
    have hBa68 := below_on hBa64 (Nat.le_refl _) hba67
    refine hK.out _ _ (hBa68) (fun _ => ?_)
    clear hK K
    try simp only [Act.put, List.setIfInBounds_toArray, List.set_cons_zero, List.set_cons_succ]
    refine' wpAnyH_take (i := 43) (oi := _) (v := .bool true) ?hia70 (by kernel_rfl) ?hfa70 ?hra70 ?hQa70 ?hya70 (hBa68) ?resta70
    case hia70 => (simp only [List.getElem?_toArray, List.getElem?_cons_zero, List.getElem?_cons_succ]; rfl)
    case hfa70 => kernel_rfl
    case hra70 => kernel_rfl
    case hQa70 => exact fun _ _ _ h => h
    case hya70 => refine Or.inl ⟨by rfl, ?_⟩; intro W hSw; exact jeql_op (.tmp 48) (.tmp 53) (by rfl) (by rfl) (by rfl) HLS.out.2.2.1
    try simp only [Act.put, List.setIfInBounds_toArray, List.set_cons_zero, List.set_cons_succ]
    refine' wpAnyH_take (i := 44) (oi := _) (v := _) ?hia71 (by kernel_rfl) ?hfa71 ?hra71 ?hQa71 ?hya71 (hBa68) ?resta71
    case hia71 => (simp only [List.getElem?_toArray, List.getElem?_cons_zero, List.getElem?_cons_succ]; rfl)
    case hfa71 => kernel_rfl
    case hra71 => kernel_rfl
    case hQa71 => exact fun _ _ _ h => h
    case hya71 => refine Or.inl ⟨by rfl, ?_⟩; intro W hSw; go_simp; try with_reducible rfl
    try simp only [Act.put, List.setIfInBounds_toArray, List.set_cons_zero, List.set_cons_succ]
    refine' wpAnyH_take (i := 45) (oi := _) (v := _) ?hia72 (by kernel_rfl) ?hfa72 ?hra72 ?hQa72 ?hya72 (hBa68) ?resta72
    case hia72 => (simp only [List.getElem?_toArray, List.getElem?_cons_zero, List.getElem?_cons_succ]; rfl)
    case hfa72 => kernel_rfl
    case hra72 => kernel_rfl
    case hQa72 => exact fun _ _ _ h => h
    case hya72 => refine Or.inl ⟨by rfl, ?_⟩; intro W hSw; go_simp; try with_reducible rfl
    try simp only [Act.put, List.setIfInBounds_toArray, List.set_cons_zero, List.set_cons_succ]
    refine' wpAnyH_take (i := 46) (oi := _) (v := _) ?hia73 (by kernel_rfl) ?hfa73 ?hra73 ?hQa73 ?hya73 (hBa68) ?resta73
    case hia73 => (simp only [List.getElem?_toArray, List.getElem?_cons_zero, List.getElem?_cons_succ]; rfl)
    case hfa73 => kernel_rfl
    case hra73 => kernel_rfl
    case hQa73 => exact fun _ _ _ h => h
    case hya73 => refine Or.inl ⟨by rfl, ?_⟩; intro W hSw; go_simp; try with_reducible rfl
    try simp only [Act.put, List.setIfInBounds_toArray, List.set_cons_zero, List.set_cons_succ]
    refine' wpAnyH_take (i := 47) (oi := _) (v := sv a) ?hia74 (by kernel_rfl) ?hfa74 ?hra74 ?hQa74 ?hya74 (hBa68) ?resta74
    case hia74 => (simp only [List.getElem?_toArray, List.getElem?_cons_zero, List.getElem?_cons_succ]; rfl)
    case hfa74 => kernel_rfl
    case hra74 => kernel_rfl
    case hQa74 => exact fun _ _ _ h => h
    case hya74 => refine Or.inl ⟨by rfl, ?_⟩; intro W hSw; exact jload_sum_op (.tmp 57) (by rfl) (by rfl) HL.out.1 (HA2.out W hSw).l
    try simp only [Act.put, List.setIfInBounds_toArray, List.set_cons_zero, List.set_cons_succ]
    refine' wpAnyH_take (i := 48) (oi := _) (v := _) ?hia75 (by kernel_rfl) ?hfa75 ?hra75 ?hQa75 ?hya75 (hBa68) ?resta75
    case hia75 => (simp only [List.getElem?_toArray, List.getElem?_cons_zero, List.getElem?_cons_succ]; rfl)
    case hfa75 => kernel_rfl
    case hra75 => kernel_rfl
    case hQa75 => exact fun _ _ _ h => h
    case hya75 => refine Or.inl ⟨by rfl, ?_⟩; intro W hSw; go_simp; try with_reducible rfl
    try simp only [Act.put, List.setIfInBounds_toArray, List.set_cons_zero, List.set_cons_succ]
    refine' wpAnyH_take (i := 49) (oi := _) (v := sv b) ?hia76 (by kernel_rfl) ?hfa76 ?hra76 ?hQa76 ?hya76 (hBa68) ?resta76
    case hia76 => (simp only [List.getElem?_toArray, List.getElem?_cons_zero, List.getElem?_cons_succ]; rfl)
    case hfa76 => kernel_rfl
    case hra76 => kernel_rfl
    case hQa76 => exact fun _ _ _ h => h
    case hya76 => refine Or.inl ⟨by rfl, ?_⟩; intro W hSw; exact jload_sum_op (.tmp 59) (by rfl) (by rfl) HL.out.2.2.1 (HA2.out W hSw).r
    try simp only [Act.put, List.setIfInBounds_toArray, List.set_cons_zero, List.set_cons_succ]
    refine' wpAnyH_take (i := 51) (oi := _) (v := _) ?hia77 (by kernel_rfl) ?hfa77 ?hra77 ?hQa77 ?hya77 (hBa68) ?resta77
    case hia77 => (simp only [List.getElem?_toArray, List.getElem?_cons_zero, List.getElem?_cons_succ]; rfl)
    case hfa77 => kernel_rfl
    case hra77 => kernel_rfl
    case hQa77 => exact fun _ _ _ h => h
    case hya77 => refine Or.inl ⟨by rfl, ?_⟩; intro W hSw; go_simp; try with_reducible rfl
    try simp only [Act.put, List.setIfInBounds_toArray, List.set_cons_zero, List.set_cons_succ]
    refine' wpAnyH_take (i := 52) (oi := _) (v := sv a) ?hia78 (by kernel_rfl) ?hfa78 ?hra78 ?hQa78 ?hya78 (hBa68) ?resta78
    case hia78 => (simp only [List.getElem?_toArray, List.getElem?_cons_zero, List.getElem?_cons_succ]; rfl)
    case hfa78 => kernel_rfl
    case hra78 => kernel_rfl
    case hQa78 => exact fun _ _ _ h => h
    case hya78 => refine Or.inl ⟨by rfl, ?_⟩; intro W hSw; exact jload_sum_op (.tmp 62) (by rfl) (by rfl) HL.out.1 (HA2.out W hSw).l
    try simp only [Act.put, List.setIfInBounds_toArray, List.set_cons_zero, List.set_cons_succ]
    refine' wpAnyH_take (i := 53) (oi := _) (v := _) ?hia79 (by kernel_rfl) ?hfa79 ?hra79 ?hQa79 ?hya79 (hBa68) ?resta79
    case hia79 => (simp only [List.getElem?_toArray, List.getElem?_cons_zero, List.getElem?_cons_succ]; rfl)
    case hfa79 => kernel_rfl
    case hra79 => kernel_rfl
    case hQa79 => exact fun _ _ _ h => h
    case hya79 => refine Or.inl ⟨by rfl, ?_⟩; intro W hSw; go_simp; try with_reducible rfl
    try simp only [Act.put, List.setIfInBounds_toArray, List.set_cons_zero, List.set_cons_succ]
    refine' wpAnyH_take (i := 54) (oi := _) (v := sv b) ?hia80 (by kernel_rfl) ?hfa80 ?hra80 ?hQa80 ?hya80 (hBa68) ?resta80
    case hia80 => (simp only [List.getElem?_toArray, List.getElem?_cons_zero, List.getElem?_cons_succ]; rfl)
    case hfa80 => kernel_rfl
    case hra80 => kernel_rfl
    case hQa80 => exact fun _ _ _ h => h
    case hya80 => refine Or.inl ⟨by rfl, ?_⟩; intro W hSw; exact jload_sum_op (.tmp 64) (by rfl) (by rfl) HL.out.2.2.1 (HA2.out W hSw).r
    try simp only [Act.put, List.setIfInBounds_toArray, List.set_cons_zero, List.set_cons_succ]
    refine wpAnyH_ready (rs := [50]) (by kernel_rfl) (by simp) ?_
    refine' (AllReadyH.cons (o := _) ?hia81 (fun K hK => ?_) AllReadyH.nil)
    case hia81 => (simp only [List.getElem?_toArray, List.getElem?_cons_zero, List.getElem?_cons_succ]; rfl)
    go_simp
    go_at_call 25
    refine (C9.out Wa69 (below_on HB0.out (Nat.le_refl _) hBa68)).mono ?_
    rintro e Wa84 ⟨rfl, hba82⟩
    have hBa83 := below_on hBa68 (Nat.le_refl _) hba82
    refine hK.out _ _ (hBa83) (fun _ => ?_)
    clear hK K
    try simp only [Act.put, List.setIfInBounds_toArray, List.set_cons_zero, List.set_cons_succ]
    refine wpAnyH_ready (rs := [55]) (by kernel_rfl) (by simp) ?_
    refine' (AllReadyH.cons (o := _) ?hia85 (fun K hK => ?_) AllReadyH.nil)
    case hia85 => (simp only [List.getElem?_toArray, List.getElem?_cons_zero, List.getElem?_cons_succ]; rfl)
    go_simp
    go_at_call 26
    refine (C10.out Wa84 (below_on HB0.out (Nat.le_refl _) hBa83)).mono ?_
    rintro e Wa88 ⟨rfl, hba86⟩
    have hBa87 := below_on hBa83 (Nat.le_refl _) hba86
    refine hK.out _ _ (hBa87) (fun _ => ?_)
    clear hK K
    try simp only [Act.put, List.setIfInBounds_toArray, List.set_cons_zero, List.set_cons_succ]
    refine' wpAnyH_take (i := 56) (oi := _) (v := .bool true) ?hia89 (by kernel_rfl) ?hfa89 ?hra89 ?hQa89 ?hya89 (hBa87) ?resta89
    case hia89 => (simp only [List.getElem?_toArray, List.getElem?_cons_zero, List.getElem?_cons_succ]; rfl)
    case hfa89 => kernel_rfl
    case hra89 => kernel_rfl
    case hQa89 => exact fun _ _ _ h => h
    case hya89 => refine Or.inl ⟨by rfl, ?_⟩; intro W hSw; exact jeql_op (.tmp 61) (.tmp 66) (by rfl) (by rfl) (by rfl) HLS.out.2.2.2
    try simp only [Act.put, List.setIfInBounds_toArray, List.set_cons_zero, List.set_cons_succ]
    refine' wpAnyH_take (i := 57) (oi := _) (v := _) ?hia90 (by kernel_rfl) ?hfa90 ?hra90 ?hQa90 ?hya90 (hBa87) ?resta90
    case hia90 => (simp only [List.getElem?_toArray, List.getElem?_cons_zero, List.getElem?_cons_succ]; rfl)
    case hfa90 => kernel_rfl
    case hra90 => kernel_rfl
    case hQa90 => exact fun _ _ _ h => h
    case hya90 => refine Or.inl ⟨by rfl, ?_⟩; intro W hSw; go_simp; try with_reducible rfl
    try simp only [Act.put, List.setIfInBounds_toArray, List.set_cons_zero, List.set_cons_succ]
    refine' wpAnyH_take (i := 58) (oi := _) (v := _) ?hia91 (by kernel_rfl) ?hfa91 ?hra91 ?hQa91 ?hya91 (hBa87) ?resta91
    case hia91 => (simp only [List.getElem?_toArray, List.getElem?_cons_zero, List.getElem?_cons_succ]; rfl)
    case hfa91 => kernel_rfl
    case hra91 => kernel_rfl
    case hQa91 => exact fun _ _ _ h => h
    case hya91 => refine Or.inl ⟨by rfl, ?_⟩; intro W hSw; go_simp; try with_reducible rfl
    try simp only [Act.put, List.setIfInBounds_toArray, List.set_cons_zero, List.set_cons_succ]
    refine' wpAnyH_take (i := 59) (oi := _) (v := _) ?hia92 (by kernel_rfl) ?hfa92 ?hra92 ?hQa92 ?hya92 (hBa87) ?resta92
    case hia92 => (simp only [List.getElem?_toArray, List.getElem?_cons_zero, List.getElem?_cons_succ]; rfl)
    case hfa92 => kernel_rfl
    case hra92 => kernel_rfl
    case hQa92 => exact fun _ _ _ h => h
    case hya92 => refine Or.inl ⟨by rfl, ?_⟩; intro W hSw; go_simp; try with_reducible rfl
    try simp only [Act.put, List.setIfInBounds_toArray, List.set_cons_zero, List.set_cons_succ]
    refine' wpAnyH_take (i := 60) (oi := _) (v := _) ?hia93 (by kernel_rfl) ?hfa93 ?hra93 ?hQa93 ?hya93 (hBa87) ?resta93
    case hia93 => (simp only [List.getElem?_toArray, List.getElem?_cons_zero, List.getElem?_cons_succ]; rfl)
    case hfa93 => kernel_rfl
    case hra93 => kernel_rfl
    case hQa93 => exact fun _ _ _ h => h
    case hya93 => refine Or.inl ⟨by rfl, ?_⟩; intro W hSw; go_simp; try with_reducible rfl
    try simp only [Act.put, List.setIfInBounds_toArray, List.set_cons_zero, List.set_cons_succ]
    refine' wpAnyH_take (i := 61) (oi := _) (v := .slice A n c) ?hia94 (by kernel_rfl) ?hfa94 ?hra94 ?hQa94 ?hya94 (hBa87) ?resta94
    case hia94 => (simp only [List.getElem?_toArray, List.getElem?_cons_zero, List.getElem?_cons_succ]; rfl)
    case hfa94 => kernel_rfl
    case hra94 => kernel_rfl
    case hQa94 => exact fun _ _ _ h => h
    case hya94 => refine Or.inl ⟨by rfl, ?_⟩; intro W hSw; have hcc := HV2.out W hSw; go_simp; try with_reducible rfl
    try simp only [Act.put, List.setIfInBounds_toArray, List.set_cons_zero, List.set_cons_succ]
    refine wpAnyH_ready (rs := [62]) (by kernel_rfl) (by simp) ?_
    refine' (AllReadyH.cons (o := _) ?hia95 (fun K hK => ?_) AllReadyH.nil)
    case hia95 => (simp only [List.getElem?_toArray, List.getElem?_cons_zero, List.getElem?_cons_succ]; rfl)
    go_simp
    go_at_call 27
    refine (CL.out Wa88 hBa87 (below_on HB0.out (Nat.le_refl _) hBa87)).mono ?_
    rintro e Wa98 ⟨rfl, hba96⟩
    have hBa97 := below_on hBa87 (Nat.le_refl _) hba96
    refine hK.out _ _ (hBa97) (fun _ => ?_)
    clear hK K
    try simp only [Act.put, List.setIfInBounds_toArray, List.set_cons_zero, List.set_cons_succ]
    refine' wpAnyH_take (i := 63) (oi := _) (v := _) ?hia99 (by kernel_rfl) ?hfa99 ?hra99 ?hQa99 ?hya99 (hBa97) ?resta99
    case hia99 => (simp only [List.getElem?_toArray, List.getElem?_cons_zero, List.getElem?_cons_succ]; rfl)
    case hfa99 => kernel_rfl
    case hra99 => kernel_rfl
    case hQa99 => exact fun _ _ _ h => h
    case hya99 => refine Or.inl ⟨by rfl, ?_⟩; intro W hSw; go_simp; try with_reducible rfl
    try simp only [Act.put, List.setIfInBounds_toArray, List.set_cons_zero, List.set_cons_succ]
    refine' wpAnyH_take (i := 64) (oi := _) (v := _) ?hia100 (by kernel_rfl) ?hfa100 ?hra100 ?hQa100 ?hya100 (hBa97) ?resta100
    case hia100 => (simp only [List.getElem?_toArray, List.getElem?_cons_zero, List.getElem?_cons_succ]; rfl)
    case hfa100 => kernel_rfl
    case hra100 => kernel_rfl
    case hQa100 => exact fun _ _ _ h => h
    case hya100 => refine Or.inl ⟨by rfl, ?_⟩; intro W hSw; go_simp; try with_reducible rfl
    try simp only [Act.put, List.setIfInBounds_toArray, List.set_cons_zero, List.set_cons_succ]
    refine wpAnyH_done (by kernel_rfl) ?_ _
    go_wp2_with fail
    go_ret
    exact ⟨rfl, below_on H1.out (Nat.le_of_eq HG.out.symm) (below_on HB0.out (Nat.le_refl _) hBa97)⟩

end Go.Proofs.YtnaebjdccngeoaaDoor
