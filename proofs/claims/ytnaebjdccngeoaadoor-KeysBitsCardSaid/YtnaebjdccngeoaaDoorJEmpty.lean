/-
  keys.Empty.
-/
import Derived.Test.YtnaebjdccngeoaaDoorJPure
import Derived.WalkMore
namespace Go.Proofs.YtnaebjdccngeoaaDoor
open Go.RowKit

set_option maxRecDepth 100000 in
set_option maxHeartbeats 2000000 in
theorem jempty_any (z : Int) (w : World) (hk : Knows w) (hs : Starts w) (_ : -9223372036854775808 ≤ z ∧ z ≤ 9223372036854775807) :
    Calls Tryd.prog 21 #[.int .i64 z] w fun e w' => e = .returned (sv (emptyZ z)) ∧ Below w.heap.size w w' := by
  have e0 : (bvs zero32).toArray = #[.int .u8 0, .int .u8 0, .int .u8 0, .int .u8 0, .int .u8 0, .int .u8 0, .int .u8 0, .int .u8 0, .int .u8 0, .int .u8 0, .int .u8 0, .int .u8 0, .int .u8 0, .int .u8 0, .int .u8 0, .int .u8 0, .int .u8 0, .int .u8 0, .int .u8 0, .int .u8 0, .int .u8 0, .int .u8 0, .int .u8 0, .int .u8 0, .int .u8 0, .int .u8 0, .int .u8 0, .int .u8 0, .int .u8 0, .int .u8 0, .int .u8 0, .int .u8 0] := rfl
  have f1 := BArr.new w 36 zero32
  have b1 := below_alloc w (.cells (bvs zero32).toArray 36)
  rw [e0] at f1 b1
  clear e0
  obtain ⟨w1, hw1⟩ : ∃ w1, w1 = w.alloc (.cells #[.int .u8 0, .int .u8 0, .int .u8 0, .int .u8 0, .int .u8 0, .int .u8 0, .int .u8 0, .int .u8 0, .int .u8 0, .int .u8 0, .int .u8 0, .int .u8 0, .int .u8 0, .int .u8 0, .int .u8 0, .int .u8 0, .int .u8 0, .int .u8 0, .int .u8 0, .int .u8 0, .int .u8 0, .int .u8 0, .int .u8 0, .int .u8 0, .int .u8 0, .int .u8 0, .int .u8 0, .int .u8 0, .int .u8 0, .int .u8 0, .int .u8 0, .int .u8 0] 36) := ⟨_, rfl⟩
  rw [← hw1] at f1 b1
  have HW := Lib.hid hw1
  have CM := Lib.hid (show Calls Tryd.prog 50 #[.int .u8 2, .slice none 0 0] w1 fun e w' => e = .returned (sv (emptyU 0)) ∧ Below w1.heap.size w1 w' from
    (jmarked_any 2 none 0 0 [] w1 (by omega) ⟨rfl, fun k xs h => by cases h⟩ (hk.below b1) (hs.below b1) (by simp [tot]) (by omega)).mono fun e w' ⟨h, hb⟩ => ⟨h, hb⟩)
  have CS := Lib.hid (fun (j : Nat) (W : World) (hW : Below w.heap.size w W) => jside_any (emptyU j) (emptyU j) W (emptyU_length j) (emptyU_length j) (emptyU_lt j) (emptyU_lt j) (hk.below hW) (hs.below hW))
  obtain ⟨g, hg⟩ : ∃ g, w.heap.size = g := ⟨_, rfl⟩
  have HG := Lib.hid hg
  rw [hg] at f1 b1
  have HF := Lib.hid (And.intro f1 b1)
  rw [hg]
  clear f1 b1 hw1 hg hk hs
  go_enter Tryd.func21, Tryd.ntmps21
  go_wp2_with fail
  go_step3
  go_upto_region 1 with fail
  rw [← HW.out]
  rw [HG.out]
  go_wp2_with fail
  refine CM.out.mono ?_
  rintro e w2 ⟨rfl, hb2⟩
  have l0 := emptyU_length 0
  obtain ⟨w3, hw3⟩ : ∃ w3, w3 = w2.alloc (.cells (bvs (emptyU 0)).toArray 36) := ⟨_, rfl⟩
  have b3 : Below w1.heap.size w1 w3 := by rw [hw3]; exact below_on hb2 (Nat.le_refl _) (below_alloc _ _)
  have f3 : BArr w3 w2.heap.size 36 (emptyU 0) := by rw [hw3]; exact BArr.new _ _ _
  have g3 := HF.out.1.below b3
  have hlt := HF.out.1.lt
  have hsz := hb2.size
  obtain ⟨p, hp⟩ : ∃ p, w2.heap.size = p := ⟨_, rfl⟩
  have hpg : g < p := by omega
  have B3 := Lib.hid (below_on HF.out.2 (Nat.le_of_eq HG.out.symm) b3)
  have HW3 := Lib.hid hw3
  have H3 := Lib.hid (And.intro f3 g3)
  rw [hp] at H3
  have HP := Lib.hid hp
  clear b3 f3 g3 hb2 hw3 hlt hsz hp CM HF
  go_wp2_with (with_reducible refine wpList_store_new w2 _ (by simp) rfl (.tmp 3) (.tmp 5) rfl rfl (emptyU 0) l0 rfl ?_; rw [← HW3.out])
  rw [HP.out]
  go_step3
  go_wp2
  have hcz := clampN_le z
  obtain ⟨c, hc⟩ : ∃ c, clampN z = c := ⟨_, rfl⟩
  have hof : ∀ k, k ≤ 256 → c ≤ k → ((k : Int) ≤ z ∨ k = 0) → c = k := fun k h1 h2 h3 => by rw [← hc] at *; exact clampN_of h1 h2 h3
  have hnx : ∀ k, k ≤ 256 → c ≤ k → ¬ (k : Int) ≤ z → k ≠ 0 → c ≤ k - 1 := fun k h1 h2 h3 h4 => by rw [← hc] at *; exact clampN_next h1 h2 h3 h4
  have HOF := Lib.hid (And.intro hof hnx)
  have HZ := Lib.hid (show emptyZ z = emptyU (256 - c) by unfold emptyZ; rw [hc])
  rw [hc] at hcz
  clear hof hnx hc l0
  go_loopw [4] (fun i wr => ∃ k : Nat, k ≤ 256 ∧ i = .int .i64 (k : Int) ∧ c ≤ k ∧ BArr wr p 36 (emptyU (256 - k)) ∧ BArr wr g 36 zero32 ∧ Below g w wr) (fun i _ => (intOf i).toNat)
  case atStart => exact ⟨256, by omega, rfl, hcz, H3.out.1, H3.out.2, B3.out⟩
  case round =>
    clear H3 B3
    obtain ⟨k, hk, rfl, hck, hf, hr, hb⟩ := hrel
    have hZ32 := Lib.hid (show zero32.length = 32 from rfl)
    have hlk := emptyU_length (256 - k)
    by_cases hz2 : (k : Int) ≤ z
    · have HEQ := Lib.hid (HOF.out.1 k hk hck (.inl hz2))
      have HE := Lib.hid (And.intro hf (And.intro hr hb))
      clear hf hr hb HOF
      have HS2 := Lib.hid (show ∃ s, emptyU (256 - k) = s from ⟨_, rfl⟩)
      obtain ⟨s, hs0⟩ := HS2.out
      rw [hs0] at HE hlk
      have HS0 := Lib.hid hs0
      clear hs0 HS2
      go_wp2_with (first
        | (with_reducible refine wpList_load_sum rfl (.tmp 3) rfl ⟨p, 0, none⟩ rfl s hlk HE.out.1.at_ ?_)
        | (with_reducible refine wpList_store_sum rfl (.tmp 2) (.tmp 17) rfl g rfl zero32 s hZ32 hlk HE.out.2.1 rfl ?_))
      try rw [Exit.noGoto_ret]
      refine bodyPost_ret_by (results_cell_row (p := 2) (ty := 36) (by kernel_rfl) _ _ g 36 _ (0, 0) _ rfl (HE.out.2.1.setRow _) Tryd.underlying36 rfl (by rw [List.size_toArray, bvs_length, hlk]; exact sizeSum)) rfl ?_
      exact ⟨by rw [HZ.out, HEQ.out, HS0.out]; rfl, below_setRow HE.out.2.2 (by omega) _⟩
    · by_cases h0 : k = 0
      · have HEQ := Lib.hid (HOF.out.1 k hk hck (.inr h0))
        have hk0 : ((k : Int) == 0) = true := by simp; omega
        have HE := Lib.hid (And.intro hf (And.intro hr hb))
        clear hf hr hb HOF h0
        have HS2 := Lib.hid (show ∃ s, emptyU (256 - k) = s from ⟨_, rfl⟩)
        obtain ⟨s, hs0⟩ := HS2.out
        rw [hs0] at HE hlk
        have HS0 := Lib.hid hs0
        clear hs0 HS2
        go_wp2_with (first
          | (with_reducible refine wpList_load_sum rfl (.tmp 3) rfl ⟨p, 0, none⟩ rfl s hlk HE.out.1.at_ ?_)
          | (with_reducible refine wpList_store_sum rfl (.tmp 2) (.tmp 17) rfl g rfl zero32 s hZ32 hlk HE.out.2.1 rfl ?_))
        try rw [Exit.noGoto_ret]
        refine bodyPost_ret_by (results_cell_row (p := 2) (ty := 36) (by kernel_rfl) _ _ g 36 _ (0, 0) _ rfl (HE.out.2.1.setRow _) Tryd.underlying36 rfl (by rw [List.size_toArray, bvs_length, hlk]; exact sizeSum)) rfl ?_
        exact ⟨by rw [HZ.out, HEQ.out, HS0.out]; rfl, below_setRow HE.out.2.2 (by omega) _⟩
      · have hn := HOF.out.2 k hk hck hz2 h0
        have C := Lib.hid (CS.out (256 - k) wr (by rw [HG.out]; exact hb))
        have HN := Lib.hid (show emptyU (256 - (k - 1)) = sideL (emptyU (256 - k)) (emptyU (256 - k)) by rw [show 256 - (k - 1) = (256 - k) + 1 by omega]; rfl)
        have hls := sideL_length (emptyU (256 - k)) (emptyU (256 - k))
        obtain ⟨s1, hs1⟩ : ∃ s, emptyU (256 - k) = s := ⟨_, rfl⟩
        rw [hs1] at C HN hls hf hlk
        obtain ⟨s2, hs2⟩ : ∃ s, sideL s1 s1 = s := ⟨_, rfl⟩
        rw [hs2] at C HN hls
        have HS12 := Lib.hid (And.intro hs1 hs2)
        clear hs1 hs2
        have HE := Lib.hid (And.intro hf (And.intro hr hb))
        clear hf hr hb HOF
        have hk0 : ((k : Int) == 0) = false := by simp; omega
        go_wp2_with (with_reducible refine wpList_load_sum rfl (.tmp 3) rfl ⟨p, 0, none⟩ rfl s1 hlk HE.out.1.at_ ?_)
        refine C.out.mono ?_
        rintro e w4 ⟨rfl, hb4⟩
        have f4 := HE.out.1.below hb4
        have g4 := HE.out.2.1.below hb4
        have B4 := Lib.hid (below_on HE.out.2.2 (Nat.le_of_eq HG.out.symm) hb4)
        have G4 := Lib.hid g4
        clear g4 hb4 C HE
        go_wp2_with (with_reducible refine wpList_store_sum rfl (.tmp 3) (.tmp 10) rfl p rfl s1 s2 (Lib.hid hlk) hls f4 rfl ?_)
        go_roundw
        case rel => exact ⟨k - 1, by omega, by go_num, hn, by rw [HN.out]; exact f4.setRow s2, G4.out.setRow_other p (by omega) _, below_setRow B4.out (by omega) _⟩
        case measure => simp [intOf]; omega

end Go.Proofs.YtnaebjdccngeoaaDoor
