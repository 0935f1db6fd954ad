/-
  almonerref03.Of: the document's sum by a key.
-/
import Derived.Test.YtoojlpbfldnkpaaDoorMacRefBlock
namespace Go.Proofs.YtoojlpbfldnkpaaDoor
open Go.RowKit

set_option maxRecDepth 100000 in
set_option maxHeartbeats 2000000 in
theorem refMac_any (A : Option Addr) (n c : Nat) (xs : List Nat) (Ao : Option Addr) (no co : Nat) (rows : List (List Nat)) (w : World) (hx : Came w A n c xs) (hr : CameRows w Ao no rows) (hn : n ≤ 900000000) (ht : tot rows ≤ 800000000) (hno : no ≤ 1000000) :
    Calls Tryd.prog 23 #[.slice A n c, .slice Ao no co] w fun e w' => e = .returned (sv (mac xs rows.flatten)) ∧ Below w.heap.size w w' := by
  have e0 : (bvs zero32).toArray = #[.int .u8 0, .int .u8 0, .int .u8 0, .int .u8 0, .int .u8 0, .int .u8 0, .int .u8 0, .int .u8 0, .int .u8 0, .int .u8 0, .int .u8 0, .int .u8 0, .int .u8 0, .int .u8 0, .int .u8 0, .int .u8 0, .int .u8 0, .int .u8 0, .int .u8 0, .int .u8 0, .int .u8 0, .int .u8 0, .int .u8 0, .int .u8 0, .int .u8 0, .int .u8 0, .int .u8 0, .int .u8 0, .int .u8 0, .int .u8 0, .int .u8 0, .int .u8 0] := rfl
  have f1 := BArr.new w 54 zero32
  have b1 := below_alloc w (.cells (bvs zero32).toArray 54)
  have s1 : (w.alloc (.cells (bvs zero32).toArray 54)).heap.size = w.heap.size + 1 := World.size_alloc _ _
  rw [e0] at f1 b1 s1
  clear e0
  have HF := Lib.hid (And.intro f1 (And.intro b1 s1))
  have HX := Lib.hid hx
  clear f1 b1 s1 hx
  go_enter Tryd.func23, Tryd.ntmps23
  go_wp2_with fail
  obtain ⟨w1, hw1⟩ : ∃ w1, w1 = w.alloc (.cells #[.int .u8 0, .int .u8 0, .int .u8 0, .int .u8 0, .int .u8 0, .int .u8 0, .int .u8 0, .int .u8 0, .int .u8 0, .int .u8 0, .int .u8 0, .int .u8 0, .int .u8 0, .int .u8 0, .int .u8 0, .int .u8 0, .int .u8 0, .int .u8 0, .int .u8 0, .int .u8 0, .int .u8 0, .int .u8 0, .int .u8 0, .int .u8 0, .int .u8 0, .int .u8 0, .int .u8 0, .int .u8 0, .int .u8 0, .int .u8 0, .int .u8 0, .int .u8 0] 54) := ⟨_, rfl⟩
  rw [← hw1] at HF ⊢
  clear hw1
  refine (refBlock_any A n c 54 xs w1 (HX.out.below HF.out.2.1) (by omega) hn).mono ?_
  rintro e w2 ⟨A2, c2, rfl, ho2, hb2⟩
  obtain ⟨K, hK0⟩ : ∃ K, fil (shortL xs) 54 = K := ⟨_, rfl⟩
  have hKl : K.length = 64 := by rw [← hK0, fil_length]
  have hKb : ∀ x ∈ K, x < 256 := by rw [← hK0]; exact fil_lt (shortL_lt HX.out.lt) (by omega)
  rw [hK0] at ho2
  have HK := Lib.hid (And.intro hK0 (And.intro hKl hKb))
  have H2 := Lib.hid (And.intro ho2 hb2)
  clear hK0 hKl hKb ho2 hb2
  go_wp2
  go_loopw [5, 6] (fun v i wr => ∃ (j t : Nat) (A1 : Option Addr) (c1 : Nat), j ≤ no ∧ i = .int .i64 (j : Int) ∧ v = .slice A1 (64 + t) c1 ∧ t = tot (rows.take j) ∧ wr.ownsRow w1.heap.size 5 1 (.slice A1 (64 + t) c1) (64 + t) (bvs (K ++ (rows.take j).flatten)) ∧ Below w1.heap.size w1 wr) (fun _ i _ => no - (intOf i).toNat)
  case atStart => exact ⟨0, 0, A2, c2, by omega, rfl, rfl, rfl, by simpa using H2.out.1, H2.out.2⟩
  case round =>
    clear H2
    obtain ⟨j, t, A1, c1, hj, rfl, rfl, htt, ho, bel⟩ := hrel
    have hz := bel.size
    have tl := tot_take rows j
    rw [← htt] at tl
    have HT := Lib.hid htt
    clear htt
    by_cases hlt : j < no
    · obtain ⟨ys, hys⟩ : ∃ ys, rows[j]? = some ys := ⟨_, List.getElem?_eq_getElem (by rw [hr.len]; exact hlt)⟩
      obtain ⟨ad, B, m, d, rfl, hcell0, hcame, hmm⟩ := hr.row j ys hys
      have belw : Below w.heap.size w wr := below_on HF.out.2.1 (Nat.le_refl _) bel
      have hcell : wr.cell? (ad.add j) = some (.slice B m d) := (belw.cell (World.block_lt_of_cell? w _ hcell0)).trans hcell0
      have hin := hcame.in_.below belw
      have hml := hcame.in_.len
      have HNil := Lib.hid hcame.nil
      have HE := Lib.hid (And.intro (flat_snoc hys) (rows_snoc hys))
      have htn : t + m = tot (rows.take (j + 1)) := by rw [HE.out.2, tot_snoc, hml, HT.out]
      have htb := tot_take rows (j + 1)
      rw [← htn] at htb
      have HTN := Lib.hid htn
      have HO := Lib.hid (And.intro ho bel)
      have hji : (j : Int) < (no : Int) := by omega
      clear hys hcell0 hcame belw hml ho bel htn
      go_wp2_with (at_builtin; refine wpList_app _ rfl (.tmp 16) (.tmp 20) rfl w1.heap.size A1 (64 + t) c1 _ rfl HO.out.1 B m d ys rfl hin HNil.out (by omega) hz ?_; intro A4 c4 w4 ho4 hb4)
      have H4 := Lib.hid (And.intro ho4 (HO.out.2.trans hb4))
      clear ho4 hb4 hin hcell
      go_roundw
      case rel =>
        refine ⟨j + 1, t + m, A4, c4, by omega, by go_num, by rw [Nat.add_assoc], HTN.out, ?_, H4.out.2⟩
        have := H4.out.1
        rw [Nat.add_assoc, List.append_assoc, ← HE.out.1] at this
        exact this
      case measure => simp [intOf]; omega
    · obtain rfl : j = no := by omega
      rw [List.take_of_length_le (by rw [hr.len]; omega)] at ho
      have hji : decide ((j : Int) < (j : Int)) = false := by simp
      have C1 := Lib.hid (refOf_any A1 (64 + t) c1 (K ++ rows.flatten) wr (In.of_own ho) (bytes_append HK.out.2.2 (flat_lt hr)) (own_nil ho) (by omega))
      obtain ⟨s, hs0⟩ : ∃ s, sha (K ++ rows.flatten) = s := ⟨_, rfl⟩
      have hl : s.length = 32 := by rw [← hs0]; exact sha_length _
      have ls : ∀ x ∈ s, x < 256 := by rw [← hs0]; exact sha_lt _
      rw [hs0] at C1
      have HS := Lib.hid (And.intro hs0 (And.intro hl ls))
      have HB := Lib.hid bel
      clear hs0 hl ls ho bel
      go_wp2_with fail
      refine C1.out.mono ?_
      rintro e w5 ⟨rfl, hb5⟩
      go_upto_region 7 with ((with_reducible refine wpList_store_new w5 _ ?_ rfl (.tmp 7) (.tmp 23) rfl rfl s HS.out.2.1 rfl ?_); · simp)
      obtain ⟨w6, hw6⟩ : ∃ w6, w6 = w5.alloc (.cells (bvs s).toArray 54) := ⟨_, rfl⟩
      have hi6 : In w6 (some ⟨w5.heap.size, 0, none⟩) 32 s := by rw [hw6, ← HS.out.2.1]; exact In.new' w5 s _
      have hb6 : Below w1.heap.size w1 w6 := by rw [hw6]; exact below_on (below_on HB.out (Nat.le_refl _) hb5) (Nat.le_refl _) (below_alloc w5 _)
      obtain ⟨g, hg⟩ : ∃ g, w5.heap.size = g := ⟨_, rfl⟩
      rw [← hw6, hg]
      rw [hg] at hi6
      have f6 : BArr w6 w.heap.size 54 zero32 := HF.out.1.below hb6
      have b6 : Below w.heap.size w w6 := below_on HF.out.2.1 (Nat.le_refl _) hb6
      have H6 := Lib.hid (And.intro hi6 (And.intro f6 b6))
      clear hw6 hi6 hb6 hg hb5 C1 f6 b6 HB
      have hsl := run_arr_all Tryd.underlying54
      have bd : Below w.heap.size w w6.drew := ⟨H6.out.2.2.os, H6.out.2.2.tape, H6.out.2.2.output, H6.out.2.2.size, H6.out.2.2.block⟩
      have CB := Lib.hid (refBlock_any A n c 92 xs w6.drew (HX.out.below bd) (by omega) hn)
      obtain ⟨K2, hK2⟩ : ∃ K, fil (shortL xs) 92 = K := ⟨_, rfl⟩
      have hK2b : ∀ x ∈ K2, x < 256 := by rw [← hK2]; exact fil_lt (shortL_lt HX.out.lt) (by omega)
      rw [hK2] at CB
      obtain ⟨M, hM⟩ : ∃ M, sha (K2 ++ s) = M := ⟨_, rfl⟩
      have hMl : M.length = 32 := by rw [← hM]; exact sha_length _
      have HM := Lib.hid (And.intro hM (And.intro hK2 hK2b))
      have hbm : (bvs M).length = 32 := by rw [bvs_length, hMl]
      have hst : ∀ W : World, BArr W w.heap.size 54 zero32 → (storeCells ⟨w.heap.size, 0, none⟩ (bvs M)).run Tryd.prog W = .ok () (W.setRow w.heap.size (bvs M).toArray) := fun W hW => by
        have := run_storeCells_from (P := Tryd.prog) w.heap.size 54 (bvs M) 0 _ W hW (by rw [hbm]; rfl) (bvs_oneCell M)
        simpa using this
      have CO := Lib.hid (fun (W : World) (A : Option Addr) (c : Nat) (ho : W.ownsRow w6.drew.heap.size 5 1 (.slice A (64 + 32) c) (64 + 32) (bvs (K2 ++ s))) (hW : Below w6.drew.heap.size w6.drew W) =>
        (refOf_any A (64 + 32) c (K2 ++ s) W (In.of_own ho) (bytes_append HM.out.2.2 HS.out.2.2) (own_nil ho) (by omega)).mono (R' := fun e w' => e = .returned (.agg (bvs M).toArray) ∧ Below w.heap.size w w' ∧ BArr w' w.heap.size 54 zero32) fun e w' h =>
          ⟨by rw [h.1, HM.out.1]; rfl, below_on (below_on bd (Nat.le_refl _) hW) (Nat.le_refl _) h.2, (H6.out.2.1.drew.below hW).below h.2⟩)
      clear hM hK2 hK2b bd
      go_wp2_with fail
      go_region_law (first
        | (go_simp; go_at_call 64; refine CB.out.mono ?_; rintro e w7 ⟨A7, c7, rfl, ho7, hb7⟩)
        | (refine step_app rfl (.tmp 25) (.tmp 26) rfl w6.drew.heap.size A7 64 c7 K2 (by rfl) ho7 (some ⟨g, 0, none⟩) 32 32 s (by rfl) (In.below (w := w6.drew) ⟨H6.out.1.len, H6.out.1.rd⟩ hb7) (fun h => by cases h) (by omega) hb7.size ?_; intro A8 c8 w8 ho8 hb8)
        | (go_simp; go_at_call 65; refine (CO.out _ _ _ ho8 (hb7.trans hb8)).mono ?_; rintro e w9 ⟨rfl, hb9, hf9⟩))
      all_goals
        go_wp2
        refine bodyPost_ret_by (results_cell_row (p := 4) (ty := 54) (by kernel_rfl) _ _ w.heap.size 54 (bvs M).toArray (0, 0) _ rfl (hf9.setRow _) Tryd.underlying54 rfl (by rw [List.size_toArray, bvs_length, hMl]; exact sizeSum)) rfl ?_
        exact ⟨by rw [mac, HK.out.1, HS.out.1, HM.out.2.1, HM.out.1]; rfl, below_setRow hb9 (Nat.le_refl _) _⟩

end Go.Proofs.YtoojlpbfldnkpaaDoor
