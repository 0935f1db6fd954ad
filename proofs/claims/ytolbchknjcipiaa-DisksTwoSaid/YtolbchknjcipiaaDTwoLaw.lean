/-
  DisksTwo: two disks do not know of one another.
-/
import Derived.Test.YtolbchknjcipiaaDTwoDefs
import Derived.Deep.Cut
namespace Go.Proofs.Ytolbchknjcipiaa
open Go.RowKit

theorem fresh_left (ds : List (Nat × List Nat)) : fresh (settle (tst ds).sure (kept (tst ds).waits [])) = fresh (zeros 5) := by
  have : kept (tst ds).waits [] = [] := by simp [kept, pick]
  rw [this]
  rfl

set_option maxRecDepth 100000 in
set_option maxHeartbeats 8000000 in
theorem disksTwo_law (w : World) {A : Option Addr} {n c : Nat} {ws : List (Nat × List Nat)} (hw : CameWrites w A n c ws) {A3 : Option Addr} {n3 c3 : Nat} {ks : List Bool} (hk : CameBools w A3 n3 c3 ks) {y : Nat} (hy : y < 256) :
    Calls Try.prog 8 #[.slice A n c, .slice A3 n3 c3, .int .u8 (y : Int)] w fun e w' => e = .returned (.bool true) ∧ Below w.heap.size w w' := by
  by_cases hall : n ≤ 100 ∧ n3 ≤ 1000
  · obtain ⟨l1, l3⟩ := hall
    have i1 : decide (100 < (n : Int)) = false := by simp; omega
    have i3 : decide (1000 < (n3 : Int)) = false := by simp; omega
    obtain ⟨i0, hi, hz0, hz1, hz2⟩ := info_parts infoLawWrite
    go_enter Try.func8, Try.ntmps8
    go_wp2_with fail
    refine (alive_any w).mono ?_
    rintro e w2 ⟨rfl, b2⟩
    go_wp2_with fail
    refine (new_yes w2 5 (by decide) (by decide)).mono ?_
    rintro e w3 ⟨ga, rfl, m3⟩
    have a3 : Above w.heap.size w3 ga (fresh (zeros 5)) := m3.above b2.size
    have b3 := below_on b2 (Nat.le_refl _) m3.2
    clear m3 b2
    go_wp2_with fail
    refine (new_yes w3 5 (by decide) (by decide)).mono ?_
    rintro e w4 ⟨gb, rfl, m4⟩
    obtain ⟨F, G, dF, dG, hFG, hF, hG⟩ := m4.both a3 b3.size
    have b4 := below_on b3 (Nat.le_refl _) m4.2
    have o0 : OwnW w w4 (.slice none 0 0) [] := ⟨[], ⟨rfl, .inl ⟨rfl, rfl⟩⟩, rfl, fun i x e h => by simp at h⟩
    have t0 : Two w w4 ga gb (.slice none 0 0) (.slice none 0 0) [] [] [] [] := ⟨F, G, dF, dG, hFG, hF, hG, o0, o0, fun x _ => ⟨(by intro h; cases h), (by intro h; cases h)⟩, fun x h => by cases h⟩
    have HT := Lib.hid (And.intro t0 b4)
    clear m4 a3 b3 dF dG hFG hF hG b4 o0 t0
    go_wp2
    go_loopw [11, 12, 13] (fun v1 v2 i wr => ∃ (j : Nat) (e1 e2 : List (Nat × List Nat)), j ≤ n ∧ i = .int .i64 (j : Int) ∧ e1.length + e2.length = j ∧ Hid (Two w wr ga gb v1 v2 e1 e1 e2 e2 ∧ Below w.heap.size w wr)) (fun _ _ i _ => n - (intOf i).toNat)
    case atStart => exact ⟨0, [], [], Nat.zero_le _, rfl, rfl, HT⟩
    case round =>
      obtain ⟨j, e1, e2, hj, rfl, hlen, hrel⟩ := hrel
      by_cases hlt : j < n
      · obtain ⟨x, hx⟩ : ∃ x, ws[j]? = some x := ⟨_, List.getElem?_eq_getElem (by rw [hw.len]; exact hlt)⟩
        have hji : (j : Int) < (n : Int) := by omega
        obtain ⟨ad, B, m, k, rfl, g1, g2, hcame, hm63, hx1⟩ := hw.row j x hx
        have bel := hrel.out.2
        have hc1 : wr.cell? (ad.add (j * 2)) = some (.int .u8 (x.1 : Int)) := (bel.cell (World.block_lt_of_cell? w _ g1)).trans g1
        have hc2 : wr.cell? (ad.add (j * 2 + 1)) = some (.slice B m k) := (bel.cell (World.block_lt_of_cell? w _ g2)).trans g2
        have hc3 : wr.cell? ⟨(ad.add (j * 2)).block, (ad.add (j * 2)).off + 1, none⟩ = some (.slice B m k) := by rw [← add_pos _ (by decide), add_add]; exact hc2
        have g3 : w.cell? ⟨(ad.add (j * 2)).block, (ad.add (j * 2)).off + 1, none⟩ = some (.slice B m k) := by rw [← add_pos _ (by decide), add_add]; exact g2
        have hoff : 0 < m → ∀ b, B = some b → b.block < w.heap.size := fun hm b hb' => by
          obtain ⟨b', y, e', _, hc⟩ := hcame.in_.at_ hm
          rw [hb'] at e'
          cases e'
          have := World.block_lt_of_cell? w _ hc
          rwa [block_add] at this
        obtain ⟨q, hq⟩ : ∃ q, min m 64 = q := ⟨_, rfl⟩
        have hif : (if (m : Int) < 64 then (m : Int) else 64) = (q : Int) := by split <;> omega
        have hif2 : (if m < 64 then (m : Int) else 64) = (q : Int) := by split <;> omega
        have q64 : q ≤ 64 := by omega
        have qm : q ≤ m := by omega
        have hmk := hcame.cap
        have hqk : (q : Int) ≤ (k : Int) := by omega
        have hqk2 : q ≤ k := by omega
        have hwrap : IntKind.i64.wrap (x.1 : Int) = (x.1 : Int) := by rw [IntKind.wrap_i64]; omega
        obtain ⟨r, hr⟩ : ∃ r, x.1 % 5 = r := ⟨_, rfl⟩
        have hmod : Int.tmod (x.1 : Int) 5 = (r : Int) := by rw [Int.tmod_eq_emod_of_nonneg (by omega)]; omega
        have hmod2 : (x.1 : Int) % 5 = (r : Int) := by omega
        have hr5 : r < 5 := by omega
        have htk : x.2.take 64 = x.2.take q := by
          rw [← hq]
          by_cases h64 : m ≤ 64
          · rw [Nat.min_eq_left h64, List.take_of_length_le (by rw [hcame.in_.len]; exact h64), List.take_of_length_le (by rw [hcame.in_.len]; exact Nat.le_refl _)]
          · rw [Nat.min_eq_right (by omega)]
        have hel : Elem w x [.int .u8 (x.1 : Int), .slice B m k] := ⟨B, m, k, rfl, hcame, hm63, hx1⟩
        have HX := Lib.hid (And.intro hel (And.intro hcame (And.intro hoff (And.intro htk (And.intro hr (And.intro g1 (And.intro g3 hlen)))))))
        clear hel hcame hoff htk hr hq hmk hm63 hx1 hx g2 hc2 g1 g3 bel hlen
        by_cases hjk : j < n3
        · obtain ⟨kb, hkb⟩ : ∃ kb, ks[j]? = some kb := ⟨_, List.getElem?_eq_getElem (by rw [hk.in_.len]; exact hjk)⟩
          obtain ⟨adk, rfl, hkc⟩ := hk.in_.rd j kb hkb
          have hkc' : wr.cell? (adk.add j) = some (.bool kb) := (hrel.out.2.cell (World.block_lt_of_cell? w _ hkc)).trans hkc
          have hji3 : (j : Int) < (n3 : Int) := by omega
          clear hkc hkb
          cases kb
          · skip
            obtain ⟨F0, G0, _, _, _, _, _, ow, _, _, _⟩ := hrel.out.1
            obtain ⟨E, ho1, ho2, ho3⟩ := ow
            have hel1 : e1.length ≤ 100 := by have := HX.out.2.2.2.2.2.2.2; omega
            have hws : w.heap.size ≤ wr.heap.size := hrel.out.2.size
            have HO := Lib.hid (And.intro ho1 (And.intro ho2 ho3))
            clear ho1 ho2 ho3
            go_upto_region 16 with (at_builtin; refine wpList_append_lies _ rfl _ _ 42 rfl w.heap.size 51 i0 _ 2 32 Try.underlying42 hi hz0 hz1 hz2 (by rfl) (by decide) _ e1.length E.flatten rfl (own_block HO.out.1 (fun b hb => heap_alloc_old wr _ (own_lt HO.out.1 hb))) ⟨wr.heap.size, 0, none⟩ 1 1 [.int .u8 (x.1 : Int), .slice B m k] rfl rfl (World.news_of_block (cs := #[.int .u8 (x.1 : Int), .slice B m k]) (t := 51) (fr := (0, 0)) (World.alloc_heap_new wr _)) (by simp [Value.oneCell']) (by decide) (by unfold maxLen; omega) (by omega) (by simp; omega) _ rfl ?_; intro gg cap w5 hown hgrow hat hlt2)
            have T5 := (hrel.out.1.app HX.out.1 ⟨HO.out.2.1, HO.out.2.2⟩ hown hgrow hat)
            have b5 : Below w.heap.size w w5 := (hrel.out.2.alloc hws _).grown hgrow (by simp; omega) (fun b hb => by
              rcases HO.out.1.2 with ⟨e0, _⟩ | ⟨g0, cap0, cur0, e0, hb0, _⟩
              · rw [e0] at hb; cases hb
              · rw [e0] at hb; cases hb; exact hb0)
            have hd1 : w5.cell? (ad.add (j * 2)) = some (.int .u8 (x.1 : Int)) := (b5.cell (World.block_lt_of_cell? w _ HX.out.2.2.2.2.2.1)).trans HX.out.2.2.2.2.2.1
            have hd3 : w5.cell? ⟨(ad.add (j * 2)).block, (ad.add (j * 2)).off + 1, none⟩ = some (.slice B m k) := (b5.cell (World.block_lt_of_cell? w _ HX.out.2.2.2.2.2.2.1)).trans HX.out.2.2.2.2.2.2.1
            obtain ⟨F, G, dF, dG, hFG, hF, hG, o1, o2, hv, hvv⟩ := T5
            have hstep := tst_wrote e1 x
            rw [HX.out.2.2.2.2.1, HX.out.2.2.2.1] at hstep
            have bdr : Below w.heap.size w (w5.drewN 1) := b5.trans ⟨rfl, rfl, rfl, Nat.le_refl _, fun _ _ => rfl⟩
            have CW := write_any (w := w5.drewN 1) (F := F) (g := ga) (s := tst e1) (k := r) (by show r < (zeros 5).length; rw [zeros_length]; exact hr5) B q k (x.2.take q) ((HX.out.2.1.in_.below bdr).take qm) (fun h0 b hb => by have := HX.out.2.2.1 (by omega) b hb; have := hF ga dF.mem; omega) (fun y hy => HX.out.2.1.lt y (List.mem_of_mem_take hy)) q64 (by show (-1 : Int) ≠ 0; decide) (by show (e1.map asW).length ≤ _; rw [List.length_map]; omega) (dF.below (drewN_below w5 1))
            rw [hstep] at CW
            have HC := Lib.hid (And.intro CW (And.intro dG (And.intro hFG (And.intro hF (And.intro hG (And.intro o1 (And.intro o2 (And.intro hv (And.intro hvv (And.intro b5 bdr))))))))))
            clear CW dF dG hFG hF hG o1 o2 hv hvv b5 bdr hown hgrow hat hlt2 hc1 hc3 HO hstep hws
            go_wp2
            go_still_tail 21, (by kernel_rfl)
            change wpList _ _ _ _ _ (w5.drewN 1)
            clear hif hif2 hmod hmod2 hwrap hd1 hd3
            go_wp2_with fail
            refine HC.out.1.mono ?_
            rintro e w6 ⟨rfl, h6⟩
            obtain ⟨_, dG, hFG, hF, hG, o1, o2, hv, hvv, b5, bdr⟩ := HC.out
            obtain ⟨T6, b6⟩ := Two.act h6 (dG.below (drewN_below w5 1)) hFG hF hG (o1.block (fun _ _ => rfl)) (o2.block (fun _ _ => rfl)) hv hvv b5.size
            have b6' := bdr.trans b6
            obtain ⟨F6, G6, dF6, _⟩ := id T6
            have CL := left_any none 0 0 [] (InB.none_ _ _) dF6
            rw [fresh_left] at CL
            have HL := Lib.hid (And.intro CL (And.intro T6 b6'))
            clear CL T6 b6' b6 dF6 dG hFG hF hG o1 o2 hv hvv b5 bdr h6 HC
            go_wp2_with fail
            refine HL.out.1.mono ?_
            rintro e w7 ⟨gc, rfl, m7⟩
            have CT := turn_any (n := 0) (k := 0) (y := y) (by decide) (by decide) hy rfl m7.1
            have HM := Lib.hid m7
            clear m7
            go_wp2_with fail
            refine CT.mono ?_
            rintro e w8 ⟨rfl, F8, d8, but8, hF8⟩
            clear CT
            have b8 : Below w6.heap.size w6 w8 := HM.out.2.trans (but8.below HM.out.2.size (fun x hx => hx.1))
            have hf8 : ∀ x, F8 x → w6.heap.size ≤ x := fun x hx => (hF8 x hx).elim (fun h => h.1) (fun h => Nat.le_trans HM.out.2.size h)
            obtain ⟨s8, hs8⟩ : ∃ s8, (fresh (zeros 5)).turned 0 0 y = s8 := ⟨_, rfl⟩
            have h85 : s8.sure.length = 5 := by rw [← hs8]; show ((zeros 5).set _ _).length = 5; rw [List.length_set, zeros_length]
            have h8l : s8.lets ≠ 0 := by rw [← hs8]; show (-1 : Int) ≠ 0; decide
            have h8w : s8.waits.length ≤ 1000000000 := by rw [← hs8]; exact Nat.zero_le _
            rw [hs8] at d8
            obtain ⟨w9, hw9⟩ : ∃ W, w8.alloc (.cells #[.int .u8 (y : Int)] 5) = W := ⟨_, rfl⟩
            have b9 : Below w8.heap.size w8 w9 := hw9 ▸ below_alloc w8 _
            have hin9 : In w9 (some ⟨w8.heap.size, 0, none⟩) 1 [y] := by rw [← hw9]; exact In.new w8 [y]
            have CW9 := write_any (k := 1) (by rw [h85]; decide) (some ⟨w8.heap.size, 0, none⟩) 1 1 [y] hin9 (fun _ ad e => by cases e; have := d8.lt; show w8.heap.size ≠ gc; omega) (fun z hz => by simp at hz; omega) (by decide) h8l h8w (d8.below b9)
            have HW := Lib.hid (And.intro CW9 (And.intro hf8 (And.intro b8 b9)))
            clear CW9 hf8 b8 b9 hin9 d8 but8 hF8 hs8 h85 h8l h8w HM
            go_wp2_with fail
            refine HW.out.1.mono ?_
            rintro e w10 ⟨rfl, _, _, but10, _⟩
            have b10 : Below w6.heap.size w6 w10 := (HW.out.2.2.1.trans (HW.out.2.2.2.mono HW.out.2.2.1.size)).trans (but10.below (Nat.le_trans HW.out.2.2.1.size HW.out.2.2.2.size) HW.out.2.1)
            have T10 := (HL.out.2.1.below b10)
            have HN := Lib.hid (And.intro T10 (below_on HL.out.2.2 (Nat.le_refl _) b10))
            have hln := HX.out.2.2.2.2.2.2.2
            clear T10 b10 but10 HW hw9
            go_wp2
            go_roundw
            case rel => exact ⟨j + 1, e1 ++ [x], e2, by omega, by go_num, by rw [List.length_append, List.length_singleton]; omega, HN⟩
            case measure => simp [intOf]; omega
          · skip
            obtain ⟨F0, G0, _, _, _, _, _, ow, _, _, _⟩ := hrel.out.1.swap
            obtain ⟨E, ho1, ho2, ho3⟩ := ow
            have hel1 : e2.length ≤ 100 := by have := HX.out.2.2.2.2.2.2.2; omega
            have hws : w.heap.size ≤ wr.heap.size := hrel.out.2.size
            have HO := Lib.hid (And.intro ho1 (And.intro ho2 ho3))
            clear ho1 ho2 ho3
            go_upto_region 16 with (at_builtin; refine wpList_append_lies _ rfl _ _ 42 rfl w.heap.size 51 i0 _ 2 32 Try.underlying42 hi hz0 hz1 hz2 (by rfl) (by decide) _ e2.length E.flatten rfl (own_block HO.out.1 (fun b hb => heap_alloc_old wr _ (own_lt HO.out.1 hb))) ⟨wr.heap.size, 0, none⟩ 1 1 [.int .u8 (x.1 : Int), .slice B m k] rfl rfl (World.news_of_block (cs := #[.int .u8 (x.1 : Int), .slice B m k]) (t := 51) (fr := (0, 0)) (World.alloc_heap_new wr _)) (by simp [Value.oneCell']) (by decide) (by unfold maxLen; omega) (by omega) (by simp; omega) _ rfl ?_; intro gg cap w5 hown hgrow hat hlt2)
            have T5 := (hrel.out.1.swap.app HX.out.1 ⟨HO.out.2.1, HO.out.2.2⟩ hown hgrow hat)
            have b5 : Below w.heap.size w w5 := (hrel.out.2.alloc hws _).grown hgrow (by simp; omega) (fun b hb => by
              rcases HO.out.1.2 with ⟨e0, _⟩ | ⟨g0, cap0, cur0, e0, hb0, _⟩
              · rw [e0] at hb; cases hb
              · rw [e0] at hb; cases hb; exact hb0)
            have hd1 : w5.cell? (ad.add (j * 2)) = some (.int .u8 (x.1 : Int)) := (b5.cell (World.block_lt_of_cell? w _ HX.out.2.2.2.2.2.1)).trans HX.out.2.2.2.2.2.1
            have hd3 : w5.cell? ⟨(ad.add (j * 2)).block, (ad.add (j * 2)).off + 1, none⟩ = some (.slice B m k) := (b5.cell (World.block_lt_of_cell? w _ HX.out.2.2.2.2.2.2.1)).trans HX.out.2.2.2.2.2.2.1
            obtain ⟨F, G, dF, dG, hFG, hF, hG, o1, o2, hv, hvv⟩ := T5
            have hstep := tst_wrote e2 x
            rw [HX.out.2.2.2.2.1, HX.out.2.2.2.1] at hstep
            have bdr : Below w.heap.size w (w5.drewN 1) := b5.trans ⟨rfl, rfl, rfl, Nat.le_refl _, fun _ _ => rfl⟩
            have CW := write_any (w := w5.drewN 1) (F := F) (g := gb) (s := tst e2) (k := r) (by show r < (zeros 5).length; rw [zeros_length]; exact hr5) B q k (x.2.take q) ((HX.out.2.1.in_.below bdr).take qm) (fun h0 b hb => by have := HX.out.2.2.1 (by omega) b hb; have := hF gb dF.mem; omega) (fun y hy => HX.out.2.1.lt y (List.mem_of_mem_take hy)) q64 (by show (-1 : Int) ≠ 0; decide) (by show (e2.map asW).length ≤ _; rw [List.length_map]; omega) (dF.below (drewN_below w5 1))
            rw [hstep] at CW
            have HC := Lib.hid (And.intro CW (And.intro dG (And.intro hFG (And.intro hF (And.intro hG (And.intro o1 (And.intro o2 (And.intro hv (And.intro hvv (And.intro b5 bdr))))))))))
            clear CW dF dG hFG hF hG o1 o2 hv hvv b5 bdr hown hgrow hat hlt2 hc1 hc3 HO hstep hws
            go_wp2
            go_still_tail 21, (by kernel_rfl)
            change wpList _ _ _ _ _ (w5.drewN 1)
            clear hif hif2 hmod hmod2 hwrap hd1 hd3
            go_wp2_with fail
            refine HC.out.1.mono ?_
            rintro e w6 ⟨rfl, h6⟩
            obtain ⟨_, dG, hFG, hF, hG, o1, o2, hv, hvv, b5, bdr⟩ := HC.out
            obtain ⟨T6, b6⟩ := Two.act h6 (dG.below (drewN_below w5 1)) hFG hF hG (o1.block (fun _ _ => rfl)) (o2.block (fun _ _ => rfl)) hv hvv b5.size
            have b6' := bdr.trans b6
            obtain ⟨F6, G6, dF6, _⟩ := id T6
            have CL := left_any none 0 0 [] (InB.none_ _ _) dF6
            rw [fresh_left] at CL
            have HL := Lib.hid (And.intro CL (And.intro T6 b6'))
            clear CL T6 b6' b6 dF6 dG hFG hF hG o1 o2 hv hvv b5 bdr h6 HC
            go_wp2_with fail
            refine HL.out.1.mono ?_
            rintro e w7 ⟨gc, rfl, m7⟩
            have CT := turn_any (n := 0) (k := 0) (y := y) (by decide) (by decide) hy rfl m7.1
            have HM := Lib.hid m7
            clear m7
            go_wp2_with fail
            refine CT.mono ?_
            rintro e w8 ⟨rfl, F8, d8, but8, hF8⟩
            clear CT
            have b8 : Below w6.heap.size w6 w8 := HM.out.2.trans (but8.below HM.out.2.size (fun x hx => hx.1))
            have hf8 : ∀ x, F8 x → w6.heap.size ≤ x := fun x hx => (hF8 x hx).elim (fun h => h.1) (fun h => Nat.le_trans HM.out.2.size h)
            obtain ⟨s8, hs8⟩ : ∃ s8, (fresh (zeros 5)).turned 0 0 y = s8 := ⟨_, rfl⟩
            have h85 : s8.sure.length = 5 := by rw [← hs8]; show ((zeros 5).set _ _).length = 5; rw [List.length_set, zeros_length]
            have h8l : s8.lets ≠ 0 := by rw [← hs8]; show (-1 : Int) ≠ 0; decide
            have h8w : s8.waits.length ≤ 1000000000 := by rw [← hs8]; exact Nat.zero_le _
            rw [hs8] at d8
            obtain ⟨w9, hw9⟩ : ∃ W, w8.alloc (.cells #[.int .u8 (y : Int)] 5) = W := ⟨_, rfl⟩
            have b9 : Below w8.heap.size w8 w9 := hw9 ▸ below_alloc w8 _
            have hin9 : In w9 (some ⟨w8.heap.size, 0, none⟩) 1 [y] := by rw [← hw9]; exact In.new w8 [y]
            have CW9 := write_any (k := 1) (by rw [h85]; decide) (some ⟨w8.heap.size, 0, none⟩) 1 1 [y] hin9 (fun _ ad e => by cases e; have := d8.lt; show w8.heap.size ≠ gc; omega) (fun z hz => by simp at hz; omega) (by decide) h8l h8w (d8.below b9)
            have HW := Lib.hid (And.intro CW9 (And.intro hf8 (And.intro b8 b9)))
            clear CW9 hf8 b8 b9 hin9 d8 but8 hF8 hs8 h85 h8l h8w HM
            go_wp2_with fail
            refine HW.out.1.mono ?_
            rintro e w10 ⟨rfl, _, _, but10, _⟩
            have b10 : Below w6.heap.size w6 w10 := (HW.out.2.2.1.trans (HW.out.2.2.2.mono HW.out.2.2.1.size)).trans (but10.below (Nat.le_trans HW.out.2.2.1.size HW.out.2.2.2.size) HW.out.2.1)
            have T10 := (HL.out.2.1.below b10).swap
            have HN := Lib.hid (And.intro T10 (below_on HL.out.2.2 (Nat.le_refl _) b10))
            have hln := HX.out.2.2.2.2.2.2.2
            clear T10 b10 but10 HW hw9
            go_wp2
            go_roundw
            case rel => exact ⟨j + 1, e1, e2 ++ [x], by omega, by go_num, by rw [List.length_append, List.length_singleton]; omega, HN⟩
            case measure => simp [intOf]; omega
        · have hji3 : decide ((j : Int) < (n3 : Int)) = false := by simp; omega
          obtain ⟨F0, G0, _, _, _, _, _, ow, _, _, _⟩ := hrel.out.1
          obtain ⟨E, ho1, ho2, ho3⟩ := ow
          have hel1 : e1.length ≤ 100 := by have := HX.out.2.2.2.2.2.2.2; omega
          have hws : w.heap.size ≤ wr.heap.size := hrel.out.2.size
          have HO := Lib.hid (And.intro ho1 (And.intro ho2 ho3))
          clear ho1 ho2 ho3
          go_upto_region 16 with (at_builtin; refine wpList_append_lies _ rfl _ _ 42 rfl w.heap.size 51 i0 _ 2 32 Try.underlying42 hi hz0 hz1 hz2 (by rfl) (by decide) _ e1.length E.flatten rfl (own_block HO.out.1 (fun b hb => heap_alloc_old wr _ (own_lt HO.out.1 hb))) ⟨wr.heap.size, 0, none⟩ 1 1 [.int .u8 (x.1 : Int), .slice B m k] rfl rfl (World.news_of_block (cs := #[.int .u8 (x.1 : Int), .slice B m k]) (t := 51) (fr := (0, 0)) (World.alloc_heap_new wr _)) (by simp [Value.oneCell']) (by decide) (by unfold maxLen; omega) (by omega) (by simp; omega) _ rfl ?_; intro gg cap w5 hown hgrow hat hlt2)
          have T5 := (hrel.out.1.app HX.out.1 ⟨HO.out.2.1, HO.out.2.2⟩ hown hgrow hat)
          have b5 : Below w.heap.size w w5 := (hrel.out.2.alloc hws _).grown hgrow (by simp; omega) (fun b hb => by
            rcases HO.out.1.2 with ⟨e0, _⟩ | ⟨g0, cap0, cur0, e0, hb0, _⟩
            · rw [e0] at hb; cases hb
            · rw [e0] at hb; cases hb; exact hb0)
          have hd1 : w5.cell? (ad.add (j * 2)) = some (.int .u8 (x.1 : Int)) := (b5.cell (World.block_lt_of_cell? w _ HX.out.2.2.2.2.2.1)).trans HX.out.2.2.2.2.2.1
          have hd3 : w5.cell? ⟨(ad.add (j * 2)).block, (ad.add (j * 2)).off + 1, none⟩ = some (.slice B m k) := (b5.cell (World.block_lt_of_cell? w _ HX.out.2.2.2.2.2.2.1)).trans HX.out.2.2.2.2.2.2.1
          obtain ⟨F, G, dF, dG, hFG, hF, hG, o1, o2, hv, hvv⟩ := T5
          have hstep := tst_wrote e1 x
          rw [HX.out.2.2.2.2.1, HX.out.2.2.2.1] at hstep
          have bdr : Below w.heap.size w (w5.drewN 1) := b5.trans ⟨rfl, rfl, rfl, Nat.le_refl _, fun _ _ => rfl⟩
          have CW := write_any (w := w5.drewN 1) (F := F) (g := ga) (s := tst e1) (k := r) (by show r < (zeros 5).length; rw [zeros_length]; exact hr5) B q k (x.2.take q) ((HX.out.2.1.in_.below bdr).take qm) (fun h0 b hb => by have := HX.out.2.2.1 (by omega) b hb; have := hF ga dF.mem; omega) (fun y hy => HX.out.2.1.lt y (List.mem_of_mem_take hy)) q64 (by show (-1 : Int) ≠ 0; decide) (by show (e1.map asW).length ≤ _; rw [List.length_map]; omega) (dF.below (drewN_below w5 1))
          rw [hstep] at CW
          have HC := Lib.hid (And.intro CW (And.intro dG (And.intro hFG (And.intro hF (And.intro hG (And.intro o1 (And.intro o2 (And.intro hv (And.intro hvv (And.intro b5 bdr))))))))))
          clear CW dF dG hFG hF hG o1 o2 hv hvv b5 bdr hown hgrow hat hlt2 hc1 hc3 HO hstep hws
          go_wp2
          go_still_tail 21, (by kernel_rfl)
          change wpList _ _ _ _ _ (w5.drewN 1)
          clear hif hif2 hmod hmod2 hwrap hd1 hd3
          go_wp2_with fail
          refine HC.out.1.mono ?_
          rintro e w6 ⟨rfl, h6⟩
          obtain ⟨_, dG, hFG, hF, hG, o1, o2, hv, hvv, b5, bdr⟩ := HC.out
          obtain ⟨T6, b6⟩ := Two.act h6 (dG.below (drewN_below w5 1)) hFG hF hG (o1.block (fun _ _ => rfl)) (o2.block (fun _ _ => rfl)) hv hvv b5.size
          have b6' := bdr.trans b6
          obtain ⟨F6, G6, dF6, _⟩ := id T6
          have CL := left_any none 0 0 [] (InB.none_ _ _) dF6
          rw [fresh_left] at CL
          have HL := Lib.hid (And.intro CL (And.intro T6 b6'))
          clear CL T6 b6' b6 dF6 dG hFG hF hG o1 o2 hv hvv b5 bdr h6 HC
          go_wp2_with fail
          refine HL.out.1.mono ?_
          rintro e w7 ⟨gc, rfl, m7⟩
          have CT := turn_any (n := 0) (k := 0) (y := y) (by decide) (by decide) hy rfl m7.1
          have HM := Lib.hid m7
          clear m7
          go_wp2_with fail
          refine CT.mono ?_
          rintro e w8 ⟨rfl, F8, d8, but8, hF8⟩
          clear CT
          have b8 : Below w6.heap.size w6 w8 := HM.out.2.trans (but8.below HM.out.2.size (fun x hx => hx.1))
          have hf8 : ∀ x, F8 x → w6.heap.size ≤ x := fun x hx => (hF8 x hx).elim (fun h => h.1) (fun h => Nat.le_trans HM.out.2.size h)
          obtain ⟨s8, hs8⟩ : ∃ s8, (fresh (zeros 5)).turned 0 0 y = s8 := ⟨_, rfl⟩
          have h85 : s8.sure.length = 5 := by rw [← hs8]; show ((zeros 5).set _ _).length = 5; rw [List.length_set, zeros_length]
          have h8l : s8.lets ≠ 0 := by rw [← hs8]; show (-1 : Int) ≠ 0; decide
          have h8w : s8.waits.length ≤ 1000000000 := by rw [← hs8]; exact Nat.zero_le _
          rw [hs8] at d8
          obtain ⟨w9, hw9⟩ : ∃ W, w8.alloc (.cells #[.int .u8 (y : Int)] 5) = W := ⟨_, rfl⟩
          have b9 : Below w8.heap.size w8 w9 := hw9 ▸ below_alloc w8 _
          have hin9 : In w9 (some ⟨w8.heap.size, 0, none⟩) 1 [y] := by rw [← hw9]; exact In.new w8 [y]
          have CW9 := write_any (k := 1) (by rw [h85]; decide) (some ⟨w8.heap.size, 0, none⟩) 1 1 [y] hin9 (fun _ ad e => by cases e; have := d8.lt; show w8.heap.size ≠ gc; omega) (fun z hz => by simp at hz; omega) (by decide) h8l h8w (d8.below b9)
          have HW := Lib.hid (And.intro CW9 (And.intro hf8 (And.intro b8 b9)))
          clear CW9 hf8 b8 b9 hin9 d8 but8 hF8 hs8 h85 h8l h8w HM
          go_wp2_with fail
          refine HW.out.1.mono ?_
          rintro e w10 ⟨rfl, _, _, but10, _⟩
          have b10 : Below w6.heap.size w6 w10 := (HW.out.2.2.1.trans (HW.out.2.2.2.mono HW.out.2.2.1.size)).trans (but10.below (Nat.le_trans HW.out.2.2.1.size HW.out.2.2.2.size) HW.out.2.1)
          have T10 := (HL.out.2.1.below b10)
          have HN := Lib.hid (And.intro T10 (below_on HL.out.2.2 (Nat.le_refl _) b10))
          have hln := HX.out.2.2.2.2.2.2.2
          clear T10 b10 but10 HW hw9
          go_wp2
          go_roundw
          case rel => exact ⟨j + 1, e1 ++ [x], e2, by omega, by go_num, by rw [List.length_append, List.length_singleton]; omega, HN⟩
          case measure => simp [intOf]; omega
      · obtain rfl : j = n := by omega
        have hji : decide ((j : Int) < (j : Int)) = false := by simp
        obtain ⟨F, G, dF, dG, hFG, hF, hG, o1, o2, hv, hvv⟩ := hrel.out.1
        have bel := hrel.out.2
        obtain ⟨A1, k1, rfl⟩ := o1.form
        obtain ⟨A2, k2, rfl⟩ := o2.form
        have C1 := written_any A1 e1.length k1 e1 101 (o1.came bel) (by omega)
        rw [wst_all rfl (by omega), show (⟨zeros 5, e1.map asW, -1, false⟩ : St) = tst e1 from rfl] at C1
        have HH := Lib.hid (And.intro C1 (And.intro dF (And.intro dG (And.intro hF (And.intro hG (And.intro o2 bel))))))
        clear C1 dF dG hFG hF hG o1 o2 hv hvv bel
        go_wp2_with fail
        refine HH.out.1.mono ?_
        rintro e w5 ⟨gx, rfl, ax, b5⟩
        obtain ⟨_, dF, dG, hF, hG, o2, bel⟩ := HH.out
        have bel5 := below_on bel (Nat.le_refl _) b5
        have C2 := written_any A2 e2.length k2 e2 101 ((o2.block (fun b hb => b5.block b (o2.base hb).2)).came bel5) (by omega)
        rw [wst_all rfl (by omega), show (⟨zeros 5, e2.map asW, -1, false⟩ : St) = tst e2 from rfl] at C2
        have aF : Above 0 w5 ga (tst e1) := ⟨F, dF.below b5, fun _ _ => Nat.zero_le _⟩
        have aG : Above 0 w5 gb (tst e2) := ⟨G, dG.below b5, fun _ _ => Nat.zero_le _⟩
        have H5 := Lib.hid (And.intro C2 (And.intro aF (And.intro aG (And.intro (ax.mono (Nat.zero_le _)) bel5))))
        clear C2 aF aG ax bel5 dF dG hF hG o2 bel b5 HH
        go_wp2_with fail
        refine H5.out.1.mono ?_
        rintro e w6 ⟨gy, rfl, ay, b6⟩
        obtain ⟨_, aF, aG, ax, bel⟩ := H5.out
        have h5 : ∀ ds, (tst ds).sure.length = 5 := fun _ => zeros_length 5
        have H6 := Lib.hid (And.intro (aF.below b6) (And.intro (aG.below b6) (And.intro (ax.below b6) (And.intro (ay.mono (Nat.zero_le _)) (below_on bel (Nat.le_refl _) b6)))))
        clear aF aG ax bel ay b6 H5
        go_wp2_with fail
        refine (all_five H6.out.1 (h5 _)).mono ?_
        rintro e w7 ⟨B7, c7, rfl, r7, b7⟩
        have H7 := Lib.hid (And.intro r7.now b7)
        clear r7 b7
        go_wp2_with fail
        refine (all_five (H6.out.2.2.1.below H7.out.2) (h5 _)).mono ?_
        rintro e w8 ⟨B8, c8, rfl, r8, b8⟩
        have H8 := Lib.hid (And.intro r8.now (And.intro (H7.out.1.below b8) (below_on H7.out.2 (Nat.le_refl _) b8)))
        clear r8 b8 H7
        go_wp2_with fail
        refine (sameLists_yes B7 B8 5 c7 c8 _ w8 H8.out.2.1 H8.out.1 (by decide)).mono ?_
        rintro e w9 ⟨rfl, q9, hq9⟩
        have b9 : Below w6.heap.size w6 w9 := below_on H8.out.2.2 (Nat.le_refl _) (hq9 ▸ drewN_below w8 q9)
        have H9 := Lib.hid b9
        clear b9 hq9 H8
        go_wp2_with fail
        refine (all_five (H6.out.2.1.below H9.out) (h5 _)).mono ?_
        rintro e w10 ⟨B10, c10, rfl, r10, b10⟩
        have H10 := Lib.hid (And.intro r10.now (below_on H9.out (Nat.le_refl _) b10))
        clear r10 b10 H9
        go_wp2_with fail
        refine (all_five (H6.out.2.2.2.1.below H10.out.2) (h5 _)).mono ?_
        rintro e w11 ⟨B11, c11, rfl, r11, b11⟩
        have H11 := Lib.hid (And.intro r11.now (And.intro (H10.out.1.below b11) (below_on H10.out.2 (Nat.le_refl _) b11)))
        clear r11 b11 H10
        go_wp2_with fail
        refine (sameLists_yes B10 B11 5 c10 c11 _ w11 H11.out.2.1 H11.out.1 (by decide)).mono ?_
        rintro e w12 ⟨rfl, q12, hq12⟩
        have b12 : Below w6.heap.size w6 w12 := below_on H11.out.2.2 (Nat.le_refl _) (hq12 ▸ drewN_below w11 q12)
        obtain ⟨Fa, da, _⟩ := H6.out.1.below b12
        obtain ⟨Fb, db, _⟩ := H6.out.2.1.below b12
        have CWa := waits_any da
        have CWb := waits_any db
        rw [show (tst e1).waits.length = e1.length from List.length_map ..] at CWa
        rw [show (tst e2).waits.length = e2.length from List.length_map ..] at CWb
        have H12 := Lib.hid (And.intro CWb (below_on H6.out.2.2.2.2 (Nat.le_refl _) b12))
        clear b12 hq12 da db CWb H11
        go_wp2_with fail
        refine CWa.mono ?_
        rintro e w13 ⟨rfl, rfl⟩
        clear CWa
        go_wp2_with fail
        refine H12.out.1.mono ?_
        rintro e w13 ⟨rfl, rfl⟩
        go_wp2
        go_ret
        exact ⟨rfl, H12.out.2⟩
  · go_enter Try.func8, Try.ntmps8
    go_wp2_with fail
    refine (alive_any w).mono ?_
    rintro e w2 ⟨rfl, b2⟩
    have CA := alive_any w2
    by_cases i1 : n ≤ 100
    · have j1 : decide (100 < (n : Int)) = false := by simp; omega
      have j3 : 1000 < n3 := by omega
      have j3' : (1000 : Int) < (n3 : Int) := by omega
      go_wp2_with fail
      refine CA.mono ?_
      rintro e w3 ⟨rfl, b3⟩
      go_wp2
      go_ret
      exact ⟨rfl, below_on b2 (Nat.le_refl _) b3⟩
    · have j3 : 100 < n := by omega
      have j3' : (100 : Int) < (n : Int) := by omega
      go_wp2_with fail
      refine CA.mono ?_
      rintro e w3 ⟨rfl, b3⟩
      go_wp2
      go_ret
      exact ⟨rfl, below_on b2 (Nat.le_refl _) b3⟩

end Go.Proofs.Ytolbchknjcipiaa
