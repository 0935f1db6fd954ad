/-
  DisksFirst: just the first writes are let be.
-/
import Derived.Test.YtolbchknjcipiaaDLawTools
import Derived.Deep.Cut
namespace Go.Proofs.Ytolbchknjcipiaa
open Go.RowKit

/-- Old memory is the same in two later worlds. -/
theorem In.via {w w1 w2 : World} {B : Option Addr} {m : Nat} {xs : List Nat} (h : In w1 B m xs) (hoff : 0 < m → ∀ b, B = some b → b.block < w.heap.size) (h1 : Below w.heap.size w w1) (h2 : Below w.heap.size w w2) : In w2 B m xs := by
  refine ⟨h.len, fun j x hx => ?_⟩
  obtain ⟨ad, e, hc⟩ := h.rd j x hx
  have hj := (List.getElem?_eq_some_iff.1 hx).1
  have hb := hoff (by rw [← h.len]; omega) ad e
  refine ⟨ad, e, (World.cell?_of_block ?_).trans hc⟩
  rw [block_add]
  exact (h2.block _ hb).trans (h1.block _ hb).symm

/-- The disk behind some writes, of which f are let be. -/
def fst_ (f : Nat) (ws : List (Nat × List Nat)) (j : Nat) : St := ⟨zeros 5, (ws.take (min j f)).map asW, ((f - min j f : Nat) : Int), decide (f < j)⟩
/-- The other one. -/
def oth (f : Nat) (ws : List (Nat × List Nat)) (j : Nat) : St := ⟨zeros 5, (ws.take (min j f)).map asW, -1, false⟩
theorem fst_ok {f : Nat} {ws : List (Nat × List Nat)} {j : Nat} {x : Nat × List Nat} (hx : ws[j]? = some x) (h : j < f) : (fst_ f ws j).wrote (x.1 % 5) (x.2.take 64) = fst_ f ws (j + 1) := by
  have e : ws.take (j + 1) = ws.take j ++ [x] := by rw [List.take_add_one, hx]; rfl
  have m1 : min j f = j := Nat.min_eq_left (by omega)
  have m2 : min (j + 1) f = j + 1 := Nat.min_eq_left (by omega)
  have hb : (fst_ f ws j).burnt = { fst_ f ws j with lets := ((f - (j + 1) : Nat) : Int) } := by
    unfold St.burnt fst_
    rw [m1]
    rw [if_neg (by show ¬ (((f - j : Nat) : Int) = 0); omega), if_neg (by show ¬ (((f - j : Nat) : Int) = -1); omega)]
    congr 1
    show ((f - j : Nat) : Int) - 1 = _
    omega
  unfold St.wrote
  rw [hb]
  unfold fst_
  rw [m1, m2, e, List.map_append]
  have d1 : decide (f < j) = false := by simp; omega
  have d2 : decide (f < j + 1) = false := by simp; omega
  rw [d1, d2]
  rfl
theorem oth_ok {f : Nat} {ws : List (Nat × List Nat)} {j : Nat} {x : Nat × List Nat} (hx : ws[j]? = some x) (h : j < f) : (oth f ws j).wrote (x.1 % 5) (x.2.take 64) = oth f ws (j + 1) := by
  have e : ws.take (j + 1) = ws.take j ++ [x] := by rw [List.take_add_one, hx]; rfl
  have m1 : min j f = j := Nat.min_eq_left (by omega)
  have m2 : min (j + 1) f = j + 1 := Nat.min_eq_left (by omega)
  unfold St.wrote
  rw [burnt_all rfl]
  unfold oth
  rw [m1, m2, e, List.map_append]
  rfl
theorem fst_no {f : Nat} {ws : List (Nat × List Nat)} {j : Nat} (h : f ≤ j) : (fst_ f ws j).burnt = fst_ f ws (j + 1) := by
  have m1 : min j f = f := Nat.min_eq_right (by omega)
  have m2 : min (j + 1) f = f := Nat.min_eq_right (by omega)
  have d2 : decide (f < j + 1) = true := by simp; omega
  unfold St.burnt fst_
  rw [m1, m2, Nat.sub_self, if_pos (show ((0 : Nat) : Int) = 0 from rfl), d2]
theorem oth_no {f : Nat} {ws : List (Nat × List Nat)} {j : Nat} (h : f ≤ j) : oth f ws j = oth f ws (j + 1) := by
  have m1 : min j f = f := Nat.min_eq_right (by omega)
  have m2 : min (j + 1) f = f := Nat.min_eq_right (by omega)
  unfold oth
  rw [m1, m2]

set_option maxRecDepth 100000 in
set_option maxHeartbeats 4000000 in
theorem disksFirst_law (w : World) {A : Option Addr} {n c : Nat} {ws : List (Nat × List Nat)} (hw : CameWrites w A n c ws) {f : Nat} (hf : f < 256) :
    Calls Try.prog 6 #[.slice A n c, .int .u8 (f : Int)] w fun e w' => e = .returned (.bool true) ∧ Below w.heap.size w w' := by
  go_enter Try.func6, Try.ntmps6
  go_wp2_with fail
  refine (alive_any w).mono ?_
  rintro e w2 ⟨rfl, b2⟩
  by_cases hn : n ≤ 100
  · have hni : decide (100 < (n : Int)) = false := by simp; omega
    go_wp2_with fail
    refine (new_yes w2 5 (by decide) (by decide)).mono ?_
    rintro e w3 ⟨g, rfl, m3⟩
    have a3 : Above w.heap.size w3 g (fresh (zeros 5)) := m3.above b2.size
    have b3 := below_on b2 (Nat.le_refl _) m3.2
    clear m3 b2
    go_wp2_with fail
    refine (new_yes w3 5 (by decide) (by decide)).mono ?_
    rintro e w4 ⟨g2, rfl, m4⟩
    obtain ⟨F, G, dF, dG, hFG, hF, hG⟩ := m4.both a3 b3.size
    have b4 := below_on b3 (Nat.le_refl _) m4.2
    clear m4 a3 b3
    have wf : IntKind.i64.wrap (f : Int) = (f : Int) := by rw [IntKind.wrap_i64]; omega
    have CF := fuse_any (f : Int) (by omega) dF
    have e0 : ({ fresh (zeros 5) with lets := letsOf (f : Int), blown := false } : St) = fst_ f ws 0 := by
      unfold fst_ letsOf
      rw [if_neg (by omega), Nat.zero_min, Nat.sub_zero]
      have : decide (f < 0) = false := by simp
      rw [this]
      rfl
    rw [e0] at CF
    go_wp2_with fail
    refine CF.mono ?_
    rintro e w5 ⟨rfl, h5⟩
    obtain ⟨o5, b5⟩ := h5.both dG hFG hF hG b4.size
    have b5' := b4.trans b5
    clear CF e0 h5 dF dG hFG hF hG b4 b5
    have eo : (fresh (zeros 5)) = oth f ws 0 := by unfold oth; rw [Nat.zero_min]; rfl
    rw [eo] at o5
    have HO := Lib.hid (And.intro o5 b5')
    clear o5 b5' eo
    go_wp2
    go_loopw [9, 10] (fun lt i wr => ∃ j mm : Nat, j ≤ n ∧ mm = min j f ∧ i = .int .i64 (j : Int) ∧ lt = .int .i64 (mm : Int) ∧ Hid (Both w.heap.size wr g (fst_ f ws j) g2 (oth f ws j) ∧ Below w.heap.size w wr)) (fun _ i _ => n - (intOf i).toNat)
    case atStart => exact ⟨0, 0, Nat.zero_le _, (Nat.zero_min f).symm, rfl, rfl, HO⟩
    case round =>
      obtain ⟨j, mm, hj, hmm, rfl, rfl, hrel⟩ := hrel
      by_cases hlt : j < n
      · obtain ⟨x, hx⟩ : ∃ x, ws[j]? = some x := ⟨_, List.getElem?_eq_getElem (by rw [hw.len]; exact hlt)⟩
        have hji : (j : Int) < (n : Int) := by omega
        obtain ⟨F, G, dF, dG, hFG, hF, hG⟩ := hrel.out.1
        have bel := hrel.out.2
        obtain ⟨ad, B, m, k, rfl, hc1, hc2, hin, hby, hmk, hm63, hx1, hoff⟩ := hw.off hx bel
        obtain ⟨q, hq⟩ : ∃ q, min m 64 = q := ⟨_, rfl⟩
        have hif : (if (m : Int) < 64 then (m : Int) else 64) = (q : Int) := by split <;> omega
        have hif2 : (if m < 64 then (m : Int) else 64) = (q : Int) := by split <;> omega
        have q64 : q ≤ 64 := by omega
        have qm : q ≤ m := by omega
        have hqk : (q : Int) ≤ (k : Int) := by omega
        have hqk2 : q ≤ k := by omega
        have hc3 : wr.cell? ⟨(ad.add (j * 2)).block, (ad.add (j * 2)).off + 1, none⟩ = some (.slice B m k) := by rw [← add_pos _ (by decide), add_add]; exact hc2
        have hwrap : IntKind.i64.wrap (x.1 : Int) = (x.1 : Int) := by rw [IntKind.wrap_i64]; omega
        obtain ⟨r, hr⟩ : ∃ r, x.1 % 5 = r := ⟨_, rfl⟩
        have hmod : Int.tmod (x.1 : Int) 5 = (r : Int) := by rw [Int.tmod_eq_emod_of_nonneg (by omega)]; omega
        have hmod2 : (x.1 : Int) % 5 = (r : Int) := by omega
        have hr5 : r < 5 := by omega
        have htk : x.2.take 64 = x.2.take q := by
          rw [← hq]
          by_cases h64 : m ≤ 64
          · rw [Nat.min_eq_left h64, List.take_of_length_le (by rw [hin.len]; exact h64), List.take_of_length_le (by rw [hin.len]; exact Nat.le_refl _)]
          · rw [Nat.min_eq_right (by omega)]
        have wf2 : IntKind.i64.wrap (f : Int) = (f : Int) := wf
        by_cases hjf : j < f
        · obtain rfl : mm = j := by rw [hmm]; exact Nat.min_eq_left (by omega)
          clear hmm
          have hjfi : (mm : Int) < (f : Int) := by omega
          have hwl : (fst_ f ws mm).waits.length ≤ 1000000000 := by show ((ws.take _).map asW).length ≤ _; rw [List.length_map, List.length_take]; omega
          have hwl2 : (oth f ws mm).waits.length ≤ 1000000000 := by show ((ws.take _).map asW).length ≤ _; rw [List.length_map, List.length_take]; omega
          have hl : (fst_ f ws mm).lets ≠ 0 := by show (((f - min mm f : Nat) : Int)) ≠ 0; omega
          have CW := fun (q' : Nat) => write_any (w := wr.drewN q') (F := F) (g := g) (s := fst_ f ws mm) (k := r) (by show r < (zeros 5).length; rw [zeros_length]; exact hr5) B q k (x.2.take q) ⟨(hin.take qm).len, (hin.take qm).rd⟩ (fun h0 b hb => by have := hoff (by omega) b hb; have := hF g dF.mem; omega) (fun y hy => hby y (List.mem_of_mem_take hy)) q64 hl hwl (dF.below (w' := wr.drewN q') ⟨rfl, rfl, rfl, Nat.le_refl _, fun _ _ => rfl⟩)
          have hstep := fst_ok hx hjf
          have hstep2 := oth_ok hx hjf
          rw [hr, htk] at hstep hstep2
          rw [hstep] at CW
          have HC := Lib.hid (And.intro CW (And.intro dG (And.intro hFG (And.intro hF (And.intro hG bel)))))
          have HX := Lib.hid (And.intro hx (And.intro hstep2 (And.intro hwl2 (And.intro hby (And.intro hin hoff)))))
          clear CW dF dG hFG hF hG bel hx hstep hstep2 hwl hwl2 hby hin hoff htk hmk hm63 hx1 hq hr hl hc2
          go_wp2
          refine wp_region_still_lit (by kernel_rfl) (by kernel_rfl) ?_
          repeat still_step
          refine wpStill_nil ?_
          change Exit.then _ _ _ _ (wr.drewN 1)
          clear hc1 hc3 hif hif2 hwrap hmod hmod2
          go_wp2_with fail
          refine (HC.out.1 1).mono ?_
          rintro e w6 ⟨rfl, h6⟩
          obtain ⟨_, dG, hFG, hF, hG, bel⟩ := HC.out
          have bdr : Below wr.heap.size wr (wr.drewN 1) := drewN_below wr 1
          obtain ⟨⟨F6, G6, dF6, dG6, hFG6, hF6, hG6⟩, b6⟩ := h6.both (base := w.heap.size) (dG.below bdr) hFG hF hG bel.size
          have bdr2 : Below w.heap.size w (wr.drewN 1) := bel.trans ⟨rfl, rfl, rfl, Nat.le_refl _, fun _ _ => rfl⟩
          have b6' : Below w.heap.size w w6 := bdr2.trans b6
          have CB := blown_any dF6
          have hbf : (fst_ f ws (mm + 1)).blown = false := by show decide (f < mm + 1) = false; simp; omega
          rw [hbf] at CB
          obtain ⟨hx, hstep2, hwl2, hby, hin, hoff⟩ := HX.out
          have hin6 : In w6 B q (x.2.take q) := (hin.via hoff bel b6').take qm
          have CW2 := write_any (w := w6) (F := G6) (g := g2) (s := oth f ws mm) (k := r) (by show r < (zeros 5).length; rw [zeros_length]; exact hr5) B q k (x.2.take q) hin6 (fun h0 b hb => by have := hoff (by omega) b hb; have := hG6 g2 dG6.mem; omega) (fun y hy => hby y (List.mem_of_mem_take hy)) q64 (by show (-1 : Int) ≠ 0; decide) hwl2 dG6
          rw [hstep2] at CW2
          have HC2 := Lib.hid (And.intro CW2 (And.intro dF6 (And.intro (fun x (hy : G6 x) (hx : F6 x) => hFG6 x hx hy) (And.intro hG6 (And.intro hF6 b6')))))
          clear h6 dG hFG hF hG bel bdr bdr2 b6 hx hstep2 hwl2 hby hin hoff hin6 CW2 dF6 dG6 hFG6 hF6 hG6 b6' hbf
          go_wp2_with fail
          refine CB.mono ?_
          rintro e w7 ⟨rfl, rfl⟩
          go_wp2_with fail
          refine HC2.out.1.mono ?_
          rintro e w8 ⟨rfl, h8⟩
          obtain ⟨_, dF6, hGF6, hG6, hF6, b6'⟩ := HC2.out
          obtain ⟨o8, b8⟩ := h8.both (base := w.heap.size) dF6 hGF6 hG6 hF6 b6'.size
          have HN := Lib.hid (And.intro o8.swap (b6'.trans b8))
          have hm1 : mm + 1 = min (mm + 1) f := (Nat.min_eq_left (by omega)).symm
          have HM := Lib.hid hm1
          clear o8 b8 h8 dF6 hGF6 hG6 hF6 b6' hm1
          go_wp2
          go_roundw
          case rel => exact ⟨mm + 1, mm + 1, by omega, HM.out, by go_num, by go_num, HN⟩
          case measure => simp [intOf]; omega
        · obtain rfl : mm = f := by rw [hmm]; exact Nat.min_eq_right (by omega)
          have hmf : decide ((mm : Int) < (mm : Int)) = false := by simp
          have hl : (fst_ mm ws j).lets = 0 := by show (((mm - min j mm : Nat) : Int)) = 0; omega
          have CW := fun (q' : Nat) => write_blow (w := wr.drewN q') (F := F) (g := g) (s := fst_ mm ws j) (k := r) (by show r < (zeros 5).length; rw [zeros_length]; exact hr5) B q k q64 hl (dF.below (w' := wr.drewN q') ⟨rfl, rfl, rfl, Nat.le_refl _, fun _ _ => rfl⟩)
          have hstep := fst_no (ws := ws) (f := mm) (j := j) (by omega)
          have hstep2 := oth_no (ws := ws) (f := mm) (j := j) (by omega)
          rw [hstep] at CW
          rw [hstep2] at dG
          have HC := Lib.hid (And.intro CW (And.intro dG (And.intro hFG (And.intro hF (And.intro hG bel)))))
          clear hmm CW dF dG hFG hF hG bel hx hstep hstep2 hby hin hoff htk hmk hm63 hx1 hq hr hl hc2
          go_wp2
          refine wp_region_still_lit (by kernel_rfl) (by kernel_rfl) ?_
          repeat still_step
          refine wpStill_nil ?_
          change Exit.then _ _ _ _ (wr.drewN 1)
          clear hc1 hc3 hif hif2 hwrap hmod hmod2
          go_wp2_with fail
          refine (HC.out.1 1).mono ?_
          rintro e w6 ⟨rfl, h6⟩
          obtain ⟨_, dG, hFG, hF, hG, bel⟩ := HC.out
          have bdr : Below wr.heap.size wr (wr.drewN 1) := drewN_below wr 1
          obtain ⟨o6, b6⟩ := h6.both (base := w.heap.size) (dG.below bdr) hFG hF hG bel.size
          have bdr2 : Below w.heap.size w (wr.drewN 1) := bel.trans ⟨rfl, rfl, rfl, Nat.le_refl _, fun _ _ => rfl⟩
          have HN := Lib.hid (And.intro o6 (bdr2.trans b6))
          obtain ⟨F6, G6, dF6, _⟩ := o6
          have CB := blown_any dF6
          have hbf : (fst_ mm ws (j + 1)).blown = true := by show decide (mm < j + 1) = true; simp; omega
          rw [hbf] at CB
          have hm1 : mm = min (j + 1) mm := (Nat.min_eq_right (by omega)).symm
          have HM := Lib.hid hm1
          clear dG hFG hF hG bel bdr bdr2 h6 b6 dF6 hbf hm1
          go_wp2_with fail
          refine CB.mono ?_
          rintro e w7 ⟨rfl, rfl⟩
          go_wp2
          go_roundw
          case rel => exact ⟨j + 1, mm, by omega, HM.out, by go_num, rfl, HN⟩
          case measure => simp [intOf]; omega
      · obtain rfl : j = n := by omega
        have hji : decide ((j : Int) < (j : Int)) = false := by simp
        obtain ⟨F, G, dF, dG, hFG, hF, hG⟩ := hrel.out.1
        have bel := hrel.out.2
        have CW := waits_any dF
        have hwc : (fst_ f ws j).waits.length = mm := by show ((ws.take (min j f)).map asW).length = mm; rw [List.length_map, List.length_take, hw.len, hmm]; omega
        rw [hwc] at CW
        have er : (oth f ws j).read = (fst_ f ws j).read := rfl
        have C1 := all_five ⟨F, dF, hF⟩ (show (fst_ f ws j).sure.length = 5 from zeros_length 5)
        have HK := Lib.hid (And.intro hmm hwc)
        clear hmm hwc
        go_wp2_with fail
        refine CW.mono ?_
        rintro e w6 ⟨rfl, rfl⟩
        go_wp2_with fail
        refine C1.mono ?_
        rintro e w6 ⟨A6, c6, rfl, r6, b6⟩
        have C2 := all_five ⟨G, dG.below b6, hG⟩ (show (oth f ws j).sure.length = 5 from zeros_length 5)
        rw [er] at C2
        have d6 := dF.below b6
        have b6' := below_on bel (Nat.le_refl _) b6
        have R6 := r6.now
        clear CW C1 dF dG hFG hG bel b6 r6
        go_wp2_with fail
        refine C2.mono ?_
        rintro e w7 ⟨A7, c7, rfl, r7, b7⟩
        have d7 := d6.below b7
        have b7' := below_on b6' (Nat.le_refl _) b7
        go_wp2_with fail
        refine (sameLists_yes A6 A7 5 c6 c7 _ w7 (R6.below b7) r7.now (by decide)).mono ?_
        rintro e w8 ⟨rfl, q8, h8⟩
        have bq : Below w7.heap.size w7 w8 := h8 ▸ drewN_below w7 q8
        have d8 := d7.below bq
        have b8' := below_on b7' (Nat.le_refl _) bq
        clear C2 d6 b6' R6 r7 b7 d7 b7' bq h8
        go_wp2_with fail
        refine (fuse_any (-1) (by decide) d8).mono ?_
        rintro e w9 ⟨rfl, h9⟩
        obtain ⟨⟨F9, d9, f9⟩, b9⟩ := h9.above hF b8'.size
        have b9' := b8'.trans b9
        have CB := blown_any d9
        rw [show St.blown _ = false from rfl] at CB
        clear d8 b8' h9 b9
        go_wp2_with fail
        refine CB.mono ?_
        rintro e w10 ⟨rfl, rfl⟩
        go_wp2_with fail
        refine (sync_any (by show letsOf (-1) ≠ 0; decide) d9).mono ?_
        rintro e w10 ⟨rfl, h10⟩
        obtain ⟨⟨F10, d10, f10⟩, b10⟩ := h10.above f9 b9'.size
        have b10' := b9'.trans b10
        have CW := waits_any d10
        rw [show ((St.settled _).waits.length : Int) = 0 from rfl] at CW
        clear CB d9 f9 b9' h10 b10 d10 f10
        go_wp2_with fail
        refine CW.mono ?_
        rintro e w11 ⟨rfl, rfl⟩
        go_wp2
        go_ret
        exact ⟨rfl, b10'⟩
  · have hni : decide (100 < (n : Int)) = true := by simp; omega
    have hni2 : (100 : Int) < (n : Int) := by omega
    have hni3 : 100 < n := by omega
    go_wp2_with fail
    refine (alive_any w2).mono ?_
    rintro e w3 ⟨rfl, b3⟩
    go_wp2
    go_ret
    exact ⟨rfl, below_on b2 (Nat.le_refl _) b3⟩

end Go.Proofs.Ytolbchknjcipiaa
