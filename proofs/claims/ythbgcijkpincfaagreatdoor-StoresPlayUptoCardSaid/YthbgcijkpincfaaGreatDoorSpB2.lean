/-
  Several texts in one: FRefGet, TRAdd, TRAdd2, TRAddAny, TRFound, TROpenFind, TROpenArg, TFind, TRound, TClean, TOpen, TROpenMath, TROpen, TStand, TStandMath, LSameBytes, TRSame, LBookAt, LBook, QRow, TStandCall, TActs, TPlace, QFill.
-/
import Derived.Test.YthbgcijkpincfaaGreatDoorSpB1
import Derived.Test.YthbgcijkpincfaaGreatDoorFGet
import Derived.Deep.AppendLies
import Derived.Test.YthbgcijkpincfaaGreatDoorTPure
import Derived.Test.YthbgcijkpincfaaGreatDoorTSoiled
import Derived.Shelf.RegionOpen
import Derived.Maps.OwnIn
import Derived.Maps.AppendAt
import Derived.Test.YthbgcijkpincfaaGreatDoorTSeq
import Derived.Deep.RegionHeld3
import Derived.Deep.CutBlock
import Derived.Deep.CutRange
import Derived.Test.YthbgcijkpincfaaGreatDoorTGet
import Derived.Test.YthbgcijkpincfaaGreatDoorLMem
import Derived.Deep.QuietTactic
import Derived.BigQuiet
import Derived.Test.YthbgcijkpincfaaGreatDoorLBut
import Derived.Laws.Pointers
import Derived.StillTactics
import Derived.Test.YthbgcijkpincfaaGreatDoorLRows
import Derived.Deep.Grids
import Derived.Deep.SlicePairs
import Derived.Test.YthbgcijkpincfaaGreatDoorRows
/-
  almonerref06.Get: what bytes begin with, as the document says.
-/
namespace Go.Proofs.YthbgcijkpincfaaGreatDoor
open Go.RowKit

theorem run_cut_mid {ad : Addr} {n c k m h : Nat} (hh : k + m = h) (hk : h ≤ n) (hkn : k < n) (hc : n ≤ c) (W : World) :
    (Instr.slice 50 (.slice (some ad) n c) (some (.int .i64 (k : Int))) (some (.int .i64 (h : Int))) none).run Tryz.prog W = .ok (.slice (some (ad.add k)) m (c - k)) W := by
  obtain ⟨i0, hi, hz0, hz1, hz2⟩ := info_parts infoByte
  have he : Tryz.prog.elem 50 = 5 := by kernel_rfl
  rw [run_slice_lh W 50 (some ad) n c (by rw [he]; exact Tryz.underlying50) .i64 .i64 (k : Int) (h : Int) (by omega) (by omega) (by omega), he]
  have e1 : h - k = m := by omega
  have e2 : ¬ c = k := by omega
  simp [sizeOf, typeInfo, hi, hz1, sliced, e1, e2]

set_option maxRecDepth 100000 in
theorem refSectors_any (c : Nat) (hc : c ≤ 1000000000000) (w : World) : Calls Tryz.prog 173 #[.int .i64 (c : Int)] w fun e w' => e = .returned (.int .i64 ((secs c : Nat) : Int)) ∧ w = w' := by
  have h1 : (18 + (c : Int) + 64 - 1).tdiv 64 = ((secs c : Nat) : Int) := by rw [Int.tdiv_eq_ediv_of_nonneg (by omega)]; unfold secs; omega
  obtain ⟨q, hq⟩ : ∃ q, secs c = q := ⟨_, rfl⟩
  rw [hq] at h1 ⊢
  have hq2 : q ≤ 1000000000000 := by unfold secs at hq; omega
  clear hq
  go_enter Tryz.func173, Tryz.ntmps173
  go_wp2
  go_ret
  exact ⟨rfl, rfl⟩

theorem told_is {xs : List Nat} (hx : ∀ x ∈ xs, x < 256) (hl : 64 ≤ xs.length) : (xs.drop 4).take 10 = toldL (numOf xs) (cntOf xs) := by
  have d1 : dg (numOf xs) 8 = (xs.drop 4).take 8 := dg_val _ (drop_take_lt hx 4 8) 8 (by rw [List.length_take, List.length_drop]; omega)
  have d2 : dg (cntOf xs) 2 = (xs.drop 12).take 2 := dg_val _ (drop_take_lt hx 12 2) 2 (by rw [List.length_take, List.length_drop]; omega)
  unfold toldL
  rw [d1, d2, show 10 = 8 + 2 from rfl, take_more, List.drop_drop]

/-- Where the marks and the numbers are read. -/
structure Heads (A : Option Addr) (n c : Nat) (B4 B12 B14 : Option Addr) (n4 n12 n14 c4 c12 c14 : Nat) (xs : List Nat) (w : World) : Prop where
  k4 : ∀ W : World, (Instr.slice 50 (.slice A n c) (some (.int .i64 4)) none none).run Tryz.prog W = .ok (.slice B4 n4 c4) W
  k12 : ∀ W : World, (Instr.slice 50 (.slice A n c) (some (.int .i64 12)) none none).run Tryz.prog W = .ok (.slice B12 n12 c12) W
  k14 : ∀ W : World, (Instr.slice 50 (.slice A n c) (some (.int .i64 14)) none none).run Tryz.prog W = .ok (.slice B14 n14 c14) W
  g4 : ∀ W : World, Below w.heap.size w W → Calls Tryz.prog 172 #[.slice B4 n4 c4, .int .i64 8] W fun e w' => e = .returned (.tuple #[.int .u64 (numOf xs : Int), .int .i64 0]) ∧ Below W.heap.size W w'
  g12 : ∀ W : World, Below w.heap.size w W → Calls Tryz.prog 172 #[.slice B12 n12 c12, .int .i64 2] W fun e w' => e = .returned (.tuple #[.int .u64 (cntOf xs : Int), .int .i64 0]) ∧ Below W.heap.size W w'
  g14 : ∀ W : World, Below w.heap.size w W → Calls Tryz.prog 172 #[.slice B14 n14 c14, .int .i64 4] W fun e w' => e = .returned (.tuple #[.int .u64 (sumIn xs : Int), .int .i64 0]) ∧ Below W.heap.size W w'

theorem heads_of (A : Option Addr) (n c : Nat) (xs : List Nat) (w : World) (hin : In w A n xs) (hx : ∀ x ∈ xs, x < 256) (hn : 64 ≤ n) (hc : n ≤ c) :
    ∃ B4 B12 B14 n4 n12 n14 c4 c12 c14, Heads A n c B4 B12 B14 n4 n12 n14 c4 c12 c14 xs w := by
  obtain ⟨B4, h4, e4⟩ := cut_name (A := A) (n := n) (c := c) (k := 4) (by omega)
  obtain ⟨B12, h12, e12⟩ := cut_name (A := A) (n := n) (c := c) (k := 12) (by omega)
  obtain ⟨B14, h14, e14⟩ := cut_name (A := A) (n := n) (c := c) (k := 14) (by omega)
  have hd : ∀ k, ∀ x ∈ xs.drop k, x < 256 := fun k x h => hx x (List.mem_of_mem_drop h)
  refine ⟨B4, B12, B14, n - 4, n - 12, n - 14, c - 4, c - 12, c - 14, h4, h12, h14, fun W hb => ?_, fun W hb => ?_, fun W hb => ?_⟩
  · have hi := (hin.below hb).cut (k := 4) (by omega) hc
    rw [← e4] at hi
    exact looseN (refGet_ok B4 (n - 4) (c - 4) 8 _ W hi (hd 4) (by omega) (by omega))
  · have hi := (hin.below hb).cut (k := 12) (by omega) hc
    rw [← e12] at hi
    exact looseN (refGet_ok B12 (n - 12) (c - 12) 2 _ W hi (hd 12) (by omega) (by omega))
  · have hi := (hin.below hb).cut (k := 14) (by omega) hc
    rw [← e14] at hi
    exact looseN (refGet_ok B14 (n - 14) (c - 14) 4 _ W hi (hd 14) (by omega) (by omega))

set_option maxRecDepth 100000 in
theorem refGetF_less (A : Option Addr) (n c : Nat) (xs : List Nat) (w : World) (hl : xs.length = n) (h : n < 64) :
    Calls Tryz.prog 75 #[.slice A n c] w (GetPost xs w) := by
  have hi : (n : Int) < 64 := by omega
  have hc := Lib.hid (cutL_len (xs := xs) (by omega))
  clear hl
  go_enter Tryz.func75, Tryz.ntmps75
  go_wp2_with fail
  refine bodyPost_ret_by (results_four (t := 2) (u := 3) (v := 4) (x := 5) (by kernel_rfl) _ _ _) rfl ?_
  exact ⟨Below.refl _ _, .inl ⟨.short, hc.out, rfl⟩⟩

set_option maxRecDepth 100000 in
set_option maxHeartbeats 4000000 in
theorem refGetF_long (A : Option Addr) (n c : Nat) (xs : List Nat) (w : World) (hin : In w A n xs) (hx : ∀ x ∈ xs, x < 256) (hn : 64 ≤ n) (hc : n ≤ c) (hn2 : n ≤ 1000000) :
    Calls Tryz.prog 75 #[.slice A n c] w (GetPost xs w) := by
  obtain ⟨ad, _, rfl, _⟩ := hin.at_ (show 0 < n by omega)
  have hi : ¬ (n : Int) < 64 := by omega
  obtain ⟨B4, B12, B14, n4, n12, n14, c4, c12, c14, HH⟩ := heads_of (some ad) n c xs w hin hx hn hc
  have k4 := HH.k4
  have k12 := HH.k12
  have k14 := HH.k14
  have HG := Lib.hid (And.intro HH.g4 (And.intro HH.g12 HH.g14))
  have HX := Lib.hid (And.intro hin hx)
  have H64 := Lib.hid (show ¬ xs.length < 64 by rw [hin.len]; omega)
  have HL := Lib.hid hin.len
  clear hin hx HH
  obtain ⟨nu, hnu⟩ : ∃ nu, numOf xs = nu := ⟨_, rfl⟩
  obtain ⟨m, hm⟩ : ∃ m, cntOf xs = m := ⟨_, rfl⟩
  obtain ⟨su, hsu⟩ : ∃ su, sumIn xs = su := ⟨_, rfl⟩
  rw [hnu, hm, hsu] at HG
  have hm16 : m < 65536 := by rw [← hm]; exact cntOf_lt HX.out.2
  have HN := Lib.hid (And.intro hnu (And.intro hm hsu))
  clear hnu hm hsu
  go_enter Tryz.func75, Tryz.ntmps75
  go_wp2_with fail
  refine (HG.out.1 w (Below.refl _ _)).mono ?_
  rintro e w1 ⟨rfl, hb1⟩
  have B1 := Lib.hid hb1
  clear hb1
  go_wp2_with fail
  refine (HG.out.2.1 w1 B1.out).mono ?_
  rintro e w2 ⟨rfl, hb2⟩
  have B2 : Hid (Below w.heap.size w w2) := below_on B1.out (Nat.le_refl _) hb2
  clear hb2
  go_wp2_with fail
  refine (HG.out.2.2 w2 B2.out).mono ?_
  rintro e w3 ⟨rfl, hb3⟩
  have B3 : Hid (Below w.heap.size w w3) := below_on B2.out (Nat.le_refl _) hb3
  clear hb3
  have hcv := conv_str ((HX.out.1.take (k := 4) (by omega)).below B3.out) (fun x h => HX.out.2 x (List.mem_of_mem_take h)) c
  by_cases hmk : xs.take 4 = recMark
  · rw [hmk, show strL recMark = { data := #[82, 69, 67, 49] } from rfl] at hcv
    have HMK := Lib.hid hmk
    clear hmk
    by_cases hbig : 256 < m
    · have hbi : (256 : Int) < (m : Int) := by omega
      have HC := Lib.hid (cutL_count H64.out HMK.out (by rw [HN.out.2.1]; exact hbig))
      go_wp2_with fail
      refine bodyPost_ret_by (results_four (t := 2) (u := 3) (v := 4) (x := 5) (by kernel_rfl) _ _ _) rfl ?_
      exact ⟨B3.out, .inl ⟨.form, HC.out, rfl⟩⟩
    · have hbi : ¬ (256 : Int) < (m : Int) := by omega
      have hwm : IntKind.i64.wrap (m : Int) = (m : Int) := IntWalk.i64_in _ (by omega)
      have CS := Lib.hid (fun W => refSectors_any m (by omega) W)
      have hsg := secs_ge m
      have hsl := secs_lt m
      have hs5 := secs_le m (by omega)
      obtain ⟨q, hq⟩ : ∃ q, secs m = q := ⟨_, rfl⟩
      rw [hq] at CS hsg hsl hs5
      obtain ⟨L, hL⟩ : ∃ L, 64 * q = L := ⟨_, rfl⟩
      have hLi : (q : Int) * 64 = (L : Int) := by omega
      rw [hL] at hsg hsl
      have HQ := Lib.hid (And.intro hq hL)
      clear hq hL
      go_wp2_with fail
      refine (CS.out _).mono ?_
      rintro e _ ⟨rfl, rfl⟩
      by_cases hsh : n < L
      · have hshi : (n : Int) < (L : Int) := by omega
        have HC := Lib.hid (cutL_short H64.out HMK.out (by rw [HN.out.2.1]; omega) (by rw [HN.out.2.1, HQ.out.1, HQ.out.2, HL.out]; exact hsh))
        go_wp2_with fail
        refine bodyPost_ret_by (results_four (t := 2) (u := 3) (v := 4) (x := 5) (by kernel_rfl) _ _ _) rfl ?_
        exact ⟨B3.out, .inl ⟨.short, HC.out, rfl⟩⟩
      · have hshi : ¬ (n : Int) < (L : Int) := by omega
        obtain ⟨h, hh⟩ : ∃ h, 18 + m = h := ⟨_, rfl⟩
        have hhi : 18 + (m : Int) = (h : Int) := by omega
        have k18 : ∀ W : World, (Instr.slice 50 (.slice (some ad) n c) (some (.int .i64 18)) (some (.int .i64 (h : Int))) none).run Tryz.prog W = .ok (.slice (some (ad.add 18)) m (c - 18)) W := run_cut_mid (k := 18) hh (by omega) (by omega) hc
        obtain ⟨c18, hc18⟩ : ∃ c18, c - 18 = c18 := ⟨_, rfl⟩
        rw [hc18] at k18
        have I18 := Lib.hid ((HX.out.1.below B3.out).drop_take (k := 18) (m := m) (by omega))
        have HREC : Hid ((xs.drop 18).take m = recOf xs) := by show _ = _; unfold recOf; rw [HN.out.2.1]
        rw [HREC.out] at I18
        have HRL : Hid ((recOf xs).length = m) := by
          show _ = _
          rw [← HREC.out, List.length_take, List.length_drop, HL.out]
          omega
        clear hcv
        go_wp2_with (at_builtin; refine wpList_app_k w3 rfl (.const (.slice none 0 0)) (.tmp 56) rfl w3.heap.size none 0 0 [] rfl (World.ownsRow_nil _ _ _ _) (some (ad.add 18)) m c18 (recOf xs) rfl I18.out (fun e => by cases e) m (Nat.zero_add m) (by omega) (Nat.le_refl _) ?_; intro A13 c13 w4 ho4 hn4)
        have b34 : Below w3.heap.size w3 w4 := hn4.below (World.ownsRow_nil w3 w3.heap.size 5 1) (Below.refl _ _) (Nat.le_refl _) (Nat.le_refl _)
        rw [List.nil_append] at ho4
        have B4 : Hid (Below w.heap.size w w4) := below_on B3.out (Nat.le_refl _) b34
        have O4 := Lib.hid (And.intro ho4 (own_low ho4 B3.out.size))
        have hin4 := HX.out.1.below B4.out
        clear ho4 hn4 b34
        go_loop [14] (fun i => ∃ j : Nat, h ≤ j ∧ j ≤ L ∧ i = .int .i64 (j : Int) ∧ (xs.drop h).take (j - h) = List.replicate (j - h) 0) (fun i => L - (intOf i).toNat)
        case atStart => exact ⟨h, Nat.le_refl _, by omega, rfl, by rw [Nat.sub_self]; rfl⟩
        case round =>
          obtain ⟨j, hj, hjL, rfl, hz⟩ := hrel
          have HZ := Lib.hid hz
          clear hz
          by_cases hlt : j < L
          · obtain ⟨ad', x, ea, hxx, hc1⟩ := hin4.at_ (show j < n by omega)
            cases ea
            have hjl : (j : Int) < (L : Int) := by omega
            have hjn : (j : Int) < (n : Int) := by omega
            have HXX : Hid ((xs.drop h)[j - h]? = some x) := by show _ = _; rw [List.getElem?_drop, show h + (j - h) = j by omega]; exact hxx
            clear hxx
            by_cases h0 : x = 0
            · subst h0
              go_wp2
              go_round
              case rel => exact ⟨j + 1, by omega, by omega, by go_num, by rw [show j + 1 - h = (j - h) + 1 by omega, take_snoc_of HXX.out, HZ.out, List.replicate_succ']⟩
              case measure => simp [intOf]; omega
            · have dx : ((x : Int) != 0) = true := by simp; omega
              have hne : restOf xs ≠ List.replicate (noug (cntOf xs)) 0 := by
                intro e
                have e2 : (xs.drop h).take (noug m) = List.replicate (noug m) 0 := by
                  have := e
                  unfold restOf at this
                  rw [HN.out.2.1, hh] at this
                  exact this
                have hnz : j - h < noug m := by unfold noug; rw [HQ.out.1, HQ.out.2]; omega
                have e3 := congrArg (fun l => l[j - h]?) e2
                simp only [List.getElem?_take, if_pos hnz, HXX.out, List.getElem?_replicate] at e3
                injection e3 with e3
                exact h0 e3
              have HC := Lib.hid (cutL_rest H64.out HMK.out (by rw [HN.out.2.1]; omega) (by rw [HN.out.2.1, HQ.out.1, HQ.out.2, HL.out]; omega) hne)
              clear hne
              go_wp2
              refine bodyPost_ret_by (results_four (t := 2) (u := 3) (v := 4) (x := 5) (by kernel_rfl) _ _ _) rfl ?_
              exact ⟨B4.out, .inl ⟨.form, HC.out, rfl⟩⟩
          · obtain rfl : j = L := by omega
            have hjl : ¬ (j : Int) < (j : Int) := by omega
            have HR : Hid (restOf xs = List.replicate (noug (cntOf xs)) 0) := by
              show _ = _
              unfold restOf
              rw [HN.out.2.1, hh, show noug m = j - h by unfold noug; rw [HQ.out.1, HQ.out.2]; omega]
              exact HZ.out
            have k414 : ∀ W : World, (Instr.slice 50 (.slice (some ad) n c) (some (.int .i64 4)) (some (.int .i64 14)) none).run Tryz.prog W = .ok (.slice (some (ad.add 4)) 10 (c - 4)) W := run_cut_mid (k := 4) (m := 10) (h := 14) rfl (by omega) (by omega) hc
            obtain ⟨cc4, hcc4⟩ : ∃ cc4, c - 4 = cc4 := ⟨_, rfl⟩
            rw [hcc4] at k414
            have i4 := (HX.out.1.below B4.out).drop_take (k := 4) (m := 10) (by omega)
            rw [told_is HX.out.2 (by rw [HL.out]; exact hn), HN.out.1, HN.out.2.1] at i4
            have I4 := Lib.hid i4
            obtain ⟨h2, hh2⟩ : ∃ h2, 10 + m = h2 := ⟨_, rfl⟩
            have hsum : Hid (ofL (toldL nu m ++ recOf xs) = sumL nu (recOf xs)) := by show _ = _; unfold sumL; rw [HRL.out]
            have hslt : sumL nu (recOf xs) < 4294967296 := sumL_lt _ _
            have hcon : (sumIn xs = sumL (numOf xs) (recOf xs)) ↔ su = sumL nu (recOf xs) := by rw [HN.out.2.2, HN.out.1]
            have HCON := Lib.hid hcon
            clear i4 hcc4 hcon
            go_wp2_with (first
              | (at_builtin; refine wpList_app_k w4 rfl (.const (.slice none 0 0)) (.tmp 73) rfl w4.heap.size none 0 0 [] rfl (World.ownsRow_nil _ _ _ _) (some (ad.add 4)) 10 cc4 (toldL nu m) rfl I4.out (fun e => by cases e) 10 rfl (by omega) (Nat.le_refl _) ?_; intro A5 c5 w5 ho5 hn5; have b45 : Below w4.heap.size w4 w5 := hn5.below (World.ownsRow_nil w4 w4.heap.size 5 1) (Below.refl _ _) (Nat.le_refl _) (Nat.le_refl _); rw [List.nil_append] at ho5)
              | (at_builtin; refine wpList_app_k w5 rfl (.tmp 74) (.tmp 75) rfl w4.heap.size A5 10 c5 (toldL nu m) rfl ho5 A13 m c13 (recOf xs) rfl (In.of_own (own_on O4.out.1 b45)) (own_nil O4.out.1) h2 hh2 (by omega) b45.size ?_; intro A6 c6 w6 ho6 hn6))
            have b46 : Below w4.heap.size w4 w6 := hn6.below ho5 b45 (Nat.le_refl _) b45.size
            have B6 : Hid (Below w.heap.size w w6) := below_on B4.out (Nat.le_refl _) b46
            have O6 := Lib.hid (own_on O4.out.2 b46)
            have C6 := Lib.hid (refOf_any A6 h2 c6 (toldL nu m ++ recOf xs) w6 (In.of_own ho6) (bytes_append (toldL_lt _ _) (recOf_lt HX.out.2)) (by omega))
            rw [hsum.out] at C6
            obtain ⟨s, hs⟩ : ∃ s, sumL nu (recOf xs) = s := ⟨_, rfl⟩
            rw [hs] at C6 hslt HCON
            have hwrap : IntKind.u64.wrap (s : Int) = (s : Int) := by rw [IntKind.wrap_u64]; omega
            clear ho5 hn5 ho6 hn6 b45 b46 hs hsum
            refine C6.out.mono ?_
            rintro e _ ⟨rfl, rfl⟩
            by_cases hq : su = s
            · have dq : ((s : Int) != (su : Int)) = false := by rw [hq]; simp
              have HC := Lib.hid (cutL_none H64.out HMK.out (by rw [HN.out.2.1]; omega) (by rw [HN.out.2.1, HQ.out.1, HQ.out.2, HL.out]; omega) HR.out (HCON.out.2 hq))
              clear hq
              go_wp2_with fail
              refine bodyPost_ret_by (results_four (t := 2) (u := 3) (v := 4) (x := 5) (by kernel_rfl) _ _ _) rfl ?_
              refine ⟨B6.out, .inr ⟨HC.out, A13, c13, ?_, ?_⟩⟩
              · rw [HN.out.1, HN.out.2.1, HQ.out.1]; rfl
              · rw [HN.out.2.1]; exact O6.out
            · have dq : ((s : Int) != (su : Int)) = true := by simp; omega
              have HC := Lib.hid (cutL_sum H64.out HMK.out (by rw [HN.out.2.1]; omega) (by rw [HN.out.2.1, HQ.out.1, HQ.out.2, HL.out]; omega) HR.out (fun e => hq (HCON.out.1 e)))
              clear hq
              go_wp2_with fail
              refine bodyPost_ret_by (results_four (t := 2) (u := 3) (v := 4) (x := 5) (by kernel_rfl) _ _ _) rfl ?_
              exact ⟨B6.out, .inl ⟨.sum, HC.out, rfl⟩⟩
  · have hne : (!(strL (xs.take 4)).toList == [82, 69, 67, 49]) = true := by
      rw [strL_toList, show ([82, 69, 67, 49] : List UInt8) = recMark.map UInt8.ofNat from rfl]
      simp only [Bool.not_eq_true', beq_eq_false_iff_ne, ne_eq]
      exact fun e => hmk (map_inj (fun x h => HX.out.2 x (List.mem_of_mem_take h)) recMark_lt e)
    have HC := Lib.hid (cutL_mark H64.out hmk)
    obtain ⟨s, hs⟩ : ∃ s, strL (xs.take 4) = s := ⟨_, rfl⟩
    rw [hs] at hcv hne
    clear hmk hs
    go_wp2_with fail
    refine bodyPost_ret_by (results_four (t := 2) (u := 3) (v := 4) (x := 5) (by kernel_rfl) _ _ _) rfl ?_
    exact ⟨B3.out, .inl ⟨.form, HC.out, rfl⟩⟩

theorem refGetF_any (A : Option Addr) (n c : Nat) (xs : List Nat) (w : World) (hin : In w A n xs) (hx : ∀ x ∈ xs, x < 256) (hc : n ≤ c) (hn2 : n ≤ 1000000) :
    Calls Tryz.prog 75 #[.slice A n c] w (GetPost xs w) := by
  by_cases h : n < 64
  · exact refGetF_less A n c xs w hin.len h
  · exact refGetF_long A n c xs w hin hx (by omega) hc hn2

/-- What Get answers, of any bytes. -/
def getNum (xs : List Nat) : Nat := match cutL xs with | some _ => 0 | none => numOf xs
def getRec (xs : List Nat) : List Nat := match cutL xs with | some _ => [] | none => recOf xs
def getTook (xs : List Nat) : Nat := match cutL xs with | some _ => 0 | none => secs (cntOf xs)
def getErr (xs : List Nat) : Nat := match cutL xs with | some b => b.no | none => 0
def GetUni (xs : List Nat) (w : World) (e : Ending) (w' : World) : Prop :=
  ∃ A m c, e = .returned (.tuple #[.int .u64 (getNum xs : Int), .slice A m c, .int .i64 (getTook xs : Int), .int .i64 (getErr xs : Int)]) ∧ w'.ownsRow w.heap.size 5 1 (.slice A m c) m (bvs (getRec xs)) ∧ Below w.heap.size w w'
theorem get_uni {xs : List Nat} {w w' : World} {e : Ending} (h : GetPost xs w e w') : GetUni xs w e w' := by
  obtain ⟨hb, ⟨b, hc, rfl⟩ | ⟨hc, A, c, rfl, ho⟩⟩ := h
  · exact ⟨none, 0, 0, by unfold getNum getTook getErr; rw [hc]; rfl, by unfold getRec; rw [hc]; exact World.ownsRow_nil _ _ _ _, hb⟩
  · exact ⟨A, _, c, by unfold getNum getTook getErr; rw [hc]; rfl, by unfold getRec; rw [hc]; exact ho, hb⟩

end Go.Proofs.YthbgcijkpincfaaGreatDoor

/-
  The document's own store: Add.
-/
namespace Go.Proofs.YthbgcijkpincfaaGreatDoor
open Go.RowKit

theorem St.sc_zero {s : St} (h : s.lets ≠ 0) : s.sc = 0 := by unfold St.sc; rw [if_neg h]
theorem St.sc_nine {s : St} (h : s.lets = 0) : s.sc = 9 := by unfold St.sc; rw [if_pos h]
theorem St.sn_sure (s : St) : s.sn.sure.length = s.sure.length := (stepS_q s).1
theorem St.sn_waits (s : St) : s.sn.waits.length ≤ s.waits.length := by
  unfold St.sn
  split
  · rw [s.burnt_waits]; exact Nat.le_refl _
  · show ([] : List (Nat × List Nat)).length ≤ _; simp
theorem puts_done (s : St) (k : Nat) : s.puts k [] = (0, s) := rfl
theorem puts_bad {s : St} (k : Nat) (x : List Nat) (l : List (List Nat)) (h : s.lets = 0) : s.puts k (x :: l) = (9, s.wn k x) := by rw [St.puts, if_pos h]; unfold St.wn; rw [if_pos h]
theorem puts_go {s : St} (k : Nat) (x : List Nat) (l : List (List Nat)) (h : s.lets ≠ 0) : s.puts k (x :: l) = (s.wn k x).puts (k + 1) l := by rw [St.puts, if_neg h]; unfold St.wn; rw [if_neg h]

/-- How the calls of the disk end. -/
theorem add_bad1 {k : Nat} {L : List (List Nat)} {s : St} (h : s.lets = 0) : runs (addSteps k L) s = (9, s.sn) := by
  have e : stepS s = (9, s.sn) := by unfold stepS; rw [St.sc_nine h]
  unfold addSteps
  split <;> rw [runs, e] <;> rfl
theorem add_bad2 {k : Nat} {L : List (List Nat)} {s t : St} (h : s.lets ≠ 0) (hl : L.length ≠ 1) (hp : s.sn.puts (k + 1) (L.drop 1) = (9, t)) : runs (addSteps k L) s = (9, t) := by
  have e : stepS s = (0, s.sn) := by unfold stepS; rw [St.sc_zero h]
  have e2 : stepO (k + 1) L.tail s.sn = (9, t) := by unfold stepO; rw [← List.drop_one]; exact hp
  unfold addSteps
  rw [if_neg hl, runs, e]
  show runs _ s.sn = _
  rw [runs, e2]; rfl
theorem add_bad3 {k : Nat} {L : List (List Nat)} {s t : St} (h : s.lets ≠ 0) (hl : L.length ≠ 1) (hp : s.sn.puts (k + 1) (L.drop 1) = (0, t)) (ht : t.lets = 0) : runs (addSteps k L) s = (9, t.sn) := by
  have e : stepS s = (0, s.sn) := by unfold stepS; rw [St.sc_zero h]
  have e2 : stepO (k + 1) L.tail s.sn = (0, t) := by unfold stepO; rw [← List.drop_one]; exact hp
  have e3 : stepS t = (9, t.sn) := by unfold stepS; rw [St.sc_nine ht]
  unfold addSteps
  rw [if_neg hl, runs, e]
  show runs _ s.sn = _
  rw [runs, e2]
  show runs _ t = _
  rw [runs, e3]; rfl
theorem runs_one (f : St → Int × St) (s : St) : runs [f] s = f s := by
  rw [runs]
  split
  · rename_i h; exact Prod.ext h.symm rfl
  · rfl
theorem add_last1 {k : Nat} {L : List (List Nat)} {s : St} (h : s.lets ≠ 0) (hl : L.length = 1) : runs (addSteps k L) s = (s.sn.sc, s.sn.wn k (L.headD [])) := by
  have e : stepS s = (0, s.sn) := by unfold stepS; rw [St.sc_zero h]
  unfold addSteps
  rw [if_pos hl, runs, e]
  show runs _ s.sn = _
  rw [runs_one]; rfl
theorem add_last2 {k : Nat} {L : List (List Nat)} {s t : St} (h : s.lets ≠ 0) (hl : L.length ≠ 1) (hp : s.sn.puts (k + 1) (L.drop 1) = (0, t)) (ht : t.lets ≠ 0) : runs (addSteps k L) s = (t.sn.sc, t.sn.wn k (L.headD [])) := by
  have e : stepS s = (0, s.sn) := by unfold stepS; rw [St.sc_zero h]
  have e2 : stepO (k + 1) L.tail s.sn = (0, t) := by unfold stepO; rw [← List.drop_one]; exact hp
  have e3 : stepS t = (0, t.sn) := by unfold stepS; rw [St.sc_zero ht]
  unfold addSteps
  rw [if_neg hl, runs, e]
  show runs _ s.sn = _
  rw [runs, e2]
  show runs _ t = _
  rw [runs, e3]
  show runs _ t.sn = _
  rw [runs_one]; rfl

/-- What Add answers. -/
def addR (st : St) (l : List (List Nat)) (from_ many : Nat) (xs : List Nat) : Int × Sm := Sm.add ⟨st, l, false⟩ from_ many xs
section
variable {st : St} {l : List (List Nat)} {from_ many : Nat} {xs : List Nat}
theorem addR_great (h : 256 < xs.length) : addR st l from_ many xs = (3, ⟨st, l, false⟩) := by unfold addR Sm.add; rw [if_pos h]
theorem addR_full (h : xs.length ≤ 256) (h2 : many - usedL l < secs xs.length) : addR st l from_ many xs = (11, ⟨st, l, false⟩) := by unfold addR Sm.add; rw [if_neg (by omega), if_pos h2]
theorem addR_bad {t : St} (h : xs.length ≤ 256) (h2 : ¬ many - usedL l < secs xs.length) (hr : runs (addSteps (from_ + usedL l) (fsecs (l.length + 1) xs)) st = (9, t)) : addR st l from_ many xs = (9, ⟨t, l, true⟩) := by
  unfold addR Sm.add
  rw [if_neg (by omega), if_neg h2, if_neg (by simp)]
  show (if (runs (addSteps (from_ + usedL l) (fsecs (l.length + 1) xs)) st).1 = 0 then _ else _) = _
  rw [hr]; rfl
theorem addR_good {t : St} (h : xs.length ≤ 256) (h2 : ¬ many - usedL l < secs xs.length) (hr : runs (addSteps (from_ + usedL l) (fsecs (l.length + 1) xs)) st = (0, t)) : addR st l from_ many xs = (0, ⟨t, l ++ [xs], false⟩) := by
  unfold addR Sm.add
  rw [if_neg (by omega), if_neg h2, if_neg (by simp)]
  show (if (runs (addSteps (from_ + usedL l) (fsecs (l.length + 1) xs)) st).1 = 0 then _ else _) = _
  rw [hr]; rfl
end

section
variable {w : World} {g gd from_ many : Nat} {F G : Nat → Prop} {l : List (List Nat)} {st : St}
set_option maxRecDepth 100000 in
set_option maxHeartbeats 2000000 in
theorem radd_little {A : Option Addr} {n c : Nat} {xs : List Nat} (h : RHeld w gd g from_ many st l F G) (hin : In w A n xs) (hx : ∀ x ∈ xs, x < 256) (hA : A = none → c = 0) (hno : 256 < n ∨ (n ≤ 256 ∧ many - usedL l < secs n)) :
    Calls Tryz.prog 23 #[.pointer (some ⟨g, 0, none⟩), .slice A n c] w fun e w' => e = .returned (.int .i64 (addR st l from_ many xs).1) ∧ RWent w gd g from_ many F G (addR st l from_ many xs).2.st (addR st l from_ many xs).2.l w' := by
  obtain ⟨⟨v, vals, hh⟩, hG⟩ := h.s
  have hle := h.d.1.le
  have hfit := h.fits
  have hmany : many ≤ 4096 := by omega
  have hul := hh.fits
  have c2 := hh.c2
  have c3 := hh.c3
  have c4 := hh.c4
  have hg := hh.lt
  have hll : l.length ≤ 4096 := by have := len_le_used l; omega
  obtain ⟨B, cB, rfl, _, _⟩ := row_form hh.row
  obtain ⟨q, hq⟩ : ∃ q, l.length = q := ⟨_, rfl⟩
  obtain ⟨us, hus⟩ : ∃ us, usedL l = us := ⟨_, rfl⟩
  rw [hus] at c3 hul hno
  rw [hq] at c4 hll
  have eq1 : ((q + 1 : Nat) : Int) = (q : Int) + 1 := by omega
  obtain ⟨R, hR⟩ : ∃ R, addR st l from_ many xs = R := ⟨_, rfl⟩
  rw [hR]
  have HR := Lib.hid hR
  have hl := hin.len
  by_cases hbig : 256 < n
  · have CP := refPutF_great (q + 1) n c A w hbig
    rw [eq1] at CP
    have HP := Lib.hid CP
    have e1 := addR_great (st := st) (l := l) (from_ := from_) (many := many) (xs := xs) (by omega)
    have HW := Lib.hid (And.intro (rwent_refl h (Below.refl _ w)) e1)
    clear h hin hx hA hh hG hle hfit hul c2 c3 CP e1 hR hq hus eq1 hno
    go_enter Tryz.func23, Tryz.ntmps23
    go_wp2_with fail
    refine HP.out.mono ?_
    rintro e w1 ⟨rfl, rfl⟩
    go_wp2
    go_ret
    rw [← HR.out, HW.out.2]
    exact ⟨rfl, HW.out.1⟩
  · have hn : n ≤ 256 := by omega
    have hlf : many - us < secs n := by rcases hno with k | k; omega; exact k.2
    have CP := refPutF_frame (q + 1) n c (by omega) A xs w hn hin hx hA
    rw [eq1] at CP
    unfold PutPost at CP
    have hk5 := secs_le n hn
    have e1 := addR_full (st := st) (l := l) (from_ := from_) (many := many) (xs := xs) (by omega) (by rw [hl, hus]; exact hlf)
    obtain ⟨k, hk⟩ : ∃ k, secs n = k := ⟨_, rfl⟩
    rw [hk] at CP hk5 hlf
    obtain ⟨n64, hn64⟩ : ∃ n64, 64 * k = n64 := ⟨_, rfl⟩
    rw [hn64] at CP
    have hn6 : n64 ≤ 320 := by omega
    have hd1 : (n64 : Int) / 64 = (k : Int) := by omega
    have hd2 : Int.tdiv (n64 : Int) 64 = (k : Int) := by rw [Int.tdiv_eq_ediv_of_nonneg (by omega)]; exact hd1
    have hcmp : (many : Int) - (us : Int) < (k : Int) := by omega
    have HP := Lib.hid CP
    have HW := Lib.hid (And.intro h e1)
    clear h hin hx hA hh hG hle hfit CP e1 hR hq hus eq1 hno hlf hk hn64 hl
    go_enter Tryz.func23, Tryz.ntmps23
    go_wp2_with fail
    refine HP.out.mono ?_
    rintro e w2 ⟨A2, c9, rfl, ho2, hb2⟩
    have c2 := (hb2.cell hg).trans c2
    have c3 := (hb2.cell hg).trans c3
    have HB2 := Lib.hid hb2
    clear ho2 hb2
    go_wp2_with fail
    go_region
    go_wp2
    go_ret
    rw [← HR.out, HW.out.2]
    exact ⟨rfl, rwent_refl HW.out.1 (HB2.out.drew)⟩
end

end Go.Proofs.YthbgcijkpincfaaGreatDoor

/-
  The document's own store: Add where there is room.
-/
namespace Go.Proofs.YthbgcijkpincfaaGreatDoor
open Go.RowKit

section
variable {w W : World} {g gd from_ many k n c : Nat} {F G : Nat → Prop} {l : List (List Nat)} {s st : St} {A : Option Addr} {xs : List Nat}
theorem ramid_sync (ha : RAmid w gd F s W) :
    Calls Tryz.prog 77 #[.pointer (some ⟨gd, 0, none⟩)] W fun e w' => e = .returned (.int .i64 s.sc) ∧ RAmid w gd F s.sn w' := by
  obtain ⟨hb, F', hd, hf⟩ := ha
  exact (rsync_all hd).mono fun e w' h => ⟨h.1, RAmid.act hb hf h.2⟩
theorem ramid_write (ha : RAmid w gd F s W) (hk : k < s.sure.length) (hn : n ≤ 64) (hin : In W A n xs) (hx : ∀ x ∈ xs, x < 256) (hA : ∀ ad, A = some ad → ¬ F ad.block ∧ ad.block < w.heap.size) (hw : s.waits.length ≤ 1000000) :
    Calls Tryz.prog 21 #[.pointer (some ⟨gd, 0, none⟩), .int .i64 (k : Int), .slice A n c] W fun e w' => e = .returned (.int .i64 s.sc) ∧ RAmid w gd F (s.wn k xs) w' := by
  obtain ⟨hb, F', hd, hf⟩ := ha
  refine (rwrite_all hk hn hin hx (fun _ ad e hF => ?_) hw hd).mono fun e w' h => ⟨h.1, RAmid.act hb hf h.2⟩
  rcases hf _ hF with h | h
  · exact (hA ad e).1 h
  · have := (hA ad e).2; omega
theorem run_cut_first {ad : Addr} {n c : Nat} (hc : 64 ≤ c) (W : World) :
    (Instr.slice 50 (.slice (some ad) n c) none (some (.int .i64 64)) none).run Tryz.prog W = .ok (.slice (some ad) 64 c) W := by
  obtain ⟨i0, hi, hz0, hz1, hz2⟩ := info_parts infoByte
  have he : Tryz.prog.elem 50 = 5 := by kernel_rfl
  rw [run_slice_h W 50 (some ad) n c (by rw [he]; exact Tryz.underlying50) .i64 64 (by omega) (by omega), he]
  simp [sizeOf, typeInfo, hi, hz1, sliced]
  try (intro _; simp [Addr.add])

/-- What Add works with. -/
structure AddHeld (w wb : World) (g gd from_ many us at_ k n64 c9 : Nat) (a2 : Addr) (v : Value) (vals : List Value) (st : St) (l : List (List Nat)) (F G : Nat → Prop) (L : List (List Nat)) : Prop where
  hb : Below w.heap.size w wb
  sto : ∀ W, But F wb W → RStoAt W g gd from_ many v vals G l
  fr : ∀ W, But F wb W → In W (some a2) n64 L.flatten
  a2f : ¬ F a2.block ∧ a2.block < wb.heap.size
  len : L.length = k
  sec : ∀ s ∈ L, Sec s
  bytes : 64 * k = n64
  cap : n64 ≤ c9
  ats : from_ + us = at_
  fit : at_ + k ≤ st.sure.length
  k0 : 0 < k
  k5 : k ≤ 5
theorem AddHeld.piece {wb : World} {us at_ n64 c9 j lo : Nat} {a2 : Addr} {v : Value} {vals : List Value} {L : List (List Nat)} (h : AddHeld w wb g gd from_ many us at_ k n64 c9 a2 v vals st l F G L) (hj : j < k) (hlo : 64 * j = lo) {x : List Nat} (hx : L[j]? = some x) (hb : But F wb W) :
    In W (some (a2.add lo)) 64 x := by
  have h1 := (h.fr W hb).drop_take (k := lo) (m := 64) (by have := h.bytes; omega)
  have e : (L.flatten.drop lo).take 64 = x := by
    have hs := h.sec
    clear h1
    have key : ∀ (L : List (List Nat)) (j : Nat), (∀ s ∈ L, Sec s) → L[j]? = some x → (L.flatten.drop (64 * j)).take 64 = x := by
      intro L
      induction L with
      | nil => intro j _ h; simp at h
      | cons y L ih =>
        intro j hs hj
        have hy := (hs y (by simp)).1
        cases j with
        | zero =>
          cases hj
          rw [List.flatten_cons, Nat.mul_zero, List.drop_zero, List.take_append_of_le_length (by omega), List.take_of_length_le (by omega)]
        | succ j =>
          rw [List.flatten_cons, List.drop_append, List.drop_eq_nil_of_le (by omega), List.nil_append, hy, show 64 * (j + 1) - 64 = 64 * j by omega]
          exact ih j (fun s hm => hs s (by simp [hm])) hj
    rw [← hlo]
    exact key L j hs hx
  rw [e] at h1
  exact h1
end
theorem addr_zero (a : Addr) : a.add 0 = a := by simp [Addr.add]
theorem step_app_k {ops : Array Oper} {o : Oper} {a : Act} {w : World} {K : Act → World → Prop} {Q : Exit → Act → World → Prop} {E : Prop} (hw : Region.wanted o (yielded ops a.tmps) = true) (s x : Operand)
    (ho : o.op = .call { callee := .builtin .append, args := #[s, x], argTypes := #[50, 50] })
    (base : Nat) (A : Option Addr) (n c : Nat) (xs : List Nat) (hs : a.eval s = .slice A n c) (hown : w.ownsRow base 5 1 (.slice A n c) n (bvs xs))
    (A2 : Option Addr) (m c2 : Nat) (ys : List Nat) (hx : a.eval x = .slice A2 m c2) (hin : In w A2 m ys) (hnil : A2 = none → c2 = 0) (k : Nat) (hk : n + m = k) (hle : n + m ≤ 140737488355328) (hbase : base ≤ w.heap.size)
    (h : ∀ A' c' w', w'.ownsRow base 5 1 (.slice A' k c') k (bvs (xs ++ ys)) → Next w w' (.slice A n c) (.slice A' k c') → K (a.put o.dst (.slice A' k c')) w') :
    if Region.wanted o (yielded ops a.tmps) = true then Oper.wp Tryz.prog o a w K Q else E := by
  subst hk
  exact step_app_at hw s x ho base A n c xs hs hown A2 m c2 ys hx hin hnil hle hbase h

theorem add_done {w wb w6 w7 w8 w9 : World} {g gd from_ many us at_ k n64 c9 n c7 gg cap : Nat} {a2 : Addr} {v : Value} {vals : List Value} {st t : St} {l L : List (List Nat)} {F G : Nat → Prop} {xs : List Nat} {A7 : Option Addr}
    (h : RHeld w gd g from_ many st l F G) (AH : AddHeld w wb g gd from_ many us at_ k n64 c9 a2 v vals st l F G L) (hM : RAmid wb gd F t w6) (ht : t.sure.length = st.sure.length)
    (hb7 : Below w6.heap.size w6 w7) (ho7 : w7.ownsRow w6.heap.size 5 1 (.slice A7 n c7) n (bvs xs)) (hx : ∀ x ∈ xs, x < 256) (hxl : xs.length = n) (hn : n ≤ 256) (hk : secs n = k) (hus : usedL l = us) (hroom : us + k ≤ many)
    (hown : w8.ownsRow 0 50 1 (.slice (some ⟨gg, 0, none⟩) (l.length + 1) cap) (l.length + 1) (vals ++ [.slice A7 n c7])) (hgrow : (w7.alloc (.cells #[.slice A7 n c7] 50)).grownBy w8 v.ownBlock) (hat : v.ownBlock = some gg ∨ gg = w7.heap.size + 1) (hlt : gg < w8.heap.size)
    (h9 : w9 = (w8.setCell ⟨g, 4, none⟩ (.slice (some ⟨gg, 0, none⟩) (l.length + 1) cap)).setCell ⟨g, 3, none⟩ (.int .i64 ((us : Int) + (k : Int)))) :
    RWent w gd g from_ many F G t (l ++ [xs]) w9 := by
  obtain ⟨hbM, F', hdM, hfM⟩ := hM
  have S6 := AH.sto w6 hbM
  have hlG := h.s.2
  have h67 := hb7.size
  have hbw6 : w.heap.size ≤ w6.heap.size := Nat.le_trans AH.hb.size hbM.size
  have S7 : RStoAt w7 g gd from_ many v vals G l := S6.blocks (fun x hx => hb7.block x (Nat.lt_of_lt_of_le (hlG x hx) hbw6))
  have h78 : w7.heap.size + 1 ≤ w8.heap.size := by have := hgrow.size; simpa using this
  have KS := S7.keeps (w2 := w8) (w3 := w9) (u := .slice A7 n c7) (b := xs) (v' := .slice (some ⟨gg, 0, none⟩) (l.length + 1) cap) (by rw [hxl]; exact own_zero ho7) ⟨by omega, hx⟩ (by rw [hus, hxl, hk]; exact hroom) hown
    (fun x hx hne => (hgrow.block x (by simp; omega) (fun e => hne e.symm)).trans (heap_alloc_old w7 _ hx))
    (fun x hx => by have e : x = gg := by cases hx; rfl
                    rcases hat with k1 | k1
                    · exact .inl (by rw [e]; exact k1)
                    · right; omega)
    (by rw [h9, hus, hxl, hk]; simp)
  have b9 : But G w6 w9 := by
    rw [h9]
    exact ((((But.of_below hb7).alloc _).grown hgrow (fun x e _ => S6.gv x e)).set 4 _ (fun _ => S6.gg)).set 3 _ (fun _ => S6.gg)
  have hF6 := hdM.2.2.2
  have s98 : w9.heap.size = w8.heap.size := by rw [h9]; simp [World.setCell]
  have hapG : ∀ x, F' x → ¬ G x := fun x hx hg => by
    rcases hfM x hx with k1 | k1
    · exact h.ap x k1 hg
    · have := hlG x hg; have := AH.hb.size; omega
  have hu : ∀ x, (Value.slice A7 n c7).ownBlock = some x → w6.heap.size ≤ x ∧ x < w7.heap.size := fun x e => ho7.lt x e
  refine ⟨F', _, ⟨hdM.but b9 hapG, ⟨⟨_, _, KS⟩, fun x hx => ?_⟩, fun x hx hg => ?_, by rw [ht]; exact h.fits⟩, ?_, fun x hx => ?_, fun x hx => ?_⟩
  · rw [s98]
    rcases hx with k1 | k1 | k1
    · have := hlG x k1; omega
    · cases k1; exact hlt
    · have := hu x k1; omega
  · have h6 := hF6 x hx
    rcases hg with k1 | k1 | k1
    · exact hapG x hx k1
    · obtain rfl : gg = x := by cases k1; rfl
      rcases hat with k2 | k2
      · exact hapG _ hx (S6.gv _ k2)
      · omega
    · have := hu x k1; omega
  · exact (((But.of_below AH.hb).trans (hbM.mono (fun x _ e => .inl e)) : But (fun x => F x ∨ G x) w w6)).next b9 (fun x _ e => .inr e)
  · rcases hfM x hx with k1 | k1
    · exact .inl k1
    · exact .inr (Nat.le_trans AH.hb.size k1)
  · rcases hx with k1 | k1 | k1
    · exact .inl k1
    · obtain rfl : gg = x := by cases k1; rfl
      rcases hat with k2 | k2
      · exact .inl (S6.gv _ k2)
      · right; omega
    · have := hu x k1; right; omega

section
variable {w : World} {g gd from_ many : Nat} {F G : Nat → Prop} {l : List (List Nat)} {st : St}
set_option maxRecDepth 100000 in
set_option maxHeartbeats 4000000 in
theorem radd_room {A : Option Addr} {n c : Nat} {xs : List Nat} (h : RHeld w gd g from_ many st l F G) (hin : In w A n xs) (hx : ∀ x ∈ xs, x < 256) (hA : A = none → c = 0) (hnc : n ≤ c)
    (hAF : ∀ ad, A = some ad → 0 < n → ¬ (F ad.block ∨ G ad.block)) (hw : st.waits.length ≤ 800000) (hn : n ≤ 256) (hroom : ¬ many - usedL l < secs n) :
    Calls Tryz.prog 23 #[.pointer (some ⟨g, 0, none⟩), .slice A n c] w fun e w' => e = .returned (.int .i64 (addR st l from_ many xs).1) ∧ RWent w gd g from_ many F G (addR st l from_ many xs).2.st (addR st l from_ many xs).2.l w' := by
  obtain ⟨⟨v, vals, hh⟩, hG⟩ := h.s
  have hle := h.d.1.le
  have hfit := h.fits
  have hmany : many ≤ 4096 := by omega
  have hul := hh.fits
  have c0 := hh.c0
  have c2 := hh.c2
  have c3 := hh.c3
  have c4 := hh.c4
  have hg := hh.lt
  have hll : l.length ≤ 4096 := by have := len_le_used l; omega
  obtain ⟨B, cB, hv, _, _⟩ := row_form hh.row
  rw [hv] at c4
  obtain ⟨q, hq⟩ : ∃ q, l.length = q := ⟨_, rfl⟩
  have hl := hin.len
  have CP := refPutF_frame (l.length + 1) n c (by omega) A xs w hn hin hx hA
  unfold PutPost at CP
  rw [show ((l.length + 1 : Nat) : Int) = (l.length : Int) + 1 by omega] at CP
  obtain ⟨k, hk⟩ : ∃ k, secs n = k := ⟨_, rfl⟩
  have hk5 : k ≤ 5 := hk ▸ secs_le n hn
  have hk0 : 0 < k := hk ▸ secs_pos n
  obtain ⟨L, hL⟩ : ∃ L, fsecs (l.length + 1) xs = L := ⟨_, rfl⟩
  have hLf : L.flatten = frameL (l.length + 1) xs := by rw [← hL]; exact fsecs_flat _ _
  have hLl : L.length = k := by rw [← hL, fsecs_length, hl, hk]
  have hLs : ∀ s ∈ L, Sec s := by rw [← hL]; exact fsecs_sec _ _ hx
  rw [← hLf, hk] at CP
  obtain ⟨us, hus⟩ : ∃ us, usedL l = us := ⟨_, rfl⟩
  obtain ⟨at_, hat⟩ : ∃ at_, from_ + us = at_ := ⟨_, rfl⟩
  have BAD := fun (t : St) => addR_bad (st := st) (l := l) (from_ := from_) (many := many) (xs := xs) (t := t) (by omega) (by rw [hl]; exact hroom)
  have GOOD := fun (t : St) => addR_good (st := st) (l := l) (from_ := from_) (many := many) (xs := xs) (t := t) (by omega) (by rw [hl]; exact hroom)
  rw [hus, hat, hL] at BAD GOOD
  rw [hus] at c3 hul
  rw [hus, hk] at hroom
  obtain ⟨R, hR⟩ : ∃ R, addR st l from_ many xs = R := ⟨_, rfl⟩
  rw [hR] at BAD GOOD ⊢
  obtain ⟨n64, hn64⟩ : ∃ n64, 64 * k = n64 := ⟨_, rfl⟩
  rw [hn64] at CP
  have hn6 : n64 ≤ 320 := by omega
  have hd1 : (n64 : Int) / 64 = (k : Int) := by omega
  have hd2 : Int.tdiv (n64 : Int) 64 = (k : Int) := by rw [Int.tdiv_eq_ediv_of_nonneg (by omega)]; exact hd1
  have hcmp : ¬ (many : Int) - (us : Int) < (k : Int) := by omega
  have hw1 : IntKind.i64.wrap ((from_ : Int) + (us : Int)) = (at_ : Int) := by rw [IntKind.wrap_i64]; omega
  have hat4 : at_ ≤ 8192 := by omega
  have HP := Lib.hid CP
  have HRES := Lib.hid (And.intro BAD GOOD)
  have HN := Lib.hid (And.intro hn64 (And.intro hat (And.intro hus (And.intro hk (And.intro hL hLf)))))
  have H := Lib.hid (And.intro h (And.intro hh (And.intro hG (And.intro hin (And.intro hx (And.intro hA (And.intro hnc (And.intro hAF (And.intro hw (And.intro hv hl))))))))))
  have HL := Lib.hid (And.intro hLl (And.intro hLs (And.intro hk0 (And.intro hk5 (And.intro hroom (And.intro hul (And.intro hfit hn)))))))
  have hvv := Lib.hid hv
  clear h hh hG hin hx hA hnc hAF hw CP BAD GOOD hn64 hat hus hk hL hLf hLl hLs hk0 hroom hul hfit hle hn hR hl hv
  rw [hq] at c4 hll HP
  go_enter Tryz.func23, Tryz.ntmps23
  go_wp2_with fail
  refine HP.out.mono ?_
  rintro e w2 ⟨A2, c9, rfl, ho2, hb2⟩
  have c0 := (hb2.cell hg).trans c0
  have c2 := (hb2.cell hg).trans c2
  have c3 := (hb2.cell hg).trans c3
  have HB2 := Lib.hid (And.intro hb2 ho2)
  clear ho2 hb2
  go_wp2_with fail
  go_region
  obtain ⟨wb, hwb⟩ : ∃ wb, w2.drew = wb := ⟨_, rfl⟩
  have c0 : wb.cell? ⟨g, 0, none⟩ = some (.pointer (some ⟨gd, 0, none⟩)) := by rw [← hwb]; exact c0
  have hbb : Below w.heap.size w wb := by rw [← hwb]; exact HB2.out.1.drew
  have hob : wb.ownsRow w.heap.size 5 1 (.slice A2 n64 c9) n64 (bvs L.flatten) := by rw [← hwb]; exact own_block HB2.out.2 (fun _ _ => rfl)
  rw [hwb]
  obtain ⟨a2, rfl⟩ : ∃ a2, A2 = some a2 := by
    obtain ⟨ad, x, e, _⟩ := (In.of_own hob).at_ (k := 0) (by have := HN.out.1; have := HL.out.2.2.1; omega)
    exact ⟨ad, e⟩
  have hF := H.out.1.d.2.2.2
  have ha2 : w.heap.size ≤ a2.block ∧ a2.block < wb.heap.size := by
    have := hob.lt a2.block rfl
    exact this
  have hAH : AddHeld w wb g gd from_ many us at_ k n64 c9 a2 v vals st l F G L :=
    ⟨hbb, fun W hb => H.out.2.1.blocks (fun x hx => (hb.block x (Nat.lt_of_lt_of_le (H.out.2.2.1 x hx) hbb.size) (fun hf => H.out.1.ap x hf hx)).trans (hbb.block x (H.out.2.2.1 x hx))),
      fun W hb => in_but (In.of_own hob) hb (fun ad e hf => by cases e; have := hF _ hf; omega), ⟨fun hf => by have := hF _ hf; omega, ha2.2⟩, HL.out.1, HL.out.2.1, HN.out.1, own_cap hob, HN.out.2.1,
      by have := HL.out.2.2.2.2.1; have := HL.out.2.2.2.2.2.2.1; have := HN.out.2.1; have := HL.out.2.2.2.2.2.1; omega, HL.out.2.2.1, HL.out.2.2.2.1⟩
  have AH := Lib.hid hAH
  have HD := Lib.hid (ramid_refl (H.out.1.d.below hbb))
  have HWENT : Hid (∀ (t : St) (W : World), RAmid wb gd F t W → t.sure.length = st.sure.length → RWent w gd g from_ many F G t l W) := fun t W ha hs => ((RAmid.went (H.out.1.below hbb) ha hs).after hbb)
  clear hob hbb hF ha2 hAH c2 c3 c4 HB2 hwb hd1 hd2 HP
  by_cases hl0 : st.lets = 0
  · have CS := Lib.hid (ramid_sync HD.out)
    rw [St.sc_nine hl0] at CS
    have HL0 := Lib.hid hl0
    clear hl0
    go_wp2_with fail
    refine CS.out.mono ?_
    rintro e w3 ⟨rfl, ha⟩
    go_wp2
    go_ret
    rw [HRES.out.1 _ (add_bad1 HL0.out)]
    exact ⟨rfl, HWENT.out _ _ ha st.sn_sure⟩
  have CS := Lib.hid (ramid_sync HD.out)
  rw [St.sc_zero hl0] at CS
  have HL0 := Lib.hid hl0
  clear hl0
  go_wp2_with fail
  refine CS.out.mono ?_
  rintro e w3 ⟨rfl, ha3⟩
  have HA3 := Lib.hid ha3
  clear ha3 CS c0
  go_wp2_with fail
  go_loopw [8] (fun i wr => ∃ (j : Nat) (s : St), 1 ≤ j ∧ j ≤ k ∧ i = .int .i64 (j : Int) ∧ Hid (RAmid wb gd F s wr ∧ st.sn.puts (at_ + 1) (L.drop 1) = s.puts (at_ + j) (L.drop j) ∧ s.sure.length = st.sure.length ∧ s.waits.length ≤ 800000 + j)) (fun i _ => k - (intOf i).toNat)
  case atStart => exact ⟨1, st.sn, Nat.le_refl _, HL.out.2.2.1, rfl, Lib.hid ⟨HA3.out, rfl, st.sn_sure, by have := st.sn_waits; have := H.out.2.2.2.2.2.2.2.2.1; omega⟩⟩
  case round =>
    obtain ⟨j, s, hj1, hjk, rfl, HI⟩ := hrel
    have ST := Lib.hid (AH.out.sto wr HI.out.1.1)
    have c0 := ST.out.c0
    have c1 := ST.out.c1
    have c3 := ST.out.c3
    rw [HN.out.2.2.1] at c3
    by_cases hlt : j < k
    · have hji : (j : Int) < (k : Int) := by omega
      obtain ⟨lo, hlo⟩ : ∃ lo, 64 * j = lo := ⟨_, rfl⟩
      obtain ⟨hi, hhi⟩ : ∃ hi, lo + 64 = hi := ⟨_, rfl⟩
      obtain ⟨p, hp⟩ : ∃ p, at_ + j = p := ⟨_, rfl⟩
      have e1 : IntKind.i64.wrap (64 * (j : Int)) = (lo : Int) := by rw [IntKind.wrap_i64]; omega
      have e2 : IntKind.i64.wrap ((lo : Int) + 64) = (hi : Int) := by rw [IntKind.wrap_i64]; omega
      have e3 : IntKind.i64.wrap ((at_ : Int) + (j : Int)) = (p : Int) := by rw [IntKind.wrap_i64]; omega
      have hcut : ∀ W : World, (Instr.slice 50 (.slice (some a2) n64 c9) (some (.int .i64 (lo : Int))) (some (.int .i64 (hi : Int))) none).run Tryz.prog W = .ok (.slice (some (a2.add lo)) 64 (c9 - lo)) W := run_cut_mid hhi (by have := AH.out.bytes; omega) (by have := AH.out.bytes; omega) AH.out.cap
      obtain ⟨cj, hcj⟩ : ∃ cj, c9 - lo = cj := ⟨_, rfl⟩
      rw [hcj] at hcut
      obtain ⟨x, hxj⟩ : ∃ x, L[j]? = some x := ⟨_, List.getElem?_eq_getElem (by rw [AH.out.len]; exact hlt)⟩
      have hdr : L.drop j = x :: L.drop (j + 1) := by
        obtain ⟨h1, h2⟩ := List.getElem?_eq_some_iff.1 hxj
        rw [List.drop_eq_getElem_cons h1, h2]
      have CW : Hid (∀ W, RAmid wb gd F s W → Calls Tryz.prog 21 #[.pointer (some ⟨gd, 0, none⟩), .int .i64 (p : Int), .slice (some (a2.add lo)) 64 cj] W fun e w' => e = .returned (.int .i64 s.sc) ∧ RAmid wb gd F (s.wn p x) w') := fun W ha =>
        ramid_write ha (by have := AH.out.fit; have := HI.out.2.2.1; omega) (Nat.le_refl _) (AH.out.piece hlt hlo hxj ha.1) (AH.out.sec x (List.mem_of_getElem? hxj)).2 (fun ad e => by cases e; rw [block_add]; exact AH.out.a2f) (by have := HI.out.2.2.2; omega)
      have HX := Lib.hid (And.intro hdr hp)
      clear hlo hhi hp hcj hxj hdr
      by_cases hls : s.lets = 0
      · rw [St.sc_nine hls] at CW
        have HLS := Lib.hid hls
        clear hls
        go_wp2_with fail
        go_region_held3 (fun W' => W'.cell? ⟨g, 0, none⟩ = some (.pointer (some ⟨gd, 0, none⟩)) ∧ W'.cell? ⟨g, 1, none⟩ = some (.int .i64 (from_ : Int)) ∧ W'.cell? ⟨g, 3, none⟩ = some (.int .i64 (us : Int))) (first | exact ⟨c0, c1, c3⟩) (first | (go_at_call 21; refine (CW.out _ HI.out.1.drew).mono ?_; rintro e w4 ⟨rfl, ha4⟩; have HM := Lib.hid ha4; have ST4 := Lib.hid (AH.out.sto w4 HM.out.1); have c0 := ST4.out.c0; have c1 := ST4.out.c1; have c3 := ST4.out.c3; rw [HN.out.2.2.1] at c3; clear ha4))
        go_wp2
        go_ret
        have hput := HI.out.2.1
        rw [HX.out.1, HX.out.2, puts_bad _ _ _ HLS.out] at hput
        rw [HRES.out.1 _ (add_bad2 HL0.out (by rw [AH.out.len]; omega) hput)]
        exact ⟨rfl, HWENT.out _ _ HM.out (by rw [s.wn_sure]; exact HI.out.2.2.1)⟩
      · rw [St.sc_zero hls] at CW
        have HLS := Lib.hid hls
        clear hls
        go_wp2_with fail
        go_region_held3 (fun W' => W'.cell? ⟨g, 0, none⟩ = some (.pointer (some ⟨gd, 0, none⟩)) ∧ W'.cell? ⟨g, 1, none⟩ = some (.int .i64 (from_ : Int)) ∧ W'.cell? ⟨g, 3, none⟩ = some (.int .i64 (us : Int))) (first | exact ⟨c0, c1, c3⟩) (first | (go_at_call 21; refine (CW.out _ HI.out.1.drew).mono ?_; rintro e w4 ⟨rfl, ha4⟩; have HM := Lib.hid ha4; have ST4 := Lib.hid (AH.out.sto w4 HM.out.1); have c0 := ST4.out.c0; have c1 := ST4.out.c1; have c3 := ST4.out.c3; rw [HN.out.2.2.1] at c3; clear ha4))
        go_wp2
        go_roundw
        case rel =>
          have hput := HI.out.2.1
          rw [HX.out.1, HX.out.2, puts_go _ _ _ HLS.out, show p + 1 = at_ + (j + 1) by have := HX.out.2; omega] at hput
          exact ⟨j + 1, s.wn p x, by omega, by omega, by go_num, Lib.hid ⟨HM.out, hput, by rw [s.wn_sure]; exact HI.out.2.2.1, by have := s.wn_waits p x; have := HI.out.2.2.2; omega⟩⟩
        case measure => simp [intOf]; omega
    · have hji : ¬ (j : Int) < (k : Int) := by omega
      have hput := HI.out.2.1
      have e0 : L.drop j = [] := List.drop_eq_nil_of_le (by rw [AH.out.len]; omega)
      rw [e0, puts_done] at hput
      have HPUT := Lib.hid hput
      clear hput
      by_cases hk1 : k = 1
      · have hk1i : ¬ (1 : Int) < (k : Int) := by omega
        obtain ⟨t, ht⟩ : ∃ t, s = t := ⟨_, rfl⟩
        have HT : Hid (RAmid wb gd F t wr ∧ runs (addSteps at_ L) st = (t.sc, t.wn at_ (L.headD [])) ∧ t.sure.length = st.sure.length ∧ t.waits.length ≤ 900000) := by
          have hp := HPUT.out
          rw [List.drop_eq_nil_of_le (by rw [AH.out.len]; omega), puts_done] at hp
          have e : st.sn = s := congrArg Prod.snd hp
          rw [← ht]
          refine ⟨HI.out.1, ?_, HI.out.2.2.1, by have := HI.out.2.2.2; omega⟩
          rw [add_last1 HL0.out (by rw [AH.out.len]; exact hk1), e]
        clear ht hk1

        have ST := Lib.hid (AH.out.sto wr HT.out.1.1)
        have c0 := ST.out.c0
        have c1 := ST.out.c1
        have c3 := ST.out.c3
        rw [HN.out.2.2.1] at c3
        obtain ⟨x, hx0⟩ : ∃ x, L[0]? = some x := ⟨_, List.getElem?_eq_getElem (by rw [AH.out.len]; exact AH.out.k0)⟩
        have hhd : L.headD [] = x := by rw [List.headD_eq_head?_getD, List.head?_eq_getElem?, hx0]; rfl
        have CW : Hid (∀ W, RAmid wb gd F t W → Calls Tryz.prog 21 #[.pointer (some ⟨gd, 0, none⟩), .int .i64 (at_ : Int), .slice (some a2) 64 c9] W fun e w' => e = .returned (.int .i64 t.sc) ∧ RAmid wb gd F (t.wn at_ x) w') := fun W ha =>
          ramid_write ha (by have := AH.out.fit; have := AH.out.k0; have := HT.out.2.2.1; omega) (Nat.le_refl _) (by have := AH.out.piece (lo := 0) AH.out.k0 rfl hx0 ha.1; rwa [addr_zero] at this) (AH.out.sec x (List.mem_of_getElem? hx0)).2 (fun ad e => by cases e; exact AH.out.a2f) (by have := HT.out.2.2.2; omega)
        have hcut := fun W => run_cut_first (ad := a2) (n := n64) (c := c9) (by have := AH.out.cap; have := AH.out.bytes; have := AH.out.k0; omega) W
        have HX := Lib.hid hhd
        clear hx0 hhd
        by_cases hlt : t.lets = 0
        · rw [St.sc_nine hlt] at CW
          have HLT := Lib.hid hlt
          clear hlt
          go_wp2_with fail
          go_region_held3 (fun W' => W'.cell? ⟨g, 0, none⟩ = some (.pointer (some ⟨gd, 0, none⟩)) ∧ W'.cell? ⟨g, 1, none⟩ = some (.int .i64 (from_ : Int)) ∧ W'.cell? ⟨g, 3, none⟩ = some (.int .i64 (us : Int))) (first | exact ⟨c0, c1, c3⟩) (first | (go_at_call 21; refine (CW.out _ HT.out.1.drew).mono ?_; rintro e w6 ⟨rfl, ha6⟩; have HM := Lib.hid ha6; have ST6 := Lib.hid (AH.out.sto w6 HM.out.1); have c0 := ST6.out.c0; have c1 := ST6.out.c1; have c3 := ST6.out.c3; rw [HN.out.2.2.1] at c3; clear ha6))
          go_wp2
          go_ret
          rw [HRES.out.1 (t.wn at_ x) (by rw [HT.out.2.1, HX.out, St.sc_nine HLT.out])]
          exact ⟨rfl, HWENT.out _ _ HM.out (by rw [t.wn_sure]; exact HT.out.2.2.1)⟩
        · rw [St.sc_zero hlt] at CW
          have HLT := Lib.hid hlt
          clear hlt
          go_wp2_with fail
          go_region_held3 (fun W' => W'.cell? ⟨g, 0, none⟩ = some (.pointer (some ⟨gd, 0, none⟩)) ∧ W'.cell? ⟨g, 1, none⟩ = some (.int .i64 (from_ : Int)) ∧ W'.cell? ⟨g, 3, none⟩ = some (.int .i64 (us : Int))) (first | exact ⟨c0, c1, c3⟩) (first | (go_at_call 21; refine (CW.out _ HT.out.1.drew).mono ?_; rintro e w6 ⟨rfl, ha6⟩; have HM := Lib.hid ha6; have ST6 := Lib.hid (AH.out.sto w6 HM.out.1); have c0 := ST6.out.c0; have c1 := ST6.out.c1; have c3 := ST6.out.c3; rw [HN.out.2.2.1] at c3; clear ha6))
          have c4 := ST6.out.c4
          have hg6 := ST6.out.lt
          have hrow6 := ST6.out.row
          rw [hvv.out, hq] at hrow6
          rw [hvv.out] at c4
          have IN6 := Lib.hid (in_but0 (H.out.2.2.2.1.below AH.out.hb) HM.out.1 (fun ad e h0 hf => H.out.2.2.2.2.2.2.2.1 ad e h0 (.inl hf)))
          clear c0 c1 hcut
          obtain ⟨i0, hi, hz0, hz1, hz2⟩ := info_parts infoBs
          have hn256 : n ≤ 256 := HL.out.2.2.2.2.2.2.2
          rw [hq] at c4
          have HROW := Lib.hid hrow6
          clear hrow6
          go_wp2_with fail
          go_region_law (first
            | (refine step_app_k (by rfl) _ _ (by rfl) w6.heap.size none 0 0 [] (by rfl) (World.ownsRow_nil _ _ _ _) A n c xs (by rfl) (IN6.out.below ((Below.refl _ w6).drew)) H.out.2.2.2.2.2.1 n (Nat.zero_add n) (by omega) (Nat.le_refl _) ?_; intro A7 c7 w7 ho7 hn7; rw [List.nil_append] at ho7; have b7 : Below w6.heap.size w6 w7 := hn7.below (World.ownsRow_nil _ w6.heap.size 5 1) ((Below.refl _ w6).drew) (Nat.le_refl _) (Nat.le_refl _); have c4 := (b7.cell hg6).trans c4; have hg7 := Nat.lt_of_lt_of_le hg6 b7.size; have HO7 := Lib.hid (And.intro b7 ho7); clear b7 ho7 hn7)
            | (refine step_append_lies _ (by rfl) _ _ _ (by rfl) 0 50 i0 _ 1 24 Tryz.underlying69 hi hz0 hz1 hz2 rfl (by decide) (.slice B q cB) q vals (by rfl) (own_block (own_block HROW.out (fun b hb => HO7.out.1.block b (own_lt HROW.out hb))) (fun b hb => heap_alloc_old w7 _ (Nat.lt_of_lt_of_le (own_lt HROW.out hb) HO7.out.1.size)))
                ⟨w7.heap.size, 0, none⟩ 1 1 [.slice A7 n c7] (by rfl) (by rfl) (World.news_of_block (cs := #[.slice A7 n c7]) (t := 50) (fr := (0, 0)) (heap_alloc_new w7 _)) (by simp [Value.oneCell']) (by omega) (by unfold maxLen; omega) (by omega) (Nat.zero_le _) (w7.heap.size + 1) (by simp) ?_
               intro gg cap w8 hown8 hgrow8 hat8 hlt8
               have hne : (Value.slice B q cB).ownBlock ≠ some g := fun e => by
                 obtain ⟨cur, hc⟩ := own_type HROW.out e
                 exact block_ne ST6.out.head hc rne_hv rfl
               have hh8 : w8.heap[g]? = w6.heap[g]? := ((hgrow8.block g (by simp; omega) (fun e => hne e.symm)).trans (heap_alloc_old w7 _ hg7)).trans (HO7.out.1.block g hg6)
               have f4 : w8.frozen? ⟨g, 4, none⟩ = false := frozen_of_row _ g 4 _ _ (hh8.trans ST6.out.head)
               have f3 : w8.frozen? ⟨g, 3, none⟩ = false := frozen_of_row _ g 3 _ _ (hh8.trans ST6.out.head)
               have d4 : w8.cell? ⟨g, 4, none⟩ = some (.slice B q cB) := (World.cell?_of_block hh8).trans (by first | exact c4 | (rw [← HO7.out.1.cell hg6]; exact c4))
               have d3 : w8.cell? ⟨g, 3, none⟩ = some (.int .i64 (us : Int)) := (World.cell?_of_block hh8).trans c3
               have HK8 := Lib.hid (And.intro hown8 (And.intro hgrow8 (And.intro hat8 hlt8)))
               clear hown8 hgrow8 hat8 hlt8 hne hh8))
          all_goals
            go_wp2
            go_ret
            rw [HRES.out.2 (t.wn at_ x) (by rw [HT.out.2.1, HX.out, St.sc_zero HLT.out])]
            have hown8 := HK8.out.1
            rw [← hq] at hown8 ⊢
            refine ⟨rfl, add_done H.out.1 AH.out HM.out (by rw [t.wn_sure]; exact HT.out.2.2.1) HO7.out.1 HO7.out.2 H.out.2.2.2.2.1 H.out.2.2.2.2.2.2.2.2.2.2 hn256 HN.out.2.2.2.1 HN.out.2.2.1 (by have := HL.out.2.2.2.2.1; have := HL.out.2.2.2.2.2.1; omega) hown8 (by rw [hvv.out, hq]; exact HK8.out.2.1) (by rw [hvv.out, hq]; exact HK8.out.2.2.1) HK8.out.2.2.2 rfl⟩

      · have hk1i : (1 : Int) < (k : Int) := by have := HL.out.2.2.1; omega
        by_cases hls : s.lets = 0
        · have CS := Lib.hid (ramid_sync HI.out.1)
          rw [St.sc_nine hls] at CS
          have HLS := Lib.hid hls
          clear hls
          go_wp2_with fail
          refine CS.out.mono ?_
          rintro e w5 ⟨rfl, ha5⟩
          go_wp2
          go_ret
          rw [HRES.out.1 _ (add_bad3 HL0.out (by rw [AH.out.len]; omega) HPUT.out HLS.out)]
          exact ⟨rfl, HWENT.out _ _ ha5 (by rw [s.sn_sure]; exact HI.out.2.2.1)⟩
        have CS := Lib.hid (ramid_sync HI.out.1)
        rw [St.sc_zero hls] at CS
        have HLS := Lib.hid hls
        clear hls
        go_wp2_with fail
        refine CS.out.mono ?_
        rintro e w5 ⟨rfl, ha5⟩
        obtain ⟨t, ht⟩ : ∃ t, s.sn = t := ⟨_, rfl⟩
        have HT : Hid (RAmid wb gd F t w5 ∧ runs (addSteps at_ L) st = (t.sc, t.wn at_ (L.headD [])) ∧ t.sure.length = st.sure.length ∧ t.waits.length ≤ 900000) := by
          rw [← ht]
          refine ⟨ha5, ?_, by rw [s.sn_sure]; exact HI.out.2.2.1, by have := HI.out.2.2.2; have := s.sn_waits; omega⟩
          rw [add_last2 HL0.out (by rw [AH.out.len]; omega) HPUT.out HLS.out]
        clear ht ha5 CS

        have ST := Lib.hid (AH.out.sto w5 HT.out.1.1)
        have c0 := ST.out.c0
        have c1 := ST.out.c1
        have c3 := ST.out.c3
        rw [HN.out.2.2.1] at c3
        obtain ⟨x, hx0⟩ : ∃ x, L[0]? = some x := ⟨_, List.getElem?_eq_getElem (by rw [AH.out.len]; exact AH.out.k0)⟩
        have hhd : L.headD [] = x := by rw [List.headD_eq_head?_getD, List.head?_eq_getElem?, hx0]; rfl
        have CW : Hid (∀ W, RAmid wb gd F t W → Calls Tryz.prog 21 #[.pointer (some ⟨gd, 0, none⟩), .int .i64 (at_ : Int), .slice (some a2) 64 c9] W fun e w' => e = .returned (.int .i64 t.sc) ∧ RAmid wb gd F (t.wn at_ x) w') := fun W ha =>
          ramid_write ha (by have := AH.out.fit; have := AH.out.k0; have := HT.out.2.2.1; omega) (Nat.le_refl _) (by have := AH.out.piece (lo := 0) AH.out.k0 rfl hx0 ha.1; rwa [addr_zero] at this) (AH.out.sec x (List.mem_of_getElem? hx0)).2 (fun ad e => by cases e; exact AH.out.a2f) (by have := HT.out.2.2.2; omega)
        have hcut := fun W => run_cut_first (ad := a2) (n := n64) (c := c9) (by have := AH.out.cap; have := AH.out.bytes; have := AH.out.k0; omega) W
        have HX := Lib.hid hhd
        clear hx0 hhd
        by_cases hlt : t.lets = 0
        · rw [St.sc_nine hlt] at CW
          have HLT := Lib.hid hlt
          clear hlt
          go_wp2_with fail
          go_region_held3 (fun W' => W'.cell? ⟨g, 0, none⟩ = some (.pointer (some ⟨gd, 0, none⟩)) ∧ W'.cell? ⟨g, 1, none⟩ = some (.int .i64 (from_ : Int)) ∧ W'.cell? ⟨g, 3, none⟩ = some (.int .i64 (us : Int))) (first | exact ⟨c0, c1, c3⟩) (first | (go_at_call 21; refine (CW.out _ HT.out.1.drew).mono ?_; rintro e w6 ⟨rfl, ha6⟩; have HM := Lib.hid ha6; have ST6 := Lib.hid (AH.out.sto w6 HM.out.1); have c0 := ST6.out.c0; have c1 := ST6.out.c1; have c3 := ST6.out.c3; rw [HN.out.2.2.1] at c3; clear ha6))
          go_wp2
          go_ret
          rw [HRES.out.1 (t.wn at_ x) (by rw [HT.out.2.1, HX.out, St.sc_nine HLT.out])]
          exact ⟨rfl, HWENT.out _ _ HM.out (by rw [t.wn_sure]; exact HT.out.2.2.1)⟩
        · rw [St.sc_zero hlt] at CW
          have HLT := Lib.hid hlt
          clear hlt
          go_wp2_with fail
          go_region_held3 (fun W' => W'.cell? ⟨g, 0, none⟩ = some (.pointer (some ⟨gd, 0, none⟩)) ∧ W'.cell? ⟨g, 1, none⟩ = some (.int .i64 (from_ : Int)) ∧ W'.cell? ⟨g, 3, none⟩ = some (.int .i64 (us : Int))) (first | exact ⟨c0, c1, c3⟩) (first | (go_at_call 21; refine (CW.out _ HT.out.1.drew).mono ?_; rintro e w6 ⟨rfl, ha6⟩; have HM := Lib.hid ha6; have ST6 := Lib.hid (AH.out.sto w6 HM.out.1); have c0 := ST6.out.c0; have c1 := ST6.out.c1; have c3 := ST6.out.c3; rw [HN.out.2.2.1] at c3; clear ha6))
          have c4 := ST6.out.c4
          have hg6 := ST6.out.lt
          have hrow6 := ST6.out.row
          rw [hvv.out, hq] at hrow6
          rw [hvv.out] at c4
          have IN6 := Lib.hid (in_but0 (H.out.2.2.2.1.below AH.out.hb) HM.out.1 (fun ad e h0 hf => H.out.2.2.2.2.2.2.2.1 ad e h0 (.inl hf)))
          clear c0 c1 hcut
          obtain ⟨i0, hi, hz0, hz1, hz2⟩ := info_parts infoBs
          have hn256 : n ≤ 256 := HL.out.2.2.2.2.2.2.2
          rw [hq] at c4
          have HROW := Lib.hid hrow6
          clear hrow6
          go_wp2_with fail
          go_region_law (first
            | (refine step_app_k (by rfl) _ _ (by rfl) w6.heap.size none 0 0 [] (by rfl) (World.ownsRow_nil _ _ _ _) A n c xs (by rfl) (IN6.out.below ((Below.refl _ w6).drew)) H.out.2.2.2.2.2.1 n (Nat.zero_add n) (by omega) (Nat.le_refl _) ?_; intro A7 c7 w7 ho7 hn7; rw [List.nil_append] at ho7; have b7 : Below w6.heap.size w6 w7 := hn7.below (World.ownsRow_nil _ w6.heap.size 5 1) ((Below.refl _ w6).drew) (Nat.le_refl _) (Nat.le_refl _); have c4 := (b7.cell hg6).trans c4; have hg7 := Nat.lt_of_lt_of_le hg6 b7.size; have HO7 := Lib.hid (And.intro b7 ho7); clear b7 ho7 hn7)
            | (refine step_append_lies _ (by rfl) _ _ _ (by rfl) 0 50 i0 _ 1 24 Tryz.underlying69 hi hz0 hz1 hz2 rfl (by decide) (.slice B q cB) q vals (by rfl) (own_block (own_block HROW.out (fun b hb => HO7.out.1.block b (own_lt HROW.out hb))) (fun b hb => heap_alloc_old w7 _ (Nat.lt_of_lt_of_le (own_lt HROW.out hb) HO7.out.1.size)))
                ⟨w7.heap.size, 0, none⟩ 1 1 [.slice A7 n c7] (by rfl) (by rfl) (World.news_of_block (cs := #[.slice A7 n c7]) (t := 50) (fr := (0, 0)) (heap_alloc_new w7 _)) (by simp [Value.oneCell']) (by omega) (by unfold maxLen; omega) (by omega) (Nat.zero_le _) (w7.heap.size + 1) (by simp) ?_
               intro gg cap w8 hown8 hgrow8 hat8 hlt8
               have hne : (Value.slice B q cB).ownBlock ≠ some g := fun e => by
                 obtain ⟨cur, hc⟩ := own_type HROW.out e
                 exact block_ne ST6.out.head hc rne_hv rfl
               have hh8 : w8.heap[g]? = w6.heap[g]? := ((hgrow8.block g (by simp; omega) (fun e => hne e.symm)).trans (heap_alloc_old w7 _ hg7)).trans (HO7.out.1.block g hg6)
               have f4 : w8.frozen? ⟨g, 4, none⟩ = false := frozen_of_row _ g 4 _ _ (hh8.trans ST6.out.head)
               have f3 : w8.frozen? ⟨g, 3, none⟩ = false := frozen_of_row _ g 3 _ _ (hh8.trans ST6.out.head)
               have d4 : w8.cell? ⟨g, 4, none⟩ = some (.slice B q cB) := (World.cell?_of_block hh8).trans (by first | exact c4 | (rw [← HO7.out.1.cell hg6]; exact c4))
               have d3 : w8.cell? ⟨g, 3, none⟩ = some (.int .i64 (us : Int)) := (World.cell?_of_block hh8).trans c3
               have HK8 := Lib.hid (And.intro hown8 (And.intro hgrow8 (And.intro hat8 hlt8)))
               clear hown8 hgrow8 hat8 hlt8 hne hh8))
          all_goals
            go_wp2
            go_ret
            rw [HRES.out.2 (t.wn at_ x) (by rw [HT.out.2.1, HX.out, St.sc_zero HLT.out])]
            have hown8 := HK8.out.1
            rw [← hq] at hown8 ⊢
            refine ⟨rfl, add_done H.out.1 AH.out HM.out (by rw [t.wn_sure]; exact HT.out.2.2.1) HO7.out.1 HO7.out.2 H.out.2.2.2.2.1 H.out.2.2.2.2.2.2.2.2.2.2 hn256 HN.out.2.2.2.1 HN.out.2.2.1 (by have := HL.out.2.2.2.2.1; have := HL.out.2.2.2.2.2.1; omega) hown8 (by rw [hvv.out, hq]; exact HK8.out.2.1) (by rw [hvv.out, hq]; exact HK8.out.2.2.1) HK8.out.2.2.2 rfl⟩
end

end Go.Proofs.YthbgcijkpincfaaGreatDoor

/-
  The document's own store: Add of any record.
-/
namespace Go.Proofs.YthbgcijkpincfaaGreatDoor
open Go.RowKit

theorem radd_any {w : World} {g gd from_ many : Nat} {F G : Nat → Prop} {l : List (List Nat)} {st : St} {A : Option Addr} {n c : Nat} {xs : List Nat} (h : RHeld w gd g from_ many st l F G) (hin : In w A n xs) (hx : ∀ x ∈ xs, x < 256) (hA : A = none → c = 0) (hnc : n ≤ c)
    (hAF : ∀ ad, A = some ad → 0 < n → ¬ (F ad.block ∨ G ad.block)) (hw : st.waits.length ≤ 800000) :
    Calls Tryz.prog 23 #[.pointer (some ⟨g, 0, none⟩), .slice A n c] w fun e w' => e = .returned (.int .i64 (addR st l from_ many xs).1) ∧ RWent w gd g from_ many F G (addR st l from_ many xs).2.st (addR st l from_ many xs).2.l w' := by
  by_cases h1 : 256 < n
  · exact radd_little h hin hx hA (.inl h1)
  · by_cases h2 : many - usedL l < secs n
    · exact radd_little h hin hx hA (.inr ⟨by omega, h2⟩)
    · exact radd_room h hin hx hA hnc hAF hw (by omega) h2

end Go.Proofs.YthbgcijkpincfaaGreatDoor

/-
  What the document's Open finds, record by record.
-/
namespace Go.Proofs.YthbgcijkpincfaaGreatDoor
open Go.RowKit

section
variable {T l : List (List Nat)} {u : Nat}
/-- l is found so far, in u sectors. -/
def FoundSo (T l : List (List Nat)) (u : Nat) : Prop := usedL l = u ∧ found T = l ++ parse (T.length - l.length) l.length (T.flatten.drop (64 * u))
theorem foundSo_start : FoundSo T [] 0 := ⟨rfl, by unfold found; simp⟩
theorem FoundSo.more (h : FoundSo T l u) (hlt : u < T.length) (hn : Next_ l.length (T.flatten.drop (64 * u))) :
    FoundSo T (l ++ [recOf (T.flatten.drop (64 * u))]) (u + secs (cntOf (T.flatten.drop (64 * u)))) := by
  obtain ⟨hu, hf⟩ := h
  have h1 := len_le_used l
  have h2 := recOf_length (next_len hn)
  refine ⟨by rw [usedL_snoc, hu, h2], ?_⟩
  obtain ⟨f, hf1⟩ : ∃ f, T.length - l.length = f + 1 := ⟨T.length - l.length - 1, by omega⟩
  rw [hf, hf1, parse_next hn, List.length_append, List.length_singleton, show T.length - (l.length + 1) = f by omega, List.drop_drop, List.append_assoc, List.singleton_append, show 64 * u + 64 * secs (cntOf (T.flatten.drop (64 * u))) = 64 * (u + secs (cntOf (T.flatten.drop (64 * u)))) by omega]
theorem FoundSo.stop (h : FoundSo T l u) (hn : ¬ Next_ l.length (T.flatten.drop (64 * u))) : found T = l := by
  rw [h.2, parse_stop hn, List.append_nil]
theorem FoundSo.full (h : FoundSo T l u) (hT : ∀ s ∈ T, Sec s) (hu : T.length ≤ u) : found T = l := by
  refine h.stop ?_
  rw [List.drop_eq_nil_of_le (by rw [flat_len (fun s hs => (hT s hs).1)]; omega)]
  exact next_nil _
theorem found_fits (hT : ∀ s ∈ T, Sec s) (hn : Next_ l.length (T.flatten.drop (64 * u))) : u + secs (cntOf (T.flatten.drop (64 * u))) ≤ T.length := by
  have h1 := next_len hn
  rw [List.length_drop, flat_len (fun s hs => (hT s hs).1)] at h1
  have := secs_pos (cntOf (T.flatten.drop (64 * u)))
  omega
theorem found_bytes (hT : ∀ s ∈ T, Sec s) (hn : Next_ l.length (T.flatten.drop (64 * u))) : (recOf (T.flatten.drop (64 * u))).length ≤ 256 ∧ ∀ x ∈ recOf (T.flatten.drop (64 * u)), x < 256 := by
  have hx : ∀ x ∈ T.flatten.drop (64 * u), x < 256 := fun x hm => flat_lt (fun s hs => (hT s hs).2) x (List.mem_of_mem_drop hm)
  exact ⟨by rw [recOf_length (next_len hn)]; exact next_cnt hn, recOf_lt hx⟩
end

end Go.Proofs.YthbgcijkpincfaaGreatDoor

/-
  The document's Open, its first loop: what is found so far, in a store that was boxed just now.
-/
namespace Go.Proofs.YthbgcijkpincfaaGreatDoor
open Go.RowKit

theorem own_base0 {w : World} {base size n : Nat} {e : TypeId} {v : Value} {xs : List Value} (h : w.ownsRow base e size v n xs) : w.ownsRow 0 e size v n xs :=
  ⟨h.1, h.2.elim Or.inl (fun ⟨g, cap, cur, hv, _, r⟩ => Or.inr ⟨g, cap, cur, hv, Nat.zero_le _, r⟩)⟩

/-- The records l are found so far, in u sectors; the store of them is block g; besides it only blocks that are new since w2 have turned. -/
structure RFind (w2 wr : World) (g gd from_ many : Nat) (T : List (List Nat)) (v : Value) (vals : List Value) (G : Nat → Prop) (l : List (List Nat)) (u : Nat) : Prop where
  so : FoundSo T l u
  st : RStoAt wr g gd from_ many v vals G l
  lt : ∀ x, G x → x < wr.heap.size
  but : But (fun b => b = g) w2 wr
  new : ∀ x, G x → x = g ∨ w2.heap.size ≤ x

section
variable {w2 wr w3 : World} {g gd from_ many u : Nat} {T : List (List Nat)} {v v' t : Value} {vals : List Value} {G : Nat → Prop} {l : List (List Nat)} {b : List Nat}
theorem RFind.below (h : RFind w2 wr g gd from_ many T v vals G l u) (hb : Below wr.heap.size wr w3) : RFind w2 w3 g gd from_ many T v vals G l u :=
  ⟨h.so, h.st.blocks (fun x hx => hb.block x (h.lt x hx)), fun x hx => Nat.lt_of_lt_of_le (h.lt x hx) hb.size, h.but.trans (But.of_below hb), h.new⟩
/-- What was there ahead of the loop, but for the store itself, stands. -/
theorem RFind.stands (h : RFind w2 wr g gd from_ many T v vals G l u) {A : Option Addr} {n c base : Nat} {xs : List Value} (ho : w2.ownsRow base 5 1 (.slice A n c) n xs) (hg : ∀ x, (Value.slice A n c).ownBlock = some x → x ≠ g) : wr.ownsRow base 5 1 (.slice A n c) n xs :=
  own_block ho (fun x hx => h.but.block x (own_lt ho hx) (hg x hx))

/-- A store that was boxed just now. -/
theorem rfind_start {w : World} (hf : 0 ≤ many) : RFind (w.alloc (.cells #[.pointer (some ⟨gd, 0, none⟩), .int .i64 (from_ : Int), .int .i64 (many : Int), .int .i64 0, .slice none 0 0] 124))
    (w.alloc (.cells #[.pointer (some ⟨gd, 0, none⟩), .int .i64 (from_ : Int), .int .i64 (many : Int), .int .i64 0, .slice none 0 0] 124)) w.heap.size gd from_ many T (.slice none 0 0) [] (fun x => x = w.heap.size) [] 0 := by
  refine ⟨foundSo_start, { head := World.alloc_heap_new w _, row := World.ownsRow_nil _ _ _ _, len := rfl, recs := fun i u b hu _ => by simp at hu, gg := rfl, gv := fun x e => (by cases e), ok := fun b hb => (by cases hb), fits := hf }, fun x e => by rw [e]; simp, But.refl _ _, fun x e => .inl e⟩

/-- One record more. -/
theorem RFind.more (h : RFind w2 wr g gd from_ many T v vals G l u) (hT : ∀ s ∈ T, Sec s) (hTl : T.length = many) (hu : u < T.length) (hn : Next_ l.length (T.flatten.drop (64 * u))) (hb : b = recOf (T.flatten.drop (64 * u)))
    {wb w5 : World} (h5 : Below wr.heap.size wr w5) (ht : w5.ownsRow wr.heap.size 5 1 t b.length (bvs b))
    (hown : wb.ownsRow 0 50 1 v' (l.length + 1) (vals ++ [t])) (hgr : ∀ x, x < w5.heap.size → v.ownBlock ≠ some x → wb.heap[x]? = w5.heap[x]?) (hv : ∀ x, v'.ownBlock = some x → (v.ownBlock = some x ∨ w5.heap.size ≤ x) ∧ x < wb.heap.size) (hsz : w5.heap.size ≤ wb.heap.size)
    (hos : wb.os = w5.os ∧ wb.tape = w5.tape ∧ wb.output = w5.output)
    (hw3 : w3 = (wb.setCell ⟨g, 4, none⟩ v').setCell ⟨g, 3, none⟩ (.int .i64 ((u + secs b.length : Nat) : Int))) :
    RFind w2 w3 g gd from_ many T v' (vals ++ [t]) (fun x => G x ∨ v'.ownBlock = some x ∨ t.ownBlock = some x) (l ++ [b]) (u + secs b.length) := by
  have hbc : b.length = cntOf (T.flatten.drop (64 * u)) := by rw [hb]; exact recOf_length (next_len hn)
  have hfit := found_fits hT hn
  rw [← hbc] at hfit
  have h' := h.below h5
  have hus := h.so.1
  have hkeep := h'.st.keeps (w3 := w3) (own_base0 ht) (by rw [hb]; exact found_bytes hT hn) (by rw [hus]; omega) hown hgr (fun x hx => (hv x hx).1) (by rw [hus]; exact hw3)
  have hsz3 : w3.heap.size = wb.heap.size := by rw [hw3]; simp [World.setCell]
  have hso := h.so.more hu hn
  rw [← hb, ← hbc] at hso
  refine ⟨hso, hkeep, fun x hx => ?_, ?_, fun x hx => ?_⟩
  · rw [hsz3]
    rcases hx with hx | hx | hx
    · exact Nat.lt_of_lt_of_le (h'.lt x hx) hsz
    · exact (hv x hx).2
    · exact Nat.lt_of_lt_of_le (ht.lt x hx).2 hsz
  · have hb5 := h'.but
    refine ⟨?_, ?_, ?_, by rw [hsz3]; exact Nat.le_trans hb5.size hsz, fun x hx hne => ?_⟩
    · rw [hw3]; exact hos.1.trans hb5.os
    · rw [hw3]; exact hos.2.1.trans hb5.tape
    · rw [hw3]; exact hos.2.2.trans hb5.output
    · have e3 : w3.heap[x]? = wb.heap[x]? := by rw [hw3, Below.heap_setCell _ _ _ _ hne, Below.heap_setCell _ _ _ _ hne]
      rw [e3, hgr x (Nat.lt_of_lt_of_le hx hb5.size) (fun e => by rcases h.new x (h.st.gv x e) with k | k; exact hne k; omega)]
      exact hb5.block x hx hne
  · rcases hx with hx | hx | hx
    · exact h.new x hx
    · rcases (hv x hx).1 with k | k
      · exact h.new x (h.st.gv x k)
      · have := h'.but.size; right; omega
    · right
      have := (ht.lt x hx).1
      have := h.but.size
      omega
end

end Go.Proofs.YthbgcijkpincfaaGreatDoor

/-
  The document's own store: Open with a place that is none.
-/
namespace Go.Proofs.YthbgcijkpincfaaGreatDoor
open Go.RowKit

set_option maxRecDepth 100000 in
set_option maxHeartbeats 1000000 in
theorem ropen_arg {w : World} {gd : Nat} {F : Nat → Prop} {st : St} {a b : Int} (hd : RDisk w gd F st) (h : a < 0 ∨ b < 1 ∨ (st.sure.length : Int) < a ∨ (st.sure.length : Int) - a < b) :
    Calls Tryz.prog 10 #[.pointer (some ⟨gd, 0, none⟩), .int .i64 a, .int .i64 b] w fun e w' => e = .returned (.tuple #[.pointer none, .int .i64 1]) ∧ w = w' := by
  have hN := hd.1.le
  have C := rlen_any hd
  obtain ⟨N, hn⟩ : ∃ N, st.sure.length = N := ⟨_, rfl⟩
  rw [hn] at h hN C
  have HC := Lib.hid C
  clear hd hn C
  by_cases h1 : a < 0
  · have q1 : decide (a < 0) = true := by simpa using h1
    clear h
    go_enter Tryz.func10, Tryz.ntmps10
    go_wp2_with fail
    go_ret2
    exact ⟨rfl, rfl⟩
  have q1 : decide (a < 0) = false := by simpa using h1
  by_cases h2 : b < 1
  · have q2 : decide (b < 1) = true := by simpa using h2
    clear h
    go_enter Tryz.func10, Tryz.ntmps10
    go_wp2_with fail
    go_ret2
    exact ⟨rfl, rfl⟩
  have q2 : decide (b < 1) = false := by simpa using h2
  by_cases h3 : (N : Int) < a
  · have q3 : decide ((N : Int) < a) = true := by simpa using h3
    clear h
    go_enter Tryz.func10, Tryz.ntmps10
    go_wp2_with fail
    refine HC.out.mono ?_
    rintro e _ ⟨rfl, rfl⟩
    go_wp2_with fail
    go_ret2
    exact ⟨rfl, rfl⟩
  have q3 : decide ((N : Int) < a) = false := by simpa using h3
  have h4 : (N : Int) - a < b := by rcases h with h | h | h | h <;> first | exact h | exact absurd h (by assumption)
  have w1 : IntKind.i64.wrap ((N : Int) - a) = (N : Int) - a := by rw [IntKind.wrap_i64]; omega
  clear h
  go_enter Tryz.func10, Tryz.ntmps10
  go_wp2_with fail
  refine HC.out.mono ?_
  rintro e _ ⟨rfl, rfl⟩
  go_wp2_with fail
  refine HC.out.mono ?_
  rintro e _ ⟨rfl, rfl⟩
  go_wp2_with fail
  go_ret2
  exact ⟨rfl, rfl⟩

end Go.Proofs.YthbgcijkpincfaaGreatDoor

/-
  find: the records that stand in the region, up to the end.
-/
namespace Go.Proofs.YthbgcijkpincfaaGreatDoor
open Go.RowKit Go.Shelf

attribute [local go_sem] Oper.semAt_some

/-- The sectors so far, in memory of the call's own, whose box is b. -/
structure Coll (w : World) (b gd : Nat) (F : Nat → Prop) (st : St) (xs : List Nat) (W : World) : Prop where
  row : ∃ v, Boxed W b 50 v ∧ W.ownsRow w.heap.size 5 1 v xs.length (bvs xs)
  disk : Disk W gd F st ∧ CellsIn F W
  bel : Below w.heap.size w W
theorem Coll.step {w W W' : World} {b gd : Nat} {F : Nat → Prop} {st : St} {xs : List Nat} {row : Option Nat} {B : Nat} (h : Coll w b gd F st xs W) (hB : w.heap.size ≤ B) (hg : W.grownBy W' row) (hr : ∀ r, row = some r → B ≤ r ∧ ∃ o : Obj, W.heap[r]? = some o ∧ o.isCells = false) : Coll w b gd F st xs W' := by
  obtain ⟨v, hv, ho⟩ := h.row
  have hr2 := fun r e => (hr r e).2
  refine ⟨⟨v, Boxed.step hv hg hr2, own_block ho (fun x hx => ?_)⟩, h.disk.1.step h.disk.2 hg hr2, h.bel.grown hg h.bel.size (fun k e => Nat.le_trans hB (hr k e).1)⟩
  obtain ⟨cur, hc⟩ := own_type ho hx
  exact (row_step hc hg hr2).trans hc.symm

/-- Records are found, one behind the other. -/
structure Finding (W2 : World) (sb gd from_ many : Nat) (G : Nat → Prop) (T : List (List Nat)) (l : List (List Nat)) (f : Nat) (G' : Nat → Prop) (wr : World) : Prop where
  sto : Sto wr sb gd from_ many G' l false
  g : ∀ x, G' x → G x ∨ W2.heap.size ≤ x
  but : But G W2 wr
  parse : l ++ parse f l.length (T.flatten.drop (64 * usedL l)) = found T
  fuel : (T.flatten.drop (64 * usedL l)).length ≤ 64 * f
/-- How many sectors the store has found, as its memory tells. -/
def usedIn (sb : Nat) (wr : World) : Nat := match wr.cell? ⟨sb, 4, none⟩ with | some v => (intOf v).toNat | none => 0
theorem Finding.used {W2 wr : World} {sb gd from_ many : Nat} {G G' : Nat → Prop} {T l : List (List Nat)} {f : Nat} (h : Finding W2 sb gd from_ many G T l f G' wr) : usedIn sb wr = usedL l := by
  obtain ⟨⟨v, vals, hh⟩, _⟩ := h.sto
  unfold usedIn
  rw [hh.c4]
  simp [intOf]
theorem own_zero' {w : World} {b n : Nat} {e : TypeId} {sz : Nat} {v : Value} {ys : List Value} (h : w.ownsRow b e sz v n ys) : w.ownsRow 0 e sz v n ys := by
  refine ⟨h.1, ?_⟩
  rcases h.2 with h | ⟨g, cap, cur, e, _, rest⟩
  · exact .inl h
  · exact .inr ⟨g, cap, cur, e, Nat.zero_le _, rest⟩
/-- Whatever comes behind an exit that is not taken. -/
theorem wp_calm {P : Program} {c : Code} {K : Act → World → Prop} {Q : Exit → Act → World → Prop} {a : Act} {w : World} (h : c.wp P (Exit.then K (fun _ _ _ => False)) a w) : c.wp P (Exit.then K Q) a w :=
  (wpIn_wide (n := 0)).1 (wpIn_mono ((wpIn_wide (n := 0)).2 h) (fun e a w h => by cases e <;> first | exact h | exact h.elim))
/-- What Get answers, in one form. -/
def Got (xs : List Nat) (w : World) (e : Ending) (w' : World) : Prop := ∃ (z1 : Int) (A : Option Addr) (n c : Nat) (z2 z3 : Int), e = .returned (.tuple #[.int .u64 z1, .slice A n c, .int .i64 z2, .int .i64 z3]) ∧ Below w.heap.size w w' ∧
  ((cutL xs ≠ none ∧ z3 ≠ 0) ∨ (cutL xs = none ∧ z3 = 0 ∧ z1 = (numOf xs : Int) ∧ z2 = ((secs (cntOf xs) : Nat) : Int) ∧ w'.ownsRow w.heap.size 5 1 (.slice A n c) (cntOf xs) (bvs (recOf xs))))
theorem got_of {xs : List Nat} {w : World} {e : Ending} {w' : World} (h : GetPost xs w e w') : Got xs w e w' := by
  obtain ⟨hb, ⟨b, hc, rfl⟩ | ⟨hc, A, c, rfl, ho⟩⟩ := h
  · exact ⟨_, _, _, _, _, _, rfl, hb, .inl ⟨by rw [hc]; simp, by cases b <;> decide⟩⟩
  · exact ⟨_, _, _, _, _, _, rfl, hb, .inr ⟨hc, rfl, rfl, rfl, ho⟩⟩
theorem hxsecl {xs : List Nat} (h : (bvs xs).length = 64 * 1) : xs.length = 64 := by rw [bvs_length] at h; omega
set_option maxRecDepth 100000 in
set_option maxHeartbeats 2000000 in
theorem find_in {w : World} {gd sb from_ many : Nat} {F G : Nat → Prop} {st : St} (E : Errs) (hE : ∀ W, But (fun x => F x ∨ G x) w W → Laid W E) (h : Held_ w gd sb from_ many ⟨st, [], false⟩ F G) :
    CallsIn Fence.wide 3 Tryz.prog 70 #[.pointer (some ⟨sb, 0, none⟩)] w fun e w' => e = .returned (.tuple #[]) ∧ Went w gd sb from_ many F G ⟨st, found (regionL st.read from_ many), false⟩ w' := by
  obtain ⟨F0, hd0, hc0, hf0⟩ := h.d.tight
  obtain ⟨⟨v, vals, hh⟩, hG⟩ := h.s
  have hfit := h.fits
  have hle := h.d.1.le
  obtain ⟨T, hT⟩ : ∃ T, regionL st.read from_ many = T := ⟨_, rfl⟩
  have hTl : T.length = many := by rw [← hT]; exact regionL_length (by rw [st.read_length]; exact hfit)
  have hTg : ∀ k xs, T[k]? = some xs → st.read[from_ + k]? = some xs := fun k xs hx => by
    have hk := (List.getElem?_eq_some_iff.1 hx).1
    rw [← hT, regionL_get (by omega)] at hx
    exact hx
  have hTs : ∀ x ∈ T, Sec x := fun x hx => by
    obtain ⟨k, hk⟩ := List.mem_iff_getElem?.1 hx
    exact h.d.1.read x (List.mem_of_getElem? (hTg k x hk))
  rw [hT]
  have c0 := hh.c0
  have c1 := hh.c1
  have c2 := hh.c2
  have H := Lib.hid (And.intro h (And.intro hd0 (And.intro hc0 (And.intro hf0 (And.intro hh (And.intro hG hE))))))
  have HT := Lib.hid (And.intro hTl (And.intro hTg (And.intro hTs (And.intro hfit hle))))
  have hm : from_ + many ≤ 4096 := Nat.le_trans hfit hle
  have hsbl := hh.lt
  clear h hd0 hc0 hf0 hh hG hE hfit hle hTl hTg hTs hT
  refine callsIn_of_wp_marks Tryz.func70 rfl trivial ?_ rfl
  simp only [Tryz.ntmps70, List.size_toArray, List.length_cons, List.length_nil, Nat.reduceAdd, Nat.reduceSub, Array.replicate_succ, Array.replicate_zero, List.push_toArray, List.append_toArray, List.nil_append, List.cons_append]
  have f0 : ∀ o, (w.alloc o).cell? ⟨sb, 0, none⟩ = some (.pointer (some ⟨gd, 0, none⟩)) := fun o => ((below_alloc w o).cell hsbl).trans c0
  have f1 : ∀ o, (w.alloc o).cell? ⟨sb, 1, none⟩ = some (.int .i64 (from_ : Int)) := fun o => ((below_alloc w o).cell hsbl).trans c1
  have f2 : ∀ o, (w.alloc o).cell? ⟨sb, 2, none⟩ = some (.int .i64 (many : Int)) := fun o => ((below_alloc w o).cell hsbl).trans c2
  gi_wp2
  obtain ⟨b, hb⟩ : ∃ b, w.heap.size = b := ⟨_, rfl⟩
  have hb0 := below_alloc w (.cells #[.slice none 0 0] 50)
  have hbx := Boxed.new w 50 (.slice none 0 0)
  have z0 : (w.alloc (.cells #[.slice none 0 0] 50)).heap.size = b + 1 := by rw [World.size_alloc, hb]
  obtain ⟨W0, hW0⟩ : ∃ W0, w.alloc (.cells #[.slice none 0 0] 50) = W0 := ⟨_, rfl⟩
  rw [hW0] at hb0 hbx z0 ⊢
  rw [hb] at hbx ⊢
  have k0 : Coll w b gd F0 st [] W0 := ⟨⟨_, hbx, rfl, .inl ⟨rfl, rfl⟩⟩, ⟨H.out.2.1.below hb0, fun x hx => by
    obtain ⟨c, t, f, e⟩ := H.out.2.2.1 x hx
    exact ⟨c, t, f, (hb0.block x (H.out.2.1.2.2 x hx)).trans e⟩⟩, hb0⟩
  clear hW0 f0 f1 f2 c0 c1 c2 hbx hb0
  have oG : OwnFrom W0.heap.size (fun (_ : Unit) W => Disk W gd F0 st ∧ CellsIn F0 W) := fun _ _ _ _ h hg hr => h.1.step h.2 hg (fun r e => (hr r e).2)
  refine wpIn_range_R rfl (by decide) (gf := 170) (bd := #[regionV gd from_ many]) (lb := #[]) rfl trivial (enters_of Tryz.func170 (by kernel_rfl) rfl)
    (encs := secV) (Ty := fun t => t = 119)
    (fun W1 hb1 => sectors_seq T HT.out.1 hm (fun t => t = 119) rfl (fun _ W => Disk W gd F0 st ∧ CellsIn F0 W) W1 (fun k W xs hx h => ⟨F0, st, h.1, HT.out.2.1 k xs hx⟩) (fun k => fun _ _ _ _ h hg hr => h.1.step h.2 hg (fun r e => (hr r e).2)) (own_below oG (s := ()) k0.disk hb1)) (fun _ => rfl)
    (fun pre x _ _ _ _ h hg hr => ⟨h.1, (by obtain ⟨xs, e, hB⟩ := h.2.1; exact ⟨xs, e, row_step hB hg (fun r e => (hr r e).2)⟩), h.2.2.1.step h.2.2.2 hg (fun r e => (hr r e).2)⟩)
    (fun _ _ _ _ h hg hr => h.1.step h.2 hg (fun r e => (hr r e).2))
    (fun _ _ _ _ h hg hr => ⟨h.1, h.2.1.step h.2.2 hg (fun r e => (hr r e).2)⟩) (fun _ _ _ _ h _ _ => h)
    (fun pre W => Coll w b gd F0 st (T.take pre.length).flatten W)
    (fun _ _ => False)
    (fun _ _ _ _ h hg hr => h.step (by omega) hg hr)
    (fun _ _ _ _ h _ _ => h) k0
    (fun x => { tmps := #[.pointer (some ⟨sb, 0, none⟩), undef, .pointer (some ⟨b, 0, none⟩), undef, .slice (some ⟨x.2, 0, none⟩) 64 64, undef, undef, undef, undef, .pointer (some ⟨sb, 0, none⟩), .pointer (some ⟨sb, 0, none⟩), .pointer (some ⟨sb, 0, none⟩), regionV gd from_ many,
      .func (.func 170) #[regionV gd from_ many] #[], .int .i64 (x.1 : Int), .slice (some ⟨x.2, 0, none⟩) 64 64, undef, undef, undef, undef, undef, undef, undef, undef, undef, undef, undef, undef, undef, undef, undef, undef, undef, undef, undef, undef, undef, undef, undef, undef, undef, undef, undef, undef], defers := [] }) ?assign ?body ?done ?stop
  case assign =>
    intro l2 x Wc K hK
    unfold secV
    gi_wp2
    exact hK
  case body =>
    rintro l2 pre ⟨k, Bn⟩ Wc hco ⟨hpre, ⟨xs, hxs, hB⟩, hg2⟩
    have hpl : pre.length = k := by
      have := congrArg List.length hpre
      rw [List.length_map, List.length_range] at this
      exact this
    rw [hpl] at hco
    obtain ⟨v, hbx, hrow⟩ := hco.row
    have hkm := (List.getElem?_eq_some_iff.1 hxs).1
    rw [HT.out.1] at hkm
    have hxsec := HT.out.2.2.1 xs (List.mem_of_getElem? hxs)
    have hnl : (T.take k).flatten.length = 64 * k := by
      rw [flat_len (fun s hs => (HT.out.2.2.1 s (List.mem_of_mem_take hs)).1), List.length_take, HT.out.1, Nat.min_eq_left (by omega)]
    have hfl : (T.take (k + 1)).flatten = (T.take k).flatten ++ xs := by rw [List.take_add_one, hxs]; simp
    have e1 : (pre ++ [(k, Bn)]).length = k + 1 := by rw [List.length_append, hpl]; rfl
    obtain ⟨i0, hi, hz0, hz1, hz2⟩ := info_parts infoByte
    have hbc := hbx.cell
    obtain ⟨A, c, rfl⟩ := own_form hrow
    have HC := Lib.hid (And.intro hco (And.intro hbx (And.intro hrow (And.intro hB (And.intro hxsec (And.intro hnl (And.intro hfl (And.intro e1 hb))))))))
    have hkk : k ≤ 4096 := by omega
    obtain ⟨nn, hnn⟩ : ∃ nn, (T.take k).flatten.length = nn := ⟨_, rfl⟩
    have hnn2 : nn ≤ 300000 := by omega
    have hw0 : w.heap.size ≤ Wc.heap.size := hco.bel.size
    rw [hnn] at hrow hbc
    have hlx : (bvs xs).length = 64 * 1 := by rw [bvs_length, hxsec.1]
    have hnews : ∀ j y, (bvs xs)[j]? = some y → Wc.cell? ((⟨Bn, 0, none⟩ : Addr).add j) = some y := fun j y hy => by
      rw [bvs_get] at hy
      obtain ⟨z, hz, rfl⟩ := Option.map_eq_some_iff.1 hy
      exact hB.at_ j z hz
    have HN := Lib.hid hnn
    clear hco hbx hB hxsec hnl hfl e1 hxs hg2 hpre hpl hkm hnn
    gi_wp2_with (
      gi_at_builtin
      refine wpListIn_append_own _ rfl _ _ 50 rfl w.heap.size 5 i0 (.int .u8 0) 1 1 Tryz.underlying50 hi hz0 hz1 hz2 rfl (by decide) (.slice A nn c) nn (bvs (T.take k).flatten) rfl hrow ⟨Bn, 0, none⟩ 64 64 (bvs xs) rfl hlx hnews (bvs_oneCell xs) (by unfold maxLen; omega) (by omega) hw0 ?_
      intro v' w1 hown' hgrow _
      rw [← bvs_append] at hown'
      obtain ⟨A', c', rfl⟩ := own_form hown'
      have hnr : (Value.slice A nn c).ownBlock ≠ some b := fun e => by
        obtain ⟨cur, hc⟩ := own_type hrow e
        exact block_ne HC.out.2.1 hc tne_vr rfl
      have hbx1 : Boxed w1 b 50 (.slice A nn c) := by have h := HC.out.2.1; rw [HN.out] at h; exact h.kept hgrow (fun e => hnr e.symm)
      have hc1 := hbx1.cell
      have hf1 := hbx1.frozen)
    have hko : KeepsOthers Wc (w1.setCell ⟨b, 0, none⟩ (.slice A' (nn + 64) c')) := (KeepsOthers.of_grownBy hgrow (fun j o ej hj => by
      obtain ⟨cur, hc⟩ := own_type hrow ej
      rw [hj] at hc; cases hc; rfl)).trans (KeepsOthers.setCell _ _ _)
    have hbel : Below w.heap.size Wc (w1.setCell ⟨b, 0, none⟩ (.slice A' (nn + 64) c')) := ((Below.refl _ Wc).grown hgrow hw0 (fun j ej => (hrow.lt j ej).1)).setCell (p := ⟨b, 0, none⟩) (by rw [HC.out.2.2.2.2.2.2.2.2]; exact Nat.le_refl _) _
    have hnr1 : (Value.slice A' (nn + 64) c').ownBlock ≠ some b := fun e => by
      obtain ⟨cur, hc⟩ := own_type hown' e
      exact block_ne hbx1 hc tne_vr rfl
    have hdk : Disk (w1.setCell ⟨b, 0, none⟩ (.slice A' (nn + 64) c')) gd F0 st ∧ CellsIn F0 (w1.setCell ⟨b, 0, none⟩ (.slice A' (nn + 64) c')) := by
      have hbb : But (fun x => w.heap.size ≤ x) Wc (w1.setCell ⟨b, 0, none⟩ (.slice A' (nn + 64) c')) := ⟨hbel.os, hbel.tape, hbel.output, hbel.size, fun x hx hn => hbel.block x (by omega)⟩
      have hd := HC.out.1.disk
      refine ⟨hd.1.but hbb (fun x hx e => by have := H.out.2.1.2.2 x hx; omega), fun x hx => ?_⟩
      obtain ⟨c, t, f, e⟩ := hd.2 x hx
      exact ⟨c, t, f, (hbel.block x (H.out.2.1.2.2 x hx)).trans e⟩
    refine ⟨hko.from _, fun bb c t f ht hbk => ?_, hdk, ?_⟩
    · subst ht
      have n1 : bb ≠ b := fun e => by subst e; exact block_ne hbk HC.out.2.1 (by decide) rfl
      rw [Below.heap_setCell _ _ _ _ n1]
      refine (hgrow.block bb (Array.getElem?_eq_some_iff.1 hbk).1 (fun e => ?_)).trans hbk
      obtain ⟨cur, hc⟩ := own_type hrow e.symm
      exact block_ne hbk hc (by decide) rfl
    · show Coll w b gd F0 st (T.take (pre ++ [(k, Bn)]).length).flatten _
      rw [HC.out.2.2.2.2.2.2.2.1, HC.out.2.2.2.2.2.2.1]
      refine ⟨⟨_, hbx1.set _, ?_⟩, hdk, HC.out.1.bel.trans hbel⟩
      have hown2 := hown'
      rw [show nn + 64 = ((T.take k).flatten ++ xs).length from by rw [List.length_append, HN.out, hxsecl hlx]] at hown2 ⊢
      exact own_block hown2 (fun x hx => Below.heap_setCell _ _ _ _ (fun e => hnr1 (by have e2 : x = b := e; rw [← e2]; exact (show (Value.slice A' (nn + 64) c').ownBlock = some x from by cases A' with | none => cases hx | some a => exact hx))))
  case done =>
    rintro D ys W2 hD ⟨hys, _⟩ hco hK
    have hyl : ys.length = many := by
      have := congrArg List.length hys
      rw [List.length_map, List.length_range] at this
      exact this
    rw [hyl, ← HT.out.1, List.take_length] at hco
    obtain ⟨v, hbx, hrow⟩ := hco.row
    obtain ⟨A, c, rfl⟩ := own_form hrow
    have hfl : T.flatten.length = 64 * many := by rw [flat_len (fun s hs => (HT.out.2.2.1 s hs).1), HT.out.1]
    have hin := In.of_own hrow
    have hcap : T.flatten.length ≤ c := own_cap hrow
    have hnil := own_nil hrow
    have hTb := flat_lt (fun s hs => (HT.out.2.2.1 s hs).2)
    have hGw := H.out.2.2.2.2.2.1
    have hbW : b < W2.heap.size := hbx.lt
    have hGb : ¬ G b := fun e => by have := hGw b e; omega
    have hDW := (Array.getElem?_eq_some_iff.1 hK).1
    have hGD : ¬ G D := fun e => by have := hGw D e; omega
    have hAG : ∀ ad, A = some ad → ¬ G ad.block := fun ad e hg => by
      subst e
      rcases hrow.2 with ⟨e, _⟩ | ⟨g1, cap, cur, e, hg1, _⟩
      · cases e
      · cases e; have := hGw _ hg; simp at this; omega
    have k1 : Finding W2 sb gd from_ many G T [] many G W2 := ⟨H.out.1.s.below hco.bel, fun x hx => .inl hx, But.refl _ _, by
      show parse many 0 (T.flatten.drop (64 * 0)) = parse T.length 0 T.flatten
      rw [Nat.mul_zero, List.drop_zero, HT.out.1], by
      rw [List.length_drop, hfl]; omega⟩
    have hmix : Tryz.prog.follows .mixedOrders = true := by kernel_rfl
    have hmany : many ≤ 4096 := by omega
    obtain ⟨n, hn⟩ : ∃ n, T.flatten.length = n := ⟨_, rfl⟩
    rw [hn] at hbx hin hcap hfl
    have HK := Lib.hid (And.intro hK (And.intro hD (And.intro hDW (And.intro hGD (And.intro hco (And.intro hTb hn))))))
    have HB := Lib.hid (And.intro hbx (And.intro hbW (And.intro hGb (And.intro hin (And.intro hAG (And.intro hnil (And.intro hcap hfl)))))))
    clear hK hD hDW hGD hbx hbW hGb hin hAG hcap hfl hco hnil hTb hrow hGw hys hyl hn oG k0
    gi_wp2
    refine wpIn_wide.2 ?_
    go_loopw [5] (fun (z : Value) wr => ∃ (l : List (List Nat)) (f : Nat) (G' : Nat → Prop), Finding W2 sb gd from_ many G T l f G' wr) (fun _ wr => many - usedIn sb wr)
    case atStart => exact ⟨[], many, G, k1⟩
    case round =>
      obtain ⟨l, f, G', hfi⟩ := hrel
      obtain ⟨⟨v2, vals2, hh2⟩, hG2⟩ := hfi.sto
      have c4 := hh2.c4
      have hul := hh2.fits
      obtain ⟨us, hus⟩ : ∃ us, usedL l = us := ⟨_, rfl⟩
      rw [hus] at c4 hul
      obtain ⟨p, hp⟩ : ∃ p, 64 * us = p := ⟨_, rfl⟩
      have hmul : (64 : Int) * (us : Int) = (p : Int) := by omega
      have hwr : IntKind.i64.wrap (p : Int) = (p : Int) := by rw [IntKind.wrap_i64]; omega
      have hpn : p ≤ n := by have := HB.out.2.2.2.2.2.2.2; omega
      obtain ⟨B1, hcut, hB1⟩ := cut_name (A := A) (n := n) (c := c) (k := p) hpn
      have hboxr : Boxed wr b 50 (.slice A n c) := (hfi.but.block b HB.out.2.1 HB.out.2.2.1).trans HB.out.1
      have cb := hboxr.cell
      have hinr : In wr A n T.flatten := in_but HB.out.2.2.2.1 hfi.but HB.out.2.2.2.2.1
      have hin1 := hinr.cut (k := p) (c := c) hpn HB.out.2.2.2.2.2.2.1
      rw [← hB1] at hin1
      have hb1n : B1 = none → n - p = 0 := fun e => by
        rw [hB1] at e
        have hA0 : A = none := by split at e; exact e; cases A; rfl; cases e
        have := HB.out.2.2.2.2.2.1 hA0; have := HB.out.2.2.2.2.2.2.1; omega
      obtain ⟨n1, hn1⟩ : ∃ n1, n - p = n1 := ⟨_, rfl⟩
      obtain ⟨c1, hc1⟩ : ∃ c1, c - p = c1 := ⟨_, rfl⟩
      have hnc1 : n1 ≤ c1 := by have := HB.out.2.2.2.2.2.2.1; omega
      have hn1b : n1 ≤ 1000000000000 := by have := HB.out.2.2.2.2.2.2.2; omega
      rw [hn1, hc1] at hcut
      rw [hn1] at hin1 hb1n
      obtain ⟨xs, hxs⟩ : ∃ xs, T.flatten.drop p = xs := ⟨_, rfl⟩
      rw [hxs] at hin1
      have hlay : Laid wr E := H.out.2.2.2.2.2.2 wr (((But.of_below HK.out.2.2.2.2.1.bel : But (fun x => F x ∨ G x) w W2)).trans (hfi.but.mono (fun x _ e => .inr e)))
      have hxb : ∀ x ∈ xs, x < 256 := fun x hx => HK.out.2.2.2.2.2.1 x (List.mem_of_mem_drop (hxs ▸ hx))
      have CG := Lib.hid (fun (W : World) (hb : Below wr.heap.size wr W) => (get_frame E B1 n1 c1 xs W (hlay.below hb) (hin1.below hb) hxb hb1n hnc1 hn1b).mono fun _ _ h => got_of h)
      have HF := Lib.hid (And.intro hfi (And.intro hh2 (And.intro hG2 (And.intro hus (And.intro hp (And.intro hxs hxb))))))
      clear hfi hh2 hG2 hus hp hB1 hboxr hinr hin1 hb1n hn1 hc1 hnc1 hn1b hxs hlay hxb hpn
      go_wp2
      refine wp_calm ?_
      go_region_law (first
        | (go_simp; go_at_call 171; refine (CG.out _ (Below.refl _ wr).drew).mono ?_; rintro e w5 ⟨z1, A5, n5, c5, z2, z3, rfl, hb5, hpo⟩))
      all_goals
        have hfi := HF.out.1
        have hus := HF.out.2.2.2.1
        have hxs := HF.out.2.2.2.2.2.1
        have hp := HF.out.2.2.2.2.1
        have hpar := hfi.parse
        have hfuel := hfi.fuel
        rw [hus, hp, hxs] at hpar hfuel
        have hbw : Below wr.heap.size wr w5 := (Below.refl _ wr).drew.trans hb5
        have hK5 : w5.heap[D]? = some (.deferred (some [])) := (hbw.block D (Nat.lt_of_lt_of_le HK.out.2.2.1 hfi.but.size)).trans ((hfi.but.block D HK.out.2.2.1 HK.out.2.2.2.1).trans HK.out.1)
        have hfin : ∀ (W' : World) (o : Obj), Below wr.heap.size wr W' → found T = l → Went w gd sb from_ many F G ⟨st, found T, false⟩ (W'.putObj D o) := fun W' o hb' hf => by
          rw [hf]
          have bt : But (fun x => x = D) W' (W'.putObj D o) := ⟨rfl, rfl, rfl, by simp, fun b hb hn => World.putObj_heap_other hn⟩
          have hDw : w.heap.size ≤ D := by have := HK.out.2.1; omega
          have b1 : But G w W' := ((But.of_below HK.out.2.2.2.2.1.bel : But G w W2).trans hfi.but).trans (But.of_below hb')
          have hnD : ∀ x, G' x → x ≠ D := fun x hx e => by
            subst e
            rcases hfi.g x hx with k | k
            · exact HK.out.2.2.2.1 k
            · have := HK.out.2.2.1; omega
          refine ⟨F, G', ⟨(H.out.1.d.but b1 (fun x hx hg => H.out.1.ap x hx hg)).but bt (fun x hx e => by have := H.out.1.d.2.2 x hx; omega), (hfi.sto.below hb').but bt hnD, fun x hx hg => ?_, H.out.1.fits⟩, (b1.mono (fun x _ e => .inr e) : But (fun x => F x ∨ G x) w W').next bt (fun x hx e => by omega), fun x hx => .inl hx, fun x hx => ?_⟩
          · rcases hfi.g x hg with k | k
            · exact H.out.1.ap x hx k
            · have := H.out.1.d.2.2 x hx; have := HK.out.2.2.2.2.1.bel.size; omega
          · rcases hfi.g x hx with k | k
            · exact .inl k
            · exact .inr (Nat.le_trans HK.out.2.2.2.2.1.bel.size k)
        have hDw : w.heap.size ≤ D := by have := HK.out.2.1; omega
        have HP := Lib.hid (And.intro hpar (And.intro hfuel (And.intro hbw (And.intro hK5 (And.intro hfin hDw)))))
        have HO := Lib.hid hpo
        have hh5 := HF.out.2.1.blocks (fun x hx => hbw.block x (HF.out.2.2.1 x hx))
        have CN := next_sto hh5 (by have := len_le_used l; have := hh5.fits; omega)
        obtain ⟨q, hq⟩ : ∃ q, l.length + 1 = q := ⟨_, rfl⟩
        rw [hq] at CN
        have HCN := Lib.hid (And.intro CN (And.intro hh5 hq))
        clear hfi hus hxs hp hpar hfuel hbw hK5 hfin hpo CN hh5 hb5 hq
        by_cases hz : z3 = 0
        · subst hz
          obtain ⟨hcut5, hz1, hz2, hown5⟩ : cutL xs = none ∧ z1 = (numOf xs : Int) ∧ z2 = ((secs (cntOf xs) : Nat) : Int) ∧ w5.ownsRow wr.drew.heap.size 5 1 (.slice A5 n5 c5) (cntOf xs) (bvs (recOf xs)) := by
            rcases HO.out with ⟨_, hzz⟩ | ⟨h1, _, h2, h3, h4⟩
            · exact absurd rfl hzz
            · exact ⟨h1, h2, h3, h4⟩
          subst hz1 hz2
          obtain ⟨nm, hnm⟩ : ∃ nm, numOf xs = nm := ⟨_, rfl⟩
          rw [hnm]
          by_cases hnum : nm = q
          · have hne : ((nm : Int) != (q : Int)) = false := by simp; omega
            have hnx : Next_ l.length xs := ⟨hcut5, by rw [hnm, hnum]; exact HCN.out.2.2.symm⟩
            have hsl := next_len hnx
            have hcn := next_cnt hnx
            have hrl := recOf_length hsl
            obtain ⟨f', rfl⟩ : ∃ f', f = f' + 1 := ⟨f - 1, by have := HP.out.2.1; have := secs_pos (cntOf xs); omega⟩
            have hxl : xs.length = n - p := by rw [← HF.out.2.2.2.2.2.1, List.length_drop, HK.out.2.2.2.2.2.2]
            have hkf : usedL l + secs (recOf xs).length ≤ many := by
              have h1 := HB.out.2.2.2.2.2.2.2; have h2 := HF.out.2.2.2.2.1; have h3 := HF.out.2.2.2.1
              rw [hrl]; omega
            have hsto5 : Sto w5 sb gd from_ many G' l false := HF.out.1.sto.below HP.out.2.2.1
            have CK := keep_sto (u := .slice A5 n5 c5) (b := recOf xs) hsto5 (by rw [hrl]; exact own_zero' hown5) ⟨by omega, recOf_lt HF.out.2.2.2.2.2.2⟩ hkf (by omega)
            rw [hrl] at CK
            obtain ⟨sc, hsc⟩ : ∃ sc, secs (cntOf xs) = sc := ⟨_, rfl⟩
            rw [hsc] at CK ⊢
            have hpn2 := HP.out.1
            rw [parse_next hnx] at hpn2
            have hfl2 := HP.out.2.1
            have hown6 := hown5
            have hsp := secs_pos (cntOf xs)
            have HG := Lib.hid (And.intro hpn2 (And.intro hfl2 (And.intro hsl (And.intro hrl (And.intro hsc (And.intro hkf (And.intro hsp hown6)))))))
            have HCK := Lib.hid CK
            clear hcut5 hnm hnum hnx hsl hcn hrl hkf hsto5 CK hsc hpn2 hfl2 hown5 hown6 hxl hsp
            go_wp2_with fail
            refine HCN.out.1.mono ?_
            rintro e w6 ⟨rfl, rfl⟩
            go_wp2_with fail
            refine HCK.out.mono ?_
            rintro e w7 ⟨rfl, hb7, G2, hs2, hg2⟩
            go_wp2
            have hfin7 : Finding W2 sb gd from_ many G T (l ++ [recOf xs]) f' G2 w7 := by
              have hfi := HF.out.1
              have hsz : W2.heap.size ≤ wr.heap.size := hfi.but.size
              refine ⟨hs2, fun x hx => ?_, (hfi.but.trans (But.of_below HP.out.2.2.1)).next hb7 (fun x hx e => (hfi.g x e).elim id (fun k => by omega)), ?_, ?_⟩
              · rcases hg2 x hx with k | k | k
                · exact hfi.g x k
                · exact .inr (Nat.le_trans hsz (HG.out.2.2.2.2.2.2.2.lt x k).1)
                · exact .inr (Nat.le_trans hsz (Nat.le_trans HP.out.2.2.1.size k))
              · rw [← HG.out.1, usedL_snoc, HG.out.2.2.2.1, List.length_append, List.append_assoc, HF.out.2.2.2.1, Nat.mul_add, HF.out.2.2.2.2.1, ← List.drop_drop, HF.out.2.2.2.2.2.1]
                rfl
              · rw [usedL_snoc, HG.out.2.2.2.1, HF.out.2.2.2.1, Nat.mul_add, HF.out.2.2.2.2.1, ← List.drop_drop, HF.out.2.2.2.2.2.1, List.length_drop]
                have h1 := HG.out.2.1; have h2 := HG.out.2.2.1; have h3 := HG.out.2.2.2.2.2.2.1
                omega
            go_roundw
            case rel => exact ⟨_, _, _, hfin7⟩
            case measure =>
              rw [hfin7.used, HF.out.1.used, usedL_snoc]
              have h1 := HG.out.2.2.2.2.2.1
              have h2 := secs_pos (recOf xs).length
              omega
          · have hne : ((nm : Int) != (q : Int)) = true := by simp; omega
            have hnx : ¬ Next_ l.length xs := fun h => hnum (by rw [← hnm, h.2]; exact HCN.out.2.2)
            have hfo : found T = l := by have h := HP.out.1; rw [parse_stop hnx, List.append_nil] at h; exact h.symm
            have HFO := Lib.hid hfo
            clear hcut5 hnm hnum hnx hown5 hfo
            go_wp2_with fail
            refine HCN.out.1.mono ?_
            rintro e w6 ⟨rfl, rfl⟩
            go_wp2
            refine ⟨by simp, .inl ⟨_, _, rfl, run_takeDeferred HP.out.2.2.2.1, ?_⟩⟩
            exact ⟨_, results_none rfl _ _ _, rfl, HP.out.2.2.2.2.1 _ _ HP.out.2.2.1 HFO.out⟩
        · have hz3 : (z3 != 0) = true := by simpa using hz
          have hnx : ¬ Next_ l.length xs := fun h => by
            rcases HO.out with ⟨h1, _⟩ | ⟨_, h1, _⟩
            · exact h1 h.1
            · exact hz h1
          have hfo : found T = l := by have h := HP.out.1; rw [parse_stop hnx, List.append_nil] at h; exact h.symm
          have HFO := Lib.hid hfo
          clear hnx hfo hz
          go_wp2
          refine ⟨by simp, .inl ⟨_, _, rfl, run_takeDeferred HP.out.2.2.2.1, ?_⟩⟩
          exact ⟨_, results_none rfl _ _ _, rfl, HP.out.2.2.2.2.1 _ _ HP.out.2.2.1 HFO.out⟩
  case stop =>
    rintro D pre Wc hD _ h hK
    exact h.elim

end Go.Proofs.YthbgcijkpincfaaGreatDoor

/-
  A region that draws its order, in a round: by the laws of an open fence without rounds.
-/
namespace Go.Proofs.YthbgcijkpincfaaGreatDoor
open Go.RowKit

theorem ops_in {P : Program} {ops : Array Oper} {K : Act → World → Prop} {l n : Nat} (hd : ∀ (i : Nat) (o : Oper), ops[i]? = some o → ∀ c, o.op ≠ .defer c) (L : List Nat) :
    ∀ (a : Act) (w : World), wpOps P ops (Exit.then K (fun _ _ _ => False)) L a w → wpOpsIn (Fence.wide.inRound l) n P ops (Exit.then K (fun _ _ _ => False)) L a w := by
  induction L with
  | nil => exact fun _ _ h => h
  | cons i rest ih =>
    intro a w h
    cases ho : ops[i]? with
    | none =>
      simp only [wpOps, ho] at h
      simp only [wpOpsIn, ho]
      exact ih a w h
    | some o =>
      simp only [wpOps, ho] at h
      simp only [wpOpsIn, ho]
      by_cases hw : Region.wanted o (yielded ops a.tmps) = true
      · rw [if_pos hw] at h ⊢
        have h1 : o.wp P a w (wpOps P ops (Exit.then K (fun _ _ _ => False)) rest) (Exit.then K (fun _ _ _ => False)) := by
          rcases h with h | ⟨_, a2, w2, h⟩
          · exact h
          · exact h.elim
        refine ⟨fun _ _ => trivial, ?_⟩
        have e : o.semAt (Fence.wide.inRound l).round a.eval = execOp a.eval o := Oper.semAt_some l _ _ (hd i o ho)
        rw [e]
        unfold Oper.wp at h1
        cases hr : (execOp a.eval o).run P w with
        | ok v w' =>
          rw [hr] at h1
          cases v with
          | value v => exact ih _ _ h1
          | skip => exact ih _ _ h1
          | defer d => exact ih _ _ h1
          | enter f args =>
            refine ⟨fun h => (by cases h), ?_⟩
            have h2 : Calls P f args w' fun e w'' => match e, w'' with
              | .returned v, w'' => wpOps P ops (Exit.then K (fun _ _ _ => False)) rest (a.put o.dst v) w''
              | .panicked chain, w'' => (Exit.then K (fun _ _ _ => False)) (.panic chain) a w''
              | .outgrown, _ => LetsOut (Exit.then K (fun _ _ _ => False)) := h1
            refine CallsIn.inRound l (callsIn_wide.2 (h2.mono ?_))
            intro e w'' h3
            cases e with
            | returned v => exact ih _ _ h3
            | panicked chain => exact h3
            | outgrown => exact h3
          | row r args =>
            refine ⟨fun h => (by cases h), ?_⟩
            intro c cs _
            obtain ⟨v, w'', hR, hs⟩ := h1 c cs
            exact ⟨v, w'', ih _ _ hR, stepsIn_wide.2 hs⟩
          | round l f tmps assign body => exact h1.elim
          | _ => exact h1.elim
        | halt x w' =>
          rw [hr] at h1
          cases x <;> first | exact h1 | exact h1.elim
      · rw [if_neg hw] at h ⊢
        exact ⟨fun _ _ => trivial, ih _ _ h⟩

/-- The region, what is known of the world being held. -/
theorem region_in {P : Program} {ops : Array Oper} {K : Act → World → Prop} {Q : Exit → Act → World → Prop} {l n id : Nat} {a : Act} {w : World} {S : World → Prop} (hm : P.follows .mixedOrders = true) (hd : ∀ (i : Nat) (o : Oper), ops[i]? = some o → ∀ c, o.op ≠ .defer c)
    (h : wpAnyH P .any ops (Exit.then K (fun _ _ _ => False)) S ops.size (Array.replicate ops.size false) a w.drew) :
    (Code.region id ops true).wpIn (Fence.wide.inRound l) n P (Exit.then K Q) a w := by
  refine wpIn_mono (Q := Exit.then K (fun _ _ _ => False)) (wpIn_region_draw fun t => ops_in hd _ _ _ ?_) (fun e a w h => by cases e <;> first | exact h | exact h.elim)
  simp only [Region.schedule, hm, Bool.true_or, if_true]
  exact wpAny_sound ops.size t _ a _ (wpAny_of_held _ _ _ _ h)

end Go.Proofs.YthbgcijkpincfaaGreatDoor

/-
  clean: noughts where there are none, and then all is made sure.
-/
namespace Go.Proofs.YthbgcijkpincfaaGreatDoor
open Go.RowKit Go.Shelf

attribute [local go_sem] Oper.semAt_some

theorem wpIn_calm {P : Program} {F : Fence} {n : Nat} {c : Code} {K : Act → World → Prop} {Q : Exit → Act → World → Prop} {a : Act} {w : World} (h : c.wpIn F n P (Exit.then K (fun _ _ _ => False)) a w) : c.wpIn F n P (Exit.then K Q) a w :=
  wpIn_mono h (fun e a w h => by cases e <;> first | exact h | exact h.elim)

def plainOp (o : Oper) : Bool := match o.op with | .defer _ => false | _ => true
theorem nodefer (ops : Array Oper) (h : ops.all plainOp = true) : ∀ (i : Nat) (o : Oper), ops[i]? = some o → ∀ c, o.op ≠ .defer c := fun i o ho c e => by
  obtain ⟨hi, hv⟩ := Array.getElem?_eq_some_iff.1 ho
  have h1 := Array.all_eq_true.1 h i hi
  rw [hv] at h1
  unfold plainOp at h1
  rw [e] at h1
  cases h1
def TypIn (F : Nat → Prop) (w : World) : Prop := ∀ x, F x → ∃ c t f, w.heap[x]? = some (.cells c t f) ∧ ¬ Mine_ t
theorem TypIn.cells {F : Nat → Prop} {w : World} (h : TypIn F w) : CellsIn F w := fun x hx => by
  obtain ⟨c, t, f, e, _⟩ := h x hx
  exact ⟨c, t, f, e⟩
theorem Disk.tightT {w : World} {g : Nat} {F : Nat → Prop} {s : St} (h : Disk w g F s) : ∃ F0, Disk w g F0 s ∧ TypIn F0 w ∧ ∀ x, F0 x → F x := by
  obtain ⟨ok, ⟨a, b, ca, cb, v, h, hf⟩, _⟩ := h
  refine ⟨Foot g a b v, ⟨ok, ⟨a, b, ca, cb, v, h, fun x hx => hx⟩, fun x hx => h.foot hx⟩, fun x hx => ?_, hf⟩
  rcases hx with rfl | rfl | rfl | hx
  · exact ⟨_, _, _, h.head, by unfold Mine_; decide⟩
  · obtain ⟨cur, hc⟩ := h.sure.type; exact ⟨_, _, _, hc, by unfold Mine_; decide⟩
  · obtain ⟨cur, hc⟩ := h.rd.type; exact ⟨_, _, _, hc, by unfold Mine_; decide⟩
  · obtain ⟨cur, hc⟩ := own_type h.row hx; exact ⟨_, _, _, hc, by unfold Mine_; decide⟩
theorem TypIn.step {F : Nat → Prop} {w w' : World} {row : Option Nat} (h : TypIn F w) (hg : w.grownBy w' row) (hr : ∀ r, row = some r → ∃ o : Obj, w.heap[r]? = some o ∧ o.isCells = false) : TypIn F w' := fun x hx => by
  obtain ⟨c, t, f, e, hn⟩ := h x hx
  exact ⟨c, t, f, row_step e hg hr, hn⟩
theorem keepT_but {F : Nat → Prop} {w w' : World} (h : TypIn F w) (hb : But F w w') : KeepT Mine_ w w' := fun b c t f ht hbk => by
  refine (hb.block b (Array.getElem?_eq_some_iff.1 hbk).1 (fun hf => ?_)).trans hbk
  obtain ⟨c2, t2, f2, e, hn⟩ := h b hf
  rw [hbk] at e
  cases e
  exact hn ht

/-- Between two sectors that are wiped. -/
structure Cln (w : World) (gd b sb : Nat) (F : Nat → Prop) (res : Int) (st : St) (W : World) : Prop where
  disk : ∃ F', Disk W gd F' st ∧ TypIn F' W ∧ ∀ x, F' x → F x ∨ b + 2 ≤ x
  but : But F w W
  size : b + 2 ≤ W.heap.size
  box : Boxed W b 33 (.pointer (some ⟨sb, 0, none⟩))
  res : Boxed W (b + 1) 27 (.int .i64 res)
section
variable {w W W' : World} {gd b sb : Nat} {F : Nat → Prop} {res : Int} {st : St}
theorem Cln.step {row : Option Nat} (hw : w.heap.size = b) (h : Cln w gd b sb F res st W) (hg : W.grownBy W' row) (hr : ∀ r, row = some r → b + 2 ≤ r ∧ ∃ o : Obj, W.heap[r]? = some o ∧ o.isCells = false) : Cln w gd b sb F res st W' := by
  obtain ⟨F', hd, hc, hf⟩ := h.disk
  have hr2 := fun r e => (hr r e).2
  exact ⟨⟨F', (hd.step hc.cells hg hr2).1, hc.step hg hr2, hf⟩, h.but.step hg (fun r e => by have := (hr r e).1; omega), Nat.le_trans h.size hg.size, Boxed.step h.box hg hr2, Boxed.step h.res hg hr2⟩
theorem Cln.setRes (hw : w.heap.size = b) (hF : ∀ x, F x → x < w.heap.size) (h : Cln w gd b sb F res st W) (t : Int) : Cln w gd b sb F t st (W.setCell ⟨b + 1, 0, none⟩ (.int .i64 t)) := by
  have hb : ∀ x, x ≠ b + 1 → (W.setCell ⟨b + 1, 0, none⟩ (.int .i64 t)).heap[x]? = W.heap[x]? := fun x hx => Below.heap_setCell _ _ _ _ hx
  have hs : (W.setCell ⟨b + 1, 0, none⟩ (.int .i64 t)).heap.size = W.heap.size := by simp [World.setCell]
  obtain ⟨F', hd, hc, hf⟩ := h.disk
  have hne : ∀ x, F' x → x ≠ b + 1 := fun x hx => by rcases hf x hx with e | e; have := hF x e; omega; omega
  have bt : But (fun x => x = b + 1) W (W.setCell ⟨b + 1, 0, none⟩ (.int .i64 t)) := (But.refl _ W).set 0 _ (fun _ => rfl)
  refine ⟨⟨F', hd.but bt hne, fun x hx => ?_, hf⟩, h.but.set 0 _ (fun e => by omega), by rw [hs]; exact h.size, (hb b (by omega)).trans h.box, h.res.set _⟩
  obtain ⟨c, t', f, e, hn⟩ := hc x hx
  exact ⟨c, t', f, (hb x (hne x hx)).trans e, hn⟩
theorem Cln.acted (hw : w.heap.size = b) (h : Cln w gd b sb F res st W) : Acted w gd F st W := by
  obtain ⟨F', hd, _, hf⟩ := h.disk
  exact ⟨F', hd, h.but, fun x hx => (hf x hx).imp id (fun e => by omega)⟩
theorem Cln.act {f : FuncId} {args : Array Value} {Q : Ending → Prop} {st' : St} (hw : w.heap.size = b) (hF : ∀ x, F x → x < w.heap.size) (h : Cln w gd b sb F res st W)
    (hc : ∀ F', Disk W gd F' st → (∀ x, F' x → F x ∨ b + 2 ≤ x) → Calls Tryz.prog f args W fun e W' => Q e ∧ Acted W gd F' st' W') :
    Calls Tryz.prog f args W fun e W' => Q e ∧ Cln w gd b sb F res st' W' ∧ KeepsOthers W W' ∧ KeepT Mine_ W W' := by
  obtain ⟨F', hd, hci, hf⟩ := h.disk
  refine (hc F' hd hf).mono ?_
  rintro e W' ⟨hq, F2, hd2, hb, hf2⟩
  obtain ⟨F3, hd3, hc3, hf3⟩ := hd2.tightT
  have hne : ∀ x, b ≤ x → x < b + 2 → W'.heap[x]? = W.heap[x]? := fun x h1 h2 => hb.block x (by have := h.size; omega) (fun e => by rcases hf x e with k | k; have := hF x k; omega; omega)
  refine ⟨hq, ⟨⟨F3, hd3, hc3, fun x hx => ?_⟩, h.but.next hb ?_, Nat.le_trans h.size hb.size, (hne b (by omega) (by omega)).trans h.box, (hne _ (by omega) (by omega)).trans h.res⟩, keeps_of_but hci.cells hb, keepT_but hci hb⟩
  · rcases hf2 x (hf3 x hx) with k | k
    · exact hf x k
    · right; have := h.size; omega
  · intro x hx hfx
    rcases hf x hfx with k | k
    · exact k
    · omega
theorem Cln.drew (h : Cln w gd b sb F res st W) : Cln w gd b sb F res st W.drew := by
  obtain ⟨F', hd, hc, hf⟩ := h.disk
  exact ⟨⟨F', hd.below (Below.refl _ W).drew, hc, hf⟩, h.but.drew, h.size, h.box, h.res⟩
end

theorem wn_read (s : St) (k n : Nat) (xs : List Nat) (h : k ≠ n) : (s.wn k xs).read[n]? = s.read[n]? := by
  unfold St.wn
  split
  · rw [s.burnt_read]
  · rw [s.wrote_read, List.getElem?_set_ne h]
theorem wipe_read (from_ : Nat) (L : List Nat) (s : St) (k : Nat) (h : ∀ n ∈ L, n ≠ k) : (runs (wipeSteps from_ L) s).2.read[from_ + k]? = s.read[from_ + k]? := by
  induction L generalizing s with
  | nil => rfl
  | cons n L ih =>
    have h1 : (stepW (from_ + n) [] s).2.read[from_ + k]? = s.read[from_ + k]? := wn_read s (from_ + n) (from_ + k) [] (by have := h n (by simp); omega)
    show (runs (stepW (from_ + n) [] :: wipeSteps from_ L) s).2.read[from_ + k]? = _
    rw [runs]
    split
    · rw [ih _ (fun m hm => h m (by simp [hm])), h1]
    · exact h1
theorem wipe_facts (from_ : Nat) (L : List Nat) (s : St) : (runs (wipeSteps from_ L) s).2.sure = s.sure ∧ (runs (wipeSteps from_ L) s).2.waits.length ≤ s.waits.length + L.length := by
  induction L generalizing s with
  | nil => exact ⟨rfl, Nat.le_refl _⟩
  | cons n L ih =>
    have h1 : (stepW (from_ + n) [] s).2.sure = s.sure := s.wn_sure _ _
    have h2 : (stepW (from_ + n) [] s).2.waits.length ≤ s.waits.length + 1 := s.wn_waits _ _
    show (runs (stepW (from_ + n) [] :: wipeSteps from_ L) s).2.sure = _ ∧ (runs (stepW (from_ + n) [] :: wipeSteps from_ L) s).2.waits.length ≤ _
    rw [runs]
    split
    · have := ih (stepW (from_ + n) [] s).2
      exact ⟨this.1.trans h1, by rw [List.length_cons]; omega⟩
    · exact ⟨h1, by rw [List.length_cons]; omega⟩
theorem wipe_snoc {from_ : Nat} {L : List Nat} {s : St} {n : Nat} (h : (runs (wipeSteps from_ L) s).1 = 0) : runs (wipeSteps from_ (L ++ [n])) s = stepW (from_ + n) [] (runs (wipeSteps from_ L) s).2 := by
  unfold wipeSteps at h ⊢
  rw [List.map_append, runs_append, if_pos h]
  show runs [stepW (from_ + n) []] _ = _
  rw [runs]
  split
  · rename_i h1; exact Prod.ext h1.symm rfl
  · rfl
theorem soils_len (T : List (List Nat)) (u k : Nat) : (soils T u k).length ≤ k := by
  unfold soils
  exact Nat.le_trans (List.length_filter_le _ _) (by rw [List.length_range]; exact Nat.le_refl _)

theorem soils_prefix {T : List (List Nat)} {u many x : Nat} {pre : List Nat} (h : x ∈ soils T u many) (hp : pre = soils T u x) : ∃ R, soils T u many = pre ++ [x] ++ R := by
  obtain ⟨h1, h2, h3⟩ := soils_mem.1 h
  have key : ∀ d, ∃ R, soils T u (x + 1 + d) = pre ++ [x] ++ R := by
    intro d
    induction d with
    | zero => exact ⟨[], by rw [Nat.add_zero, soils_yes h2 h3, hp, List.append_nil]⟩
    | succ d ih =>
      obtain ⟨R, hR⟩ := ih
      by_cases hc : u ≤ x + 1 + d ∧ T[x + 1 + d]? ≠ some nought
      · exact ⟨R ++ [x + 1 + d], by rw [show x + 1 + (d + 1) = (x + 1 + d) + 1 by omega, soils_yes hc.1 hc.2, hR, List.append_assoc]⟩
      · exact ⟨R, by rw [show x + 1 + (d + 1) = (x + 1 + d) + 1 by omega, soils_no hc, hR]⟩
  have := key (many - (x + 1))
  rwa [show x + 1 + (many - (x + 1)) = many by omega] at this
theorem went_acted {w w' : World} {gd sb from_ many : Nat} {m : Sm} {F G : Nat → Prop} {st st' : St} (h : Held_ w gd sb from_ many m F G) (_ : m.st = st) (ha : Acted w gd F st' w') (hf : from_ + many ≤ st'.sure.length) : Went w gd sb from_ many F G ⟨st', m.l, m.down⟩ w' := by
  obtain ⟨F', hd, hb, hf2⟩ := ha
  refine ⟨F', G, ⟨hd, h.s.but hb (fun x hg hx => h.ap x hx hg), fun x hx hg => ?_, hf⟩, hb.mono (fun x _ e => .inl e), hf2, fun x hx => .inl hx⟩
  rcases hf2 x hx with k | k
  · exact h.ap x k hg
  · have := h.s.2 x hg; omega
theorem sn_sure (s : St) : s.sn.sure.length = s.sure.length := (stepS_q s).1
theorem wipes_sure (s : St) (from_ : Nat) (L : List Nat) : (s.wipes from_ L).2.sure.length = s.sure.length := by
  unfold St.wipes
  rw [runs_append]
  split
  · show (runs [stepS] _).2.sure.length = _
    rw [runs]
    split
    · show (stepS _).2.sure.length = _
      rw [(stepS_q _).1, (wipe_facts from_ L s).1]
    · rw [(stepS_q _).1, (wipe_facts from_ L s).1]
  · rw [(wipe_facts from_ L s).1]

set_option maxRecDepth 100000 in
set_option maxHeartbeats 2000000 in
theorem clean_in {w : World} {gd sb from_ many : Nat} {F G : Nat → Prop} {m : Sm} (T : List (List Nat)) (h : Held_ w gd sb from_ many m F G) (hT : regionL m.st.read from_ many = T) (hw : m.st.waits.length ≤ 800000) :
    CallsIn Fence.wide 4 Tryz.prog 72 #[.pointer (some ⟨sb, 0, none⟩)] w fun e w' => e = .returned (.int .i64 (m.st.wipes from_ (soils T (usedL m.l) many)).1) ∧ Went w gd sb from_ many F G ⟨(m.st.wipes from_ (soils T (usedL m.l) many)).2, m.l, m.down⟩ w' := by
  obtain ⟨F0, hd0, hc0, hf0⟩ := h.d.tightT
  obtain ⟨⟨v, vals, hh⟩, hG⟩ := h.s
  have hfit := h.fits
  have hle := h.d.1.le
  have hTl : T.length = many := by rw [← hT]; exact regionL_length (by rw [St.read_length]; exact hfit)
  have hTg : ∀ k xs, T[k]? = some xs → m.st.read[from_ + k]? = some xs := fun k xs hx => by
    have hk := (List.getElem?_eq_some_iff.1 hx).1
    rw [← hT, regionL_get (by omega)] at hx
    exact hx
  have hTs : ∀ x ∈ T, Sec x := fun x hx => by
    obtain ⟨k, hk⟩ := List.mem_iff_getElem?.1 hx
    exact h.d.1.read x (List.mem_of_getElem? (hTg k x hk))
  have hF := h.d.2.2
  have hrow := hh.head
  have hsbl := hh.lt
  obtain ⟨u, hu⟩ : ∃ u, usedL m.l = u := ⟨_, rfl⟩
  rw [hu] at hrow ⊢
  obtain ⟨st, hst⟩ : ∃ st, m.st = st := ⟨_, rfl⟩
  rw [hst] at hTg hw hfit hle hd0 ⊢
  have hm : from_ + many ≤ 4096 := Nat.le_trans hfit hle
  have H := Lib.hid (And.intro h (And.intro hd0 (And.intro hc0 (And.intro hf0 (And.intro hst (And.intro hF (And.intro hrow hsbl)))))))
  have HT := Lib.hid (And.intro hTl (And.intro hTg (And.intro hTs (And.intro hfit (And.intro hle hw)))))
  clear h hd0 hc0 hf0 hh hG hfit hle hTl hTg hTs hT hst hF hrow hsbl hu hw
  refine callsIn_of_wp_marks Tryz.func72 rfl trivial ?_ rfl
  simp only [Tryz.ntmps72, List.size_toArray, List.length_cons, List.length_nil, Nat.reduceAdd, Nat.reduceSub, Array.replicate_succ, Array.replicate_zero, List.push_toArray, List.append_toArray, List.nil_append, List.cons_append]
  gi_wp2
  obtain ⟨b, hb⟩ : ∃ b, w.heap.size = b := ⟨_, rfl⟩
  have hb0 : Below w.heap.size w ((w.alloc (.cells #[.pointer (some ⟨sb, 0, none⟩)] 33)).alloc (.cells #[.int .i64 0] 27)) := ((Below.refl _ w).alloc (Nat.le_refl _) _).alloc (by simp) _
  have z0 : ((w.alloc (.cells #[.pointer (some ⟨sb, 0, none⟩)] 33)).alloc (.cells #[.int .i64 0] 27)).heap.size = b + 2 := by simp [hb]
  have x0 : Boxed ((w.alloc (.cells #[.pointer (some ⟨sb, 0, none⟩)] 33)).alloc (.cells #[.int .i64 0] 27)) b 33 (.pointer (some ⟨sb, 0, none⟩)) := by rw [← hb]; exact (Boxed.new w _ _).alloc _
  have x1 : Boxed ((w.alloc (.cells #[.pointer (some ⟨sb, 0, none⟩)] 33)).alloc (.cells #[.int .i64 0] 27)) (b + 1) 27 (.int .i64 0) := by
    have := Boxed.new (w.alloc (.cells #[.pointer (some ⟨sb, 0, none⟩)] 33)) 27 (.int .i64 0)
    rwa [World.size_alloc, hb] at this
  obtain ⟨W0, hW0⟩ : ∃ W0, (w.alloc (.cells #[.pointer (some ⟨sb, 0, none⟩)] 33)).alloc (.cells #[.int .i64 0] 27) = W0 := ⟨_, rfl⟩
  rw [hW0] at hb0 z0 x0 x1 ⊢
  rw [hb]
  have k0 : Cln w gd b sb F 0 st W0 := ⟨⟨F0, H.out.2.1.below hb0, fun x hx => by
    obtain ⟨c, t, f, e, hn⟩ := H.out.2.2.1 x hx
    exact ⟨c, t, f, (hb0.block x (H.out.2.1.2.2 x hx)).trans e, hn⟩, fun x hx => .inl (H.out.2.2.2.1 x hx)⟩, But.of_below hb0, by omega, x0, x1⟩
  have hmix : Tryz.prog.follows .mixedOrders = true := by kernel_rfl
  have hrow0 := (hb0.block sb H.out.2.2.2.2.2.2.2).trans H.out.2.2.2.2.2.2.1
  have HR0 := Lib.hid hrow0
  clear hW0 x0 x1
  refine wpIn_range_R rfl (by decide) (gf := 71) (bd := #[.pointer (some ⟨sb, 0, none⟩)]) (lb := #[]) rfl trivial (enters_of Tryz.func71 (by kernel_rfl) rfl)
    (encs := fun x : Nat => #[.int .i64 (x : Int)]) (Ty := Mine_)
    (fun W1 hb1 => soiled_seq (u := u) T HT.out.1 HT.out.2.2.1 hm Mine_ (fun _ h => h) (fun pre W => ∃ F', Disk W gd F' (runs (wipeSteps from_ pre) st).2 ∧ TypIn F' W) W1
      (fun k W2 xs hx hg => by
        obtain ⟨F', hd, _⟩ := hg
        refine ⟨F', _, hd, ?_⟩
        rw [wipe_read _ _ _ _ (fun n hn => by have := (soils_mem.1 hn).1; omega)]
        exact HT.out.2.1 k xs hx)
      (fun _ _ _ _ h hg hr => by obtain ⟨F', hd, hc⟩ := h; exact ⟨F', (hd.step hc.cells hg (fun r e => (hr r e).2)).1, hc.step hg (fun r e => (hr r e).2)⟩)
      (by
        obtain ⟨F', hd, hc, _⟩ := k0.disk
        refine ⟨F', hd.below hb1, fun x hx => ?_⟩
        obtain ⟨c, t, f, e, hn⟩ := hc x hx
        exact ⟨c, t, f, (hb1.block x (hd.2.2 x hx)).trans e, hn⟩)
      ((hb1.block sb (Nat.lt_of_lt_of_le H.out.2.2.2.2.2.2.2 hb0.size)).trans hrow0)) (fun _ => rfl)
    (fun pre x _ _ _ _ h hg hr => ⟨h.1, h.2.1, h.2.2.1, h.2.2.2.1, (by obtain ⟨F', hd, hc⟩ := h.2.2.2.2; exact ⟨F', (hd.step hc.cells hg (fun r e => (hr r e).2)).1, hc.step hg (fun r e => (hr r e).2)⟩)⟩)
    (fun _ _ _ _ h hg hr => by obtain ⟨F', hd, hc⟩ := h; exact ⟨F', (hd.step hc.cells hg (fun r e => (hr r e).2)).1, hc.step hg (fun r e => (hr r e).2)⟩)
    (fun _ _ _ _ h _ _ => h) (fun _ _ _ _ h _ _ => h)
    (fun pre W => Cln w gd b sb F 0 (runs (wipeSteps from_ pre) st).2 W ∧ (runs (wipeSteps from_ pre) st).1 = 0 ∧ W.heap[sb]? = W0.heap[sb]?)
    (fun pre W => Cln w gd b sb F 9 (st.wipes from_ (soils T u many)).2 W ∧ (st.wipes from_ (soils T u many)).1 = 9)
    (fun _ _ _ _ h hg hr => ⟨h.1.step hb hg (fun r e => ⟨by have := (hr r e).1; omega, (hr r e).2⟩), h.2.1, ((row_step (h.2.2.trans hrow0) hg (fun r e => (hr r e).2)).trans hrow0.symm)⟩)
    (fun _ _ _ _ h hg hr => ⟨h.1.step hb hg (fun r e => ⟨by have := (hr r e).1; omega, (hr r e).2⟩), h.2⟩) ⟨k0, rfl, rfl⟩
    (fun x => { tmps := #[.pointer (some ⟨sb, 0, none⟩), .pointer (some ⟨b, 0, none⟩), .pointer (some ⟨b + 1, 0, none⟩), .int .i64 (x : Int), undef, .pointer (some ⟨sb, 0, none⟩), .func (.func 71) #[.pointer (some ⟨sb, 0, none⟩)] #[], .int .i64 (x : Int), undef, undef, undef, undef, undef, undef, undef, undef, undef, undef, undef, undef, undef, undef, undef, undef, undef, undef, undef, undef, undef, undef], defers := [] }) ?assign ?body ?done ?stop
  case assign =>
    intro l2 x Wc K hK
    gi_wp2
    exact hK
  case body =>
    rintro l2 pre x Wc ⟨hcl, h0c, hsr⟩ ⟨hxm, hux, hxn, hpre, _⟩
    have hF := H.out.2.2.2.2.2.1
    have hwf := wipe_facts from_ pre st
    have hpl : pre.length ≤ 4096 := by rw [hpre]; have := soils_len T u x; omega
    have hsn := wipe_snoc (n := x) h0c
    obtain ⟨st1, hst1⟩ : ∃ s, (runs (wipeSteps from_ pre) st).2 = s := ⟨_, rfl⟩
    rw [hst1] at hcl hwf hsn
    have hmem : x ∈ soils T u many := soils_mem.2 ⟨hxm, hux, hxn⟩
    have C := hcl.drew.act hb hF (Q := fun e => e = .returned (.int .i64 st1.sc)) (fun F' hd _ => write_gen (k := from_ + x) (by rw [hwf.1]; have := HT.out.2.2.2.1; omega) none 0 0 [] (In.none_ _ _) (fun h => absurd h (by decide)) (fun y hy => by cases hy) (by decide)
      (by have := hwf.2; have := HT.out.2.2.2.2.2; omega) hd)
    have a0 := hcl.box.cell
    have hrow := hsr.trans hrow0
    have a1 : Wc.cell? ⟨sb, 0, none⟩ = some (.pointer (some ⟨gd, 0, none⟩)) := by rw [cell_of_row _ sb 0 _ _ (0, 0) hrow]; rfl
    have a2 : Wc.cell? ⟨sb, 1, none⟩ = some (.int .i64 (from_ : Int)) := by rw [cell_of_row _ sb 1 _ _ (0, 0) hrow]; rfl
    obtain ⟨q, hq⟩ : ∃ q, from_ + x = q := ⟨_, rfl⟩
    have hsum : (from_ : Int) + (x : Int) = (q : Int) := by omega
    have hwr : IntKind.i64.wrap (q : Int) = (q : Int) := by rw [IntKind.wrap_i64]; omega
    rw [hq] at C hsn
    have HW := Lib.hid (And.intro hsr (And.intro hmem (And.intro hpre hrow)))
    have hA : st1.sc = 0 → runs (wipeSteps from_ (pre ++ [x])) st = (0, st1.wn q []) := fun hsc => by rw [hsn]; show (st1.sc, _) = _; rw [hsc]
    have hB : st1.sc = 9 → st.wipes from_ (soils T u many) = (9, st1.wn q []) := fun hsc => by
      have hsn2 : runs (wipeSteps from_ (pre ++ [x])) st = (9, st1.wn q []) := by rw [hsn]; show (st1.sc, _) = _; rw [hsc]
      obtain ⟨R, hR⟩ := soils_prefix hmem hpre
      unfold St.wipes wipeSteps
      rw [hR, List.map_append, List.append_assoc, runs_append]
      have h1 : runs ((pre ++ [x]).map (fun n => stepW (from_ + n) [])) st = (9, st1.wn q []) := hsn2
      rw [h1]
      exact if_neg (by decide : ¬ (9 : Int) = 0)
    have hC : st1.sc = 0 ∨ st1.sc = 9 := st1.sc_code
    obtain ⟨z, hz⟩ : ∃ z, st1.sc = z := ⟨_, rfl⟩
    rw [hz] at C hA hB hC
    have HC := Lib.hid C
    have HS := Lib.hid (And.intro hA (And.intro hB hC))
    clear C hsn hA hB hC hz hcl hwf hst1 h0c hsr hxm hux hxn hpre hmem hrow hq hF hpl k0 hrow0 hb0
    gi_wp2
    have hS : Wc.drew.cell? ⟨b, 0, none⟩ = some (.pointer (some ⟨sb, 0, none⟩)) ∧ Wc.drew.cell? ⟨sb, 0, none⟩ = some (.pointer (some ⟨gd, 0, none⟩)) ∧ Wc.drew.cell? ⟨sb, 1, none⟩ = some (.int .i64 (from_ : Int)) := ⟨a0, a1, a2⟩
    refine region_in (S := fun W => W.cell? ⟨b, 0, none⟩ = some (.pointer (some ⟨sb, 0, none⟩)) ∧ W.cell? ⟨sb, 0, none⟩ = some (.pointer (some ⟨gd, 0, none⟩)) ∧ W.cell? ⟨sb, 1, none⟩ = some (.int .i64 (from_ : Int))) hmix (nodefer _ (by kernel_rfl)) ?_
    refine' wpAnyH_take (i := 0) (oi := _) (v := _) ?hi0 (by kernel_rfl) ?hf0 ?hr0 ?hQ0 ?hy0 hS ?rest0
    case hi0 => (simp only [List.getElem?_toArray, List.getElem?_cons_zero]; rfl)
    case hf0 => kernel_rfl
    case hr0 => kernel_rfl
    case hQ0 => exact fun _ _ _ h => h
    case hy0 =>
      refine Or.inl ⟨by rfl, ?_⟩
      intro W hSw
      have s0 := hSw.1
      have s1 := hSw.2.1
      have s2 := hSw.2.2
      go_simp
      try with_reducible rfl
    simp only [Act.put, List.setIfInBounds_toArray, List.set_cons_zero, List.set_cons_succ]
    refine' wpAnyH_take (i := 1) (oi := _) (v := _) ?hi1 (by kernel_rfl) ?hf1 ?hr1 ?hQ1 ?hy1 hS ?rest1
    case hi1 => (simp only [List.getElem?_toArray, List.getElem?_cons_zero, List.getElem?_cons_succ]; rfl)
    case hf1 => kernel_rfl
    case hr1 => kernel_rfl
    case hQ1 => exact fun _ _ _ h => h
    case hy1 =>
      refine Or.inl ⟨by rfl, ?_⟩
      intro W hSw
      have s0 := hSw.1
      have s1 := hSw.2.1
      have s2 := hSw.2.2
      go_simp
      try with_reducible rfl
    simp only [Act.put, List.setIfInBounds_toArray, List.set_cons_zero, List.set_cons_succ]
    refine' wpAnyH_take (i := 2) (oi := _) (v := _) ?hi2 (by kernel_rfl) ?hf2 ?hr2 ?hQ2 ?hy2 hS ?rest2
    case hi2 => (simp only [List.getElem?_toArray, List.getElem?_cons_zero, List.getElem?_cons_succ]; rfl)
    case hf2 => kernel_rfl
    case hr2 => kernel_rfl
    case hQ2 => exact fun _ _ _ h => h
    case hy2 =>
      refine Or.inl ⟨by rfl, ?_⟩
      intro W hSw
      have s0 := hSw.1
      have s1 := hSw.2.1
      have s2 := hSw.2.2
      go_simp
      try with_reducible rfl
    simp only [Act.put, List.setIfInBounds_toArray, List.set_cons_zero, List.set_cons_succ]
    refine' wpAnyH_take (i := 3) (oi := _) (v := _) ?hi3 (by kernel_rfl) ?hf3 ?hr3 ?hQ3 ?hy3 hS ?rest3
    case hi3 => (simp only [List.getElem?_toArray, List.getElem?_cons_zero, List.getElem?_cons_succ]; rfl)
    case hf3 => kernel_rfl
    case hr3 => kernel_rfl
    case hQ3 => exact fun _ _ _ h => h
    case hy3 =>
      refine Or.inl ⟨by rfl, ?_⟩
      intro W hSw
      have s0 := hSw.1
      have s1 := hSw.2.1
      have s2 := hSw.2.2
      go_simp
      try with_reducible rfl
    simp only [Act.put, List.setIfInBounds_toArray, List.set_cons_zero, List.set_cons_succ]
    refine' wpAnyH_take (i := 4) (oi := _) (v := _) ?hi4 (by kernel_rfl) ?hf4 ?hr4 ?hQ4 ?hy4 hS ?rest4
    case hi4 => (simp only [List.getElem?_toArray, List.getElem?_cons_zero, List.getElem?_cons_succ]; rfl)
    case hf4 => kernel_rfl
    case hr4 => kernel_rfl
    case hQ4 => exact fun _ _ _ h => h
    case hy4 =>
      refine Or.inl ⟨by rfl, ?_⟩
      intro W hSw
      have s0 := hSw.1
      have s1 := hSw.2.1
      have s2 := hSw.2.2
      go_simp
      try with_reducible rfl
    simp only [Act.put, List.setIfInBounds_toArray, List.set_cons_zero, List.set_cons_succ]
    refine' wpAnyH_take (i := 5) (oi := _) (v := _) ?hi5 (by kernel_rfl) ?hf5 ?hr5 ?hQ5 ?hy5 hS ?rest5
    case hi5 => (simp only [List.getElem?_toArray, List.getElem?_cons_zero, List.getElem?_cons_succ]; rfl)
    case hf5 => kernel_rfl
    case hr5 => kernel_rfl
    case hQ5 => exact fun _ _ _ h => h
    case hy5 =>
      refine Or.inl ⟨by rfl, ?_⟩
      intro W hSw
      have s0 := hSw.1
      have s1 := hSw.2.1
      have s2 := hSw.2.2
      go_simp
      try with_reducible rfl
    simp only [Act.put, List.setIfInBounds_toArray, List.set_cons_zero, List.set_cons_succ]
    refine' wpAnyH_take (i := 6) (oi := _) (v := _) ?hi6 (by kernel_rfl) ?hf6 ?hr6 ?hQ6 ?hy6 hS ?rest6
    case hi6 => (simp only [List.getElem?_toArray, List.getElem?_cons_zero, List.getElem?_cons_succ]; rfl)
    case hf6 => kernel_rfl
    case hr6 => kernel_rfl
    case hQ6 => exact fun _ _ _ h => h
    case hy6 =>
      refine Or.inl ⟨by rfl, ?_⟩
      intro W hSw
      have s0 := hSw.1
      have s1 := hSw.2.1
      have s2 := hSw.2.2
      go_simp
      try with_reducible rfl
    simp only [Act.put, List.setIfInBounds_toArray, List.set_cons_zero, List.set_cons_succ]
    refine' wpAnyH_take (i := 7) (oi := _) (v := _) ?hi7 (by kernel_rfl) ?hf7 ?hr7 ?hQ7 ?hy7 hS ?rest7
    case hi7 => (simp only [List.getElem?_toArray, List.getElem?_cons_zero, List.getElem?_cons_succ]; rfl)
    case hf7 => kernel_rfl
    case hr7 => kernel_rfl
    case hQ7 => exact fun _ _ _ h => h
    case hy7 =>
      refine Or.inl ⟨by rfl, ?_⟩
      intro W hSw
      have s0 := hSw.1
      have s1 := hSw.2.1
      have s2 := hSw.2.2
      go_simp
      try with_reducible rfl
    simp only [Act.put, List.setIfInBounds_toArray, List.set_cons_zero, List.set_cons_succ]
    refine' wpAnyH_take (i := 8) (oi := _) (v := _) ?hi8 (by kernel_rfl) ?hf8 ?hr8 ?hQ8 ?hy8 hS ?rest8
    case hi8 => (simp only [List.getElem?_toArray, List.getElem?_cons_zero, List.getElem?_cons_succ]; rfl)
    case hf8 => kernel_rfl
    case hr8 => kernel_rfl
    case hQ8 => exact fun _ _ _ h => h
    case hy8 =>
      refine Or.inl ⟨by rfl, ?_⟩
      intro W hSw
      have s0 := hSw.1
      have s1 := hSw.2.1
      have s2 := hSw.2.2
      go_simp
      try with_reducible rfl
    simp only [Act.put, List.setIfInBounds_toArray, List.set_cons_zero, List.set_cons_succ]
    refine' wpAnyH_take (i := 9) (oi := _) (v := _) ?hi9 (by kernel_rfl) ?hf9 ?hr9 ?hQ9 ?hy9 hS ?rest9
    case hi9 => (simp only [List.getElem?_toArray, List.getElem?_cons_zero, List.getElem?_cons_succ]; rfl)
    case hf9 => kernel_rfl
    case hr9 => kernel_rfl
    case hQ9 => exact fun _ _ _ h => h
    case hy9 =>
      refine Or.inl ⟨by rfl, ?_⟩
      intro W hSw
      have s0 := hSw.1
      have s1 := hSw.2.1
      have s2 := hSw.2.2
      go_simp
      try with_reducible rfl
    simp only [Act.put, List.setIfInBounds_toArray, List.set_cons_zero, List.set_cons_succ]
    refine' wpAnyH_take (i := 10) (oi := _) (v := _) ?hi10 (by kernel_rfl) ?hf10 ?hr10 ?hQ10 ?hy10 hS ?rest10
    case hi10 => (simp only [List.getElem?_toArray, List.getElem?_cons_zero, List.getElem?_cons_succ]; rfl)
    case hf10 => kernel_rfl
    case hr10 => kernel_rfl
    case hQ10 => exact fun _ _ _ h => h
    case hy10 =>
      refine Or.inl ⟨by rfl, ?_⟩
      intro W hSw
      have s0 := hSw.1
      have s1 := hSw.2.1
      have s2 := hSw.2.2
      go_simp
      try with_reducible rfl
    simp only [Act.put, List.setIfInBounds_toArray, List.set_cons_zero, List.set_cons_succ]
    refine' wpAnyH_take (i := 11) (oi := _) (v := _) ?hi11 (by kernel_rfl) ?hf11 ?hr11 ?hQ11 ?hy11 hS ?rest11
    case hi11 => (simp only [List.getElem?_toArray, List.getElem?_cons_zero, List.getElem?_cons_succ]; rfl)
    case hf11 => kernel_rfl
    case hr11 => kernel_rfl
    case hQ11 => exact fun _ _ _ h => h
    case hy11 =>
      refine Or.inl ⟨by rfl, ?_⟩
      intro W hSw
      have s0 := hSw.1
      have s1 := hSw.2.1
      have s2 := hSw.2.2
      go_simp
      try with_reducible rfl
    simp only [Act.put, List.setIfInBounds_toArray, List.set_cons_zero, List.set_cons_succ]
    refine wpAnyH_ready (rs := [12]) (by kernel_rfl) (by simp) ?_
    refine' AllReadyH.cons (o := _) ?hi12 (fun K' hK => ?_) AllReadyH.nil
    case hi12 => (simp only [List.getElem?_toArray, List.getElem?_cons_zero, List.getElem?_cons_succ]; rfl)
    rw [if_pos (by rfl)]
    go_simp
    refine HC.out.mono ?_
    rintro e w3 ⟨rfl, hc3, hko, hkt⟩
    have hS3 : w3.cell? ⟨b, 0, none⟩ = some (.pointer (some ⟨sb, 0, none⟩)) ∧ w3.cell? ⟨sb, 0, none⟩ = some (.pointer (some ⟨gd, 0, none⟩)) ∧ w3.cell? ⟨sb, 1, none⟩ = some (.int .i64 (from_ : Int)) := by
      have h3 := hkt _ _ _ _ (.inr (.inr (.inr (.inr (.inr rfl))))) HW.out.2.2.2
      exact ⟨Boxed.cell hc3.box, by rw [cell_of_row _ sb 0 _ _ (0, 0) h3]; rfl, by rw [cell_of_row _ sb 1 _ _ (0, 0) h3]; rfl⟩
    refine hK.out _ _ hS3 (fun _ => ?_)
    clear hK K'
    refine' wpAnyH_take (i := 13) (oi := _) (v := _) ?hi13 (by kernel_rfl) ?hf13 ?hr13 ?hQ13 ?hy13 hS3 ?rest13
    case hi13 => (simp only [List.getElem?_toArray, List.getElem?_cons_zero, List.getElem?_cons_succ]; rfl)
    case hf13 => kernel_rfl
    case hr13 => kernel_rfl
    case hQ13 => exact fun _ _ _ h => h
    case hy13 =>
      refine Or.inl ⟨by rfl, ?_⟩
      intro W hSw
      have s0 := hSw.1
      have s1 := hSw.2.1
      have s2 := hSw.2.2
      go_simp
      try with_reducible rfl
    simp only [Act.put, List.setIfInBounds_toArray, List.set_cons_zero, List.set_cons_succ]
    refine wpAnyH_done (by kernel_rfl) ?_ _
    have hsr3 : w3.heap[sb]? = W0.heap[sb]? := (hkt _ _ _ _ (.inr (.inr (.inr (.inr (.inr rfl))))) HW.out.2.2.2).trans HR0.out.symm
    have cr : w3.cell? ⟨b + 1, 0, none⟩ = some (.int .i64 0) := Boxed.cell hc3.res
    have fr : w3.frozen? ⟨b + 1, 0, none⟩ = false := Boxed.frozen hc3.res
    have H3 := Lib.hid (And.intro hc3 (And.intro hko (And.intro hkt hsr3)))
    clear hc3 hko hkt hsr3
    rcases HS.out.2.2 with rfl | rfl
    · gi_wp2
      refine ⟨(((KeepsOthers.drew Wc).trans H3.out.2.1)).from _, H3.out.2.2.1, ?_, ?_, ?_, H3.out.2.2.2⟩
      · show ∃ F', Disk w3 gd F' (runs (wipeSteps from_ (pre ++ [x])) st).2 ∧ TypIn F' w3
        rw [HS.out.1 (by first | rfl | trivial)]
        obtain ⟨F', hd, hc, _⟩ := H3.out.1.disk
        exact ⟨F', hd, hc⟩
      · rw [HS.out.1 (by first | rfl | trivial)]; exact H3.out.1
      · rw [HS.out.1 (by first | rfl | trivial)]
    · gi_wp2
      refine ⟨((((KeepsOthers.drew Wc).trans H3.out.2.1)).trans (KeepsOthers.setCell _ _ _)).from _, ?_, ?_⟩
      · rw [HS.out.2.1 (by first | rfl | trivial)]; exact H3.out.1.setRes hb H.out.2.2.2.2.2.1 9
      · rw [HS.out.2.1 (by first | rfl | trivial)]
  case done =>
    rintro D ys Wc hD rfl ⟨hcl, h0c, hsr⟩ hK
    have hF := H.out.2.2.2.2.2.1
    have hrow := hsr.trans hrow0
    have a0 := hcl.box.cell
    have a1 : Wc.cell? ⟨sb, 0, none⟩ = some (.pointer (some ⟨gd, 0, none⟩)) := by rw [cell_of_row _ sb 0 _ _ (0, 0) hrow]; rfl
    obtain ⟨st1, hst1⟩ : ∃ s, (runs (wipeSteps from_ (soils T u many)) st).2 = s := ⟨_, rfl⟩
    have hfin : st.wipes from_ (soils T u many) = (st1.sc, st1.sn) := by
      unfold St.wipes
      rw [runs_append, if_pos h0c, hst1]
      show runs [stepS] st1 = _
      rw [runs]
      split
      · rename_i h1; exact Prod.ext h1.symm rfl
      · rfl
    rw [hst1] at hcl
    have C := hcl.act hb hF (Q := fun e => e = .returned (.int .i64 st1.sc)) (fun F' hd _ => sync_gen hd)
    have HC := Lib.hid C
    have HS := Lib.hid (And.intro hfin hF)
    clear C hfin hcl hst1 hrow hsr h0c hF
    gi_wp2_with (first
      | (refine ⟨trivial, ?_⟩; gi_at_call 80; refine (callsIn_wide.2 HC.out).mono ?_; rintro e w3 ⟨rfl, hc3, hko, hkt⟩; have cr : w3.cell? ⟨b + 1, 0, none⟩ = some (.int .i64 0) := Boxed.cell hc3.res; have fr : w3.frozen? ⟨b + 1, 0, none⟩ = false := Boxed.frozen hc3.res))
    have hK3 := (hko.trans (KeepsOthers.setCell w3 ⟨b + 1, 0, none⟩ (.int .i64 st1.sc))).same D _ hK rfl
    have hc4 := hc3.setRes hb HS.out.2 st1.sc
    have hc5 := hc4.step hb (grownBy_putObj' _ D (.deferred none)) (fun r e => by cases e; exact ⟨by omega, _, hK3, rfl⟩)
    have c5 : ((w3.setCell ⟨b + 1, 0, none⟩ (.int .i64 st1.sc)).putObj D (.deferred none)).cell? ⟨b + 1, 0, none⟩ = some (.int .i64 st1.sc) := Boxed.cell hc5.res
    refine ⟨by simp, .inl ⟨_, _, rfl, run_takeDeferred hK3, ?_⟩⟩
    refine ⟨.int .i64 st1.sc, by simp [results, go_sem, c5], by rw [HS.out.1], ?_⟩
    rw [HS.out.1]
    exact went_acted H.out.1 H.out.2.2.2.2.1 (hc5.acted hb) (by have h1 := wipes_sure st from_ (soils T u many); rw [HS.out.1] at h1; show from_ + many ≤ st1.sn.sure.length; rw [h1]; exact HT.out.2.2.2.1)
  case stop =>
    rintro D pre Wc hD _ ⟨ho, h9⟩ hK
    have ho4 := ho.step hb (grownBy_putObj' _ D (.deferred none)) (fun r e => by cases e; exact ⟨by omega, _, hK, rfl⟩)
    have c5 : (Wc.putObj D (.deferred none)).cell? ⟨b + 1, 0, none⟩ = some (.int .i64 9) := Boxed.cell ho4.res
    have HF := Lib.hid (And.intro (ho4.acted hb) h9)
    clear ho ho4
    gi_wp2
    refine ⟨by simp, .inl ⟨_, _, rfl, run_takeDeferred hK, ?_⟩⟩
    refine ⟨.int .i64 9, by simp [results, go_sem, c5], by rw [HF.out.2], ?_⟩
    exact went_acted H.out.1 H.out.2.2.2.2.1 HF.out.1 (by rw [wipes_sure]; exact HT.out.2.2.2.1)

end Go.Proofs.YthbgcijkpincfaaGreatDoor

/-
  Open.
-/
namespace Go.Proofs.YthbgcijkpincfaaGreatDoor
open Go.RowKit Go.Shelf

attribute [local go_sem] Oper.semAt_some

set_option maxRecDepth 100000 in
set_option maxHeartbeats 1000000 in
theorem open_arg_in {w : World} {gd : Nat} {F : Nat → Prop} {st : St} {f m : Int} (h : Disk w gd F st) (h1 : 0 ≤ f) (h2 : 1 ≤ m) (h3 : (st.sure.length : Int) - f < m) (h4 : f ≤ 100000) :
    CallsIn Fence.wide 5 Tryz.prog 9 #[.pointer (some ⟨gd, 0, none⟩), .int .i64 f, .int .i64 m] w fun e w' => e = .returned (.tuple #[.pointer none, .int .i64 1]) ∧ Below w.heap.size w w' := by
  obtain ⟨N, hN⟩ : ∃ N, st.sure.length = N := ⟨_, rfl⟩
  have hle := h.1.le
  have hpos := h.1.pos
  have b2 : ∀ o1 o2, Below w.heap.size w ((w.alloc o1).alloc o2) := fun o1 o2 => ((Below.refl _ w).alloc (Nat.le_refl _) _).alloc (by simp) _
  have C := fun o1 o2 => len_any (h.below (b2 o1 o2))
  rw [hN] at C h3 hle hpos
  have g1 : ¬ (N : Int) < 1 := by omega
  have g2 : ¬ f < 0 := by omega
  have g3 : ¬ m < 1 := by omega
  have HC := Lib.hid C
  clear C h hN b2
  refine callsIn_of_wp_marks Tryz.func9 rfl trivial ?_ rfl
  simp only [Tryz.ntmps9, List.size_toArray, List.length_cons, List.length_nil, Nat.reduceAdd, Nat.reduceSub, Array.replicate_succ, Array.replicate_zero, List.push_toArray, List.append_toArray, List.nil_append, List.cons_append]
  gi_wp2_with (first
    | (refine ⟨trivial, ?_⟩; gi_at_call 69; refine (callsIn_wide.2 (HC.out _ _)).mono ?_; rintro e w1 ⟨rfl, rfl⟩))
  refine ⟨_, by simp [results, go_sem], rfl, ?_⟩
  exact ((Below.refl _ w).alloc (Nat.le_refl _) _).alloc (by simp) _

theorem soiled_more {α : Type} {n n' : Nat} {P : Program} {gf : Nat} {bd lb : Array Value} {encs : α → Array Value} {Ty : TypeId → Prop} {R : List α → α → World → Prop} {G S Sp : List α → World → Prop} {w : World} (_ : 1 ≤ n') (h : SeqR Fence.wide n P gf bd lb encs Ty R G S Sp w) :
    SeqR Fence.wide n' P gf bd lb encs Ty R G S Sp w := fun l J Jx hJ hJx hY h0 => by
  refine callsIn_wide.2 ((callsIn_wide (n := n)).1 (h l J Jx hJ hJx (fun pre x W hj hr => ?_) h0))
  obtain ⟨fn, tmps, assign, body, hy, hR⟩ := hY pre x W hj hr
  exact ⟨fn, tmps, assign, body, hy, hR.1, fun c cs _ => hR.2 c cs (fun d e => by cases e)⟩

/-- What Open finds, and does. -/
def St.tooFar (st : St) (from_ many : Nat) : Prop := ∃ n ∈ soils (regionL st.read from_ many) (usedL (found (regionL st.read from_ many))) many, usedL (found (regionL st.read from_ many)) + 5 ≤ n
def St.opens (st : St) (from_ many : Nat) : Int × St := st.wipes from_ (soils (regionL st.read from_ many) (usedL (found (regionL st.read from_ many))) many)
def St.foundIn (st : St) (from_ many : Nat) : List (List Nat) := found (regionL st.read from_ many)

/-- What Open leaves. -/
def Opened (w : World) (gd from_ many : Nat) (F : Nat → Prop) (st : St) (e : Ending) (w' : World) : Prop :=
  (st.tooFar from_ many ∧ e = .returned (.tuple #[.pointer none, .int .i64 4]) ∧ Acted w gd F st w') ∨
  (¬ st.tooFar from_ many ∧ (st.opens from_ many).1 ≠ 0 ∧ e = .returned (.tuple #[.pointer none, .int .i64 (st.opens from_ many).1]) ∧ Acted w gd F (st.opens from_ many).2 w') ∨
  (¬ st.tooFar from_ many ∧ (st.opens from_ many).1 = 0 ∧ ∃ sb F' G', e = .returned (.tuple #[.pointer (some ⟨sb, 0, none⟩), .int .i64 0]) ∧ Held_ w' gd sb from_ many ⟨(st.opens from_ many).2, st.foundIn from_ many, false⟩ F' G' ∧ But F w w' ∧ (∀ x, F' x → F x ∨ w.heap.size ≤ x) ∧ ∀ x, G' x → w.heap.size ≤ x)

set_option maxRecDepth 100000 in
set_option maxHeartbeats 2000000 in
theorem open_go {w : World} {gd from_ many : Nat} {F : Nat → Prop} {st : St} (E : Errs) (hE : ∀ W, But F w W → Laid W E) (h : Disk w gd F st) (h1 : 1 ≤ many) (hfit : from_ + many ≤ st.sure.length) (hw : st.waits.length ≤ 800000) :
    CallsIn Fence.wide 5 Tryz.prog 9 #[.pointer (some ⟨gd, 0, none⟩), .int .i64 (from_ : Int), .int .i64 (many : Int)] w (Opened w gd from_ many F st) := by
  have hle := h.1.le
  have hF := h.2.2
  obtain ⟨N, hN⟩ : ∃ N, st.sure.length = N := ⟨_, rfl⟩
  have b2 : ∀ o1 o2, Below w.heap.size w ((w.alloc o1).alloc o2) := fun o1 o2 => ((Below.refl _ w).alloc (Nat.le_refl _) _).alloc (by simp) _
  have C := fun o1 o2 => len_any (h.below (b2 o1 o2))
  rw [hN] at C hfit hle
  have g1 : ¬ (N : Int) < 1 := by omega
  have g2 : ¬ (from_ : Int) < 0 := by omega
  have g2' : decide ((from_ : Int) < 0) = false := by simp
  have g3 : ¬ (many : Int) < 1 := by omega
  have g4 : ¬ (N : Int) - (from_ : Int) < (many : Int) := by omega
  have HC := Lib.hid C
  have H := Lib.hid (And.intro h (And.intro hE (And.intro hw (And.intro hN (And.intro hF (And.intro h1 hfit))))))
  clear C h hE hw hN hF b2 h1
  refine callsIn_of_wp_marks Tryz.func9 rfl trivial ?_ rfl
  simp only [Tryz.ntmps9, List.size_toArray, List.length_cons, List.length_nil, Nat.reduceAdd, Nat.reduceSub, Array.replicate_succ, Array.replicate_zero, List.push_toArray, List.append_toArray, List.nil_append, List.cons_append]
  gi_wp2_with (first
    | (refine ⟨trivial, ?_⟩; gi_at_call 69; refine (callsIn_wide.2 (HC.out _ _)).mono ?_; rintro e w1 ⟨rfl, rfl⟩))
  obtain ⟨r0, hr0⟩ : ∃ r0, w.heap.size = r0 := ⟨_, rfl⟩
  obtain ⟨W0, hW0⟩ : ∃ W0, ((((w.alloc (.cells #[.pointer none] 33)).alloc (.cells #[.int .i64 0] 27)).alloc (.cells #[.pointer (some ⟨gd, 0, none⟩), .int .i64 (from_ : Int), .int .i64 (many : Int), .slice none 0 0, .int .i64 0, .bool false] 121)).alloc (.cells #[.pointer (some ⟨w.heap.size + 1 + 1, 0, none⟩)] 33)) = W0 := ⟨_, rfl⟩
  have z0 : W0.heap.size = r0 + 4 := by rw [← hW0, ← hr0]; simp
  have b0 : Below w.heap.size w W0 := by rw [← hW0]; exact ((((Below.refl _ w).alloc (Nat.le_refl _) _).alloc (by simp) _).alloc (by simp <;> omega) _).alloc (by simp <;> omega) _
  have x0 : Boxed W0 r0 33 (.pointer none) := by
    unfold Boxed; rw [← hW0, ← hr0, alloc_at _ _ _ (by simp <;> omega), alloc_at _ _ _ (by simp <;> omega), alloc_at _ _ _ (by simp), heap_alloc_new]
  have n1 := heap_alloc_new (w.alloc (.cells #[.pointer none] 33)) (.cells #[.int .i64 0] 27)
  have n2 := heap_alloc_new ((w.alloc (.cells #[.pointer none] 33)).alloc (.cells #[.int .i64 0] 27)) (.cells #[.pointer (some ⟨gd, 0, none⟩), .int .i64 (from_ : Int), .int .i64 (many : Int), .slice none 0 0, .int .i64 0, .bool false] 121)
  have n3 := heap_alloc_new (((w.alloc (.cells #[.pointer none] 33)).alloc (.cells #[.int .i64 0] 27)).alloc (.cells #[.pointer (some ⟨gd, 0, none⟩), .int .i64 (from_ : Int), .int .i64 (many : Int), .slice none 0 0, .int .i64 0, .bool false] 121)) (.cells #[.pointer (some ⟨w.heap.size + 1 + 1, 0, none⟩)] 33)
  simp only [World.size_alloc, Nat.add_assoc, Nat.reduceAdd] at n1 n2 n3
  have x1 : Boxed W0 (r0 + 1) 27 (.int .i64 0) := by
    unfold Boxed; rw [← hW0, ← hr0, alloc_at _ _ _ (by simp <;> omega), alloc_at _ _ _ (by simp), n1]
  have x2 : W0.heap[r0 + 2]? = some (.cells #[.pointer (some ⟨gd, 0, none⟩), .int .i64 (from_ : Int), .int .i64 (many : Int), .slice none 0 0, .int .i64 0, .bool false] 121 (0, 0)) := by
    rw [← hW0, ← hr0, alloc_at _ _ _ (by simp), n2]
  have x3 : Boxed W0 (r0 + 3) 33 (.pointer (some ⟨r0 + 2, 0, none⟩)) := by
    unfold Boxed; rw [← hW0, ← hr0]; exact n3
  have hsto : StoAt W0 (r0 + 2) gd from_ many (.slice none 0 0) [] (fun x => x = r0 + 2) [] false := ⟨x2, ⟨rfl, .inl ⟨rfl, rfl⟩⟩, rfl, (fun i u b hu _ => by simp at hu), rfl, (fun x hx => by cases hx), (fun b hb => by cases hb), Nat.zero_le _⟩
  have hheld : Held_ W0 gd (r0 + 2) from_ many ⟨st, [], false⟩ F (fun x => x = r0 + 2) := ⟨H.out.1.below b0, ⟨⟨_, _, hsto⟩, fun x hx => by omega⟩, fun x hx e => by have := H.out.2.2.2.2.1 x hx; omega, by rw [H.out.2.2.2.1]; exact H.out.2.2.2.2.2.2⟩
  have CF := find_in E (fun W hb => H.out.2.1 W ((But.of_below b0 : But F w W0).next hb (fun x hx e => e.elim id (fun k => by omega)))) hheld
  have HX := Lib.hid (And.intro x0 (And.intro x1 (And.intro x3 (And.intro b0 (And.intro z0 hr0)))))
  have HCF := Lib.hid CF
  rw [hW0, hr0]
  clear hW0 x0 x1 x2 x3 n1 n2 n3 hsto hheld CF b0 HC
  refine ⟨trivial, ?_⟩
  refine (callsIn_wide.2 ((callsIn_wide (n := 3)).1 HCF.out)).mono ?_
  rintro e w3 ⟨rfl, F', G', hh3, hb3, hf3, hg3⟩
  clear HCF
  have hF := H.out.2.2.2.2.1
  have keep3 : ∀ x, r0 ≤ x → x < r0 + 4 → x ≠ r0 + 2 → w3.heap[x]? = W0.heap[x]? := fun x h1 h2 h3 => hb3.block x (by omega) (fun e => e.elim (fun k => by have := hF x k; omega) (fun k => h3 k))
  have y0 : Boxed w3 r0 33 (.pointer none) := (keep3 _ (by omega) (by omega) (by omega)).trans HX.out.1
  have y1 : Boxed w3 (r0 + 1) 27 (.int .i64 0) := (keep3 _ (by omega) (by omega) (by omega)).trans HX.out.2.1
  have y3 : Boxed w3 (r0 + 3) 33 (.pointer (some ⟨r0 + 2, 0, none⟩)) := (keep3 _ (by omega) (by omega) (by omega)).trans HX.out.2.2.1
  have hF'0 : ∀ x, F' x → x < w3.heap.size ∧ (F x ∨ r0 + 4 ≤ x) := fun x hx => ⟨hh3.d.2.2 x hx, (hf3 x hx).imp id (fun e => by omega)⟩
  have hG'0 : ∀ x, G' x → x < w3.heap.size ∧ (x = r0 + 2 ∨ r0 + 4 ≤ x) := fun x hx => ⟨hh3.s.2 x hx, (hg3 x hx).imp id (fun e => by omega)⟩
  have hbw : But F w w3 := (But.of_below HX.out.2.2.2.1 : But F w W0).next hb3 (fun x hx e => e.elim id (fun k => by omega))
  obtain ⟨T, hT⟩ : ∃ T, regionL st.read from_ many = T := ⟨_, rfl⟩
  rw [hT] at hh3
  obtain ⟨u, hu⟩ : ∃ u, usedL (found T) = u := ⟨_, rfl⟩
  have a3 : w3.cell? ⟨r0 + 1 + 1 + 1, 0, none⟩ = some (.pointer (some ⟨r0 + 2, 0, none⟩)) := Boxed.cell y3
  have z3 : r0 + 4 ≤ w3.heap.size := by have := hb3.size; omega
  have H3 := Lib.hid (And.intro hh3 (And.intro y0 (And.intro y1 (And.intro y3 (And.intro hF'0 (And.intro hG'0 (And.intro hbw (And.intro hT (And.intro hu z3)))))))))
  clear hh3 y0 y1 y3 hF'0 hG'0 hbw hT hu keep3 hb3 hf3 hg3 z3 hF
  gi_wp2
  have hle3 := H3.out.1.d.1.le
  have hfit3 := H3.out.1.fits
  have hTl : T.length = many := by rw [← H3.out.2.2.2.2.2.2.2.1]; exact regionL_length (by rw [St.read_length]; exact hfit3)
  have hTg : ∀ k xs, T[k]? = some xs → st.read[from_ + k]? = some xs := fun k xs hx => by
    have hk := (List.getElem?_eq_some_iff.1 hx).1
    rw [← H3.out.2.2.2.2.2.2.2.1, regionL_get (by omega)] at hx
    exact hx
  have hTs : ∀ x ∈ T, Sec x := fun x hx => by
    obtain ⟨k, hk⟩ := List.mem_iff_getElem?.1 hx
    exact H3.out.1.d.1.read x (List.mem_of_getElem? (hTg k x hk))
  obtain ⟨F0, hd0, hc0, hf0⟩ := H3.out.1.d.tightT
  obtain ⟨⟨v3, vals3, hh4⟩, hGs⟩ := H3.out.1.s
  have hrow := hh4.head
  have hus : usedL (found T) = u := H3.out.2.2.2.2.2.2.2.2.1
  rw [hus] at hrow
  have hm4 : from_ + many ≤ 4096 := by omega
  have HT := Lib.hid (And.intro hTl (And.intro hTg (And.intro hTs (And.intro hd0 (And.intro hc0 (And.intro hrow hus))))))
  have hul : u ≤ many := by have := hh4.fits; rw [← hus]; exact this
  clear hTl hTg hTs hd0 hc0 hh4 hGs hrow hus hle3 hfit3 hf0
  have oG : OwnFrom w3.heap.size (fun (_ : List Nat) W => Disk W gd F0 st ∧ TypIn F0 W) := fun _ _ _ _ h hg hr => ⟨(h.1.step h.2.cells hg (fun r e => (hr r e).2)).1, h.2.step hg (fun r e => (hr r e).2)⟩
  refine wpIn_range_R rfl (by decide) (gf := 71) (bd := #[.pointer (some ⟨r0 + 2, 0, none⟩)]) (lb := #[]) rfl trivial (enters_of Tryz.func71 (by kernel_rfl) rfl)
    (encs := fun x : Nat => #[.int .i64 (x : Int)]) (Ty := Mine_)
    (fun W1 hb1 => soiled_more (by decide) (soiled_seq (u := u) T HT.out.1 HT.out.2.2.1 hm4 Mine_ (fun _ h => h) (fun _ W => Disk W gd F0 st ∧ TypIn F0 W) W1
      (fun k W2 xs hx hg => ⟨F0, _, hg.1, HT.out.2.1 k xs hx⟩)
      (fun _ _ _ _ h hg hr => ⟨(h.1.step h.2.cells hg (fun r e => (hr r e).2)).1, h.2.step hg (fun r e => (hr r e).2)⟩)
      (own_below oG (s := []) ⟨HT.out.2.2.2.1, HT.out.2.2.2.2.1⟩ hb1)
      ((hb1.block (r0 + 2) (by have := H3.out.2.2.2.2.2.2.2.2.2; omega)).trans HT.out.2.2.2.2.2.1))) (fun _ => rfl)
    (fun pre x _ _ _ _ h hg hr => ⟨h.1, h.2.1, h.2.2.1, h.2.2.2.1, ⟨(h.2.2.2.2.1.step h.2.2.2.2.2.cells hg (fun r e => (hr r e).2)).1, h.2.2.2.2.2.step hg (fun r e => (hr r e).2)⟩⟩)
    oG (fun _ _ _ _ h _ _ => h) (fun _ _ _ _ h _ _ => h)
    (fun pre W => Below w3.heap.size w3 W ∧ ∀ n ∈ pre, ¬ u + 5 ≤ n)
    (fun _ W => But (fun x => x = r0 ∨ x = r0 + 1) w3 W ∧ Boxed W r0 33 (.pointer none) ∧ Boxed W (r0 + 1) 27 (.int .i64 4) ∧ ∃ n ∈ soils T u many, u + 5 ≤ n)
    (fun _ _ _ _ h hg hr => ⟨h.1.grown hg h.1.size (fun k e => (hr k e).1), h.2⟩)
    (fun _ _ _ _ h hg hr => ⟨h.1.step hg (fun r e => (hr r e).1), Boxed.step h.2.1 hg (fun r e => (hr r e).2), Boxed.step h.2.2.1 hg (fun r e => (hr r e).2), h.2.2.2⟩) ⟨Below.refl _ _, fun n hn => by cases hn⟩
    (fun x => { tmps := #[.pointer (some ⟨gd, 0, none⟩), .int .i64 (from_ : Int), .int .i64 (many : Int), undef, undef, undef, .pointer (some ⟨r0, 0, none⟩), .pointer (some ⟨r0 + 1, 0, none⟩), .pointer (some ⟨r0 + 1 + 1 + 1, 0, none⟩), .int .i64 (x : Int), undef, .bool (decide ((N : Int) < 1)), .pointer (some ⟨gd, 0, none⟩), .int .i64 (N : Int), .bool (decide ((N : Int) < 1)), .bool (decide ((many : Int) < 1) || decide ((N : Int) - (from_ : Int) < (many : Int))), .int .i64 (from_ : Int), .bool false, .bool false, .int .i64 (many : Int), .bool (decide ((many : Int) < 1)), .bool (decide ((many : Int) < 1)), .bool (decide ((many : Int) < 1)), .int .i64 (many : Int), .pointer (some ⟨gd, 0, none⟩), .int .i64 (N : Int), .int .i64 (from_ : Int), .int .i64 ((N : Int) - (from_ : Int)), .bool (decide ((N : Int) - (from_ : Int) < (many : Int))), .bool (decide ((many : Int) < 1) || decide ((N : Int) - (from_ : Int) < (many : Int))), .pointer (some ⟨gd, 0, none⟩), .int .i64 (from_ : Int), .int .i64 (many : Int), .agg #[.pointer (some ⟨gd, 0, none⟩), .int .i64 (from_ : Int), .int .i64 (many : Int)], .agg #[.pointer (some ⟨gd, 0, none⟩), .int .i64 (from_ : Int), .int .i64 (many : Int), .slice none 0 0, .int .i64 0, .bool false], .pointer (some ⟨r0 + 1 + 1, 0, none⟩), .pointer (some ⟨r0 + 1 + 1, 0, none⟩), .tuple #[], .pointer (some ⟨r0 + 2, 0, none⟩), .func (.func 71) #[.pointer (some ⟨r0 + 2, 0, none⟩)] #[], .int .i64 (x : Int), undef, undef, undef, undef, undef, undef, undef, undef, undef, undef, undef, undef, undef], defers := [] }) ?assign ?body ?done ?stop
  case assign =>
    intro l2 x W K hK
    gi_wp2
    exact hK
  case body =>
    rintro l2 pre x W ⟨hbel, hpre5⟩ ⟨hxm, hux, hxn, hpre, hgd⟩
    have hz3 := H3.out.2.2.2.2.2.2.2.2.2
    have kp : ∀ y, y < r0 + 4 → W.heap[y]? = w3.heap[y]? := fun y hy => hbel.block y (by omega)
    have b0 : Boxed W r0 33 (.pointer none) := (kp _ (by omega)).trans H3.out.2.1
    have b1 : Boxed W (r0 + 1) 27 (.int .i64 0) := (kp _ (by omega)).trans H3.out.2.2.1
    have b3 : Boxed W (r0 + 3) 33 (.pointer (some ⟨r0 + 2, 0, none⟩)) := (kp _ (by omega)).trans H3.out.2.2.2.1
    have d0 := b0.cell
    have f0 := b0.frozen
    have d1 := b1.cell
    have f1 := b1.frozen
    have d3 : W.cell? ⟨r0 + 1 + 1 + 1, 0, none⟩ = some (.pointer (some ⟨r0 + 2, 0, none⟩)) := b3.cell
    have d4 : W.cell? ⟨r0 + 2, 4, none⟩ = some (.int .i64 (u : Int)) := by rw [cell_of_row _ (r0 + 2) 4 _ _ (0, 0) ((kp _ (by omega)).trans HT.out.2.2.2.2.2.1)]; rfl
    have hmem : x ∈ soils T u many := soils_mem.2 ⟨hxm, hux, hxn⟩
    have HB := Lib.hid (And.intro hbel (And.intro hpre5 (And.intro hgd (And.intro hmem (And.intro b0 b1)))))
    clear hbel hpre5 hgd hmem b0 b1 b3 kp hxn hpre oG
    by_cases h5 : u + 5 ≤ x
    · have hki : (u : Int) + 5 ≤ (x : Int) := by omega
      gi_wp2
      have k1 := (KeepsOthers.setCell W ⟨r0, 0, none⟩ (.pointer none)).trans (KeepsOthers.setCell (W.setCell ⟨r0, 0, none⟩ (.pointer none)) ⟨r0 + 1, 0, none⟩ (.int .i64 4))
      have e0 : Boxed ((W.setCell ⟨r0, 0, none⟩ (.pointer none)).setCell ⟨r0 + 1, 0, none⟩ (.int .i64 4)) r0 33 (.pointer none) := (Below.heap_setCell _ _ _ _ (by show r0 ≠ r0 + 1; omega)).trans (Boxed.set _ HB.out.2.2.2.2.1)
      have e1 : Boxed ((W.setCell ⟨r0, 0, none⟩ (.pointer none)).setCell ⟨r0 + 1, 0, none⟩ (.int .i64 4)) (r0 + 1) 27 (.int .i64 4) := Boxed.set _ ((Below.heap_setCell _ _ _ _ (by show r0 + 1 ≠ r0; omega)).trans HB.out.2.2.2.2.2)
      exact ⟨k1.from _, ((But.of_below HB.out.1).set 0 _ (fun _ => .inl rfl)).set 0 _ (fun _ => .inr rfl), e0, e1, x, HB.out.2.2.2.1, h5⟩
    · have hki : ¬ (u : Int) + 5 ≤ (x : Int) := by omega
      gi_wp2
      exact ⟨KeepsFrom.refl _ _, KeepT.refl _ _, HB.out.2.2.1, HB.out.1, fun n hn => by
        rcases List.mem_append.1 hn with e | e
        · have := HB.out.2.1 n e; omega
        · rw [List.mem_singleton.1 e]; omega⟩
  case done =>
    rintro D ys W hD rfl ⟨hbel, h5⟩ hK
    have hz3 := H3.out.2.2.2.2.2.2.2.2.2
    have hh := H3.out.1.below hbel
    have CC := clean_in (m := ⟨st, found T, false⟩) T hh H3.out.2.2.2.2.2.2.2.1 H.out.2.2.1
    have hus := HT.out.2.2.2.2.2.2
    rw [hus] at CC
    obtain ⟨⟨z, st2⟩, hz2⟩ : ∃ r, st.wipes from_ (soils T u many) = r := ⟨_, rfl⟩
    rw [hz2] at CC
    have kp : ∀ y, y < r0 + 4 → W.heap[y]? = w3.heap[y]? := fun y hy => hbel.block y (by omega)
    have b0 : Boxed W r0 33 (.pointer none) := (kp _ (by omega)).trans H3.out.2.1
    have b1 : Boxed W (r0 + 1) 27 (.int .i64 0) := (kp _ (by omega)).trans H3.out.2.2.1
    have b3 : Boxed W (r0 + 3) 33 (.pointer (some ⟨r0 + 2, 0, none⟩)) := (kp _ (by omega)).trans H3.out.2.2.2.1
    have d3 : W.cell? ⟨r0 + 1 + 1 + 1, 0, none⟩ = some (.pointer (some ⟨r0 + 2, 0, none⟩)) := b3.cell
    have hnot : ¬ st.tooFar from_ many := by
      unfold St.tooFar
      rw [H3.out.2.2.2.2.2.2.2.1, hus]
      exact fun ⟨n, h1, h2⟩ => h5 n h1 h2
    have hop : st.opens from_ many = (z, st2) := by
      unfold St.opens
      rw [H3.out.2.2.2.2.2.2.2.1, hus]
      exact hz2
    have hfo : st.foundIn from_ many = found T := by unfold St.foundIn; rw [H3.out.2.2.2.2.2.2.2.1]
    have HD := Lib.hid (And.intro hbel (And.intro hK (And.intro hD (And.intro b0 (And.intro b1 (And.intro b3 (And.intro hnot (And.intro hop hfo))))))))
    have HCC := Lib.hid CC
    clear hbel hK hD b0 b1 b3 hnot hop hfo hh CC h5 hus hz2 kp oG
    have hall : ∀ w5, Went W gd (r0 + 2) from_ many F' G' ⟨st2, found T, false⟩ w5 → (w5.cell? ⟨r0, 0, none⟩ = some (.pointer none) ∧ w5.frozen? ⟨r0, 0, none⟩ = false ∧ w5.cell? ⟨r0 + 1, 0, none⟩ = some (.int .i64 0) ∧ w5.frozen? ⟨r0 + 1, 0, none⟩ = false ∧ w5.cell? ⟨r0 + 1 + 1 + 1, 0, none⟩ = some (.pointer (some ⟨r0 + 2, 0, none⟩))) ∧
        ∃ F2 G2, (∀ (v6 : Value) (v7 : Value), ∃ W6, W6 = ((w5.setCell ⟨r0, 0, none⟩ v6).setCell ⟨r0 + 1, 0, none⟩ v7).putObj D (.deferred none) ∧ ((w5.setCell ⟨r0, 0, none⟩ v6).setCell ⟨r0 + 1, 0, none⟩ v7).heap[D]? = some (.deferred (some [])) ∧
          W6.cell? ⟨r0, 0, none⟩ = some v6 ∧ W6.cell? ⟨r0 + 1, 0, none⟩ = some v7 ∧ Held_ W6 gd (r0 + 2) from_ many ⟨st2, found T, false⟩ F2 G2 ∧ But F w W6) ∧ (∀ x, F2 x → F x ∨ w.heap.size ≤ x) ∧ ∀ x, G2 x → w.heap.size ≤ x := fun w5 hw5 => by
      obtain ⟨F2, G2, hh5, hb5, hf5, hg5⟩ := hw5
      have hF := H.out.2.2.2.2.1
      have hF' := H3.out.2.2.2.2.1
      have hG' := H3.out.2.2.2.2.2.1
      have hWs := HD.out.1.size
      have hnS : ∀ y, y < W.heap.size → y ≠ r0 + 2 → (y < r0 + 4 ∧ r0 ≤ y ∨ w3.heap.size ≤ y) → ¬ (F' y ∨ G' y) := fun y hy h2 h3 e => by
        rcases e with e | e
        · have h4 := hF' y e
          rcases h4.2 with k | k
          · have := hF y k; omega
          · omega
        · have h4 := hG' y e
          omega
      have hDl := (Array.getElem?_eq_some_iff.1 HD.out.2.1).1
      have kp5 : ∀ y, y < W.heap.size → y ≠ r0 + 2 → (y < r0 + 4 ∧ r0 ≤ y ∨ w3.heap.size ≤ y) → w5.heap[y]? = W.heap[y]? := fun y hy h2 h3 => hb5.block y hy (hnS y hy h2 h3)
      have hDr := HD.out.2.2.1
      have b0 : Boxed w5 r0 33 (.pointer none) := (kp5 _ (by omega) (by omega) (by omega)).trans HD.out.2.2.2.1
      have b1 : Boxed w5 (r0 + 1) 27 (.int .i64 0) := (kp5 _ (by omega) (by omega) (by omega)).trans HD.out.2.2.2.2.1
      have b3 : Boxed w5 (r0 + 3) 33 (.pointer (some ⟨r0 + 2, 0, none⟩)) := (kp5 _ (by omega) (by omega) (by omega)).trans HD.out.2.2.2.2.2.1
      have hK5 : w5.heap[D]? = some (.deferred (some [])) := (kp5 _ hDl (by omega) (by omega)).trans HD.out.2.1
      have hn2 : ∀ y, (F2 y ∨ G2 y) → y ≠ r0 ∧ y ≠ r0 + 1 ∧ y ≠ D := fun y hy => by
        have h4 : (F' y ∨ G' y) ∨ W.heap.size ≤ y := by
          rcases hy with e | e
          · exact (hf5 y e).imp .inl id
          · exact (hg5 y e).imp .inr id
        rcases h4 with k | k
        · exact ⟨fun e => hnS y (by omega) (by omega) (by omega) k, fun e => hnS y (by omega) (by omega) (by omega) k, fun e => hnS y (by omega) (by omega) (by omega) k⟩
        · exact ⟨by omega, by omega, by omega⟩
      have hend : ∀ (v6 : Value) (v7 : Value), ∃ W6, W6 = ((w5.setCell ⟨r0, 0, none⟩ v6).setCell ⟨r0 + 1, 0, none⟩ v7).putObj D (.deferred none) ∧ ((w5.setCell ⟨r0, 0, none⟩ v6).setCell ⟨r0 + 1, 0, none⟩ v7).heap[D]? = some (.deferred (some [])) ∧
          W6.cell? ⟨r0, 0, none⟩ = some v6 ∧ W6.cell? ⟨r0 + 1, 0, none⟩ = some v7 ∧ Held_ W6 gd (r0 + 2) from_ many ⟨st2, found T, false⟩ F2 G2 ∧ But F w W6 := fun v6 v7 => by
        have bt : But (fun x => x = r0 ∨ x = r0 + 1 ∨ x = D) w5 (((w5.setCell ⟨r0, 0, none⟩ v6).setCell ⟨r0 + 1, 0, none⟩ v7).putObj D (.deferred none)) :=
          ((((But.refl _ w5).set 0 v6 (fun _ => .inl rfl)).set 0 v7 (fun _ => .inr (.inl rfl)))).next (T := fun x => x = D) ⟨rfl, rfl, rfl, by simp, fun b hb hn => World.putObj_heap_other hn⟩ (fun x _ e => .inr (.inr e))
        have e0 : Boxed (((w5.setCell ⟨r0, 0, none⟩ v6).setCell ⟨r0 + 1, 0, none⟩ v7).putObj D (.deferred none)) r0 33 v6 := (World.putObj_heap_other (by omega)).trans ((Below.heap_setCell _ _ _ _ (by show r0 ≠ r0 + 1; omega)).trans (Boxed.set _ b0))
        have e1 : Boxed (((w5.setCell ⟨r0, 0, none⟩ v6).setCell ⟨r0 + 1, 0, none⟩ v7).putObj D (.deferred none)) (r0 + 1) 27 v7 := (World.putObj_heap_other (by omega)).trans (Boxed.set _ ((Below.heap_setCell _ _ _ _ (by show r0 + 1 ≠ r0; omega)).trans b1))
        have hbw := (((H3.out.2.2.2.2.2.2.1.trans (But.of_below HD.out.1)).next hb5 (fun x hx e => by
          rcases e with e | e
          · exact (hF' x e).2.elim id (fun k => by omega)
          · have := (hG' x e).2; omega))).next bt (fun x hx e => by omega)
        refine ⟨_, rfl, ?_, e0.cell, e1.cell, ⟨hh5.d.but bt (fun x hx e => ?_), hh5.s.but bt (fun x hx e => ?_), hh5.ap, hh5.fits⟩, hbw⟩
        · rw [Below.heap_setCell _ _ _ _ (by show D ≠ r0 + 1; omega), Below.heap_setCell _ _ _ _ (by show D ≠ r0; omega)]
          exact hK5
        · have := hn2 x (.inl hx); omega
        · have := hn2 x (.inr hx); omega
      have hF2w : ∀ x, F2 x → F x ∨ w.heap.size ≤ x := fun x hx => (hf5 x hx).elim (fun k => (hF' x k).2.imp id (fun e => by omega)) (fun k => .inr (by omega))
      have hG2w : ∀ x, G2 x → w.heap.size ≤ x := fun x hx => (hg5 x hx).elim (fun k => by have := (hG' x k).2; omega) (fun k => by omega)
      exact ⟨⟨b0.cell, b0.frozen, b1.cell, b1.frozen, b3.cell⟩, F2, G2, hend, hF2w, hG2w⟩
    have HE := Lib.hid hall
    clear hall
    by_cases hz : z = 0
    · subst hz
      gi_wp2_with (first
        | (refine ⟨trivial, ?_⟩; gi_at_call 72; refine (callsIn_wide.2 ((callsIn_wide (n := 4)).1 HCC.out)).mono ?_; rintro e w5 ⟨rfl, hw5⟩; obtain ⟨⟨d0, f0, d1, f1, d5⟩, F2, G2, hend, hF2w, hG2w⟩ := HE.out w5 hw5; have HW5 := Lib.hid (And.intro hend (And.intro hF2w hG2w)); clear hend hF2w hG2w hw5))
      obtain ⟨W6, hW6, hKd, c6, c7, hh6, hb6⟩ := HW5.out.1 (.pointer (some ⟨r0 + 2, 0, none⟩)) (.int .i64 0)
      rw [hW6] at c6 c7 hh6 hb6
      refine ⟨by simp, .inl ⟨_, _, rfl, run_takeDeferred hKd, ?_⟩⟩
      refine ⟨.tuple #[.pointer (some ⟨r0 + 2, 0, none⟩), .int .i64 0], by simp [results, go_sem, c6, c7], .inr (.inr ⟨HD.out.2.2.2.2.2.2.1, by rw [HD.out.2.2.2.2.2.2.2.1], r0 + 2, F2, G2, rfl, ?_, hb6, HW5.out.2.1, HW5.out.2.2⟩)⟩
      rw [HD.out.2.2.2.2.2.2.2.1, HD.out.2.2.2.2.2.2.2.2]
      exact hh6
    · have hzi : (z != 0) = true := by simpa using hz
      gi_wp2_with (first
        | (refine ⟨trivial, ?_⟩; gi_at_call 72; refine (callsIn_wide.2 ((callsIn_wide (n := 4)).1 HCC.out)).mono ?_; rintro e w5 ⟨rfl, hw5⟩; obtain ⟨⟨d0, f0, d1, f1, d5⟩, F2, G2, hend, hF2w, hG2w⟩ := HE.out w5 hw5; have HW5 := Lib.hid (And.intro hend (And.intro hF2w hG2w)); clear hend hF2w hG2w hw5))
      obtain ⟨W6, hW6, hKd, c6, c7, hh6, hb6⟩ := HW5.out.1 (.pointer none) (.int .i64 z)
      rw [hW6] at c6 c7 hh6 hb6
      refine ⟨by simp, .inl ⟨_, _, rfl, run_takeDeferred hKd, ?_⟩⟩
      refine ⟨.tuple #[.pointer none, .int .i64 z], by simp [results, go_sem, c6, c7], .inr (.inl ⟨HD.out.2.2.2.2.2.2.1, by rw [HD.out.2.2.2.2.2.2.2.1]; exact hz, by rw [HD.out.2.2.2.2.2.2.2.1], ?_⟩)⟩
      rw [HD.out.2.2.2.2.2.2.2.1]
      exact ⟨F2, hh6.d, hb6, HW5.out.2.1⟩
  case stop =>
    rintro D pre W hD _ ⟨hbt, h0, h1, hfar⟩ hK
    have hz3 := H3.out.2.2.2.2.2.2.2.2.2
    have hDr : ∀ y : Nat, y < r0 + 4 → y ≠ D := fun y hy => by omega
    have c6 : (W.putObj D (.deferred none)).cell? ⟨r0, 0, none⟩ = some (.pointer none) := by
      have : Boxed (W.putObj D (.deferred none)) r0 33 (.pointer none) := (World.putObj_heap_other (hDr r0 (by omega))).trans h0
      exact this.cell
    have c7 : (W.putObj D (.deferred none)).cell? ⟨r0 + 1, 0, none⟩ = some (.int .i64 4) := by
      have : Boxed (W.putObj D (.deferred none)) (r0 + 1) 27 (.int .i64 4) := (World.putObj_heap_other (hDr _ (by omega))).trans h1
      exact this.cell
    have bt : But (fun x => x = D) W (W.putObj D (.deferred none)) := ⟨rfl, rfl, rfl, by simp, fun b hb hn => World.putObj_heap_other hn⟩
    have hac : Acted w gd F st (W.putObj D (.deferred none)) := by
      have hF := H.out.2.2.2.2.1
      refine ⟨F', (H3.out.1.d.but hbt (fun x hx e => ?_)).but bt (fun x hx e => ?_), ?_, fun x hx => ?_⟩
      · have h2 := (H3.out.2.2.2.2.1 x hx).2
        rcases h2 with k | k
        · have := hF x k; omega
        · omega
      · have := (H3.out.2.2.2.2.1 x hx).1; omega
      · exact (H3.out.2.2.2.2.2.2.1.next hbt (fun x hx e => by omega)).next bt (fun x hx e => by omega)
      · exact (H3.out.2.2.2.2.1 x hx).2.imp id (fun k => by omega)
    have HF := Lib.hid (And.intro hac hfar)
    clear hac hbt h0 h1 hfar bt hDr
    gi_wp2
    refine ⟨by simp, .inl ⟨_, _, rfl, run_takeDeferred hK, ?_⟩⟩
    refine ⟨.tuple #[.pointer none, .int .i64 4], by simp [results, go_sem, c6, c7], .inl ⟨?_, rfl, HF.out.1⟩⟩
    unfold St.tooFar
    rw [H3.out.2.2.2.2.2.2.2.1, HT.out.2.2.2.2.2.2]
    exact HF.out.2

end Go.Proofs.YthbgcijkpincfaaGreatDoor

/-
  Open, what its wiping comes to: it falls at a sector, or comes to its end.
-/
namespace Go.Proofs.YthbgcijkpincfaaGreatDoor
open Go.RowKit

theorem owrap64 {k : Nat} (h : k ≤ 8192) : wrap64 (k : Int) = (k : Int) := by simp only [wrap64]; omega
theorem owrapI {k : Nat} (h : k ≤ 8192) : IntKind.i64.wrap (k : Int) = (k : Int) := by rw [IntKind.wrap_i64]; omega

theorem soils_end {T : List (List Nat)} {u i many : Nat} (hi : i ≤ many) (h : ∀ n ∈ soils T u many, n < i) : soils T u many = soils T u i := by
  obtain ⟨d, rfl⟩ := Nat.exists_eq_add_of_le hi
  clear hi
  induction d with
  | zero => rfl
  | succ d ih =>
    have hno : ¬ (u ≤ i + d ∧ T[i + d]? ≠ some nought) := fun hc => by
      have := h (i + d) (soils_mem.2 ⟨by omega, hc.1, hc.2⟩)
      omega
    have e : soils T u (i + (d + 1)) = soils T u (i + d) := by rw [← Nat.add_assoc]; exact soils_no hno
    rw [e] at h ⊢
    exact ih h

theorem opens_fall {st : St} {from_ u i many : Nat} {T : List (List Nat)} (h0 : (runs (wipeSteps from_ (soils T u i)) st).1 = 0) (hi : i ∈ soils T u many) (hs : (runs (wipeSteps from_ (soils T u i)) st).2.sc ≠ 0) :
    st.wipes from_ (soils T u many) = ((runs (wipeSteps from_ (soils T u i)) st).2.sc, (runs (wipeSteps from_ (soils T u i)) st).2.wn (from_ + i) []) := by
  obtain ⟨R, hR⟩ := soils_prefix hi rfl
  have hsn := wipe_snoc (n := i) h0
  unfold St.wipes
  rw [hR, show wipeSteps from_ (soils T u i ++ [i] ++ R) ++ [stepS] = wipeSteps from_ (soils T u i ++ [i]) ++ (wipeSteps from_ R ++ [stepS]) by simp [wipeSteps], runs_append, hsn, if_neg (show ¬ (stepW (from_ + i) [] (runs (wipeSteps from_ (soils T u i)) st).2).1 = 0 from hs)]
  rfl
theorem opens_end {st : St} {from_ : Nat} {L : List Nat} (h0 : (runs (wipeSteps from_ L) st).1 = 0) : st.wipes from_ L = ((runs (wipeSteps from_ L) st).2.sc, (runs (wipeSteps from_ L) st).2.sn) := by
  unfold St.wipes
  rw [runs_append, if_pos h0]
  exact runs_one _ _
theorem sc_nine {s : St} (h : s.sc ≠ 0) : s.sc = 9 := by
  unfold St.sc at h ⊢
  split
  · rfl
  · rename_i hl; rw [if_neg hl] at h; exact absurd rfl h

section
variable {w w2 wc W W' : World} {g gd from_ many u : Nat} {T : List (List Nat)} {v : Value} {vals : List Value} {F G : Nat → Prop} {l : List (List Nat)} {st s : St}
theorem RAmid.below_ (h : RAmid w gd F s W) (hb : Below W.heap.size W W') : RAmid w gd F s W' := by
  obtain ⟨h1, F', hd, hf⟩ := h
  exact ⟨h1.trans (But.of_below hb), F', hd.below hb, hf⟩
theorem RAmid.acted (h : RAmid W gd F s W') (hb : But F w W) : RActed w gd F s W' := by
  obtain ⟨h1, F', hd, hf⟩ := h
  exact ⟨F', hd, hb.trans h1, fun x hx => (hf x hx).imp id (fun e => Nat.le_trans hb.size e)⟩
end

end Go.Proofs.YthbgcijkpincfaaGreatDoor

/-
  The document's Open.
-/
namespace Go.Proofs.YthbgcijkpincfaaGreatDoor
open Go.RowKit

/-- What the document's Open leaves. -/
def ROpened (w : World) (gd from_ many : Nat) (F : Nat → Prop) (st : St) (e : Ending) (w' : World) : Prop :=
  (st.tooFar from_ many ∧ e = .returned (.tuple #[.pointer none, .int .i64 4]) ∧ RActed w gd F st w') ∨
  (¬ st.tooFar from_ many ∧ (st.opens from_ many).1 ≠ 0 ∧ e = .returned (.tuple #[.pointer none, .int .i64 (st.opens from_ many).1]) ∧ RActed w gd F (st.opens from_ many).2 w') ∨
  (¬ st.tooFar from_ many ∧ (st.opens from_ many).1 = 0 ∧ ∃ sb F' G', e = .returned (.tuple #[.pointer (some ⟨sb, 0, none⟩), .int .i64 0]) ∧ RHeld w' gd sb from_ many (st.opens from_ many).2 (st.foundIn from_ many) F' G' ∧ But F w w' ∧ (∀ x, F' x → F x ∨ w.heap.size ≤ x) ∧ ∀ x, G' x → w.heap.size ≤ x)

set_option maxRecDepth 100000 in
set_option maxHeartbeats 2000000 in
theorem ropen_any {w : World} {gd from_ many : Nat} {F : Nat → Prop} {st : St} (hd : RDisk w gd F st) (h1 : 1 ≤ many) (hfit : from_ + many ≤ st.sure.length) (hw : st.waits.length ≤ 800000) :
    Calls Tryz.prog 10 #[.pointer (some ⟨gd, 0, none⟩), .int .i64 (from_ : Int), .int .i64 (many : Int)] w (ROpened w gd from_ many F st) := by
  have hN := hd.1.le
  have C := rlen_any hd
  obtain ⟨N, hn⟩ : ∃ N, st.sure.length = N := ⟨_, rfl⟩
  rw [hn] at hN C hfit
  have HC := Lib.hid C
  have q1 : decide ((from_ : Int) < 0) = false := by simp
  have q2 : decide ((many : Int) < 1) = false := by simp; omega
  have q3 : decide ((N : Int) < (from_ : Int)) = false := by simp; omega
  have p1 : ¬ (from_ : Int) < 0 := by omega
  have p2 : ¬ (many : Int) < 1 := by omega
  have p3 : ¬ (N : Int) < (from_ : Int) := by omega
  have p4 : ¬ ((N : Int) - (from_ : Int) < (many : Int)) := by omega
  have w1 : IntKind.i64.wrap ((N : Int) - (from_ : Int)) = (N : Int) - (from_ : Int) := by rw [IntKind.wrap_i64]; omega
  obtain ⟨wb, hwb⟩ : ∃ wb, wb = w.alloc (.cells #[.pointer (some ⟨gd, 0, none⟩), .int .i64 (from_ : Int), .int .i64 (many : Int), .int .i64 0, .slice none 0 0] 124) := ⟨_, rfl⟩
  obtain ⟨T, hT⟩ : ∃ T, regionL st.read from_ many = T := ⟨_, rfl⟩
  have hf0 := rfind_start (w := w) (gd := gd) (from_ := from_) (T := T) (Nat.zero_le many)
  rw [← hwb] at hf0
  have bb : Below w.heap.size w wb := by rw [hwb]; exact below_alloc _ _
  have HB := Lib.hid (rbytes_any (st := st) ⟨⟨_, _, hf0.st⟩, hf0.lt⟩ (hd.below bb) (by rw [hn]; exact hfit))
  rw [hT] at HB
  have HF0 := Lib.hid hf0
  have HW := Lib.hid hwb
  have HD := Lib.hid (And.intro hd (And.intro bb (And.intro h1 (And.intro hfit (And.intro hw (And.intro hn hT))))))
  clear hd C hn hwb hf0 bb h1 hfit hw hT hN
  go_enter Tryz.func10, Tryz.ntmps10
  go_wp2_with fail
  refine HC.out.mono ?_
  rintro e x1 ⟨rfl, hx1⟩
  rw [← hx1]
  clear hx1 x1
  go_wp2_with fail
  refine HC.out.mono ?_
  rintro e x1 ⟨rfl, hx1⟩
  rw [← hx1]
  clear hx1 x1
  go_upto_region 4 with fail
  rw [← HW.out]
  go_wp2_with fail
  refine HB.out.mono ?_
  rintro e w2 ⟨A, c, rfl, o2, b2⟩
  have F2 := Lib.hid (HF0.out.below b2)
  have O2 := Lib.hid (And.intro o2 b2)
  have hgA : Hid (∀ x, (Value.slice A (64 * many) c).ownBlock = some x → x ≠ w.heap.size) := Lib.hid (fun x hx => by have := (o2.lt x hx).1; have := HF0.out.st.lt; omega)
  obtain ⟨g, hg⟩ : ∃ g, w.heap.size = g := ⟨_, rfl⟩
  have HG := Lib.hid hg
  rw [hg] at F2 hgA
  rw [hg]
  obtain ⟨n64, h64⟩ : ∃ n64, 64 * many = n64 := ⟨_, rfl⟩
  rw [h64] at O2 hgA
  rw [h64]
  have H64 := Lib.hid h64
  clear o2 b2 hg h64 HB HF0 HC HW
  go_upto_block 0 with fail
  go_cut [10, 11, 12, 13] from 43 to 93 (fun _ _ _ _ wx => ∃ v vals G l u, Hid (RFind w2 wx g gd from_ many T v vals G l u ∧ found T = l))
  case first =>
    go_wp2_with fail
    go_loopw [10, 11, 12, 13] (fun _ _ _ _ wr => ∃ v vals G l u, Hid (RFind w2 wr g gd from_ many T v vals G l u)) (fun _ _ _ _ wr => match wr.cell? ⟨g, 3, none⟩ with | some v => many - (intOf v).toNat | none => 0)
    case atStart => exact ⟨_, _, _, _, _, Lib.hid ⟨foundSo_start, F2.out.st, F2.out.lt, But.refl _ _, fun x e => .inl e⟩⟩
    case round =>
      obtain ⟨v, vals, G, l, u, HR⟩ := hrel
      obtain ⟨Bv, cv, hv, hnv, hBv, _⟩ := row_form HR.out.st.row
      subst hv
      have hlu := len_le_used l
      rw [HR.out.so.1] at hlu
      have c3 := HR.out.st.c3
      rw [HR.out.so.1] at c3
      have c4 := HR.out.st.c4
      have hg := HR.out.st.lt
      have hTs : ∀ s ∈ T, Sec s := by
        rw [← HD.out.2.2.2.2.2.2]
        intro s hs
        exact HD.out.1.1.read s (List.mem_of_mem_drop (List.mem_of_mem_take hs))
      have hTl : T.length = many := by
        rw [← HD.out.2.2.2.2.2.2]
        exact regionL_length (by rw [st.read_length, HD.out.2.2.2.2.2.1]; exact HD.out.2.2.2.1)
      have HT := Lib.hid (And.intro hTs hTl)
      clear hTs hTl
      by_cases hlt : u < many
      · have hui : (u : Int) < (many : Int) := by omega
        obtain ⟨lo, hlo⟩ : ∃ lo, 64 * u = lo := ⟨_, rfl⟩
        have hN4 : N ≤ 4096 := by have := HD.out.1.1.le; rw [HD.out.2.2.2.2.2.1] at this; exact this
        have hm4 : many ≤ 4096 := by have := HD.out.2.2.2.1; omega
        have e1 : IntKind.i64.wrap (64 * (u : Int)) = (lo : Int) := by rw [IntKind.wrap_i64]; omega
        have e3 : IntKind.i64.wrap (lo : Int) = (lo : Int) := by rw [IntKind.wrap_i64]; omega
        have hlo64 : lo ≤ n64 := by have := H64.out; omega
        obtain ⟨B, hcut, hB⟩ := cut_name (A := A) (n := n64) (c := c) (k := lo) hlo64
        have hcap := own_cap O2.out.1
        have hinB : In wr B (n64 - lo) (T.flatten.drop lo) := by
          rw [hB]
          exact (In.of_own (HR.out.stands O2.out.1 hgA.out)).cut hlo64 hcap
        obtain ⟨xs, hxs⟩ : ∃ xs, T.flatten.drop (64 * u) = xs := ⟨_, rfl⟩
        rw [hlo] at hxs
        rw [hxs] at hinB
        have hxb : ∀ x ∈ xs, x < 256 := fun x hx => flat_lt (fun s hs => (HT.out.1 s hs).2) x (List.mem_of_mem_drop (by rw [hxs]; exact hx))
        have CG := Lib.hid (refGetF_any B (n64 - lo) (c - lo) xs wr hinB hxb (by omega) (by have := H64.out; omega))
        have HXS := Lib.hid (And.intro hxs (And.intro hlo hlt))
        clear hxs hlo hB hinB hxb hcap hlo64 hN4 hm4
        go_wp2_with fail
        refine CG.out.mono ?_
        rintro e w5 ⟨b5, hpost⟩
        have H5 := Lib.hid (HR.out.below b5)
        have B5 := Lib.hid b5
        have c45 := H5.out.st.c4
        have c35 := H5.out.st.c3
        rw [HR.out.so.1] at c35
        clear b5 CG
        obtain ⟨bad, hbad, rfl⟩ | ⟨hnone, Ab, cb, rfl, ob⟩ := hpost
        · have hnn : ¬ Next_ l.length (T.flatten.drop (64 * u)) := by
            rw [HXS.out.2.1, HXS.out.1]
            rintro ⟨h, _⟩
            rw [hbad] at h
            cases h
          have HST := Lib.hid (HR.out.so.stop hnn)
          obtain ⟨bq, hbq⟩ : ∃ bq : Int, (bad.no : Int) = bq := ⟨_, rfl⟩
          have hno : (bq != 0) = true := by rw [← hbq]; cases bad <;> rfl
          rw [hbq]
          clear hnn hbad hbq
          go_wp2_with fail
          go_meet
          case rel => exact ⟨_, _, _, _, _, Lib.hid ⟨H5.out, HST.out⟩⟩
        · obtain ⟨cnt, hcnt⟩ : ∃ cnt, cntOf xs = cnt := ⟨_, rfl⟩
          obtain ⟨nx, hnx⟩ : ∃ nx, numOf xs = nx := ⟨_, rfl⟩
          obtain ⟨m1, hm1⟩ : ∃ m1, l.length + 1 = m1 := ⟨_, rfl⟩
          obtain ⟨ll, hll⟩ : ∃ ll, l.length = ll := ⟨_, rfl⟩
          obtain ⟨sc, hsc⟩ : ∃ sc, secs cnt = sc := ⟨_, rfl⟩
          have hm4 : many ≤ 4096 := by have := HD.out.1.1.le; rw [HD.out.2.2.2.2.2.1] at this; have := HD.out.2.2.2.1; omega
          have ew : IntKind.u64.wrap (ll : Int) = (ll : Int) := by rw [IntKind.wrap_u64]; omega
          have em : (ll : Int) + 1 = (m1 : Int) := by omega
          have ew1 : IntKind.u64.wrap (m1 : Int) = (m1 : Int) := by rw [IntKind.wrap_u64]; omega
          rw [hcnt] at ob ⊢
          rw [hnx, hsc]
          rw [hll] at c45
          have HB5 := Lib.hid (And.intro ob (And.intro hnone (And.intro hcnt (And.intro hnx (And.intro hm1 (And.intro hll (And.intro hsc hm4)))))))
          clear ob hnone hcnt hsc hm4 hll hm1
          by_cases hnum : nx = m1
          · have hq : ((nx : Int) != (m1 : Int)) = false := by simp; omega
            have hNx : Next_ l.length (T.flatten.drop (64 * u)) := by
              rw [HXS.out.2.1, HXS.out.1]
              exact ⟨HB5.out.2.1, by have := HB5.out; omega⟩
            obtain ⟨us, hus⟩ : ∃ us, u + sc = us := ⟨_, rfl⟩
            have hfit := found_fits HT.out.1 hNx
            rw [HXS.out.2.1, HXS.out.1, HB5.out.2.2.1, HB5.out.2.2.2.2.2.2.1, HT.out.2, hus] at hfit
            have eus : (u : Int) + (sc : Int) = (us : Int) := by omega
            have ewu : IntKind.i64.wrap (us : Int) = (us : Int) := by have := HB5.out; rw [IntKind.wrap_i64]; omega
            have HNx := Lib.hid (And.intro hNx (And.intro hus hfit))
            have hrow := H5.out.st.row
            rw [HB5.out.2.2.2.2.2.1] at hrow
            have HROW := Lib.hid hrow
            have hg5 := H5.out.st.lt
            have hllb : ll + 1 ≤ 5000 := by have := HB5.out; omega
            obtain ⟨i0, hi, hz0, hz1, hz2⟩ := info_parts infoBs
            clear hNx hus hfit hrow hnx hnum
            go_upto_region 9 with (first
              | (refine wpList_step fun K hK => ?_
                 refine step_append_lies (K := K) _ (by rfl) _ _ _ (by rfl) 0 50 i0 _ 1 24 Tryz.underlying69 hi hz0 hz1 hz2 rfl (by decide) (.slice Bv ll cv) ll vals (by rfl) (own_block HROW.out (fun b hb => heap_alloc_old w5 _ (own_lt HROW.out hb)))
                   ⟨w5.heap.size, 0, none⟩ 1 1 [.slice Ab cnt cb] (by rfl) (by rfl) (World.news_of_block (cs := #[.slice Ab cnt cb]) (t := 50) (fr := (0, 0)) (heap_alloc_new w5 _)) (by simp [Value.oneCell']) (by omega) (by unfold maxLen; omega) (by omega) (Nat.zero_le _) (w5.heap.size + 1) (by simp) ?_
                 intro gg cap w8 hown8 hgrow8 hat8 hlt8
                 have hne : (Value.slice Bv ll cv).ownBlock ≠ some g := fun e => by
                   obtain ⟨cur, hc⟩ := own_type HROW.out e
                   exact block_ne H5.out.st.head hc rne_hv rfl
                 have hh8 : w8.heap[g]? = w5.heap[g]? := (hgrow8.block g (by simp; omega) (fun e => hne e.symm)).trans (heap_alloc_old w5 _ hg5)
                 have f4 : w8.frozen? ⟨g, 4, none⟩ = false := frozen_of_row _ g 4 _ _ (hh8.trans H5.out.st.head)
                 have f3 : w8.frozen? ⟨g, 3, none⟩ = false := frozen_of_row _ g 3 _ _ (hh8.trans H5.out.st.head)
                 have d4 : w8.cell? ⟨g, 4, none⟩ = some (.slice Bv ll cv) := (World.cell?_of_block hh8).trans c45
                 have d3 : w8.cell? ⟨g, 3, none⟩ = some (.int .i64 (u : Int)) := (World.cell?_of_block hh8).trans c35
                 have HK8 := Lib.hid (And.intro hown8 (And.intro hgrow8 (And.intro hat8 hlt8)))
                 clear hown8 hgrow8 hat8 hlt8 hne hh8
                 refine hK _ _ ?_
                 clear hK K))
            go_wp2_with fail
            go_roundw
            case rel =>
              have hbl : (recOf xs).length = cnt := by have := HB5.out.1.1; rw [bvs_length] at this; omega
              have hw3 : ∀ W : World, (W.setCell ⟨g, 3, none⟩ (.int .i64 (us : Int))) = W.setCell ⟨g, 3, none⟩ (.int .i64 ((u + secs (recOf xs).length : Nat) : Int)) := fun W => by rw [hbl, HB5.out.2.2.2.2.2.2.1, HNx.out.2.1]
              have hob : (Value.slice Bv l.length cv).ownBlock = (Value.slice Bv ll cv).ownBlock := by cases Bv <;> rfl
              refine ⟨_, _, _, _, _, Lib.hid (HR.out.more HT.out.1 HT.out.2 (by rw [HT.out.2]; exact HXS.out.2.2) HNx.out.1 (by rw [HXS.out.2.1, HXS.out.1]) B5.out (by rw [hbl]; exact HB5.out.1) (by rw [HB5.out.2.2.2.2.2.1]; exact HK8.out.1) (fun x hx hne => (HK8.out.2.1.block x (by simp; omega) (fun e => hne (hob.trans e.symm))).trans (heap_alloc_old w5 _ hx)) ?_ (by have := HK8.out.2.1.size; simp at this; omega) ⟨HK8.out.2.1.os, HK8.out.2.1.tape, HK8.out.2.1.output⟩ (hw3 _))⟩
              intro x hx
              cases hx
              refine ⟨?_, HK8.out.2.2.2⟩
              rcases HK8.out.2.2.1 with e | e
              · exact .inl (hob.trans e)
              · exact .inr (by show w5.heap.size ≤ gg; omega)
            case measure =>
              have e3 : ((w8.setCell ⟨g, 4, none⟩ (.slice (some ⟨gg, 0, none⟩) (ll + 1) cap)).setCell ⟨g, 3, none⟩ (.int .i64 (us : Int))).cell? ⟨g, 3, none⟩ = some (.int .i64 (us : Int)) := World.cell?_setCell_same _ _ _ (by rw [World.cell?_setCell_other _ _ _ _ (by simp), d3])
              simp only [e3, c3, intOf]
              have := HNx.out
              have := secs_pos cnt
              have := HB5.out
              omega
          · have hq : ((nx : Int) != (m1 : Int)) = true := by simp; omega
            have hnn : ¬ Next_ l.length (T.flatten.drop (64 * u)) := by
              rw [HXS.out.2.1, HXS.out.1]
              rintro ⟨_, h⟩
              have := HB5.out
              omega
            have HST := Lib.hid (HR.out.so.stop hnn)
            clear hnn hnx hnum
            go_wp2_with fail
            go_meet
            case rel => exact ⟨_, _, _, _, _, Lib.hid ⟨H5.out, HST.out⟩⟩
      · have hui : ¬ (u : Int) < (many : Int) := by omega
        have HST := Lib.hid (HR.out.so.full HT.out.1 (by rw [HT.out.2]; omega))
        clear hlt
        go_wp2_with fail
        go_meet
        case rel => exact ⟨_, _, _, _, _, Lib.hid ⟨HR.out, HST.out⟩⟩
  case rest =>
    obtain ⟨v, vals, G, l, u, HR⟩ := hcut
    have hD := HD.out.1
    have hg := HG.out
    have hgF : ∀ x, F x → x < g := fun x hx => by rw [← hg]; exact hD.2.2.2 x hx
    have bb2 : Below w.heap.size w w2 := below_on HD.out.2.1 (Nat.le_refl _) O2.out.2
    have hw2 : w.heap.size ≤ w2.heap.size := bb2.size
    have hdc : RDisk wc gd F st := (hD.below bb2).but HR.out.1.but (fun x hx e => by have := hgF x hx; omega)
    have hsto : RSto wc g gd from_ many G l := ⟨⟨v, vals, HR.out.1.st⟩, HR.out.1.lt⟩
    have hap : ∀ x, F x → ¬ G x := fun x hx hG => by
      have := hgF x hx
      rcases HR.out.1.new x hG with e | e <;> omega
    have hGw : ∀ x, G x → w.heap.size ≤ x := fun x hG => by rcases HR.out.1.new x hG with e | e <;> omega
    have hbw : But F w wc := (But.of_below bb2 : But F w w2).next HR.out.1.but (fun x hx e => by omega)
    have hul : usedL l = u := HR.out.1.so.1
    have hum : u ≤ many := by rw [← hul]; exact HR.out.1.st.fits
    have hN4 : N ≤ 4096 := by have := HD.out.1.1.le; rw [HD.out.2.2.2.2.2.1] at this; exact this
    have hfit : from_ + many ≤ N := HD.out.2.2.2.1
    have hT : regionL st.read from_ many = T := HD.out.2.2.2.2.2.2
    have hTl : T.length = many := by rw [← hT]; exact regionL_length (by rw [st.read_length, HD.out.2.2.2.2.2.1]; exact hfit)
    have hTg : ∀ k xs, T[k]? = some xs → st.read[from_ + k]? = some xs := fun k xs hx => by
      have hk := (List.getElem?_eq_some_iff.1 hx).1
      rw [← hT, regionL_get (by omega)] at hx
      exact hx
    have c3 := HR.out.1.st.c3
    rw [hul] at c3
    have HH := Lib.hid (And.intro hdc (And.intro hsto (And.intro hap (And.intro hGw (And.intro hbw (And.intro hTl (And.intro hTg (And.intro HR.out.2 hul))))))))
    have HU := Lib.hid (And.intro hum (And.intro hN4 hfit))
    have hu4 : u ≤ 4096 := by omega
    have hm4 : many ≤ 4096 := by omega
    clear hD hg hgF bb2 hw2 hdc hsto hap hGw hbw hul hum hN4 hfit hT hTl hTg HR F2 O2 hgA
    obtain ⟨u5, hu5⟩ : ∃ u5, u + 5 = u5 := ⟨_, rfl⟩
    have eu5 : (u : Int) + 5 = (u5 : Int) := by omega
    have hu54 : u5 ≤ 5000 := by omega
    have HU5 := Lib.hid (And.intro hu5 (And.intro hu54 (And.intro hu4 hm4)))
    clear hu5 hu4 hm4
    go_wp2_with fail
    go_loopw [14] (fun x wr => ∃ i : Nat, x = .int .i64 (i : Int) ∧ i ≤ 5000 ∧ Hid (u5 ≤ i ∧ (∀ n, u5 ≤ n → n < i → T[n]? = some nought) ∧ Below wc.heap.size wc wr)) (fun x _ => many - (intOf x).toNat)
    case atStart => exact ⟨u5, rfl, HU5.out.2.1, Lib.hid ⟨Nat.le_refl _, fun n h1 h2 => by omega, Below.refl _ _⟩⟩
    case round =>
      obtain ⟨i, rfl, hi5, HI⟩ := hrel
      by_cases hlt : i < many
      · have hii : (i : Int) < (many : Int) := by omega
        obtain ⟨xs, hxs⟩ : ∃ xs, T[i]? = some xs := ⟨_, List.getElem?_eq_getElem (by rw [HH.out.2.2.2.2.2.1]; exact hlt)⟩
        have CN := rnoughts_any (HH.out.2.1.below HI.out.2.2) (HH.out.1.below HI.out.2.2) (HH.out.2.2.2.2.2.2.1 i xs hxs) (by have := HU.out; omega)
        have hw1 : wrap64 ((i : Int) + 1) = (i : Int) + 1 := by simp only [wrap64]; omega
        have HX := Lib.hid (And.intro hxs (And.intro hlt hw1))
        clear hxs hlt hw1
        by_cases hn : xs = nought
        · rw [decide_eq_true hn] at CN
          have HN := Lib.hid hn
          have HCN := Lib.hid CN
          clear hn CN
          go_wp2_with fail
          refine HCN.out.mono ?_
          rintro e w5 ⟨rfl, hb5⟩
          have HB5 := Lib.hid hb5
          clear hb5
          go_wp2_with fail
          go_roundw
          case rel =>
            refine ⟨i + 1, by (try rw [HX.out.2.2]); rfl, by have := HX.out; have := HU.out; omega, Lib.hid ⟨by have := HI.out; omega, fun n h1 h2 => ?_, below_on HI.out.2.2 (Nat.le_refl _) HB5.out⟩⟩
            by_cases hni : n < i
            · exact HI.out.2.1 n h1 hni
            · obtain rfl : n = i := by omega
              rw [← HN.out]; exact HX.out.1
          case measure => (try rw [HX.out.2.2]); simp [intOf]; have := HX.out; omega
        · rw [decide_eq_false hn] at CN
          have HN := Lib.hid hn
          have HCN := Lib.hid CN
          clear hn CN
          go_wp2_with fail
          refine HCN.out.mono ?_
          rintro e w5 ⟨rfl, hb5⟩
          have HB5 := Lib.hid hb5
          clear hb5
          go_wp2_with fail
          go_ret2
          have hb := below_on HI.out.2.2 (Nat.le_refl _) HB5.out
          refine Or.inl ⟨?_, rfl, F, HH.out.1.below hb, HH.out.2.2.2.2.1.trans (But.of_below hb), fun x hx => .inl hx⟩
          unfold St.tooFar
          rw [HD.out.2.2.2.2.2.2, HH.out.2.2.2.2.2.2.2.1, HH.out.2.2.2.2.2.2.2.2]
          refine ⟨i, soils_mem.2 ⟨HX.out.2.1, by have := HI.out; have := HU5.out; omega, fun e => ?_⟩, by have := HI.out; have := HU5.out; omega⟩
          rw [HX.out.1] at e
          exact HN.out (Option.some.inj e)
      · have hii : ¬ (i : Int) < (many : Int) := by omega
        have hsoil : ∀ n ∈ soils T u many, n < u5 := fun n hn => by
          have h := soils_mem.1 hn
          by_cases hc : u5 ≤ n
          · exact absurd (HI.out.2.1 n hc (by omega)) h.2.2
          · omega
        have hnot : ¬ st.tooFar from_ many := by
          unfold St.tooFar
          rw [HD.out.2.2.2.2.2.2, HH.out.2.2.2.2.2.2.2.1, HH.out.2.2.2.2.2.2.2.2]
          rintro ⟨n, hn, h5⟩
          have := hsoil n hn
          have := HU5.out
          omega
        have hopens : st.opens from_ many = st.wipes from_ (soils T u many) := by
          unfold St.opens
          rw [HD.out.2.2.2.2.2.2, HH.out.2.2.2.2.2.2.2.1, HH.out.2.2.2.2.2.2.2.2]
        have hfin : st.foundIn from_ many = l := by
          unfold St.foundIn
          rw [HD.out.2.2.2.2.2.2, HH.out.2.2.2.2.2.2.2.1]
        have bl2 := HI.out.2.2
        have c3r := (bl2.cell (World.block_lt_of_cell? wc _ c3)).trans c3
        have hd2 := HH.out.1.below bl2
        have hs2 := HH.out.2.1.below bl2
        have hb2w : But F w wr := HH.out.2.2.2.2.1.trans (But.of_below bl2)
        have hwr : w.heap.size ≤ wr.heap.size := hb2w.size
        have H2 := Lib.hid (And.intro hd2 (And.intro hs2 (And.intro hb2w (And.intro hwr (And.intro hsoil (And.intro hnot (And.intro hopens hfin)))))))
        clear hsoil hnot hopens hfin bl2 hd2 hs2 hb2w hwr c3 HI hlt hi5
        go_wp2_with fail
        clear hii
        go_loopw [15] (fun x wq => ∃ i : Nat, x = .int .i64 (i : Int) ∧ i ≤ 5000 ∧ Hid (u ≤ i ∧ i ≤ many ∧ (runs (wipeSteps from_ (soils T u i)) st).1 = 0 ∧ RAmid wr gd F (runs (wipeSteps from_ (soils T u i)) st).2 wq)) (fun x _ => many - (intOf x).toNat)
        case atStart =>
          have e0 : soils T u u = [] := by
            apply List.eq_nil_iff_forall_not_mem.2
            intro n hn
            have := soils_mem.1 hn
            omega
          refine ⟨u, rfl, by have := HU5.out; omega, Lib.hid ⟨Nat.le_refl _, HU.out.1, ?_, ?_⟩⟩
          · rw [e0]; rfl
          · rw [e0]; exact ramid_refl H2.out.1
        case round =>
          obtain ⟨k, rfl, hk5, HQ⟩ := hrel
          obtain ⟨sk, hsk⟩ : ∃ sk, (runs (wipeSteps from_ (soils T u k)) st).2 = sk := ⟨_, rfl⟩
          have ham := HQ.out.2.2.2
          rw [hsk] at ham
          have hgG : G g := by obtain ⟨⟨v0, vals0, h0⟩, _⟩ := H2.out.2.1; exact h0.gg
          have hsq : RSto wr g gd from_ many G l := H2.out.2.1.but ham.1 (fun x hx hf => HH.out.2.2.1 x hf hx)
          have c3q : wr.cell? ⟨g, 3, none⟩ = some (.int .i64 (u : Int)) := (World.cell?_of_block (ham.1.block g (H2.out.2.1.2 g hgG) (fun e => HH.out.2.2.1 g e hgG))).trans c3r
          have wf := wipe_facts from_ (soils T u k) st
          rw [hsk] at wf
          have wl := soils_len T u k
          have HK3 := Lib.hid (And.intro hsk (And.intro ham (And.intro hsq (And.intro wf wl))))
          clear hsk ham hsq wf wl hgG
          have hku : u ≤ k := HQ.out.1
          have hkm : k ≤ many := HQ.out.2.1
          have HKU := Lib.hid (And.intro hku hkm)
          by_cases hlt : k < u5 ∧ k < many
          · have hi1 : (k : Int) < (u5 : Int) := by omega
            have hi2 : (k : Int) < (many : Int) := by omega
            have hi3 : decide ((k : Int) < (u5 : Int)) = true := by simp; omega
            clear hku hkm
            obtain ⟨xs, hxs⟩ : ∃ xs, T[k]? = some xs := ⟨_, List.getElem?_eq_getElem (by rw [HH.out.2.2.2.2.2.1]; exact hlt.2)⟩
            have hxr : sk.read[from_ + k]? = some xs := by
              rw [← HK3.out.1, wipe_read from_ (soils T u k) st k (fun n hn => by have := soils_mem.1 hn; omega)]
              exact HH.out.2.2.2.2.2.2.1 k xs hxs
            obtain ⟨F9, hd9, hf9⟩ := HK3.out.2.1.2
            have CN := rnoughts_any HK3.out.2.2.1 hd9 hxr (by have := HU.out; omega)
            have hw1 : wrap64 ((k : Int) + 1) = (k : Int) + 1 := by simp only [wrap64]; omega
            obtain ⟨fk, hfk⟩ : ∃ fk, from_ + k = fk := ⟨_, rfl⟩
            have efk : (from_ : Int) + (k : Int) = (fk : Int) := by omega
            have hfk9 : fk ≤ 8192 := by have := HU.out; omega
            have HWF := Lib.hid (owrap64 hfk9)
            have HX := Lib.hid (And.intro hxs (And.intro hlt (And.intro hw1 hfk)))
            clear hxs hlt hw1 hxr hd9 hf9 hfk hfk9
            by_cases hn : xs = nought
            · rw [decide_eq_true hn] at CN
              have HN := Lib.hid hn
              have HCN := Lib.hid CN
              clear hn CN
              go_wp2_with fail
              refine HCN.out.mono ?_
              rintro e w5 ⟨rfl, hb5⟩
              have HB5 := Lib.hid hb5
              clear hb5
              go_wp2_with fail
              go_roundw
              case rel =>
                have hno : soils T u (k + 1) = soils T u k := soils_no (by rw [HX.out.1, HN.out]; simp)
                refine ⟨k + 1, by (try rw [HX.out.2.2.1]); rfl, by have := HX.out; have := HU5.out; omega, Lib.hid ⟨by have := HKU.out; omega, by have := HX.out; omega, ?_, ?_⟩⟩
                · rw [hno]; exact HQ.out.2.2.1
                · rw [hno, HK3.out.1]; exact HK3.out.2.1.below_ HB5.out
              case measure => (try rw [HX.out.2.2.1]); simp [intOf]; have := HX.out; omega
            · rw [decide_eq_false hn] at CN
              have HN := Lib.hid hn
              have HCN := Lib.hid CN
              clear hn CN
              go_wp2_with fail
              refine HCN.out.mono ?_
              rintro e w5 ⟨rfl, hb5⟩
              have hsl : sk.sure.length = N := by rw [HK3.out.2.2.2.1.1]; exact HD.out.2.2.2.2.2.1
              have CW := ramid_write (n := 0) (c := 0) (A := none) (xs := []) (HK3.out.2.1.below_ hb5) (k := fk) (by have := HU.out; have := HX.out; omega) (by omega) (In.none_ _ _) (by intro x hx; cases hx) (fun ad e => by cases e) (by have := HK3.out; have := HD.out; have := HU5.out; omega)
              have HCW := Lib.hid CW
              clear hb5 CW hsl
              have hmem : k ∈ soils T u many := soils_mem.2 ⟨HX.out.2.1.2, HKU.out.1, fun e => by rw [HX.out.1] at e; exact HN.out (Option.some.inj e)⟩
              have HMEM := Lib.hid hmem
              clear hmem
              go_wp2_with fail
              rw [HWF.out]
              refine HCW.out.mono ?_
              rintro e w6 ⟨rfl, ham6⟩
              have H6 := Lib.hid ham6
              clear ham6
              by_cases hsc : sk.sc = 0
              · rw [hsc]
                have HSC := Lib.hid hsc
                clear hsc
                go_wp2_with fail
                go_roundw
                case rel =>
                  have hyes : soils T u (k + 1) = soils T u k ++ [k] := soils_yes HKU.out.1 (fun e => by rw [HX.out.1] at e; exact HN.out (Option.some.inj e))
                  have hsn := wipe_snoc (n := k) HQ.out.2.2.1
                  rw [HK3.out.1] at hsn
                  refine ⟨k + 1, by (try rw [HX.out.2.2.1]); rfl, by have := HX.out; have := HU5.out; omega, Lib.hid ⟨by have := HKU.out; omega, by have := HX.out; omega, ?_, ?_⟩⟩
                  · rw [hyes, hsn]; exact HSC.out
                  · rw [hyes, hsn]
                    show RAmid _ gd F (sk.wn (from_ + k) []) _
                    rw [HX.out.2.2.2]; exact H6.out
                case measure => (try rw [HX.out.2.2.1]); simp [intOf]; have := HX.out; omega
              · have h9 := sc_nine hsc
                rw [h9]
                have HSC := Lib.hid (And.intro hsc h9)
                clear hsc h9
                have hop := opens_fall HQ.out.2.2.1 HMEM.out (by rw [HK3.out.1]; exact HSC.out.1)
                rw [HK3.out.1, ← H2.out.2.2.2.2.2.2.1, HX.out.2.2.2] at hop
                have HOP := Lib.hid hop
                clear hop
                go_wp2_with fail
                go_ret2
                exact Or.inr (Or.inl ⟨H2.out.2.2.2.2.2.1, by rw [HOP.out]; exact HSC.out.1, by rw [HOP.out]; show _ = Ending.returned (.tuple #[.pointer none, .int .i64 sk.sc]); rw [HSC.out.2]; rfl, by rw [HOP.out]; exact H6.out.acted H2.out.2.2.1⟩)
          · have hlast : soils T u many = soils T u k := soils_end hkm (fun n hn => by have h1 := H2.out.2.2.2.2.1 n hn; have h2 := (soils_mem.1 hn).1; omega)
            have HLAST := Lib.hid hlast
            clear hlast
            by_cases hk5' : k < u5
            · have hi2 : ¬ (k : Int) < (many : Int) := by omega
              have hi3 : decide ((k : Int) < (u5 : Int)) = true := by simp; omega
              have hi1 : (k : Int) < (u5 : Int) := by omega
              clear hku hkm hlt hk5' hk5
              obtain ⟨hlast, hfirst⟩ := And.intro HLAST.out HK3.out.2.1
              have CS := ramid_sync hfirst
              have HCS := Lib.hid CS
              clear CS hfirst
              go_wp2_with fail
              refine HCS.out.mono ?_
              rintro e w5 ⟨rfl, ham5⟩
              have hop : st.opens from_ many = (sk.sc, sk.sn) := by rw [H2.out.2.2.2.2.2.2.1, hlast, opens_end HQ.out.2.2.1, HK3.out.1]
              have HOP := Lib.hid hop
              have H5 := Lib.hid ham5
              clear hop ham5 hlast
              by_cases hsc : sk.sc = 0
              · rw [hsc]
                have HSC := Lib.hid hsc
                clear hsc
                go_wp2_with fail
                go_ret2
                refine Or.inr (Or.inr ⟨H2.out.2.2.2.2.2.1, by rw [HOP.out]; exact HSC.out, ?_⟩)
                obtain ⟨hb5, F', hd5, hf5⟩ := H5.out
                have hsl : sk.sn.sure.length = st.sure.length := by
                  have h1 := wipes_sure st from_ (soils T u many)
                  rw [← H2.out.2.2.2.2.2.2.1, HOP.out] at h1
                  exact h1
                refine ⟨g, F', G, rfl, ⟨by rw [HOP.out]; exact hd5, by rw [H2.out.2.2.2.2.2.2.2]; exact H2.out.2.1.but hb5 (fun x hx hf => HH.out.2.2.1 x hf hx), fun x hx hG => ?_, by rw [HOP.out]; show from_ + many ≤ sk.sn.sure.length; rw [hsl, HD.out.2.2.2.2.2.1]; exact HU.out.2.2⟩, H2.out.2.2.1.trans hb5, fun x hx => (hf5 x hx).imp id (fun e => Nat.le_trans H2.out.2.2.2.1 e), HH.out.2.2.2.1⟩
                rcases hf5 x hx with e | e
                · exact HH.out.2.2.1 x e hG
                · have := H2.out.2.1.2 x hG; omega
              · have h9 := sc_nine hsc
                rw [h9]
                have HSC := Lib.hid (And.intro hsc h9)
                clear hsc h9
                go_wp2_with fail
                go_ret2
                refine Or.inr (Or.inl ⟨H2.out.2.2.2.2.2.1, by rw [HOP.out]; exact HSC.out.1, by rw [HOP.out]; show _ = Ending.returned (.tuple #[.pointer none, .int .i64 sk.sc]); rw [HSC.out.2]; rfl, by rw [HOP.out]; exact H5.out.acted H2.out.2.2.1⟩)
            · have hi3 : decide ((k : Int) < (u5 : Int)) = false := by simp; omega
              have hi1 : ¬ (k : Int) < (u5 : Int) := by omega
              clear hku hkm hlt hk5' hk5
              obtain ⟨hlast, hfirst⟩ := And.intro HLAST.out HK3.out.2.1
              have CS := ramid_sync hfirst
              have HCS := Lib.hid CS
              clear CS hfirst
              go_wp2_with fail
              refine HCS.out.mono ?_
              rintro e w5 ⟨rfl, ham5⟩
              have hop : st.opens from_ many = (sk.sc, sk.sn) := by rw [H2.out.2.2.2.2.2.2.1, hlast, opens_end HQ.out.2.2.1, HK3.out.1]
              have HOP := Lib.hid hop
              have H5 := Lib.hid ham5
              clear hop ham5 hlast
              by_cases hsc : sk.sc = 0
              · rw [hsc]
                have HSC := Lib.hid hsc
                clear hsc
                go_wp2_with fail
                go_ret2
                refine Or.inr (Or.inr ⟨H2.out.2.2.2.2.2.1, by rw [HOP.out]; exact HSC.out, ?_⟩)
                obtain ⟨hb5, F', hd5, hf5⟩ := H5.out
                have hsl : sk.sn.sure.length = st.sure.length := by
                  have h1 := wipes_sure st from_ (soils T u many)
                  rw [← H2.out.2.2.2.2.2.2.1, HOP.out] at h1
                  exact h1
                refine ⟨g, F', G, rfl, ⟨by rw [HOP.out]; exact hd5, by rw [H2.out.2.2.2.2.2.2.2]; exact H2.out.2.1.but hb5 (fun x hx hf => HH.out.2.2.1 x hf hx), fun x hx hG => ?_, by rw [HOP.out]; show from_ + many ≤ sk.sn.sure.length; rw [hsl, HD.out.2.2.2.2.2.1]; exact HU.out.2.2⟩, H2.out.2.2.1.trans hb5, fun x hx => (hf5 x hx).imp id (fun e => Nat.le_trans H2.out.2.2.2.1 e), HH.out.2.2.2.1⟩
                rcases hf5 x hx with e | e
                · exact HH.out.2.2.1 x e hG
                · have := H2.out.2.1.2 x hG; omega
              · have h9 := sc_nine hsc
                rw [h9]
                have HSC := Lib.hid (And.intro hsc h9)
                clear hsc h9
                go_wp2_with fail
                go_ret2
                refine Or.inr (Or.inl ⟨H2.out.2.2.2.2.2.1, by rw [HOP.out]; exact HSC.out.1, by rw [HOP.out]; show _ = Ending.returned (.tuple #[.pointer none, .int .i64 sk.sc]); rw [HSC.out.2]; rfl, by rw [HOP.out]; exact H5.out.acted H2.out.2.2.1⟩)

end Go.Proofs.YthbgcijkpincfaaGreatDoor

/-
  A disk and a store on it, and the document's own two, apart.
-/
namespace Go.Proofs.YthbgcijkpincfaaGreatDoor
open Go.RowKit

structure Four (base : Nat) (O : Nat → Prop) (w : World) (gd gm sb mb f k : Nat) (m r : Sm) (F G F' G' : Nat → Prop) : Prop where
  c : Held_ w gd sb f k m F G
  r : RHeld w gm mb f k r.st r.l F' G'
  ap : ∀ x, F x ∨ G x → ¬ (F' x ∨ G' x)
  fo : ∀ x, F x ∨ G x → Out base O x
  go : ∀ x, F' x ∨ G' x → Out base O x
  ol : ∀ x, O x → x < w.heap.size
  bl : base ≤ w.heap.size
def SPair (base : Nat) (O : Nat → Prop) (w : World) (gd gm sb mb f k : Nat) (m r : Sm) : Prop := ∃ F G F' G', Four base O w gd gm sb mb f k m r F G F' G'

section
variable {base : Nat} {O O' : Nat → Prop} {w w' : World} {gd gm sb mb f k : Nat} {m m' r r' : Sm} {F G F' G' : Nat → Prop} {s s' : St}
theorem Four.ltC (h : Four base O w gd gm sb mb f k m r F G F' G') : ∀ x, F x ∨ G x → x < w.heap.size := fun x hx => hx.elim (h.c.d.2.2 x) (h.c.s.2 x)
theorem Four.ltR (h : Four base O w gd gm sb mb f k m r F G F' G') : ∀ x, F' x ∨ G' x → x < w.heap.size := fun x hx => hx.elim (h.r.d.2.2.2 x) (h.r.s.2 x)
theorem RHeld.but {S : Nat → Prop} {l : List (List Nat)} (h : RHeld w gm mb f k s l F' G') (hb : But S w w') (hd : ∀ x, F' x ∨ G' x → ¬ S x) : RHeld w' gm mb f k s l F' G' := ⟨h.d.but hb (fun x hx => hd x (.inl hx)), h.s.but hb (fun x hx => hd x (.inr hx)), h.ap, h.fits⟩
theorem Held_.but_ {S : Nat → Prop} (h : Held_ w gd sb f k m F G) (hb : But S w w') (hd : ∀ x, F x ∨ G x → ¬ S x) : Held_ w' gd sb f k m F G := ⟨h.d.but hb (fun x hx => hd x (.inl hx)), h.s.but hb (fun x hx => hd x (.inr hx)), h.ap, h.fits⟩
theorem Four.wentC (h : Four base O w gd gm sb mb f k m r F G F' G') (hw : Went w gd sb f k F G m' w') : SPair base O w' gd gm sb mb f k m' r ∧ But (Out base O) w w' := by
  obtain ⟨F1, G1, hh, hb, hf, hg⟩ := hw
  have hn : ∀ x, F1 x ∨ G1 x → (F x ∨ G x) ∨ w.heap.size ≤ x := fun x hx => hx.elim (fun e => (hf x e).imp .inl id) (fun e => (hg x e).imp .inr id)
  refine ⟨⟨F1, G1, F', G', hh, h.r.but hb (fun x hx e => h.ap x e hx), fun x hx e => ?_, fun x hx => ?_, h.go, fun x hx => Nat.lt_of_lt_of_le (h.ol x hx) hb.size, Nat.le_trans h.bl hb.size⟩, hb.mono (fun x _ e => h.fo x e)⟩
  · rcases hn x hx with k1 | k1
    · exact h.ap x k1 e
    · have := h.ltR x e; omega
  · rcases hn x hx with k1 | k1
    · exact h.fo x k1
    · exact ⟨Nat.le_trans h.bl k1, fun ho => by have := h.ol x ho; omega⟩
theorem Four.wentR (h : Four base O w gd gm sb mb f k m r F G F' G') (hw : RWent w gm mb f k F' G' r'.st r'.l w') : SPair base O w' gd gm sb mb f k m r' ∧ But (Out base O) w w' := by
  obtain ⟨F1, G1, hh, hb, hf, hg⟩ := hw
  have hn : ∀ x, F1 x ∨ G1 x → (F' x ∨ G' x) ∨ w.heap.size ≤ x := fun x hx => hx.elim (fun e => (hf x e).imp .inl id) (fun e => (hg x e).imp .inr id)
  refine ⟨⟨F, G, F1, G1, h.c.but_ hb (fun x hx e => h.ap x hx e), hh, fun x hx e => ?_, h.fo, fun x hx => ?_, fun x hx => Nat.lt_of_lt_of_le (h.ol x hx) hb.size, Nat.le_trans h.bl hb.size⟩, hb.mono (fun x _ e => h.go x e)⟩
  · rcases hn x e with k1 | k1
    · exact h.ap x hx k1
    · have := h.ltC x hx; omega
  · rcases hn x hx with k1 | k1
    · exact h.go x k1
    · exact ⟨Nat.le_trans h.bl k1, fun ho => by have := h.ol x ho; omega⟩
/-- A call of the disk alone: the store stands. -/
theorem Four.diskC (h : Four base O w gd gm sb mb f k m r F G F' G') (ha : Acted w gd F s' w') (hs : s'.sure.length = m.st.sure.length) : SPair base O w' gd gm sb mb f k ⟨s', m.l, m.down⟩ r ∧ But (Out base O) w w' := by
  obtain ⟨F1, hd, hb, hf⟩ := ha
  refine h.wentC ⟨F1, G, ⟨hd, h.c.s.but hb (fun x hx e => h.c.ap x e hx), fun x hx e => ?_, by show f + k ≤ s'.sure.length; rw [hs]; exact h.c.fits⟩, hb.mono (fun x _ e => .inl e), hf, fun x hx => .inl hx⟩
  rcases hf x hx with k1 | k1
  · exact h.c.ap x k1 e
  · have := h.c.s.2 x e; omega
theorem Four.diskR (h : Four base O w gd gm sb mb f k m r F G F' G') (ha : RActed w gm F' s' w') (hs : s'.sure.length = r.st.sure.length) : SPair base O w' gd gm sb mb f k m ⟨s', r.l, r.down⟩ ∧ But (Out base O) w w' := by
  obtain ⟨F1, hd, hb, hf⟩ := ha
  refine h.wentR (r' := ⟨s', r.l, r.down⟩) ⟨F1, G', ⟨hd, h.r.s.but hb (fun x hx e => h.r.ap x e hx), fun x hx e => ?_, by show f + k ≤ s'.sure.length; rw [hs]; exact h.r.fits⟩, hb.mono (fun x _ e => .inl e), hf, fun x hx => .inl hx⟩
  rcases hf x hx with k1 | k1
  · exact h.r.ap x k1 e
  · have := h.r.s.2 x e; omega
/-- The disks alone. -/
theorem SPair.disks (h : SPair base O w gd gm sb mb f k m r) : DPair base O w gd m.st gm r.st := by
  obtain ⟨F, G, F', G', h⟩ := h
  exact ⟨F, F', h.c.d, h.r.d, fun x hx e => h.ap x (.inl hx) (.inl e), fun x hx => h.fo x (.inl hx), fun x hx => h.go x (.inl hx), h.ol, h.bl⟩
theorem SPair.fits (h : SPair base O w gd gm sb mb f k m r) : f + k ≤ m.st.sure.length := by obtain ⟨F, G, F', G', h⟩ := h; exact h.c.fits
theorem SPair.ol (h : SPair base O w gd gm sb mb f k m r) : ∀ x, O x → x < w.heap.size := by obtain ⟨F, G, F', G', h⟩ := h; exact h.ol
theorem SPair.bl (h : SPair base O w gd gm sb mb f k m r) : base ≤ w.heap.size := by obtain ⟨F, G, F', G', h⟩ := h; exact h.bl
theorem SPair.turn {S : Nat → Prop} (h : SPair base O w gd gm sb mb f k m r) (hb : But S w w') (hs : ∀ x, S x → x < base ∨ O x) (ho : ∀ x, O' x → O x ∨ w.heap.size ≤ x) (hl : ∀ x, O' x → x < w'.heap.size) : SPair base O' w' gd gm sb mb f k m r := by
  obtain ⟨F, G, F', G', h⟩ := h
  have out : ∀ x, Out base O x → ¬ S x := fun x hx e => by
    rcases hs x e with k1 | k1
    · have := hx.1; omega
    · exact hx.2 k1
  refine ⟨F, G, F', G', h.c.but_ hb (fun x hx => out x (h.fo x hx)), h.r.but hb (fun x hx => out x (h.go x hx)), h.ap, fun x hx => ⟨(h.fo x hx).1, fun e => ?_⟩, fun x hx => ⟨(h.go x hx).1, fun e => ?_⟩, hl, Nat.le_trans h.bl hb.size⟩
  · rcases ho x e with k1 | k1
    · exact (h.fo x hx).2 k1
    · have := h.ltC x hx; omega
  · rcases ho x e with k1 | k1
    · exact (h.go x hx).2 k1
    · have := h.ltR x hx; omega
theorem SPair.below (h : SPair base O w gd gm sb mb f k m r) (hb : Below w.heap.size w w') : SPair base O w' gd gm sb mb f k m r :=
  h.turn (S := fun _ => False) (But.of_below hb) (fun _ e => e.elim) (fun _ hx => .inl hx) (fun x hx => Nat.lt_of_lt_of_le (h.ol x hx) hb.size)
theorem SPair.more (h : SPair base O w gd gm sb mb f k m r) (hb : Below w.heap.size w w') (ho : ∀ x, O' x → O x ∨ (w.heap.size ≤ x ∧ x < w'.heap.size)) : SPair base O' w' gd gm sb mb f k m r :=
  h.turn (S := fun _ => False) (But.of_below hb) (fun _ e => e.elim) (fun x hx => (ho x hx).imp id (fun e => e.1)) (fun x hx => (ho x hx).elim (fun e => Nat.lt_of_lt_of_le (h.ol x e) hb.size) (fun e => e.2))
theorem DPair.ol (h : DPair base O w gd s gm s') : ∀ x, O x → x < w.heap.size := by obtain ⟨F, G, h⟩ := h; exact h.ol
theorem DPair.bl (h : DPair base O w gd s gm s') : base ≤ w.heap.size := by obtain ⟨F, G, h⟩ := h; exact h.bl
theorem DPair.turn {S : Nat → Prop} (h : DPair base O w gd s gm s') (hb : But S w w') (hs : ∀ x, S x → x < base ∨ O x) (ho : ∀ x, O' x → O x ∨ w.heap.size ≤ x) (hl : ∀ x, O' x → x < w'.heap.size) : DPair base O' w' gd s gm s' := by
  obtain ⟨F, G, h⟩ := h
  have out : ∀ x, Out base O x → ¬ S x := fun x hx e => by
    rcases hs x e with k1 | k1
    · have := hx.1; omega
    · exact hx.2 k1
  refine ⟨F, G, h.d.but hb (fun x hx => out x (h.fo x hx)), h.m.but hb (fun x hx => out x (h.go x hx)), h.apart, fun x hx => ⟨(h.fo x hx).1, fun e => ?_⟩, fun x hx => ⟨(h.go x hx).1, fun e => ?_⟩, hl, Nat.le_trans h.bl hb.size⟩
  · rcases ho x e with k1 | k1
    · exact (h.fo x hx).2 k1
    · have := disk_lt h.d x hx; omega
  · rcases ho x e with k1 | k1
    · exact (h.go x hx).2 k1
    · have := h.m.2.2.2 x hx; omega

/-- The code's store is opened, the document's not yet. -/
def Half (base : Nat) (O : Nat → Prop) (w : World) (gd gm sb f k : Nat) (m : Sm) (s : St) : Prop := ∃ F G F', Held_ w gd sb f k m F G ∧ RDisk w gm F' s ∧ (∀ x, F x ∨ G x → ¬ F' x) ∧ (∀ x, F x ∨ G x → Out base O x) ∧ (∀ x, F' x → Out base O x) ∧ (∀ x, O x → x < w.heap.size) ∧ base ≤ w.heap.size
end

/-- What Open answers, and leaves. -/
noncomputable def St.ocode (s : St) (f k : Nat) : Int := open Classical in if s.tooFar f k then 4 else (s.opens f k).1
noncomputable def St.onext (s : St) (f k : Nat) : St := open Classical in if s.tooFar f k then s else (s.opens f k).2

section
variable {base : Nat} {O : Nat → Prop} {w : World} {gd gm sb mb f k : Nat} {m r : Sm} {s : St}
theorem st_open_no {s' : St} (E : Errs) (hE : ∀ W, But (Out base O) w W → Laid W E) (h : DPair base O w gd s gm s') (h1 : 1 ≤ k) (hf : f + k ≤ s.sure.length) (hw : s.waits.length ≤ 800000) (hc : s.ocode f k ≠ 0) :
    Calls Tryz.prog 9 #[.pointer (some ⟨gd, 0, none⟩), .int .i64 (f : Int), .int .i64 (k : Int)] w fun e w' => e = .returned (.tuple #[.pointer none, .int .i64 (s.ocode f k)]) ∧ DPair base O w' gd (s.onext f k) gm s' ∧ But (Out base O) w w' := by
  refine h.callD (Q := fun e => e = .returned (.tuple #[.pointer none, .int .i64 (s.ocode f k)])) fun F G h => ?_
  refine (callsIn_wide.1 (open_go E (fun W hb => hE W (hb.mono (fun x _ e => h.fo x e))) h.d h1 hf hw)).mono ?_
  rintro e w' (⟨t, he, ha⟩ | ⟨t, hn, he, ha⟩ | ⟨t, hn, _⟩)
  · unfold St.ocode St.onext; rw [if_pos t, if_pos t]; exact ⟨he, ha⟩
  · unfold St.ocode St.onext; rw [if_neg t, if_neg t]; exact ⟨he, ha⟩
  · unfold St.ocode at hc; rw [if_neg t] at hc; exact absurd hn hc
theorem st_ropen_no {s' : St} (h : DPair base O w gd s' gm s) (h1 : 1 ≤ k) (hf : f + k ≤ s.sure.length) (hw : s.waits.length ≤ 800000) (hc : s.ocode f k ≠ 0) :
    Calls Tryz.prog 10 #[.pointer (some ⟨gm, 0, none⟩), .int .i64 (f : Int), .int .i64 (k : Int)] w fun e w' => e = .returned (.tuple #[.pointer none, .int .i64 (s.ocode f k)]) ∧ DPair base O w' gd s' gm (s.onext f k) ∧ But (Out base O) w w' := by
  refine h.callM (Q := fun e => e = .returned (.tuple #[.pointer none, .int .i64 (s.ocode f k)])) fun F G h => ?_
  refine (ropen_any h.m h1 hf hw).mono ?_
  rintro e w' (⟨t, he, ha⟩ | ⟨t, hn, he, ha⟩ | ⟨t, hn, _⟩)
  · unfold St.ocode St.onext; rw [if_pos t, if_pos t]; exact ⟨he, ha⟩
  · unfold St.ocode St.onext; rw [if_neg t, if_neg t]; exact ⟨he, ha⟩
  · unfold St.ocode at hc; rw [if_neg t] at hc; exact absurd hn hc
theorem st_open_yes {s' : St} (E : Errs) (hE : ∀ W, But (Out base O) w W → Laid W E) (h : DPair base O w gd s gm s') (h1 : 1 ≤ k) (hf : f + k ≤ s.sure.length) (hw : s.waits.length ≤ 800000) (hc : s.ocode f k = 0) :
    Calls Tryz.prog 9 #[.pointer (some ⟨gd, 0, none⟩), .int .i64 (f : Int), .int .i64 (k : Int)] w fun e w' => ∃ sb, e = .returned (.tuple #[.pointer (some ⟨sb, 0, none⟩), .int .i64 0]) ∧ Half base O w' gd gm sb f k ⟨(s.opens f k).2, s.foundIn f k, false⟩ s' ∧ But (Out base O) w w' := by
  obtain ⟨F, G, h⟩ := h
  refine (callsIn_wide.1 (open_go E (fun W hb => hE W (hb.mono (fun x _ e => h.fo x e))) h.d h1 hf hw)).mono ?_
  rintro e w' (⟨t, _⟩ | ⟨t, hn, _⟩ | ⟨t, hn, sb, F1, G1, he, hh, hb, hf1, hg1⟩)
  · unfold St.ocode at hc; rw [if_pos t] at hc; exact absurd hc (by decide)
  · unfold St.ocode at hc; rw [if_neg t] at hc; exact absurd hc hn
  · have hn2 : ∀ x, F1 x ∨ G1 x → F x ∨ w.heap.size ≤ x := fun x hx => hx.elim (hf1 x) (fun e => .inr (hg1 x e))
    refine ⟨sb, he, ⟨F1, G1, G, hh, h.m.but hb (fun x hx e => h.apart x e hx), fun x hx e => ?_, fun x hx => ?_, h.go, fun x hx => Nat.lt_of_lt_of_le (h.ol x hx) hb.size, Nat.le_trans h.bl hb.size⟩, hb.mono (fun x _ e => h.fo x e)⟩
    · rcases hn2 x hx with k1 | k1
      · exact h.apart x k1 e
      · have := h.m.2.2.2 x e; omega
    · rcases hn2 x hx with k1 | k1
      · exact h.fo x k1
      · exact ⟨Nat.le_trans h.bl k1, fun ho => by have := h.ol x ho; omega⟩
theorem st_ropen_yes (h : Half base O w gd gm sb f k m s) (h1 : 1 ≤ k) (hf : f + k ≤ s.sure.length) (hw : s.waits.length ≤ 800000) (hc : s.ocode f k = 0) :
    Calls Tryz.prog 10 #[.pointer (some ⟨gm, 0, none⟩), .int .i64 (f : Int), .int .i64 (k : Int)] w fun e w' => ∃ mb, e = .returned (.tuple #[.pointer (some ⟨mb, 0, none⟩), .int .i64 0]) ∧ SPair base O w' gd gm sb mb f k m ⟨(s.opens f k).2, s.foundIn f k, false⟩ ∧ But (Out base O) w w' := by
  obtain ⟨F, G, F', hc', hr, hap, hfo, hgo, hol, hbl⟩ := h
  have hlt : ∀ x, F x ∨ G x → x < w.heap.size := fun x hx => hx.elim (hc'.d.2.2 x) (hc'.s.2 x)
  refine (ropen_any hr h1 hf hw).mono ?_
  rintro e w' (⟨t, _⟩ | ⟨t, hn, _⟩ | ⟨t, hn, mb, F1, G1, he, hh, hb, hf1, hg1⟩)
  · unfold St.ocode at hc; rw [if_pos t] at hc; exact absurd hc (by decide)
  · unfold St.ocode at hc; rw [if_neg t] at hc; exact absurd hc hn
  · have hn2 : ∀ x, F1 x ∨ G1 x → F' x ∨ w.heap.size ≤ x := fun x hx => hx.elim (hf1 x) (fun e => .inr (hg1 x e))
    refine ⟨mb, he, ⟨F, G, F1, G1, hc'.but_ hb (fun x hx e => hap x hx e), hh, fun x hx e => ?_, hfo, fun x hx => ?_, fun x hx => Nat.lt_of_lt_of_le (hol x hx) hb.size, Nat.le_trans hbl hb.size⟩, hb.mono (fun x _ e => hgo x e)⟩
    · rcases hn2 x e with k1 | k1
      · exact hap x hx k1
      · have := hlt x hx; omega
    · rcases hn2 x hx with k1 | k1
      · exact hgo x k1
      · exact ⟨Nat.le_trans hbl k1, fun ho => by have := hol x ho; omega⟩
end

end Go.Proofs.YthbgcijkpincfaaGreatDoor

/-
  What an act on a store leaves: how much waits, how long the disk is, which codes.
-/
namespace Go.Proofs.YthbgcijkpincfaaGreatDoor
open Go.RowKit

theorem sc_codes (s : St) : s.sc = 0 ∨ s.sc = 9 := by unfold St.sc; split <;> simp
/-- A step leaves the disk as long, at most five more writes wait, and answers 0 or 9. -/
def StepOk (c : St → Int × St) : Prop := ∀ s, ((c s).1 = 0 ∨ (c s).1 = 9) ∧ (c s).2.sure.length = s.sure.length ∧ (c s).2.waits.length ≤ s.waits.length + 5
theorem runs_ok {cs : List (St → Int × St)} (h : ∀ c ∈ cs, StepOk c) (s : St) : ((runs cs s).1 = 0 ∨ (runs cs s).1 = 9) ∧ (runs cs s).2.sure.length = s.sure.length ∧ (runs cs s).2.waits.length ≤ s.waits.length + 5 * cs.length := by
  induction cs generalizing s with
  | nil => exact ⟨.inl rfl, rfl, Nat.le_refl _⟩
  | cons c cs ih =>
    obtain ⟨h1, h2, h3⟩ := h c (by simp) s
    have e := runs_append [c] cs s
    rw [runs_one] at e
    rw [show c :: cs = [c] ++ cs from rfl, e]
    by_cases h0 : (c s).1 = 0
    · rw [if_pos h0]
      obtain ⟨k1, k2, k3⟩ := ih (fun c hc => h c (List.mem_cons_of_mem _ hc)) (c s).2
      exact ⟨k1, k2.trans h2, by rw [List.length_append, List.length_singleton]; omega⟩
    · rw [if_neg h0]
      exact ⟨h1, h2, by rw [List.length_append, List.length_singleton]; omega⟩
theorem puts_code (s : St) (k : Nat) (L : List (List Nat)) : (s.puts k L).1 = 0 ∨ (s.puts k L).1 = 9 := by
  induction L generalizing s k with
  | nil => exact .inl rfl
  | cons x L ih =>
    rw [St.puts]
    split
    · exact .inr rfl
    · exact ih _ _
theorem stepS_ok : StepOk stepS := fun s => ⟨sc_codes s, (stepS_q s).1, (stepS_q s).2⟩
theorem stepW_ok (k : Nat) (x : List Nat) : StepOk (stepW k x) := fun s => ⟨sc_codes s, (stepW_q k x s).1, (stepW_q k x s).2⟩
theorem stepO_ok (k : Nat) (L : List (List Nat)) (hL : L.length ≤ 5) : StepOk (stepO k L) := fun s => ⟨puts_code s k L, (stepO_q k L hL s).1, (stepO_q k L hL s).2⟩

theorem wipes_ok (s : St) (f : Nat) (L : List Nat) : ((s.wipes f L).1 = 0 ∨ (s.wipes f L).1 = 9) ∧ (s.wipes f L).2.sure.length = s.sure.length ∧ ((s.wipes f L).1 = 0 → (s.wipes f L).2.waits = []) := by
  have hs : ∀ c ∈ wipeSteps f L, StepOk c := fun c hc => by
    obtain ⟨n, _, rfl⟩ := List.mem_map.1 hc
    exact stepW_ok _ _
  obtain ⟨h1, h2, _⟩ := runs_ok (cs := wipeSteps f L ++ [stepS]) (fun c hc => (List.mem_append.1 hc).elim (hs c) (fun e => by rw [List.mem_singleton.1 e]; exact stepS_ok)) s
  refine ⟨h1, h2, fun h0 => ?_⟩
  by_cases hr : (runs (wipeSteps f L) s).1 = 0
  · rw [opens_end hr] at h0 ⊢
    have h0 : (runs (wipeSteps f L) s).2.sc = 0 := h0
    show (runs (wipeSteps f L) s).2.sn.waits = []
    unfold St.sc at h0
    unfold St.sn
    by_cases hl : (runs (wipeSteps f L) s).2.lets = 0
    · rw [if_pos hl] at h0; exact absurd h0 (by decide)
    · rw [if_neg hl]; rfl
  · unfold St.wipes at h0
    rw [runs_append, if_neg hr] at h0
    exact absurd h0 hr
theorem opens_ok {s : St} {f k : Nat} (h : s.ocode f k = 0) : (s.opens f k).2.waits = [] := by
  unfold St.ocode at h
  split at h
  · exact absurd h (by decide)
  · exact (wipes_ok _ _ _).2.2 h
theorem addSteps_ok (k : Nat) (L : List (List Nat)) (hL : L.length ≤ 5) : (∀ c ∈ addSteps k L, StepOk c) ∧ (addSteps k L).length ≤ 4 := by
  unfold addSteps
  split
  · refine ⟨fun c hc => ?_, by simp⟩
    simp at hc
    rcases hc with rfl | rfl
    · exact stepS_ok
    · exact stepW_ok _ _
  · refine ⟨fun c hc => ?_, by simp⟩
    simp at hc
    rcases hc with rfl | rfl | rfl | rfl
    · exact stepS_ok
    · exact stepO_ok _ _ (by rw [List.length_tail]; omega)
    · exact stepS_ok
    · exact stepW_ok _ _
theorem secs_five {n : Nat} (h : n ≤ 256) : secs n ≤ 5 := by unfold secs; omega
/-- Add: it answers ErrState, or the store is up; at most 20 more writes wait. -/
theorem add_ok (s : St) (l : List (List Nat)) (f k : Nat) (xs : List Nat) : ((Sm.add ⟨s, l, false⟩ f k xs).1 = 9 ∨ (Sm.add ⟨s, l, false⟩ f k xs).2.down = false) ∧ (Sm.add ⟨s, l, false⟩ f k xs).2.st.waits.length ≤ s.waits.length + 20 ∧ (Sm.add ⟨s, l, false⟩ f k xs).2.st.sure.length = s.sure.length := by
  unfold Sm.add
  by_cases h1 : 256 < xs.length
  · rw [if_pos h1]; exact ⟨.inr rfl, by show s.waits.length ≤ _; omega, rfl⟩
  rw [if_neg h1]
  by_cases h2 : k - usedL l < secs xs.length
  · rw [if_pos h2]; exact ⟨.inr rfl, by show s.waits.length ≤ _; omega, rfl⟩
  rw [if_neg h2, if_neg (by simp)]
  have h5 : (fsecs (l.length + 1) xs).length ≤ 5 := by rw [fsecs_length]; exact secs_five (by omega)
  obtain ⟨ha, hb⟩ := addSteps_ok (f + usedL l) _ h5
  obtain ⟨k1, k2, k3⟩ := runs_ok ha s
  by_cases h0 : (runs (addSteps (f + usedL l) (fsecs (l.length + 1) xs)) s).1 = 0
  · simp only [if_pos h0]
    exact ⟨.inr trivial, by omega, k2⟩
  · simp only [if_neg h0]
    exact ⟨.inl (k1.resolve_left h0), by omega, k2⟩
theorem sync_ok (s : St) (l : List (List Nat)) : ((Sm.sync ⟨s, l, false⟩).1 = 9 ∨ (Sm.sync ⟨s, l, false⟩).2.down = false) ∧ (Sm.sync ⟨s, l, false⟩).2.st.waits.length ≤ s.waits.length ∧ (Sm.sync ⟨s, l, false⟩).2.st.sure.length = s.sure.length := by
  unfold Sm.sync
  rw [if_neg (by simp)]
  refine ⟨?_, s.sn_waits, by show s.sn.sure.length = _; exact s.sn_sure⟩
  rcases sc_codes s with h | h
  · exact .inr (by show decide (s.sc ≠ 0) = false; rw [h]; rfl)
  · exact .inl h
theorem wnext_sure (s : St) (z : Int) (n : Nat) (ys : List Nat) : (s.wnext z n ys).sure.length = s.sure.length := by
  unfold St.wnext
  split
  · split
    · rw [St.burnt_sure]
    · rw [St.wrote_sure]
  · rfl
theorem wnext_le (s : St) (z : Int) (n : Nat) (ys : List Nat) : (s.wnext z n ys).waits.length ≤ s.waits.length + 1 := by
  unfold St.wnext
  split
  · split
    · rw [St.burnt_waits]; omega
    · show (s.waits ++ [_]).length ≤ _; rw [List.length_append]; exact Nat.le_refl _
  · omega
theorem tnext_le (s : St) (z t : Int) (y : Nat) : (s.tnext z t y).waits.length ≤ s.waits.length := by
  unfold St.tnext
  split
  · split
    · omega
    · exact Nat.zero_le _
  · omega
theorem tnext_sure (s : St) (z t : Int) (y : Nat) : (s.tnext z t y).sure.length = s.sure.length := by
  unfold St.tnext
  split
  · split
    · rfl
    · show (s.turned z.toNat t.toNat y).sure.length = _
      unfold St.turned
      simp [St.read_length]
  · rfl
theorem fnext_sure (s : St) (z : Int) : (s.fnext z).sure.length = s.sure.length := rfl
theorem fnext_waits (s : St) (z : Int) : (s.fnext z).waits = s.waits := rfl

end Go.Proofs.YthbgcijkpincfaaGreatDoor

/-
  SameBytes.
-/
namespace Go.Proofs.YthbgcijkpincfaaGreatDoor
open Go.RowKit

set_option maxRecDepth 100000 in
set_option maxHeartbeats 400000 in
theorem sameBytes_yes (A A2 : Option Addr) (n c c2 : Nat) (xs : List Nat) (w : World) (hin : In w A n xs) (hin2 : In w A2 n xs) (hn : n ≤ 200000000000000) :
    Calls Tryz.prog 34 #[.slice A n c, .slice A2 n c2] w fun e w' => e = .returned (.bool true) ∧ ∃ q, w' = w.drewN q := by
  have dn : ((n : Int) != (n : Int)) = false := by simp
  go_enter Tryz.func34, Tryz.ntmps34
  go_wp2
  go_loopw [5] (fun i wr => ∃ j : Nat, j ≤ n ∧ i = .int .i64 (j : Int) ∧ ∃ q, wr = w.drewN q) (fun i _ => n - (intOf i).toNat)
  case atStart => exact ⟨0, Nat.zero_le _, rfl, 0, rfl⟩
  case round =>
    obtain ⟨j, hj, rfl, q, rfl⟩ := hrel
    by_cases hlt : j < n
    · obtain ⟨ad, x, rfl, hx, hc1⟩ := hin.at_ hlt
      obtain ⟨ad2, x2, rfl, hx2, hc2⟩ := hin2.at_ hlt
      obtain rfl : x2 = x := by rw [hx] at hx2; injection hx2 with h; exact h.symm
      clear hx hx2
      have i1 : (j : Int) < (n : Int) := by omega
      go_wp2
      go_quiet (fail)
      rw [World.drewN_drewN]
      go_wp2
      go_roundw
      case rel => exact ⟨j + 1, by omega, by go_num, q + nq, rfl⟩
      case measure => simp [intOf]; omega
    · go_wp2
      go_ret
      exact ⟨rfl, q, rfl⟩

end Go.Proofs.YthbgcijkpincfaaGreatDoor

/-
  law07's same: both disks stand alike.
-/
namespace Go.Proofs.YthbgcijkpincfaaGreatDoor
open Go.RowKit

set_option maxRecDepth 100000 in
set_option maxHeartbeats 2000000 in
theorem same_any {w : World} {gd gm : Nat} {F F' : Nat → Prop} {s : St} (hd : Disk w gd F s) (hm : RDisk w gm F' s) :
    Calls Tryz.prog 24 #[.pointer (some ⟨gd, 0, none⟩), .pointer (some ⟨gm, 0, none⟩)] w fun e w' => e = .returned (.bool true) ∧ Below w.heap.size w w' := by
  have hN := hd.1.le
  obtain ⟨N, hn⟩ : ∃ N, s.sure.length = N := ⟨_, rfl⟩
  rw [hn] at hN
  have CL := Lib.hid (fun (W : World) (hb : Below w.heap.size w W) => len_any (hd.below hb))
  have CR := Lib.hid (fun (W : World) (hb : Below w.heap.size w W) => rlen_any (hm.below hb))
  rw [hn] at CL CR
  have CW := Lib.hid (fun (W : World) (hb : Below w.heap.size w W) => waits_any (hd.below hb))
  have CV := Lib.hid (fun (W : World) (hb : Below w.heap.size w W) => rwaits_any (hm.below hb))
  have CB := Lib.hid (fun (W : World) (hb : Below w.heap.size w W) => blown_any (hd.below hb))
  have CC := Lib.hid (fun (W : World) (hb : Below w.heap.size w W) => rblown_any (hm.below hb))
  obtain ⟨m, hmw⟩ : ∃ m, s.waits.length = m := ⟨_, rfl⟩
  obtain ⟨b, hbl⟩ : ∃ b, s.blown = b := ⟨_, rfl⟩
  rw [hmw] at CW CV
  rw [hbl] at CB CC
  have HX : Hid (∀ k, k < N → ∃ xs, s.read[k]? = some xs) := fun k hk => ⟨_, List.getElem?_eq_getElem (by rw [s.read_length, hn]; exact hk)⟩
  have HD := Lib.hid (And.intro hd hm)
  clear hd hm hn hmw hbl
  go_enter Tryz.func24, Tryz.ntmps24
  go_wp2_with fail
  go_loopw [5] (fun i wr => ∃ j : Nat, j ≤ N ∧ i = .int .i64 (j : Int) ∧ Below w.heap.size w wr) (fun i _ => N - (intOf i).toNat)
  case atStart => exact ⟨0, Nat.zero_le _, rfl, Below.refl _ _⟩
  case round =>
    obtain ⟨j, hj, rfl, hb⟩ := hrel
    have HB := Lib.hid hb
    clear hb
    by_cases hlt : j < N
    · have hji : (j : Int) < (N : Int) := by omega
      obtain ⟨xs, hxs⟩ := HX.out j hlt
      have HXS := Lib.hid hxs
      clear hxs
      go_wp2_with fail
      refine (CR.out wr HB.out).mono ?_
      rintro e _ ⟨rfl, rfl⟩
      go_wp2_with fail
      refine (read_any HXS.out (HD.out.1.below HB.out)).mono ?_
      rintro e w1 ⟨rfl, ho1, hb1⟩
      have HB1 : Hid (Below w.heap.size w w1) := below_on HB.out (Nat.le_refl _) hb1
      have HO1 : Hid (In w1 (some ⟨wr.heap.size, 0, none⟩) 64 xs) := ⟨(HD.out.1.1.read xs (List.mem_of_getElem? HXS.out)).1, fun i x hx => ⟨_, rfl, ho1.at_ i x hx⟩⟩
      clear ho1 hb1
      go_wp2_with fail
      refine (rread_any HXS.out (HD.out.2.below HB1.out)).mono ?_
      rintro e w2 ⟨A2, k2, rfl, hi2, hb2⟩
      have HB2 : Hid (Below w.heap.size w w2) := below_on HB1.out (Nat.le_refl _) hb2
      have CS := Lib.hid (sameBytes_yes (some ⟨wr.heap.size, 0, none⟩) A2 64 64 k2 xs w2 (HO1.out.below hb2) hi2 (by omega))
      clear hi2 hb2
      go_wp2_with fail
      refine CS.out.mono ?_
      rintro e _ ⟨rfl, q, rfl⟩
      go_wp2
      go_roundw
      case rel => exact ⟨j + 1, by omega, by go_num, HB2.out.trans ((⟨rfl, rfl, rfl, Nat.le_refl _, fun _ _ => rfl⟩ : Below w2.heap.size w2 (w2.drewN q)).mono HB2.out.size)⟩
      case measure => simp [intOf]; omega
    · obtain rfl : j = N := by omega
      have hji : ¬ (j : Int) < (j : Int) := by omega
      go_wp2_with fail
      refine (CR.out wr HB.out).mono ?_
      rintro e _ ⟨rfl, rfl⟩
      go_wp2_with fail
      refine (CL.out wr HB.out).mono ?_
      rintro e _ ⟨rfl, rfl⟩
      go_wp2_with fail
      refine (CR.out wr HB.out).mono ?_
      rintro e _ ⟨rfl, rfl⟩
      go_wp2_with fail
      refine (CW.out wr HB.out).mono ?_
      rintro e _ ⟨rfl, rfl⟩
      go_wp2_with fail
      refine (CV.out wr HB.out).mono ?_
      rintro e _ ⟨rfl, rfl⟩
      go_wp2_with fail
      refine (CB.out wr HB.out).mono ?_
      rintro e _ ⟨rfl, rfl⟩
      go_wp2_with fail
      refine (CC.out wr HB.out).mono ?_
      rintro e _ ⟨rfl, rfl⟩
      go_wp2
      go_ret
      exact ⟨by simp, HB.out⟩

end Go.Proofs.YthbgcijkpincfaaGreatDoor

/-
  The Book of the statements: what it is in memory.
-/
namespace Go.Proofs.YthbgcijkpincfaaGreatDoor
open Go.RowKit

/-- Block kb is a Book that has counted N lists: bs is its row of lists of bytes, ss that of lists of sums; it has no other. -/
def BookAt (w : World) (kb N : Nat) (bs ss : Value) : Prop :=
  w.heap[kb]? = some (.cells #[.int .i64 (N : Int), bs, .slice none 0 0, .slice none 0 0, .slice none 0 0, ss, .slice none 0 0, .slice none 0 0, .slice none 0 0, .slice none 0 0] 49 (0, 0))

theorem BookAt.lt {w : World} {kb N : Nat} {bs ss : Value} (h : BookAt w kb N bs ss) : kb < w.heap.size := (Array.getElem?_eq_some_iff.1 h).1
theorem BookAt.n {w : World} {kb N : Nat} {bs ss : Value} (h : BookAt w kb N bs ss) : w.cell? ⟨kb, 0, none⟩ = some (.int .i64 (N : Int)) := by rw [cell_of_row _ kb 0 _ _ (0, 0) h]; rfl
theorem BookAt.b {w : World} {kb N : Nat} {bs ss : Value} (h : BookAt w kb N bs ss) : w.cell? ⟨kb, 1, none⟩ = some bs := by rw [cell_of_row _ kb 1 _ _ (0, 0) h]; rfl
theorem BookAt.s {w : World} {kb N : Nat} {bs ss : Value} (h : BookAt w kb N bs ss) : w.cell? ⟨kb, 5, none⟩ = some ss := by rw [cell_of_row _ kb 5 _ _ (0, 0) h]; rfl
theorem BookAt.fz {w : World} {kb N : Nat} {bs ss : Value} (h : BookAt w kb N bs ss) (i : Nat) : w.frozen? ⟨kb, i, none⟩ = false := frozen_of_row _ kb i _ _ h
theorem BookAt.other {w : World} {kb N : Nat} {bs ss : Value} (h : BookAt w kb N bs ss) {base : Nat} {e : TypeId} {size n : Nat} {v : Value} {xs : List Value} (he : e ≠ 49) (ho : w.ownsRow base e size v n xs) : v.ownBlock ≠ some kb := by
  rcases ho.2 with ⟨rfl, _⟩ | ⟨g, cap, cur, rfl, _, hg, _⟩
  · simp [Value.ownBlock]
  · intro e'
    obtain rfl : g = kb := by simpa [Value.ownBlock] using e'
    have := (show w.heap[g]? = _ from h).symm.trans hg
    simp at this
    exact he this.2.symm
theorem BookAt.grown {w w' : World} {kb N : Nat} {bs ss : Value} {row : Option Nat} (h : BookAt w kb N bs ss) (hg : w.grownBy w' row) (hne : row ≠ some kb) : BookAt w' kb N bs ss := (hg.block kb h.lt hne.symm).trans h
theorem BookAt.below {w w' : World} {kb N : Nat} {bs ss : Value} (h : BookAt w kb N bs ss) (hb : Below w.heap.size w w') : BookAt w' kb N bs ss := (hb.block kb h.lt).trans h

theorem BookAt.setN {w : World} {kb N : Nat} {bs ss : Value} (h : BookAt w kb N bs ss) (M : Nat) : BookAt (w.setCell ⟨kb, 0, none⟩ (.int .i64 (M : Int))) kb M bs ss := by
  have := heap_setCell_same w kb 0 _ _ (.int .i64 (M : Int)) h
  exact this
theorem BookAt.setB {w : World} {kb N : Nat} {bs ss : Value} (h : BookAt w kb N bs ss) (v : Value) : BookAt (w.setCell ⟨kb, 1, none⟩ v) kb N v ss := by
  have := heap_setCell_same w kb 1 _ _ v h
  exact this
theorem BookAt.setS {w : World} {kb N : Nat} {bs ss : Value} (h : BookAt w kb N bs ss) (v : Value) : BookAt (w.setCell ⟨kb, 5, none⟩ v) kb N bs v := by
  have := heap_setCell_same w kb 5 _ _ v h
  exact this
theorem grown_set (w : World) (b i : Nat) (v : Value) : w.grownBy (w.setCell ⟨b, i, none⟩ v) (some b) :=
  ⟨rfl, rfl, rfl, by simp [World.setCell], fun k _ hk => Below.heap_setCell _ _ _ k (fun e => hk (by rw [e]))⟩

theorem infoHeldByte : (Tryz.prog.info? 187).map (fun i => (i.zero, i.size, i.bytes)) = some (some (.agg #[.slice none 0 0, .slice none 0 0, .int .i64 0]), 3, 56) := by kernel_rfl

end Go.Proofs.YthbgcijkpincfaaGreatDoor

/-
  The Book of the statements: which lists it keeps.
-/
namespace Go.Proofs.YthbgcijkpincfaaGreatDoor
open Go.RowKit

set_option maxRecDepth 100000 in
set_option maxHeartbeats 1000000 in
theorem keepByte_at (kb N base k : Nat) (bs ss : Value) (es : List Value) (A : Option Addr) (n c : Nat) (w : World) (hbk : BookAt w kb N bs ss) (hbase : base ≤ w.heap.size)
    (hown : w.ownsRow base 187 3 bs k es) (hN : N ≤ 1000000) (hk : k ≤ 1000000) :
    Calls Tryz.prog 128 #[.pointer (some ⟨kb, 0, none⟩), .slice A n c] w fun e w' => e = .returned (.tuple #[]) ∧
      (∃ bs', BookAt w' kb (N + 1) bs' ss ∧ w'.ownsRow base 187 3 bs' (k + 1) (es ++ [.slice A n c, .slice none 0 0, .int .i64 ((N + 1 : Nat) : Int)]) ∧ ∀ b, bs'.ownBlock = some b → bs.ownBlock = some b ∨ w.heap.size ≤ b) ∧ But (fun b => b = kb ∨ bs.ownBlock = some b) w w' := by
  obtain ⟨i0, hi0, hz0, hz1, hz2⟩ := info_parts infoHeldByte
  have h0 := hbk.n
  have h1 := hbk.b
  have f0 := hbk.fz 0
  have f1 := hbk.fz 1
  go_enter Tryz.func128, Tryz.ntmps128
  go_wp2_with fail
  have hbk1 := hbk.setN (N + 1)
  have hown1 := hown.kept (grown_set w kb 0 (.int .i64 ((N + 1 : Nat) : Int))) (.inr (hbk.other (by decide) hown))
  have hB1 : But (fun b => b = kb ∨ bs.ownBlock = some b) w (w.setCell ⟨kb, 0, none⟩ (.int .i64 ((N + 1 : Nat) : Int))) := (But.refl _ w).set 0 _ (fun _ => .inl rfl)
  have hbase1 : base ≤ (w.setCell ⟨kb, 0, none⟩ (.int .i64 ((N + 1 : Nat) : Int))).heap.size := by simpa [World.setCell] using hbase
  have hsz1 : w.heap.size ≤ (w.setCell ⟨kb, 0, none⟩ (.int .i64 ((N + 1 : Nat) : Int))).heap.size := by simp [World.setCell]
  rw [show ((N + 1 : Nat) : Int) = (N : Int) + 1 by omega] at hbk1 hown1 hbase1 hB1 hsz1
  generalize w.setCell ⟨kb, 0, none⟩ (.int .i64 ((N : Int) + 1)) = w1 at *
  clear h0 h1 f0 f1 hbk hown hbase
  have h0 := hbk1.n
  have h1 := hbk1.b
  rw [show ((N + 1 : Nat) : Int) = (N : Int) + 1 by omega] at h0
  have lk := hbk1.lt
  have ag := hbk1.other (by decide) hown1
  go_region_law
    ((refine step_append_lies _ (by rfl) _ _ _ (by rfl) base 187 i0 _ 3 56 Tryz.underlying39 hi0 hz0 hz1 hz2 rfl (by omega) bs k es (by rfl) ((hown1.alloc _).drew)
        ⟨w1.heap.size, 0, none⟩ 1 1 [.slice A n c, .slice none 0 0, .int .i64 ((N : Int) + 1)] (by rfl) (by rfl) (World.news_of_block (cs := #[.slice A n c, .slice none 0 0, .int .i64 ((N : Int) + 1)]) (t := 187) (fr := (0, 0)) (heap_alloc_new w1 _)) (by simp [Value.oneCell'])
        (by omega) (by unfold maxLen; omega) (by omega) (by simp; omega) (w1.heap.size + 1) (by simp) ?_; intro gg cap w2 hown2 hgrow hat hlt; have hbk2 := BookAt.grown (hbk1.below (below_alloc w1 (.cells #[.slice A n c, .slice none 0 0, .int .i64 ((N : Int) + 1)] 187)).drew) hgrow ag; have hc2 := hbk2.b; have hf2 := hbk2.fz 1))
  all_goals
    have hown3 := hown2.kept (grown_set w2 kb 1 (.slice (some ⟨gg, 0, none⟩) (k + 1) cap)) (.inr (hbk2.other (by decide) hown2))
    have hB3 : But (fun b => b = kb ∨ bs.ownBlock = some b) w (w2.setCell ⟨kb, 1, none⟩ (.slice (some ⟨gg, 0, none⟩) (k + 1) cap)) :=
      (((hB1.alloc _).drew).grown hgrow (fun _ e _ => .inr e)).set 1 _ (fun _ => .inl rfl)
    go_end0
    exact ⟨rfl, ⟨_, hbk2.setB _, hown3, fun b hb => by
      have e : gg = b := by injection hb
      rcases hat with h | h
      · exact .inl (e ▸ h)
      · right; omega⟩, hB3⟩

theorem keepByte_any (kb N base k : Nat) (bs ss : Value) (es : List Value) (A : Option Addr) (n c : Nat) (w : World) (hbk : BookAt w kb N bs ss) (hbase : base ≤ w.heap.size)
    (hown : w.ownsRow base 187 3 bs k es) (hN : N ≤ 1000000) (hk : k ≤ 1000000) :
    Calls Tryz.prog 128 #[.pointer (some ⟨kb, 0, none⟩), .slice A n c] w fun e w' => e = .returned (.tuple #[]) ∧
      (∃ bs', BookAt w' kb (N + 1) bs' ss ∧ w'.ownsRow base 187 3 bs' (k + 1) (es ++ [.slice A n c, .slice none 0 0, .int .i64 ((N + 1 : Nat) : Int)])) ∧ But (fun b => b = kb ∨ bs.ownBlock = some b) w w' :=
  (keepByte_at kb N base k bs ss es A n c w hbk hbase hown hN hk).mono fun _ _ ⟨h1, ⟨bs', h2, h3, _⟩, h4⟩ => ⟨h1, ⟨bs', h2, h3⟩, h4⟩

set_option maxRecDepth 100000 in
set_option maxHeartbeats 400000 in
theorem bookBytes_at (kb N base k : Nat) (bs ss : Value) (es : List Value) (A : Option Addr) (n c : Nat) (w : World) (hbk : BookAt w kb N bs ss) (hbase : base ≤ w.heap.size)
    (hown : w.ownsRow base 187 3 bs k es) (hN : N ≤ 1000000) (hk : k ≤ 1000000) :
    Calls Tryz.prog 31 #[.pointer (some ⟨kb, 0, none⟩), .slice A n c] w fun e w' => e = .returned (.tuple #[]) ∧
      (∃ bs', BookAt w' kb (N + 1) bs' ss ∧ w'.ownsRow base 187 3 bs' (k + 1) (es ++ [.slice A n c, .slice none 0 0, .int .i64 ((N + 1 : Nat) : Int)]) ∧ ∀ b, bs'.ownBlock = some b → bs.ownBlock = some b ∨ w.heap.size ≤ b) ∧ But (fun b => b = kb ∨ bs.ownBlock = some b) w w' := by
  go_enter Tryz.func31, Tryz.ntmps31
  go_wp2_with fail
  refine (keepByte_at kb N base k bs ss es A n c w hbk hbase hown hN hk).mono ?_
  rintro e w1 ⟨rfl, h1, h2⟩
  go_wp2_with fail
  go_end0
  exact ⟨rfl, h1, h2⟩

theorem bookBytes_any (kb N base k : Nat) (bs ss : Value) (es : List Value) (A : Option Addr) (n c : Nat) (w : World) (hbk : BookAt w kb N bs ss) (hbase : base ≤ w.heap.size)
    (hown : w.ownsRow base 187 3 bs k es) (hN : N ≤ 1000000) (hk : k ≤ 1000000) :
    Calls Tryz.prog 31 #[.pointer (some ⟨kb, 0, none⟩), .slice A n c] w fun e w' => e = .returned (.tuple #[]) ∧
      (∃ bs', BookAt w' kb (N + 1) bs' ss ∧ w'.ownsRow base 187 3 bs' (k + 1) (es ++ [.slice A n c, .slice none 0 0, .int .i64 ((N + 1 : Nat) : Int)])) ∧ But (fun b => b = kb ∨ bs.ownBlock = some b) w w' :=
  (bookBytes_at kb N base k bs ss es A n c w hbk hbase hown hN hk).mono fun _ _ ⟨h1, ⟨bs', h2, h3, _⟩, h4⟩ => ⟨h1, ⟨bs', h2, h3⟩, h4⟩

end Go.Proofs.YthbgcijkpincfaaGreatDoor

/-
  The Book of the statements: a list of bytes may lie in a disk's sector.
-/
namespace Go.Proofs.YthbgcijkpincfaaGreatDoor
open Go.RowKit

/-- Rows of unlike element types lie in unlike blocks. -/
theorem rows_ne {w : World} {b1 b2 : Nat} {e1 e2 : TypeId} {s1 s2 n1 n2 : Nat} {v1 v2 : Value} {x1 x2 : List Value} (he : e1 ≠ e2) (h1 : w.ownsRow b1 e1 s1 v1 n1 x1) (h2 : w.ownsRow b2 e2 s2 v2 n2 x2) : v1.ownBlock = none ∨ v1.ownBlock ≠ v2.ownBlock := by
  rcases h1.2 with ⟨rfl, _⟩ | ⟨g, cap, cur, rfl, _, hg, _⟩
  · left; rfl
  · right
    rcases h2.2 with ⟨rfl, _⟩ | ⟨g2, cap2, cur2, rfl, _, hg2, _⟩
    · simp [Value.ownBlock]
    · simp only [Value.ownBlock]
      intro e
      injection e with e
      have e : g = g2 := e
      subst e
      rw [hg] at hg2
      simp at hg2
      exact he hg2.2
theorem own_kept_but {S : Nat → Prop} {w w' : World} {base : Nat} {e : TypeId} {size n : Nat} {v : Value} {xs : List Value} (h : w.ownsRow base e size v n xs) (hb : But S w w') (hn : ∀ b, v.ownBlock = some b → ¬ S b) : w'.ownsRow base e size v n xs := by
  refine ⟨h.1, ?_⟩
  rcases h.2 with hn' | ⟨g, cap, cur, rfl, hbb, hgg, rest⟩
  · exact .inl hn'
  · exact .inr ⟨g, cap, cur, rfl, hbb, (hb.block g (Array.getElem?_eq_some_iff.1 hgg).1 (hn g rfl)).trans hgg, rest⟩
theorem BookAt.but {S : Nat → Prop} {w w' : World} {kb N : Nat} {bs ss : Value} (h : BookAt w kb N bs ss) (hb : But S w w') (hn : ¬ S kb) : BookAt w' kb N bs ss := (hb.block kb h.lt hn).trans h
theorem own_form3 {w : World} {base : Nat} {e : TypeId} {size n : Nat} {v : Value} {xs : List Value} (h : w.ownsRow base e size v n xs) : ∃ A c, v = .slice A n c := by
  rcases h.2 with ⟨rfl, rfl⟩ | ⟨g, cap, cur, rfl, _⟩
  · exact ⟨_, _, rfl⟩
  · exact ⟨_, _, rfl⟩
theorem own_set1 {w : World} {base g len cap k : Nat} {xs : List Value} {u : Value} {eL : TypeId} (h : w.ownsRow base eL 1 (.slice (some ⟨g, 0, none⟩) len cap) len xs) (hk : k < len) (ht : xs.take k = List.replicate k u) :
    ∃ ys, (w.setCell ⟨g, k, none⟩ u).ownsRow base eL 1 (.slice (some ⟨g, 0, none⟩) len cap) len ys ∧ ys.take (k + 1) = List.replicate (k + 1) u := by
  rcases h.2 with ⟨e, _⟩ | ⟨g', cap', cur, e, hb, hg, hle, hm, hs, htk⟩
  · cases e
  · cases e
    have hl := h.1
    refine ⟨xs.set k u, ⟨by simpa using hl, .inr ⟨g, cap, cur.setIfInBounds k u, rfl, hb, heap_setCell_same w g k cur _ u hg, hle, hm, by simp [hs], ?_⟩⟩, ?_⟩
    · rw [Array.toList_setIfInBounds, List.take_set, htk]
    · have e1 : (xs.set k u).take k = xs.take k := by rw [List.take_set, List.set_eq_of_length_le (by rw [List.length_take]; omega)]
      have e2 : (xs.set k u)[k]? = some u := by rw [List.getElem?_set_self]; omega
      rw [List.take_add_one, e1, e2, ht, List.replicate_succ']
      rfl
theorem own_cellAt {w : World} {base g len cap k : Nat} {xs : List Value} {e : TypeId} (h : w.ownsRow base e 1 (.slice (some ⟨g, 0, none⟩) len cap) len xs) (hk : k < len) : (∃ u, w.cell? ⟨g, k, none⟩ = some u) ∧ w.frozen? ⟨g, k, none⟩ = false := by
  rcases h.2 with ⟨e, _⟩ | ⟨g', cap', cur, e, hb, hg, hle, hm, hs, htk⟩
  · cases e
  · cases e
    exact ⟨⟨cur[k]'(by omega), by rw [cell_of_row _ g k _ _ (0, 0) hg]; exact Array.getElem?_eq_getElem (by omega)⟩, frozen_of_row _ g k _ _ hg⟩

/-- A row of bytes of the call's own: in a block of bytes, or in a sector, which it fills. -/
def OwnB (w : World) (base : Nat) (v : Value) (n : Nat) (xs : List Value) : Prop :=
  w.ownsRow base 5 1 v n xs ∨ (w.ownsRow base 137 1 v n xs ∧ ∃ g, v = .slice (some ⟨g, 0, none⟩) n n)

section
variable {w w' : World} {base n : Nat} {v : Value} {xs : List Value}
theorem OwnB.len (h : OwnB w base v n xs) : xs.length = n * 1 := by rcases h with h | ⟨h, _⟩ <;> exact h.1
theorem OwnB.lt (h : OwnB w base v n xs) : ∀ b, v.ownBlock = some b → base ≤ b ∧ b < w.heap.size := by rcases h with h | ⟨h, _⟩ <;> exact h.lt
theorem OwnB.alloc (h : OwnB w base v n xs) (o : Obj) : OwnB (w.alloc o) base v n xs := by
  rcases h with h | ⟨h, e⟩
  · exact .inl (h.alloc o)
  · exact .inr ⟨h.alloc o, e⟩
theorem OwnB.drew (h : OwnB w base v n xs) : OwnB w.drew base v n xs := by
  rcases h with h | ⟨h, e⟩
  · exact .inl h.drew
  · exact .inr ⟨h.drew, e⟩
theorem OwnB.kept {row : Option Nat} (h : OwnB w base v n xs) (hg : w.grownBy w' row) (hn : v.ownBlock = none ∨ v.ownBlock ≠ row) : OwnB w' base v n xs := by
  rcases h with h | ⟨h, e⟩
  · exact .inl (h.kept hg hn)
  · exact .inr ⟨h.kept hg hn, e⟩
theorem own_kept_butB {S : Nat → Prop} (h : OwnB w base v n xs) (hb : But S w w') (hn : ∀ b, v.ownBlock = some b → ¬ S b) : OwnB w' base v n xs := by
  rcases h with h | ⟨h, e⟩
  · exact .inl (own_kept_but h hb hn)
  · exact .inr ⟨own_kept_but h hb hn, e⟩
theorem rows_neB {b2 s2 n2 : Nat} {e2 : TypeId} {v2 : Value} {x2 : List Value} (he : 5 ≠ e2) (he2 : 137 ≠ e2) (h : OwnB w base v n xs) (h2 : w.ownsRow b2 e2 s2 v2 n2 x2) : v.ownBlock = none ∨ v.ownBlock ≠ v2.ownBlock := by
  rcases h with h | ⟨h, _⟩
  · exact rows_ne he h h2
  · exact rows_ne he2 h h2
theorem BookAt.otherB {kb N : Nat} {bs ss : Value} (hk : BookAt w kb N bs ss) (h : OwnB w base v n xs) : v.ownBlock ≠ some kb := by
  rcases h with h | ⟨h, _⟩
  · exact hk.other (by decide) h
  · exact hk.other (by decide) h
end
section
variable {w : World} {base n c : Nat} {A : Option Addr} {xs : List Value}
theorem OwnB.ad (h : OwnB w base (.slice A n c) n xs) (hn : 0 < n) : ∃ g, A = some ⟨g, 0, none⟩ := by
  rcases h with h | ⟨_, g, e⟩
  · rcases h.2 with ⟨e, h0⟩ | ⟨g, cap, cur, e, _⟩
    · omega
    · cases e; exact ⟨g, rfl⟩
  · cases e; exact ⟨g, rfl⟩
theorem OwnB.byte (h : OwnB w base (.slice A n c) n xs) (hc : n + 1 ≤ c) : w.ownsRow base 5 1 (.slice A n c) n xs := by
  rcases h with h | ⟨_, g, e⟩
  · exact h
  · injection e with _ _ e; omega
theorem own_cellAtB {g len cap k : Nat} (h : OwnB w base (.slice (some ⟨g, 0, none⟩) len cap) len xs) (hk : k < len) : (∃ u, w.cell? ⟨g, k, none⟩ = some u) ∧ w.frozen? ⟨g, k, none⟩ = false := by
  rcases h with h | ⟨h, _⟩
  · exact own_cellAt h hk
  · exact own_cellAt h hk
theorem own_setB {g len cap k : Nat} {u : Value} (h : OwnB w base (.slice (some ⟨g, 0, none⟩) len cap) len xs) (hk : k < len) (ht : xs.take k = List.replicate k u) :
    ∃ ys, OwnB (w.setCell ⟨g, k, none⟩ u) base (.slice (some ⟨g, 0, none⟩) len cap) len ys ∧ ys.take (k + 1) = List.replicate (k + 1) u := by
  rcases h with h | ⟨h, e⟩
  · obtain ⟨ys, h1, h2⟩ := own_set1 h hk ht
    exact ⟨ys, .inl h1, h2⟩
  · obtain ⟨ys, h1, h2⟩ := own_set1 h hk ht
    exact ⟨ys, .inr ⟨h1, e⟩, h2⟩
end

end Go.Proofs.YthbgcijkpincfaaGreatDoor

/-
  Both stores side by side: what each call answers, and leaves.
-/
namespace Go.Proofs.YthbgcijkpincfaaGreatDoor
open Go.RowKit

section
variable {base : Nat} {O : Nat → Prop} {w : World} {gd gm sb mb f k : Nat} {m r : Sm}
theorem SPair.callC {g : FuncId} {args : Array Value} {Q : Ending → Prop} {m' : Sm} (h : SPair base O w gd gm sb mb f k m r) (hc : ∀ F G F' G', Four base O w gd gm sb mb f k m r F G F' G' → Calls Tryz.prog g args w fun e w' => Q e ∧ Went w gd sb f k F G m' w') :
    Calls Tryz.prog g args w fun e w' => Q e ∧ SPair base O w' gd gm sb mb f k m' r ∧ But (Out base O) w w' := by
  obtain ⟨F, G, F', G', h⟩ := h
  exact (hc F G F' G' h).mono fun e w' ⟨hq, ha⟩ => ⟨hq, h.wentC ha⟩
theorem SPair.callR {g : FuncId} {args : Array Value} {Q : Ending → Prop} {r' : Sm} (h : SPair base O w gd gm sb mb f k m r) (hc : ∀ F G F' G', Four base O w gd gm sb mb f k m r F G F' G' → Calls Tryz.prog g args w fun e w' => Q e ∧ RWent w gm mb f k F' G' r'.st r'.l w') :
    Calls Tryz.prog g args w fun e w' => Q e ∧ SPair base O w' gd gm sb mb f k m r' ∧ But (Out base O) w w' := by
  obtain ⟨F, G, F', G', h⟩ := h
  exact (hc F G F' G' h).mono fun e w' ⟨hq, ha⟩ => ⟨hq, h.wentR ha⟩

theorem st_add {A : Option Addr} {n c : Nat} {xs : List Nat} (h : SPair base O w gd gm sb mb f k m r) (hin : In w A n xs) (hb : ∀ x ∈ xs, x < 256) (hA : A = none → c = 0) (hnc : n ≤ c) (hO : 0 < n → ∀ ad, A = some ad → ¬ Out base O ad.block) (hw : m.st.waits.length ≤ 800000) :
    Calls Tryz.prog 22 #[.pointer (some ⟨sb, 0, none⟩), .slice A n c] w fun e w' => e = .returned (.int .i64 (m.add f k xs).1) ∧ SPair base O w' gd gm sb mb f k (m.add f k xs).2 r ∧ But (Out base O) w w' :=
  h.callC (Q := fun e => e = .returned (.int .i64 (m.add f k xs).1)) fun _ _ _ _ h => sadd_any h.c hin hb hA hnc (fun ad e hn o => hO hn ad e (h.fo _ o)) hw
theorem st_radd {A : Option Addr} {n c : Nat} {xs : List Nat} {s : St} {l : List (List Nat)} (h : SPair base O w gd gm sb mb f k m ⟨s, l, false⟩) (hin : In w A n xs) (hb : ∀ x ∈ xs, x < 256) (hA : A = none → c = 0) (hnc : n ≤ c) (hO : 0 < n → ∀ ad, A = some ad → ¬ Out base O ad.block) (hw : s.waits.length ≤ 800000) :
    Calls Tryz.prog 23 #[.pointer (some ⟨mb, 0, none⟩), .slice A n c] w fun e w' => e = .returned (.int .i64 (Sm.add ⟨s, l, false⟩ f k xs).1) ∧ SPair base O w' gd gm sb mb f k m (Sm.add ⟨s, l, false⟩ f k xs).2 ∧ But (Out base O) w w' :=
  h.callR (Q := fun e => e = .returned (.int .i64 (Sm.add ⟨s, l, false⟩ f k xs).1)) fun _ _ _ _ h => radd_any h.r hin hb hA hnc (fun ad e hn o => hO hn ad e (h.go _ o)) hw
theorem st_sync (h : SPair base O w gd gm sb mb f k m r) :
    Calls Tryz.prog 12 #[.pointer (some ⟨sb, 0, none⟩)] w fun e w' => e = .returned (.int .i64 m.sync.1) ∧ SPair base O w' gd gm sb mb f k m.sync.2 r ∧ But (Out base O) w w' :=
  h.callC (Q := fun e => e = .returned (.int .i64 m.sync.1)) fun _ _ _ _ h => ssync_any h.c
theorem st_rsync {s : St} {l : List (List Nat)} (h : SPair base O w gd gm sb mb f k m ⟨s, l, false⟩) :
    Calls Tryz.prog 13 #[.pointer (some ⟨mb, 0, none⟩)] w fun e w' => e = .returned (.int .i64 (Sm.sync ⟨s, l, false⟩).1) ∧ SPair base O w' gd gm sb mb f k m (Sm.sync ⟨s, l, false⟩).2 ∧ But (Out base O) w w' := by
  obtain ⟨F, G, F', G', h⟩ := h
  refine (rssync_any h.r.s h.r.d).mono ?_
  rintro e w' ⟨he, ha⟩
  have e1 : Sm.sync ⟨s, l, false⟩ = (s.sc, ⟨s.sn, l, decide (s.sc ≠ 0)⟩) := rfl
  rw [e1]
  obtain ⟨⟨F1, G1, F2, G2, h2⟩, hb⟩ := h.diskR ha (by rw [s.sn_sure])
  exact ⟨he, ⟨F1, G1, F2, G2, h2.c, h2.r, h2.ap, h2.fo, h2.go, h2.ol, h2.bl⟩, hb⟩
theorem st_fuse {z : Int} (hz : z ≤ 9223372036854775807) (h : SPair base O w gd gm sb mb f k m r) :
    Calls Tryz.prog 14 #[.pointer (some ⟨gd, 0, none⟩), .int .i64 z] w fun e w' => e = .returned (.int .i64 0) ∧ SPair base O w' gd gm sb mb f k ⟨m.st.fnext z, m.l, m.down⟩ r ∧ But (Out base O) w w' := by
  obtain ⟨F, G, F', G', h⟩ := h
  exact (fuse_any z hz h.c.d).mono fun e w' ⟨he, ha⟩ => ⟨he, h.diskC ha rfl⟩
theorem st_rfuse {z : Int} (hz : z ≤ 9223372036854775807) (h : SPair base O w gd gm sb mb f k m r) :
    Calls Tryz.prog 15 #[.pointer (some ⟨gm, 0, none⟩), .int .i64 z] w fun e w' => e = .returned (.int .i64 0) ∧ SPair base O w' gd gm sb mb f k m ⟨r.st.fnext z, r.l, r.down⟩ ∧ But (Out base O) w w' := by
  obtain ⟨F, G, F', G', h⟩ := h
  exact (rfuse_any z hz h.r.d).mono fun e w' ⟨he, ha⟩ => ⟨he, h.diskR ha rfl⟩
theorem st_same {s : St} (h : DPair base O w gd s gm s) :
    Calls Tryz.prog 24 #[.pointer (some ⟨gd, 0, none⟩), .pointer (some ⟨gm, 0, none⟩)] w fun e w' => e = .returned (.bool true) ∧ Below w.heap.size w w' := by
  obtain ⟨F, G, h⟩ := h; exact same_any h.d h.m
theorem st_len (h : SPair base O w gd gm sb mb f k m r) :
    Calls Tryz.prog 27 #[.pointer (some ⟨sb, 0, none⟩)] w fun e w' => e = .returned (.int .i64 (m.l.length : Int)) ∧ w = w' := by
  obtain ⟨F, G, F', G', h⟩ := h
  obtain ⟨⟨v, vals, hh⟩, _⟩ := h.c.s
  exact slen_sto hh
theorem st_rlen (h : SPair base O w gd gm sb mb f k m r) :
    Calls Tryz.prog 28 #[.pointer (some ⟨mb, 0, none⟩)] w fun e w' => e = .returned (.int .i64 (r.l.length : Int)) ∧ w = w' := by
  obtain ⟨F, G, F', G', h⟩ := h; exact rslen_any h.r.s
theorem st_left (h : SPair base O w gd gm sb mb f k m r) :
    Calls Tryz.prog 29 #[.pointer (some ⟨sb, 0, none⟩)] w fun e w' => e = .returned (.int .i64 ((k - usedL m.l : Nat) : Int)) ∧ Below w.heap.size w w' := by
  obtain ⟨F, G, F', G', h⟩ := h
  have h1 := h.c.fits
  have h2 := h.c.d.1.le
  obtain ⟨⟨v, vals, hh⟩, _⟩ := h.c.s
  exact left_sto hh (by omega)
theorem st_rleft (h : SPair base O w gd gm sb mb f k m r) :
    Calls Tryz.prog 30 #[.pointer (some ⟨mb, 0, none⟩)] w fun e w' => e = .returned (.int .i64 ((k - usedL r.l : Nat) : Int)) ∧ Below w.heap.size w w' := by
  obtain ⟨F, G, F', G', h⟩ := h
  have h1 := h.r.fits
  have h2 := h.r.d.1.le
  exact rsleft_any h.r.s (by omega)
/-- What is got: a list of the call's own. -/
theorem st_get {z : Int} (h : SPair base O w gd gm sb mb f k m r) :
    Calls Tryz.prog 32 #[.pointer (some ⟨sb, 0, none⟩), .int .i64 z] w fun e w' => ∃ u, e = .returned (.tuple #[u, .int .i64 (if 0 ≤ z ∧ z < (m.l.length : Int) then 0 else 1)]) ∧ w'.ownsRow w.heap.size 5 1 u (if 0 ≤ z ∧ z < (m.l.length : Int) then m.l.getD z.toNat [] else []).length (bvs (if 0 ≤ z ∧ z < (m.l.length : Int) then m.l.getD z.toNat [] else [])) ∧ Below w.heap.size w w' := by
  obtain ⟨F, G, F', G', h⟩ := h
  obtain ⟨⟨v, vals, hh⟩, _⟩ := h.c.s
  by_cases hz : 0 ≤ z ∧ z < (m.l.length : Int)
  · simp only [if_pos hz]
    obtain ⟨q, rfl⟩ := Int.eq_ofNat_of_zero_le hz.1
    have hq : q < m.l.length := by have := hz.2; omega
    have hx := List.getElem?_eq_getElem hq
    rw [Int.toNat_natCast, List.getD_eq_getElem?_getD, hx]
    exact get_sto hh hx
  · simp only [if_neg hz]
    refine (get_bad hh hz).mono ?_
    rintro e w' ⟨he, rfl⟩
    exact ⟨_, he, World.ownsRow_nil _ _ _ _, Below.refl _ _⟩
theorem st_rget {z : Int} (h : SPair base O w gd gm sb mb f k m r) :
    Calls Tryz.prog 33 #[.pointer (some ⟨mb, 0, none⟩), .int .i64 z] w fun e w' => ∃ u, e = .returned (.tuple #[u, .int .i64 (if 0 ≤ z ∧ z < (r.l.length : Int) then 0 else 1)]) ∧ w'.ownsRow w.heap.size 5 1 u (if 0 ≤ z ∧ z < (r.l.length : Int) then r.l.getD z.toNat [] else []).length (bvs (if 0 ≤ z ∧ z < (r.l.length : Int) then r.l.getD z.toNat [] else [])) ∧ Below w.heap.size w w' := by
  obtain ⟨F, G, F', G', h⟩ := h
  by_cases hz : 0 ≤ z ∧ z < (r.l.length : Int)
  · simp only [if_pos hz]
    obtain ⟨q, rfl⟩ := Int.eq_ofNat_of_zero_le hz.1
    have hq : q < r.l.length := by have := hz.2; omega
    have hx := List.getElem?_eq_getElem hq
    rw [Int.toNat_natCast, List.getD_eq_getElem?_getD, hx]
    exact rsget_any h.r.s hx
  · simp only [if_neg hz]
    refine (rsget_bad h.r.s hz).mono ?_
    rintro e w' ⟨he, rfl⟩
    exact ⟨_, he, World.ownsRow_nil _ _ _ _, Below.refl _ _⟩
end

end Go.Proofs.YthbgcijkpincfaaGreatDoor

/-
  Arguments of law07's statements: []Act; great. (XPActs, turned: ten for each act, and a place.)
-/
namespace Go.Proofs.YthbgcijkpincfaaGreatDoor
open Go.ChangeShapes Go.WideShapes Go.ChangeAt Go.RowKit Go.Deep

/-- What the bound on what is read gives. -/
theorem bulk_one {H : Type} (d : DataW H) : 1 ≤ Rows.uptoBulk d := by
  cases d with
  | lit l => cases l <;> simp [Rows.uptoBulk]
  | nil => simp [Rows.uptoBulk]
  | ptr d => simp [Rows.uptoBulk]
  | slice elems spare => simp [Rows.uptoBulk]
  | agg parts => simp [Rows.uptoBulk]
  | iface t d => simp [Rows.uptoBulk]
  | map entries => simp [Rows.uptoBulk]
  | held h => simp [Rows.uptoBulk]
theorem bulk_part {H : Type} {d : DataW H} {l : List (DataW H)} (h : d ∈ l) : Rows.uptoBulk d ≤ Rows.uptoBulkAll l := by
  induction l with
  | nil => cases h
  | cons x r ih =>
    rw [Rows.uptoBulkAll]
    rcases List.mem_cons.1 h with e | e
    · subst e; omega
    · have := ih e; omega
theorem bulk_length {H : Type} (l : List (DataW H)) : l.length ≤ Rows.uptoBulkAll l := by
  induction l with
  | nil => simp [Rows.uptoBulkAll]
  | cons x r ih => have := bulk_one x; rw [Rows.uptoBulkAll, List.length_cons]; omega
theorem bulk_all {H : Type} (l s : List (DataW H)) : Rows.uptoBulkAll l ≤ Rows.uptoBulk (.slice l s) := by rw [Rows.uptoBulk]; omega
theorem bulk_slice {H : Type} (l s : List (DataW H)) : l.length ≤ Rows.uptoBulk (.slice l s) := Nat.le_trans (bulk_length l) (bulk_all l s)

/-- A slice of bools that came in. -/
structure CameBools (w : World) (A : Option Addr) (n c : Nat) (ks : List Bool) : Prop where
  in_ : InB w A n ks
  cap : n ≤ c
theorem CameBools.below {w w' : World} {A : Option Addr} {n c : Nat} {ks : List Bool} (h : CameBools w A n c ks) (hb : Below w.heap.size w w') : CameBools w' A n c ks := ⟨h.in_.below hb, h.cap⟩

theorem came_bools {H : Type} {enc : TypeId × Value → H} {w : World} {base fuel : Nat} {held : Bool} {cs : List Value} {x : DataW H × List MemPlace} (h : DataW.trod enc Tryz.prog w base (fun _ => true) held fuel 51 cs = some x) :
    ∃ A n c ks, cs = [.slice A n c] ∧ CameBools w A n c ks ∧ n ≤ Rows.uptoBulk x.1 := by
  rcases open_bools Tryz.underlying51 Tryz.underlying4 (by kernel_rfl) h with ⟨hcs, _⟩ | ⟨a, len, cap, B, hcs, _, hl, hm, hx, hcell⟩
  · exact ⟨none, 0, 0, [], hcs, ⟨InB.none_ _ _, Nat.le_refl _⟩, Nat.zero_le _⟩
  · refine ⟨some a, len, cap, (List.range len).map B, hcs, ⟨⟨by simp, fun j x hx => ⟨a, rfl, ?_⟩⟩, hl⟩, by rw [hx]; exact Nat.le_trans (by simp) (bulk_slice _ _)⟩
    rw [List.getElem?_map] at hx
    obtain ⟨j', hj', rfl⟩ := Option.map_eq_some_iff.1 hx
    have hlt : j < len := by have := (List.getElem?_eq_some_iff.1 hj').1; rwa [List.length_range] at this
    rw [List.getElem?_range hlt] at hj'
    cases hj'
    exact hcell j (by omega)
theorem came_bytes' {H : Type} {enc : TypeId × Value → H} {w : World} {base fuel : Nat} {held : Bool} {cs : List Value} {x : DataW H × List MemPlace} (h : DataW.trod enc Tryz.prog w base (fun _ => true) held fuel 50 cs = some x) :
    ∃ A n c xs, cs = [.slice A n c] ∧ Came w A n c xs ∧ n ≤ Rows.uptoBulk x.1 := by
  rcases open_ints Tryz.underlying50 Tryz.underlying5 (by kernel_rfl) h with ⟨hcs, _⟩ | ⟨b, l, k, zs, hcs, _, hl2, hm2, hz, hx, hcell, hwz⟩
  · exact ⟨none, 0, 0, [], hcs, ⟨In.none_ _ _, (by intro x hx; cases hx), fun _ => rfl, Nat.le_refl _⟩, Nat.zero_le _⟩
  · obtain ⟨xs, hxs⟩ := came_of (w := w) (a := some b) (len := l) (cap := k) (zs := zs) (.inr ⟨b, rfl, hl2, by simpa using hz, hcell, hwz⟩)
    exact ⟨some b, l, k, xs, hcs, hxs, by rw [hx]; exact Nat.le_trans (by simp at hz; simp [lits, hz]; omega) (bulk_slice _ _)⟩

/-- What is done with a disk. -/
structure Deed where
  kind : Nat
  n : Int
  xs : List Nat
  at_ : Int
  by_ : Nat
  ks : List Bool

/-- Element at ad is this deed. -/
structure DeedAt (w : World) (ad : Addr) (x : Deed) (B : Option Addr) (m k : Nat) (K : Option Addr) (p q : Nat) : Prop where
  c0 : w.cell? (ad.add 0) = some (.int .u8 (x.kind : Int))
  c1 : w.cell? (ad.add 1) = some (.int .i64 x.n)
  c2 : w.cell? (ad.add 2) = some (.slice B m k)
  c3 : w.cell? (ad.add 3) = some (.int .i64 x.at_)
  c4 : w.cell? (ad.add 4) = some (.int .u8 (x.by_ : Int))
  c5 : w.cell? (ad.add 5) = some (.slice K p q)
  bytes : Came w B m k x.xs
  bools : CameBools w K p q x.ks
  m_le : m ≤ 1048576
  p_le : p ≤ 1048576
  kind_lt : x.kind < 256
  by_lt : x.by_ < 256
  n_in : -9223372036854775808 ≤ x.n ∧ x.n ≤ 9223372036854775807
  at_in : -9223372036854775808 ≤ x.at_ ∧ x.at_ ≤ 9223372036854775807
theorem DeedAt.below {w w' : World} {ad : Addr} {x : Deed} {B K : Option Addr} {m k p q : Nat} (h : DeedAt w ad x B m k K p q) (hb : Below w.heap.size w w') : DeedAt w' ad x B m k K p q :=
  have t : ∀ {a : Addr} {v : Value}, w.cell? a = some v → w'.cell? a = some v := fun hc => (hb.cell (World.block_lt_of_cell? w _ hc)).trans hc
  ⟨t h.c0, t h.c1, t h.c2, t h.c3, t h.c4, t h.c5, h.bytes.below hb, h.bools.below hb, h.m_le, h.p_le, h.kind_lt, h.by_lt, h.n_in, h.at_in⟩

/-- A slice of deeds that came in. -/
structure CameActs (w : World) (A : Option Addr) (n : Nat) (ds : List Deed) : Prop where
  len : ds.length = n
  row : ∀ r x, ds[r]? = some x → ∃ ad B m k K p q, A = some ad ∧ DeedAt w (ad.add (r * 6)) x B m k K p q

theorem cellsAct : Tryz.prog.cellsOf 53 = 6 := by kernel_rfl
theorem cellsU8 : Tryz.prog.cellsOf 5 = 1 := by kernel_rfl
theorem cellsInt : Tryz.prog.cellsOf 3 = 1 := by kernel_rfl
theorem cellsBs : Tryz.prog.cellsOf 50 = 1 := by kernel_rfl
theorem cellsKs : Tryz.prog.cellsOf 51 = 1 := by kernel_rfl

set_option maxRecDepth 100000 in
theorem deed_of {H : Type} {enc : TypeId × Value → H} {w : World} {base fuel : Nat} {held : Bool} {ad : Addr} {cs : List Value} {x : DataW H × List MemPlace}
    (hc : w.cells? base ad 6 = some cs) (h : DataW.trod enc Tryz.prog w base (fun _ => true) held fuel 53 cs = some x) (hu : Rows.uptoBulk x.1 ≤ 1048576) :
    ∃ x B m k K p q, DeedAt w ad x B m k K p q := by
  obtain ⟨_, hlen, hcell⟩ := World.cells?_some hc
  obtain ⟨xs, k, hk, hxy, _, hxl, hf⟩ := DataW.trod_struct Tryz.underlying53 h
  have hxl' : xs.length = 6 := hxl
  match xs, hxl', cs, hlen with
  | [y0, y1, y2, y3, y4, y5], _, [v0, v1, v2, v3, v4, v5], _ =>
    have g0 := hf 0 _ rfl
    have g1 := hf 1 _ rfl
    have g2 := hf 2 _ rfl
    have g3 := hf 3 _ rfl
    have g4 := hf 4 _ rfl
    have g5 := hf 5 _ rfl
    simp [cellsU8, cellsInt, cellsBs, cellsKs] at g0 g1 g2 g3 g4 g5
    have hall : Rows.uptoBulkAll [y0.1, y1.1, y2.1, y3.1, y4.1, y5.1] ≤ 1048576 := by
      rw [hxy] at hu
      have hu' : Rows.uptoBulk (DataW.agg [y0.1, y1.1, y2.1, y3.1, y4.1, y5.1]) ≤ 1048576 := hu
      rw [Rows.uptoBulk] at hu'
      omega
    have u2 : Rows.uptoBulk y2.1 ≤ 1048576 := Nat.le_trans (bulk_part (by simp)) hall
    have u5 : Rows.uptoBulk y5.1 ≤ 1048576 := Nat.le_trans (bulk_part (by simp)) hall
    obtain ⟨z0, e0, _, b0⟩ := DataW.trod_int Tryz.underlying5 g0
    obtain ⟨z1, e1, _, b1⟩ := DataW.trod_int Tryz.underlying3 g1
    obtain ⟨B, m, q2, xs2, e2, i2, l2⟩ := came_bytes' g2
    obtain ⟨z3, e3, _, b3⟩ := DataW.trod_int Tryz.underlying3 g3
    obtain ⟨z4, e4, _, b4⟩ := DataW.trod_int Tryz.underlying5 g4
    obtain ⟨K, p, q5, ks, e5, i5, l5⟩ := came_bools g5
    have b0 := bounds_u8 b0
    have b4 := bounds_u8 b4
    have b1 := bounds_i64 b1
    have b3 := bounds_i64 b3
    simp only [List.cons.injEq, and_true] at e0 e1 e2 e3 e4 e5
    subst e0 e1 e2 e3 e4 e5
    obtain ⟨k0, rfl⟩ := Int.eq_ofNat_of_zero_le b0.1
    obtain ⟨k4, rfl⟩ := Int.eq_ofNat_of_zero_le b4.1
    exact ⟨⟨k0, z1, xs2, z3, k4, ks⟩, B, m, q2, K, p, q5, ⟨by simpa using hcell 0 (by omega), by simpa using hcell 1 (by omega), by simpa using hcell 2 (by omega), by simpa using hcell 3 (by omega), by simpa using hcell 4 (by omega), by simpa using hcell 5 (by omega), i2, i5, Nat.le_trans l2 u2, Nat.le_trans l5 u5, by show k0 < 256; omega, by show k4 < 256; omega, b1, b3⟩⟩

theorem came_acts {H : Type} {enc : TypeId × Value → H} {w : World} {base fuel n c : Nat} {held : Bool} {A : Option Addr} {x : DataW H × List MemPlace} (h : DataW.trod enc Tryz.prog w base (fun _ => true) held fuel 24 [.slice A n c] = some x) (hu : Rows.uptoBulk x.1 ≤ 1048576) :
    ∃ ds, CameActs w A n ds ∧ n ≤ 1048576 := by
  rcases open_slice Tryz.underlying24 h with ⟨hcs, _⟩ | ⟨a, len, cap, m, q, D, Pl, hcs, _, hl, hm, hmm, hxe, hx⟩
  · simp at hcs
    obtain ⟨rfl, rfl, rfl⟩ := hcs
    exact ⟨[], ⟨rfl, fun r x hx => by simp at hx⟩, by omega⟩
  · simp at hcs
    obtain ⟨rfl, rfl, rfl⟩ := hcs
    simp only [if_true] at hmm
    subst hmm
    rw [hxe] at hu
    have hn : n ≤ 1048576 := Nat.le_trans (by simp) (Nat.le_trans (bulk_slice _ _) hu)
    have hD : ∀ r, r < n → Rows.uptoBulk (D r) ≤ 1048576 := fun r hr => Nat.le_trans (bulk_part (List.mem_map.2 ⟨r, List.mem_range.2 hr, rfl⟩)) (Nat.le_trans (bulk_all _ _) hu)
    have hex : ∀ r, ∃ x : Deed, r < n → ∃ B u k K p q, DeedAt w (a.add (r * 6)) x B u k K p q := fun r => by
      by_cases hr : r < n
      · obtain ⟨cs', h1, h2⟩ := hx r (by omega)
        rw [cellsAct] at h1
        obtain ⟨x, hd⟩ := deed_of h1 h2 (hD r hr)
        exact ⟨x, fun _ => hd⟩
      · exact ⟨⟨0, 0, [], 0, 0, []⟩, fun h => absurd h hr⟩
    obtain ⟨f, hf⟩ := Classical.axiomOfChoice hex
    refine ⟨(List.range n).map f, ⟨by rw [List.length_map, List.length_range], fun r x hx => ?_⟩, hn⟩
    rw [List.getElem?_map] at hx
    obtain ⟨r', hr', rfl⟩ := Option.map_eq_some_iff.1 hx
    have hlt : r < n := by have := (List.getElem?_eq_some_iff.1 hr').1; rwa [List.length_range] at this
    rw [List.getElem?_range hlt] at hr'
    cases hr'
    obtain ⟨B, u, k, K, p, q, h1⟩ := hf r (by omega)
    exact ⟨a, B, u, k, K, p, q, rfl, h1⟩

/-- What a deed weighs; all up to j. -/
def weigh (x : Deed) : Nat := 10 + x.xs.length / 30 + x.ks.length / 30
def weight (ds : List Deed) (j : Nat) : Nat := ((ds.take j).map weigh).sum
theorem weight_step {ds : List Deed} {j : Nat} {x : Deed} (hx : ds[j]? = some x) : weight ds (j + 1) = weight ds j + weigh x := by
  rw [weight, weight, List.take_add_one, hx]
  simp
theorem weight_le {ds : List Deed} (h : ∀ x ∈ ds, weigh x ≤ 100000) (j : Nat) : weight ds j ≤ 100000 * j := by
  induction j with
  | zero => simp [weight]
  | succ j ih =>
    cases hx : ds[j]? with
    | none =>
      have : weight ds (j + 1) = weight ds j := by rw [weight, weight, List.take_add_one, hx]; simp
      omega
    | some x => rw [weight_step hx]; have := h x (List.mem_of_getElem? hx); omega
theorem weight_ge {ds : List Deed} {j : Nat} (h : j ≤ ds.length) : 2 * j ≤ weight ds j := by
  induction j with
  | zero => exact Nat.zero_le _
  | succ j ih =>
    rw [weight_step (List.getElem?_eq_getElem (by omega))]
    have := ih (by omega)
    unfold weigh
    omega
theorem weight_part {ds : List Deed} {x : Deed} {j k : Nat} (hx : ds[k]? = some x) (hk : k < j) (hj : j ≤ ds.length) : weigh x ≤ weight ds j := by
  induction j with
  | zero => omega
  | succ j ih =>
    rw [weight_step (List.getElem?_eq_getElem (by omega))]
    by_cases e : k = j
    · subst e
      have := List.getElem?_eq_getElem (l := ds) (i := k) (by omega)
      rw [hx] at this
      cases this
      omega
    · have := ih (by omega) (by omega)
      omega

theorem wrap_i64 {z : Int} (h1 : -9223372036854775808 ≤ z) (h2 : z ≤ 9223372036854775807) : IntKind.i64.wrap z = z := by rw [IntKind.wrap_i64]; omega

set_option maxRecDepth 100000 in
set_option maxHeartbeats 1000000 in
theorem great_any {w : World} {A : Option Addr} {n c : Nat} {ds : List Deed} {z fr mn : Int} (h : CameActs w A n ds) (hn : n ≤ 1048576) :
    Calls Tryz.prog 6 #[.agg #[.int .i64 z, .int .i64 fr, .int .i64 mn], .slice A n c] w fun e w' => e = .returned (.bool (decide (500 < weight ds n ∨ 200 < z))) ∧ Below w.heap.size w w' := by
  have hw : ∀ x ∈ ds, weigh x ≤ 100000 := fun x hx => by
    obtain ⟨r, hr⟩ := List.mem_iff_getElem?.1 hx
    obtain ⟨ad, B, m, k, K, p, q, _, hd⟩ := h.row r x hr
    have h1 := hd.bytes.in_.len
    have h2 := hd.bools.in_.len
    have := hd.m_le
    have := hd.p_le
    unfold weigh
    omega
  have HW := Lib.hid (And.intro h hw)
  clear h hw
  go_enter Tryz.func6, Tryz.ntmps6
  go_wp2
  have HB0 : Hid (Below w.heap.size w (w.alloc (.cells #[.int .i64 z, .int .i64 fr, .int .i64 mn] 23))) := below_alloc w _
  have hz0 : (w.alloc (.cells #[.int .i64 z, .int .i64 fr, .int .i64 mn] 23)).heap[w.heap.size]? = some (.cells #[.int .i64 z, .int .i64 fr, .int .i64 mn] 23 (0, 0)) := World.alloc_heap_new w _
  go_loopw [5, 6] (fun a i wr => ∃ j s : Nat, j ≤ n ∧ i = .int .i64 (j : Int) ∧ a = .int .i64 (s : Int) ∧ s = weight ds j ∧ Below w.heap.size w wr ∧ wr.heap[w.heap.size]? = some (.cells #[.int .i64 z, .int .i64 fr, .int .i64 mn] 23 (0, 0))) (fun _ i _ => n - (intOf i).toNat)
  case atStart => exact ⟨0, 0, Nat.zero_le _, rfl, rfl, rfl, HB0.out, hz0⟩
  case round =>
    obtain ⟨j, s, hj, rfl, rfl, hs, hb, hz⟩ := hrel
    have HZ := Lib.hid hz
    clear hz
    have HS := Lib.hid hs
    clear hs
    by_cases hlt : j < n
    · have hji : (j : Int) < (n : Int) := by omega
      obtain ⟨x, hx⟩ : ∃ x, ds[j]? = some x := ⟨_, List.getElem?_eq_getElem (by rw [HW.out.1.len]; exact hlt)⟩
      obtain ⟨ad, B, m, k, K, p, q, rfl, hd⟩ := HW.out.1.row j x hx
      have hd := hd.below hb
      have c2 : wr.cell? ⟨(ad.add (j * 6)).block, (ad.add (j * 6)).off + 2, none⟩ = some (.slice B m k) := by rw [← add_pos _ (by decide)]; exact hd.c2
      have c5 : wr.cell? ⟨(ad.add (j * 6)).block, (ad.add (j * 6)).off + 5, none⟩ = some (.slice K p q) := by rw [← add_pos _ (by decide)]; exact hd.c5
      obtain ⟨m3, hm3⟩ : ∃ m3, m / 30 = m3 := ⟨_, rfl⟩
      obtain ⟨p3, hp3⟩ : ∃ p3, p / 30 = p3 := ⟨_, rfl⟩
      have hq1 : Int.tdiv (m : Int) 30 = (m3 : Int) := by rw [← hm3]; rfl
      have hq2 : Int.tdiv (p : Int) 30 = (p3 : Int) := by rw [← hp3]; rfl
      have hsb : s ≤ 200000000000 := by have := weight_le HW.out.2 j; have := HS.out; omega
      have hmb := hd.m_le
      have hpb := hd.p_le
      have hwx : weigh x = 10 + m3 + p3 := by unfold weigh; rw [hd.bytes.in_.len, hd.bools.in_.len, hm3, hp3]
      have HX := Lib.hid (And.intro hx hwx)
      have hm3b : m3 ≤ 1048576 := by omega
      have hp3b : p3 ≤ 1048576 := by omega
      clear hx hwx hd hm3 hp3
      obtain ⟨s2, hs2⟩ : ∃ s2, s + 10 = s2 := ⟨_, rfl⟩
      obtain ⟨s3, hs3⟩ : ∃ s3, s2 + m3 = s3 := ⟨_, rfl⟩
      obtain ⟨s4, hs4⟩ : ∃ s4, s3 + p3 = s4 := ⟨_, rfl⟩
      have w0 : IntKind.i64.wrap (m3 : Int) = (m3 : Int) := wrap_i64 (by omega) (by omega)
      have w1 : IntKind.i64.wrap (p3 : Int) = (p3 : Int) := wrap_i64 (by omega) (by omega)
      have w2 : IntKind.i64.wrap ((s : Int) + 10) = (s2 : Int) := by rw [wrap_i64 (by omega) (by omega)]; omega
      have w3 : IntKind.i64.wrap ((s2 : Int) + (m3 : Int)) = (s3 : Int) := by rw [wrap_i64 (by omega) (by omega)]; omega
      have w4 : IntKind.i64.wrap ((s3 : Int) + (p3 : Int)) = (s4 : Int) := by rw [wrap_i64 (by omega) (by omega)]; omega
      have H4 := Lib.hid (And.intro hs2 (And.intro hs3 hs4))
      clear hs2 hs3 hs4 hsb hmb hpb hm3b hp3b
      go_wp2
      refine wp_region_still_lit (by kernel_rfl) (by kernel_rfl) ?_
      repeat still_step
      refine wpStill_nil ?_
      change Exit.inBlock 1 _ Exit.normal _ wr.drew
      go_wp2
      go_roundw
      case rel =>
        refine ⟨j + 1, s4, by omega, by go_num, rfl, ?_, hb.drew, HZ.out⟩
        rw [weight_step HX.out.1, HX.out.2, ← HS.out]
        have := H4.out
        omega
      case measure => simp [intOf]; omega
    · obtain rfl : j = n := by omega
      have hji : decide ((j : Int) < (j : Int)) = false := by simp
      have cz : wr.cell? ⟨w.heap.size, 0, none⟩ = some (.int .i64 z) := by rw [cell_of_row _ _ 0 _ _ (0, 0) HZ.out]; rfl
      by_cases h4 : 500 < s
      · have q1 : (500 : Int) < (s : Int) := by omega
        go_wp2
        go_ret
        refine ⟨?_, hb⟩
        rw [← HS.out, decide_eq_true (Or.inl h4)]
        rfl
      · have q1 : decide ((500 : Int) < (s : Int)) = false := by simp; omega
        by_cases h5 : 200 < z
        · go_wp2
          go_ret
          refine ⟨?_, hb⟩
          rw [← HS.out, decide_eq_true (Or.inr h5)]
          rfl
        · have q2 : decide (200 < z) = false := by simp; omega
          go_wp2
          go_ret
          refine ⟨?_, hb⟩
          rw [← HS.out, decide_eq_false (by omega)]
          rfl

end Go.Proofs.YthbgcijkpincfaaGreatDoor

/-
  An argument of type Place: three numbers.
-/
namespace Go.Proofs.YthbgcijkpincfaaGreatDoor
open Go.ChangeShapes Go.WideShapes Go.ChangeAt Go.RowKit Go.Deep

theorem trod_struct3 {H : Type} {enc : TypeId × Value → H} {P : Program} {w : World} {base fuel : Nat} {spare : Nat → Bool} {held : Bool} {t : TypeId} {f0 f1 f2 : Field} {cs : List Value} {x : DataW H × List MemPlace} (ht : P.underlying t = some (.struct #[f0, f1, f2])) (h : DataW.trod enc P w base spare held fuel t cs = some x) :
    ∃ y0 y1 y2 n, cs.length = P.cellsOf t ∧ DataW.trod enc P w base spare held n f0.type ((cs.drop f0.offset).take (P.cellsOf f0.type)) = some y0 ∧ DataW.trod enc P w base spare held n f1.type ((cs.drop f1.offset).take (P.cellsOf f1.type)) = some y1 ∧
      DataW.trod enc P w base spare held n f2.type ((cs.drop f2.offset).take (P.cellsOf f2.type)) = some y2 := by
  obtain ⟨xs, n, _, rfl, hl, hlen, hf⟩ := DataW.trod_struct ht h
  match xs, hlen with
  | [y0, y1, y2], _ => exact ⟨y0, y1, y2, n, hl, by simpa using hf 0 f0 rfl, by simpa using hf 1 f1 rfl, by simpa using hf 2 f2 rfl⟩

theorem cellsPlace : Tryz.prog.cellsOf 23 = 3 := by kernel_rfl
theorem three_of (l : List Value) (h : l.length = 3) : ∃ a b c, l = [a, b, c] := by
  match l, h with
  | [a, b, c], _ => exact ⟨a, b, c, rfl⟩

set_option maxRecDepth 100000 in
theorem came_place {H : Type} {enc : TypeId × Value → H} {W : World} {base b0 : Nat} {held : Bool} {r : Reach} {v : Value} {d : DataW H} {ps : List MemPlace}
    (hval : Value.okWide Tryz.prog W r b0 23 v) (hd : DataW.Trod enc Tryz.prog W base (fun _ => true) held 23 v d ps) :
    ∃ z fr mn : Int, v = .agg #[.int .i64 z, .int .i64 fr, .int .i64 mn] ∧ (-9223372036854775808 ≤ z ∧ z ≤ 9223372036854775807) ∧ (-9223372036854775808 ≤ fr ∧ fr ≤ 9223372036854775807) ∧ (-9223372036854775808 ≤ mn ∧ mn ≤ 9223372036854775807) := by
  simp only [Value.okWide, Tryz.underlying23] at hval
  obtain ⟨cs, rfl, hsz, _⟩ := hval
  rw [cellsPlace] at hsz
  obtain ⟨fuel, hf⟩ := hd
  obtain ⟨y0, y1, y2, n, hl, h0, h1, h2⟩ := trod_struct3 Tryz.underlying23 hf
  obtain ⟨l⟩ := cs
  have hln : l.length = 3 := by simpa using hsz
  obtain ⟨a, b, c, rfl⟩ := three_of l hln
  have h0' : DataW.trod enc Tryz.prog W base (fun _ => true) held n 3 [a] = some y0 := h0
  have h1' : DataW.trod enc Tryz.prog W base (fun _ => true) held n 3 [b] = some y1 := h1
  have h2' : DataW.trod enc Tryz.prog W base (fun _ => true) held n 3 [c] = some y2 := h2
  obtain ⟨z0, e0, _, q0⟩ := DataW.trod_int Tryz.underlying3 h0'
  obtain ⟨z1, e1, _, q1⟩ := DataW.trod_int Tryz.underlying3 h1'
  obtain ⟨z2, e2, _, q2⟩ := DataW.trod_int Tryz.underlying3 h2'
  simp only [List.cons.injEq, and_true] at e0 e1 e2
  subst e0 e1 e2
  exact ⟨z0, z1, z2, rfl, bounds_i64 q0, bounds_i64 q1, bounds_i64 q2⟩

end Go.Proofs.YthbgcijkpincfaaGreatDoor

/-
  The Book of the statements: marks are written into every list of bytes.
-/
namespace Go.Proofs.YthbgcijkpincfaaGreatDoor
open Go.RowKit

/-- A list that is kept: its value, the longer one, how many elements it has, its number. -/
structure Held where
  A : Option Addr
  len : Nat
  c : Nat
  A2 : Option Addr
  len2 : Nat
  c2 : Nat
  num : Nat

def Held.v (h : Held) : Value := .slice h.A h.len h.c
def Held.long (h : Held) : Value := .slice h.A2 h.len2 h.c2

/-- The cells of a row of such. -/
def heldCells (hs : List Held) : List Value := hs.flatMap fun h => [h.v, h.long, .int .i64 (h.num : Int)]

theorem heldCells_cons (h : Held) (hs : List Held) : heldCells (h :: hs) = h.v :: h.long :: .int .i64 (h.num : Int) :: heldCells hs := rfl
theorem heldCells_append (hs ks : List Held) : heldCells (hs ++ ks) = heldCells hs ++ heldCells ks := by simp [heldCells]
theorem heldCells_length (hs : List Held) : (heldCells hs).length = hs.length * 3 := by
  induction hs with
  | nil => rfl
  | cons h hs ih => rw [heldCells_cons]; simp [ih]; omega
theorem heldCells_get {hs : List Held} {i : Nat} {h : Held} (hi : hs[i]? = some h) : (heldCells hs)[i * 3]? = some h.v ∧ (heldCells hs)[i * 3 + 1]? = some h.long ∧ (heldCells hs)[i * 3 + 2]? = some (.int .i64 (h.num : Int)) := by
  induction hs generalizing i with
  | nil => simp at hi
  | cons k hs ih =>
    cases i with
    | zero => simp at hi; subst hi; simp [heldCells_cons]
    | succ i =>
      have := ih (i := i) (by simpa using hi)
      rw [heldCells_cons, show (i + 1) * 3 = i * 3 + 1 + 1 + 1 by omega]
      exact this

/-- The mark of a number. -/
def mk (num : Nat) : Value := .int .u8 ((num : Int) % 256)

set_option maxRecDepth 100000 in
set_option maxHeartbeats 400000 in
theorem markByte_any (num : Nat) (w : World) : Calls Tryz.prog 182 #[.int .i64 (num : Int)] w fun e w' => e = .returned (.int .u8 ((num : Int) % 256)) ∧ w = w' := by
  go_enter Tryz.func182, Tryz.ntmps182
  go_wp2
  go_ret
  exact ⟨rfl, rfl⟩

/-- What is asked of the lists of bytes of a Book: each owns its row; no two the same block. -/
structure Lists (w : World) (base : Nat) (hs : List Held) : Prop where
  own : ∀ (i : Nat) (h : Held), hs[i]? = some h → ∃ xs, OwnB w base h.v h.len xs
  apart : ∀ (i j : Nat) (h k : Held), hs[i]? = some h → hs[j]? = some k → i ≠ j → h.v.ownBlock = none ∨ h.v.ownBlock ≠ k.v.ownBlock

/-- The blocks of the lists. -/
def inLists (hs : List Held) (b : Nat) : Prop := ∃ (i : Nat) (h : Held), hs[i]? = some h ∧ h.v.ownBlock = some b

/-- The first i lists have their marks. -/
def Filled (w : World) (base : Nat) (hs : List Held) (i : Nat) : Prop :=
  ∀ (j : Nat) (h : Held), hs[j]? = some h → ∃ xs, OwnB w base h.v h.len xs ∧ (j < i → xs = List.replicate h.len (mk h.num))

set_option maxRecDepth 100000 in
set_option maxHeartbeats 2000000 in
theorem fillByte_any (kb N base K : Nat) (bs ss : Value) (hs : List Held) (w : World) (hbk : BookAt w kb N bs ss) (hown : w.ownsRow base 187 3 bs K (heldCells hs)) (hlist : Lists w base hs)
    (hK : K ≤ 1000000) (hlen : ∀ (i : Nat) (h : Held), hs[i]? = some h → h.len ≤ 1000000000) :
    Calls Tryz.prog 101 #[.pointer (some ⟨kb, 0, none⟩)] w fun e w' => e = .returned (.tuple #[]) ∧
      Filled w' base hs K ∧ But (inLists hs) w w' := by
  have hKl : hs.length = K := by have := hown.1; rw [heldCells_length] at this; omega
  have HKl := Lib.hid hKl
  clear hKl
  obtain ⟨Ab, cb, rfl⟩ := own_form3 hown
  have h1 := hbk.b
  go_enter Tryz.func101, Tryz.ntmps101
  go_wp2
  go_loopw [2] (fun i wr => ∃ j : Nat, j ≤ K ∧ i = .int .i64 (j : Int) ∧ Filled wr base hs j ∧ But (inLists hs) w wr) (fun i _ => K - (intOf i).toNat)
  case atStart => exact ⟨0, Nat.zero_le _, rfl, fun j h hj => by obtain ⟨xs, hx⟩ := hlist.own j h hj; exact ⟨xs, hx, fun h => by omega⟩, But.refl _ _⟩
  case round =>
    obtain ⟨j, hj, rfl, hfl, hbut⟩ := hrel
    obtain ⟨wo, rfl⟩ : ∃ wo : World, wo = wr := ⟨_, rfl⟩
    have nokb : ¬ inLists hs kb := by
      rintro ⟨i, h, hi, he⟩
      obtain ⟨xs, hx⟩ := hlist.own i h hi
      exact hbk.otherB hx he
    have hbk2 := hbk.but hbut nokb
    have hown2 := own_kept_but hown hbut (by
      rintro b hb ⟨i, h, hi, he⟩
      obtain ⟨xs, hx⟩ := hlist.own i h hi
      rcases rows_neB (by decide) (by decide) hx hown with h0 | h0
      · rw [h0] at he; cases he
      · exact h0 (he.trans hb.symm))
    have h2 := hbk2.b
    by_cases hlt : j < K
    · obtain ⟨h, hh⟩ : ∃ h, hs[j]? = some h := ⟨_, List.getElem?_eq_getElem (by rw [HKl.out]; exact hlt)⟩
      obtain ⟨g1, g2, g3⟩ := heldCells_get hh
      rcases hown2.2 with ⟨e, h0⟩ | ⟨gb, cap, cur, e, hbb, hgb, hle, hm, hsz, htk⟩
      · omega
      · cases e
        have p1 : wo.cell? ⟨gb, j * 3, none⟩ = some h.v := by
          have := hown2.cells (g := gb) rfl _ _ g1
          rwa [Addr.add_lit, Nat.zero_add] at this
        have p2 : wo.cell? ⟨gb, j * 3 + 1, none⟩ = some h.long := by
          have := hown2.cells (g := gb) rfl _ _ g2
          rwa [Addr.add_lit, Nat.zero_add] at this
        have p3 : wo.cell? ⟨gb, j * 3 + 2, none⟩ = some (.int .i64 (h.num : Int)) := by
          have := hown2.cells (g := gb) rfl _ _ g3
          rwa [Addr.add_lit, Nat.zero_add] at this
        have i1 : (j : Int) < (K : Int) := by omega
        obtain ⟨xs0, hx0, _⟩ := hfl j h hh
        have hl0 := hlen j h hh
        have hin0 : ∀ b, h.v.ownBlock = some b → inLists hs b := fun b hb => ⟨j, h, hh, hb⟩
        have hrest : ∀ wi, But (fun b => h.v.ownBlock = some b) wo wi → (∃ xs, OwnB wi base h.v h.len xs ∧ xs = List.replicate h.len (mk h.num)) → Filled wi base hs (j + 1) := by
          intro wi hbi hrow j' h' hj'
          by_cases e : j' = j
          · subst e
            rw [hh] at hj'
            cases hj'
            obtain ⟨xs, r1, r2⟩ := hrow
            exact ⟨xs, r1, fun _ => r2⟩
          · obtain ⟨xs, r1, r2⟩ := hfl j' h' hj'
            refine ⟨xs, own_kept_butB r1 hbi (fun b hb hb' => ?_), fun hlt' => r2 (by omega)⟩
            rcases hlist.apart j' j h' h hj' hh e with h0 | h0
            · rw [h0] at hb; cases hb
            · exact h0 (hb.trans hb'.symm)
        have HR := Lib.hid hrest
        have HI := Lib.hid hin0
        have HF := Lib.hid hfl
        clear hrest hin0 hfl g1 g2 g3 hh
        obtain ⟨A, n, c, A2, n2, c2, num⟩ := h
        simp only [Held.v, Held.long] at p1 p2 p3 hx0 hl0
        go_wp2
        have hx1 := hx0.alloc (.cells #[.slice A n c, .slice A2 n2 c2, .int .i64 (num : Int)] 187)
        have hlt0 := hx0.lt
        obtain ⟨wa, hwa⟩ : ∃ wa, wo.alloc (.cells #[.slice A n c, .slice A2 n2 c2, .int .i64 (num : Int)] 187) = wa := ⟨_, rfl⟩
        have hba : But (fun b => (Value.slice A n c).ownBlock = some b) wo wa := by rw [← hwa]; exact (But.refl _ _).alloc _
        have hha : wa.heap[wo.heap.size]? = some (.cells #[.slice A n c, .slice A2 n2 c2, .int .i64 (num : Int)] 187 (0, 0)) := by rw [← hwa]; exact World.alloc_heap_new wo _
        rw [hwa] at hx1 ⊢
        have HH := Lib.hid hha
        clear hwa hha
        go_loopw [4] (fun i wi => ∃ (k : Nat) (xs : List Value), k ≤ n ∧ i = .int .i64 (k : Int) ∧ OwnB wi base (.slice A n c) n xs ∧ xs.take k = List.replicate k (mk num) ∧ But (fun b => (Value.slice A n c).ownBlock = some b) wa wi) (fun i _ => n - (intOf i).toNat)
        case atStart => exact ⟨0, xs0, Nat.zero_le _, rfl, hx1, by simp, But.refl _ _⟩
        case round =>
          obtain ⟨k, xs, hk, rfl, hox, htx, hbi⟩ := hrel
          have hhi : wr.heap[wo.heap.size]? = some (.cells #[.slice A n c, .slice A2 n2 c2, .int .i64 (num : Int)] 187 (0, 0)) :=
            (hbi.block _ (Array.getElem?_eq_some_iff.1 HH.out).1 (fun e => by have := (hlt0 _ e).2; omega)).trans HH.out
          have q0 : wr.cell? ⟨wo.heap.size, 0, none⟩ = some (.slice A n c) := by rw [cell_of_row _ _ 0 _ _ (0, 0) hhi]; rfl
          have q2 : wr.cell? ⟨wo.heap.size, 2, none⟩ = some (.int .i64 (num : Int)) := by rw [cell_of_row _ _ 2 _ _ (0, 0) hhi]; rfl
          clear hhi
          have HT := Lib.hid htx
          clear htx
          by_cases hlt2 : k < n
          · obtain ⟨g, rfl⟩ : ∃ g, A = some ⟨g, 0, none⟩ := hox.ad (by omega)
            obtain ⟨⟨u, hcu⟩, hfu⟩ := own_cellAtB hox hlt2
            obtain ⟨ys, hoy, hty⟩ := own_setB hox hlt2 HT.out
            have HY := Lib.hid hty
            clear hty
            have i2 : (k : Int) < (n : Int) := by omega
            go_wp2
            go_region_law ((go_simp; go_at_call 182; refine (markByte_any num _).mono ?_; rintro e w' ⟨rfl, rfl⟩))
            all_goals
              go_wp2
              go_roundw
              case rel => exact ⟨k + 1, ys, by omega, by go_num, hoy.drew, HY.out, (hbi.set k _ (fun _ => rfl)).drew⟩
              case measure => simp [intOf]; omega
          · obtain rfl : k = n := by omega
            have hfin : Filled wr base hs (j + 1) := HR.out wr (hba.trans hbi) ⟨xs, hox, by
              have e := HT.out
              rwa [List.take_of_length_le (by have := hox.len; omega)] at e⟩
            have hbo : But (inLists hs) w wr := hbut.trans ((hba.trans hbi).mono (fun b _ hb => HI.out b hb))
            clear HR HI HF
            go_wp2
            go_roundw
            case rel => exact ⟨j + 1, by omega, by go_num, hfin, hbo⟩
            case measure => simp [intOf]; omega
    · obtain rfl : j = K := by omega
      go_wp2
      go_end0
      exact ⟨rfl, hfl, hbut⟩

end Go.Proofs.YthbgcijkpincfaaGreatDoor
