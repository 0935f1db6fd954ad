/-
  Several texts in one: TBlownLaw, FLaid, DBoolArg2, TBlownArg.
-/
import Derived.Test.YtjkohceigdfmjaaDoorBlownB1
import Derived.Test.YtjkohceigdfmjaaDoorFIs
import Derived.Test.YtjkohceigdfmjaaDoorRows
import Derived.ProofKit
import Derived.LaidMore
import Derived.OpenShut
import Derived.Stop.Joined
import Derived.Stop.LaidErr
import Derived.Stop.LaidTwo
import Derived.Test.YtjkohceigdfmjaaDoorLRow
/-
  StoresBlown.
-/
namespace Go.Proofs.YtjkohceigdfmjaaDoor
open Go.RowKit

/-- Behind the first j records. -/
structure AddedB (w W : World) (gd sb : Nat) (R : List (List Nat)) (j : Nat) (m : Sm) : Prop where
  live : Live w W (fun _ => False) gd sb 0 170 m
  neat : Neat 0 170 0 m
  all : m.l = R.take j

theorem take_get {Y : List Value} {k j : Nat} {v : Value} (h : (Y.take k)[j]? = some v) : Y[j]? = some v := by
  rw [List.getElem?_take] at h
  split at h
  · exact h
  · cases h
theorem take_of_pre {l R : List (List Nat)} (h : ∀ (i : Nat) (b : List Nat), l[i]? = some b → R[i]? = some b) : l = R.take l.length := by
  apply List.ext_getElem?
  intro i
  rw [List.getElem?_take]
  by_cases hi : i < l.length
  · rw [if_pos hi, List.getElem?_eq_getElem hi]
    exact (h i _ (List.getElem?_eq_getElem hi)).symm
  · rw [if_neg hi, List.getElem?_eq_none (by omega)]
theorem rowcells {W : World} {base n c : Nat} {e : TypeId} {A : Option Addr} {Y : List Value} (h : W.ownsRow base e 1 (.slice A n c) n Y) : ∀ (j : Nat) (v : Value), Y[j]? = some v → ∃ ad, A = some ad ∧ W.cell? (ad.add j) = some v := fun j v hv => by
  rcases h.2 with ⟨e1, h0⟩ | ⟨g, cap, cur, e1, _⟩
  · have hl := h.1
    rw [h0] at hl
    have := (List.getElem?_eq_some_iff.1 hv).1
    omega
  · cases e1
    exact ⟨_, rfl, h.cells rfl j v hv⟩
theorem run_take_rows {A : Option Addr} {n c k : Nat} (hc : k ≤ c) (hA : A ≠ none) (W : World) :
    (Instr.slice 22 (.slice A n c) none (some (.int .i64 (k : Int))) none).run Tryd.prog W = .ok (.slice A k c) W := by
  obtain ⟨ad, rfl⟩ := Option.ne_none_iff_exists'.1 hA
  obtain ⟨i0, hi, hz0, hz1, hz2⟩ := info_parts infoSlc
  have he : Tryd.prog.elem 22 = 35 := by kernel_rfl
  rw [run_slice_h W 22 (some ad) n c (by rw [he]; exact Tryd.underlying22) .i64 (k : Int) (by omega) (by omega), he]
  simp [sizeOf, typeInfo, hi, hz1, sliced, Addr.add]

set_option maxRecDepth 100000 in
set_option maxHeartbeats 4000000 in
theorem storesBlown_law (w : World) (E : Errs) (hE : Laid w E) {A : Option Addr} {n c : Nat} {R : List (List Nat)} (hr : CameRows w A n R) (hnil : A = none → c = 0) {z : Nat} (hz : z < 256) {A0 A1 B : Option Addr} {n0 c0 n1 c1 nb cb : Nat} {x0 x1 : List Nat} {ks : List Bool} (h0 : Came w A0 n0 c0 x0) (h1 : Came w A1 n1 c1 x1) (hb : CameBools w B nb cb ks) :
    Calls Tryd.prog 4 #[.slice A n c, .agg #[.slice A0 n0 c0, .slice A1 n1 c1, .int .u8 (z : Int), .slice B nb cb]] w fun e w' => e = .returned (.bool true) ∧ Below w.heap.size w w' := by
  have hlen := hr.len
  have HR0 := Lib.hid (And.intro hr (And.intro hE (And.intro h0 (And.intro h1 hb))))
  have hw1 := below_alloc w (.cells #[.slice A0 n0 c0, .slice A1 n1 c1, .int .u8 (z : Int), .slice B nb cb] 42)
  have hrow := World.alloc_heap_new w (.cells #[.slice A0 n0 c0, .slice A1 n1 c1, .int .u8 (z : Int), .slice B nb cb] 42)
  have HN := Lib.hid hnil
  clear hr hE h0 h1 hb hnil
  go_enter Tryd.func4, Tryd.ntmps4
  go_wp2_with fail
  obtain ⟨w1, hw⟩ : ∃ w1, w.alloc (.cells #[.slice A0 n0 c0, .slice A1 n1 c1, .int .u8 (z : Int), .slice B nb cb] 42) = w1 := ⟨_, rfl⟩
  rw [hw] at hw1 hrow ⊢
  obtain ⟨T, hT⟩ : ∃ T, w.heap.size = T := ⟨_, rfl⟩
  rw [hT] at hrow ⊢
  have HT := Lib.hid (And.intro hrow (And.intro hw1 hT))
  have HE := Lib.hid (HR0.out.2.1.below hw1)
  have HR := Lib.hid (HR0.out.1.below hw1)
  have HX0 := Lib.hid (HR0.out.2.2.1.below hw1)
  have HX1 := Lib.hid (HR0.out.2.2.2.1.below hw1)
  have HK := Lib.hid (HR0.out.2.2.2.2.below hw1)
  have HCA := Lib.hid (fun (W : World) (hb : Below w1.heap.size w1 W) => alive_any E (HE.out.below hb))
  have HQ := Lib.hid (fun (W : World) (hb : Below w1.heap.size w1 W) => (hb.block T (Array.getElem?_eq_some_iff.1 HT.out.1).1).trans HT.out.1)
  have HQ0 := Lib.hid (fun (W : World) (hb : Below w1.heap.size w1 W) => (show W.cell? ⟨T, 0, none⟩ = some (.slice A0 n0 c0) by rw [cell_of_row _ T 0 _ _ (0, 0) (HQ.out W hb)]; rfl))
  have HQ1 := Lib.hid (fun (W : World) (hb : Below w1.heap.size w1 W) => (show W.cell? ⟨T, 1, none⟩ = some (.slice A1 n1 c1) by rw [cell_of_row _ T 1 _ _ (0, 0) (HQ.out W hb)]; rfl))
  have HQ2 := Lib.hid (fun (W : World) (hb : Below w1.heap.size w1 W) => (show W.cell? ⟨T, 2, none⟩ = some (.int .u8 (z : Int)) by rw [cell_of_row _ T 2 _ _ (0, 0) (HQ.out W hb)]; rfl))
  have HQ3 := Lib.hid (fun (W : World) (hb : Below w1.heap.size w1 W) => (show W.cell? ⟨T, 3, none⟩ = some (.slice B nb cb) by rw [cell_of_row _ T 3 _ _ (0, 0) (HQ.out W hb)]; rfl))
  clear hw hrow hw1 hT HR0
  refine (HCA.out _ (Below.refl _ _)).mono ?_
  rintro e w2 ⟨rfl, hb2⟩
  have HB2 := Lib.hid hb2
  clear hb2
  have CS := Lib.hid (small_all (c := c) (HR.out.below HB2.out))
  go_wp2_with fail
  refine CS.out.mono ?_
  rintro e w3 ⟨zb, rfl, rfl, hzb⟩
  cases zb with
  | false =>
    clear hzb CS
    go_wp2_with fail
    refine (HCA.out _ HB2.out).mono ?_
    rintro e w4 ⟨rfl, hb4⟩
    have HB4 : Hid (Below w.heap.size w w4) := below_on HT.out.2.1 (Nat.le_refl _) (below_on HB2.out (Nat.le_refl _) hb4)
    clear hb4
    go_wp2_with fail
    go_ret
    exact ⟨rfl, HB4.out⟩
  | true =>
    have hs : Small R := hzb.1 rfl
    have h30 : n ≤ 30 := by rw [← hlen]; exact hs.1
    have HS := Lib.hid hs
    have q0 := HQ0.out w2 HB2.out
    have q1 := HQ1.out w2 HB2.out
    have q2 := HQ2.out w2 HB2.out
    have q3 := HQ3.out w2 HB2.out
    clear hzb CS hs
    by_cases d0 : 256 < n0
    · have e0 : (256 : Int) < (n0 : Int) := by omega
      go_wp2_with fail
      refine (HCA.out _ HB2.out).mono ?_
      rintro e w4 ⟨rfl, hb4⟩
      have HB4 : Hid (Below w.heap.size w w4) := below_on HT.out.2.1 (Nat.le_refl _) (below_on HB2.out (Nat.le_refl _) hb4)
      clear hb4
      go_wp2_with fail
      go_ret
      exact ⟨rfl, HB4.out⟩
    have e0 : ¬ (256 : Int) < (n0 : Int) := by omega
    by_cases d1 : 256 < n1
    · have e1 : (256 : Int) < (n1 : Int) := by omega
      go_wp2_with fail
      refine (HCA.out _ HB2.out).mono ?_
      rintro e w4 ⟨rfl, hb4⟩
      have HB4 : Hid (Below w.heap.size w w4) := below_on HT.out.2.1 (Nat.le_refl _) (below_on HB2.out (Nat.le_refl _) hb4)
      clear hb4
      go_wp2_with fail
      go_ret
      exact ⟨rfl, HB4.out⟩
    have e1 : ¬ (256 : Int) < (n1 : Int) := by omega
    by_cases d2 : 100 < nb
    · have e2 : (100 : Int) < (nb : Int) := by omega
      go_wp2_with fail
      refine (HCA.out _ HB2.out).mono ?_
      rintro e w4 ⟨rfl, hb4⟩
      have HB4 : Hid (Below w.heap.size w w4) := below_on HT.out.2.1 (Nat.le_refl _) (below_on HB2.out (Nat.le_refl _) hb4)
      clear hb4
      go_wp2_with fail
      go_ret
      exact ⟨rfl, HB4.out⟩
    have e2 : ¬ (100 : Int) < (nb : Int) := by omega
    go_wp2_with fail
    clear q0 q1 q2 q3
    refine (new_yes w2 170 (by decide) (by decide)).mono ?_
    rintro e w3 ⟨gd, rfl, hM⟩
    have HB3 : Hid (Below w1.heap.size w1 w3) := below_on HB2.out (Nat.le_refl _) hM.2
    have CO := Lib.hid (open_rest (from_ := 0) (many := 170) (l := []) E HE.out HB3.out hM.1 (fun x hx => Nat.le_trans HB2.out.size hx.1) (by decide) (by show 0 + 170 ≤ (zeros 170).length; rw [zeros_length]; decide) (by show ([] : List (Nat × List Nat)).length ≤ _; simp) rfl (fun b hb => by cases hb) ⟨Nat.zero_le _, .inl (zeros_region (by decide))⟩)
    clear hM
    go_wp2_with fail
    refine CO.out.mono ?_
    rintro e w4 ⟨sb, m, rfl, hl, hn, hl0, _, _⟩
    have HF := Lib.hid (AddedB.mk (R := R) (j := 0) hl hn (by rw [hl0]; rfl))
    clear CO hl hn hl0
    go_wp2_with fail
    go_loopw [9] (fun i wr => ∃ (j : Nat) (m : Sm), j ≤ n ∧ i = .int .i64 (j : Int) ∧ Hid (AddedB w1 wr gd sb R j m)) (fun i _ => n - (intOf i).toNat)
    case atStart => exact ⟨0, m, Nat.zero_le _, rfl, HF.out⟩
    case round =>
      clear HF HB3
      obtain ⟨j, m, hj, rfl, HF⟩ := hrel
      by_cases hlt : j < n
      · have hji : (j : Int) < (n : Int) := by omega
        obtain ⟨b, hbj⟩ : ∃ b, R[j]? = some b := ⟨_, List.getElem?_eq_getElem (by omega)⟩
        obtain ⟨ad, B', bl, d, rfl, hcell, hcame, hbl⟩ := HR.out.row j b hbj
        have hb256 := HS.out.2 b (List.mem_of_getElem? hbj)
        have hblb := hcame.in_.len
        have hcell := (HF.out.live.bel.cell (World.block_lt_of_cell? w1 _ hcell)).trans hcell
        have hu := used_take HS.out.2 j
        rw [← HF.out.all] at hu
        have CP := Lib.hid (live_put HF.out.live HF.out.neat (Below.refl _ _) hcame (by omega) (by have := secs_le bl (by omega); have := HS.out.1; omega))
        have HY := Lib.hid (And.intro hbj HF.out.all)
        clear hb256 hblb hu hbj hcame
        go_wp2_with fail
        refine CP.out.mono ?_
        rintro e w5 ⟨rfl, _, m5, hl5, hn5, hm5⟩
        have HF5 := Lib.hid (AddedB.mk (R := R) (j := j + 1) hl5 hn5 (by rw [hm5, HY.out.2, List.take_add_one, HY.out.1]; rfl))
        clear CP hl5 hn5 hm5 hcell
        go_wp2_with fail
        go_roundw
        case rel => exact ⟨j + 1, m5, by omega, by go_num, HF5.out⟩
        case measure => simp [intOf]; omega
      · obtain rfl : n = j := by omega
        have hall : m.l = R := by rw [HF.out.all, ← hlen, List.take_length]
        have hu := used_take HS.out.2 n
        rw [← HF.out.all, hall] at hu
        have CY := Lib.hid (live_clear HF.out.live HF.out.neat)
        rw [hall] at CY
        have HU := Lib.hid hu
        clear hall hu HF
        go_wp2_with fail
        refine CY.out.mono ?_
        rintro e w5 ⟨rfl, _, m5, hl5, hn5, hm5, hw5⟩
        obtain ⟨k, hk⟩ : ∃ k, z % 9 = k := ⟨_, rfl⟩
        have hk9 : k < 9 := by omega
        have t2 : (z : Int) % 9 = (k : Int) := by omega
        have t1 : Int.tmod (z : Int) 9 = (k : Int) := by rw [Int.tmod_eq_emod_of_nonneg (by omega)]; exact t2
        have t5 : IntKind.i64.wrap (z : Int) = (z : Int) := by rw [IntKind.wrap_i64]; omega
        have CZ := Lib.hid (live_fuse (z := k) (by omega) hl5)
        have H5 := Lib.hid (And.intro hn5 (And.intro hm5 hw5))
        have q2 := HQ2.out w5 hl5.bel
        clear CY hl5 hn5 hm5 hw5 hk hk9
        go_wp2_with fail
        refine CZ.out.mono ?_
        rintro e w6 ⟨rfl, hl6, _⟩
        have q0 := HQ0.out w6 hl6.bel
        have CT := Lib.hid (live_torn hl6 H5.out.1 H5.out.2.2 (Below.refl _ _) HX0.out (by omega) (by have := secs_le n0 (by omega); have := HS.out.1; have := HU.out; rw [H5.out.2.1]; omega))
        rw [H5.out.2.1] at CT
        clear CZ t1 t2 t5 q2 hl6
        go_wp2_with fail
        refine CT.out.mono ?_
        rintro e w7 ⟨k7, m7, rfl, hl7, _, hres⟩
        clear CT q0 H5
        have q0 := HQ0.out w7 hl7.bel
        have HB7 := Lib.hid hl7.bel
        obtain ⟨Y, hY, hYc⟩ := rows_out HR.out
        go_wp2_with fail
        rename_i K ha
        generalize hA : Act.mk _ _ = a0
        have tail : ∀ (v86 v89 : Value) (A3 : Option Addr) (c3 : Nat) (W3 : World), Hid ((∃ base, w7.heap.size ≤ base ∧ W3.ownsRow base 35 1 (.slice A3 (n + 1) c3) (n + 1) (Y ++ [.slice A0 n0 c0])) ∧ Below w7.heap.size w7 W3) → K (((((((a0.put (some 85) (.slice A n c)).put (some 86) v86).put (some 87) (.pointer (some ⟨T, 0, none⟩))).put (some 88) (.slice A0 n0 c0)).put (some 89) v89).put (some 90) (.slice A3 (n + 1) c3)).put (some 11) (.slice A3 (n + 1) c3)) W3 := by
          intro v86 v89 A3 c3 W3 how
          subst hA
          simp only [Act.put, List.setIfInBounds_toArray, List.set_cons_zero, List.set_cons_succ]
          apply ha
          have hl8 := hl7.below how.out.2
          have q3 := HQ3.out W3 hl8.bel
          have CF := Lib.hid (live_fail (c := cb) hl8 (HK.out.in_.below hl8.bel))
          have hrow : ∃ O : Nat → Prop, RowIn w1 W3 O A3 (n + 1) (R ++ [x0]) := by
            obtain ⟨⟨base, hbase, ow⟩, hb3⟩ := how.out
            exact ⟨_, rowIn_of_own ow (hY.append (rowsIs_one HX0.out (by omega)))⟩
          obtain ⟨O3, hrow⟩ := hrow
          obtain ⟨YY, hYY, hYd⟩ : ∃ YY, RowsIs w1 YY (R ++ [x0]) ∧ YY = Y ++ [.slice A0 n0 c0] := ⟨_, hY.append (rowsIs_one HX0.out (by omega)), rfl⟩
          have HYY := Lib.hid hYY
          have HCells : Hid (∀ (j : Nat) (v : Value), YY[j]? = some v → ∃ ad, A3 = some ad ∧ W3.cell? (ad.add j) = some v) := by
            obtain ⟨⟨base, hbase, ow⟩, hb3⟩ := how.out
            rw [hYd]
            exact Lib.hid (rowcells ow)
          have HA3 : Hid (A3 ≠ none) := by
            obtain ⟨⟨base, hbase, ow⟩, hb3⟩ := how.out
            rcases ow.2 with ⟨_, h0⟩ | ⟨g, cap, cur, e1, _⟩
            · omega
            · cases e1; exact Lib.hid (fun e => by cases e)
          have HOwc : Hid (n + 1 ≤ c3) := by
            obtain ⟨⟨base, hbase, ow⟩, hb3⟩ := how.out
            exact Lib.hid (own_cap ow)
          have HBW3 := Lib.hid hl8.bel
          clear hYY hYd
          have HRow := Lib.hid hrow
          clear hrow
          go_wp2_with fail
          refine CF.out.mono ?_
          rintro e w9 ⟨g9, rfl, hM⟩
          have hx0 := HX0.out.in_.len
          rcases hres with ⟨rfl, hk⟩ | ⟨rfl, hk⟩
          · obtain ⟨l', hrest, hsml, hpre, hle1, hge, hle9⟩ : ∃ l', Rest l' 170 (regionL (settle m7.st.sure (kept m7.st.waits ks)) 0 170) ∧ (∀ b ∈ l', b.length ≤ 256) ∧ (∀ (i : Nat) (b : List Nat), l'[i]? = some b → (R ++ [x0])[i]? = some b) ∧ l'.length ≤ n + 1 ∧ n ≤ l'.length ∧ l'.length ≤ n :=
              ⟨R, hk ks, HS.out.2, fun i b hb => by rw [List.getElem?_append_left (List.getElem?_eq_some_iff.1 hb).1]; exact hb, by omega, by omega, by omega⟩
            have hfar := hl8.far
            have hsm : ∀ b ∈ l', b.length ≤ 256 := hsml
            have HB9 := Lib.hid (below_on hl8.bel (Nat.le_refl _) hM.2)
            have CO := Lib.hid (open_rest (w := W3) (from_ := 0) (many := 170) (l := l') E (HE.out.below hl8.bel) hM.2 hM.1 (fun x hx => hx.1) (by decide) (by show 0 + 170 ≤ (settle _ _).length; rw [settle_length]; exact hfar) (by show ([] : List (Nat × List Nat)).length ≤ _; simp) rfl hsm hrest)
            clear hM
            go_wp2_with fail
            refine CO.out.mono ?_
            rintro e w10 ⟨sb2, m10, rfl, hl10, hn10, hm10, _, _⟩
            have HB10 := Lib.hid (below_on hl8.bel (Nat.le_refl _) hl10.bel)
            have HRow10 := Lib.hid (HRow.out.below hl10.bel)
            obtain ⟨G10, hs10⟩ := hl10.sto
            rw [hm10] at hs10
            have CH := Lib.hid (has_yes (c := c3) hs10 (HRow10.out.came HB10.out) hpre hle1 (by omega))
            have H10 := Lib.hid (And.intro hl10 (And.intro hn10 hm10))
            clear CO hs10 hl10 hn10 hm10
            obtain ⟨q, hq⟩ : ∃ q, l'.length = q := ⟨_, rfl⟩
            have hqn : n ≤ q := by rw [← hq]; exact hge
            have hqn2 : q ≤ n := by rw [← hq]; exact hle9
            have e11 : ¬ (n : Int) < (q : Int) := by omega
            have HQq := Lib.hid hq
            have e8 : ¬ (q : Int) < (n : Int) := by omega
            clear hq
            go_wp2_with fail
            refine CH.out.mono ?_
            rintro e w11 ⟨rfl, hb11⟩
            have H11 := Lib.hid (And.intro (H10.out.1.below hb11) (And.intro H10.out.2.1 H10.out.2.2))
            have HRow11 := Lib.hid (HRow10.out.below hb11)
            have CL := Lib.hid (live_len H11.out.1)
            rw [H11.out.2.2, HQq.out] at CL
            clear CH hb11 H10 HRow10
            go_wp2_with fail
            refine CL.out.mono ?_
            rintro e w12 ⟨rfl, rfl⟩
            go_wp2_with fail
            refine CL.out.mono ?_
            rintro e w13 ⟨rfl, rfl⟩
            go_wp2_with fail
            -- REST9
            have CLf := Lib.hid (fun (W : World) (hW : Below w11.heap.size w11 W) => (by
              have h := live_len (H11.out.1.below hW)
              rw [H11.out.2.2, HQq.out] at h
              exact h : Calls Tryd.prog 15 #[.pointer (some ⟨sb2, 0, none⟩)] W fun e w' => e = .returned (.int .i64 (q : Int)) ∧ W = w'))
            have HB11 := Lib.hid H11.out.1.bel
            have hq1 : q ≤ n + 1 := by rw [← HQq.out]; exact hle1
            have hsl : ∀ W : World, (Instr.slice 22 (.slice A3 (n + 1) c3) none (some (.int .i64 (q : Int))) none).run Tryd.prog W = .ok (.slice A3 q c3) W := run_take_rows (by have := HOwc.out; omega) HA3.out
            have HYt := Lib.hid (And.intro (show (YY.take q).length = q by rw [List.length_take, HYY.out.len, List.length_append, hlen]; simp; omega) (And.intro (show ∀ v ∈ YY.take q, v.oneCell' = true from fun v hv => HYY.out.one v (List.mem_of_mem_take hv)) (show l' = (R ++ [x0]).take q from (by rw [← HQq.out]; exact take_of_pre hpre))))
            have q1 := HQ1.out w11 (Below.trans HBW3.out (Below.mono HB11.out HBW3.out.size))
            rename_i K2 ha2
            generalize hA2 : Act.mk _ _ = a2
            have tail2 : ∀ (v143 v146 : Value) (A5 : Option Addr) (c5 : Nat) (W5 : World), Hid ((∃ base, w11.heap.size ≤ base ∧ W5.ownsRow base 35 1 (.slice A5 (q + 1) c5) (q + 1) (YY.take q ++ [.slice A1 n1 c1])) ∧ Below w11.heap.size w11 W5) → K2 ((((((((((a2.put (some 139) (.slice A3 (n + 1) c3)).put (some 140) (.pointer (some ⟨sb2, 0, none⟩))).put (some 141) (.int .i64 (q : Int))).put (some 142) (.slice A3 q c3)).put (some 143) v143).put (some 144) (.pointer (some ⟨T, 1, none⟩))).put (some 145) (.slice A1 n1 c1)).put (some 146) v146).put (some 147) (.slice A5 (q + 1) c5)).put (some 16) (.slice A5 (q + 1) c5)) W5 := by
              intro v143 v146 A5 c5 W5 how2
              subst hA2
              simp only [Act.put, List.setIfInBounds_toArray, List.set_cons_zero, List.set_cons_succ]
              apply ha2
              have hrow2 : ∃ base, w11.heap.size ≤ base ∧ RowIn w1 W5 (fun x => base ≤ x ∧ x < W5.heap.size) A5 (q + 1) (l' ++ [x1]) := by
                obtain ⟨⟨base, hbase, ow⟩, hb3⟩ := how2.out
                refine ⟨base, hbase, rowIn_of_own ow ?_⟩
                have h1 := HYY.out.take q
                rw [← HYt.out.2.2] at h1
                exact h1.append (rowsIs_one HX1.out (by omega))
              obtain ⟨base2, hbase2, hrow2⟩ := hrow2
              have hl13 := H11.out.1.off (O' := fun x => base2 ≤ x ∧ x < W5.heap.size) how2.out.2 (fun x hx => .inr ⟨Nat.le_trans hbase2 hx.1, hx.2⟩)
              have hx1 := HX1.out.in_.len
              have hu := used_take hsm q
              rw [← HQq.out, List.take_length] at hu
              have CA := Lib.hid (live_put hl13 H11.out.2.1 (Below.refl _ _) (HX1.out.below HBW3.out) (by omega) (by have := secs_le n1 (by omega); rw [H11.out.2.2]; have := HQq.out; omega))
              rw [H11.out.2.2] at CA
              have q1 := HQ1.out W5 (Below.trans HBW3.out (Below.mono hl13.bel HBW3.out.size))
              have HRow2 := Lib.hid hrow2
              clear hl13 hrow2 hu
              go_wp2_with fail
              refine CA.out.mono ?_
              rintro e w14 ⟨rfl, hbt14, m14, hl14, hn14, hm14⟩
              have HRow14 := Lib.hid (HRow2.out.but hbt14 (fun x hx hn => hn hx))
              have CS14 := Lib.hid (live_clear hl14 hn14)
              rw [hm14] at CS14
              clear CA hbt14 hl14 hn14 hm14 q1
              go_wp2_with fail
              refine CS14.out.mono ?_
              rintro e w15 ⟨rfl, hbt15, m15, hl15, hn15, hm15, hwt15⟩
              have HRow15 := Lib.hid (HRow14.out.but hbt15 (fun x hx hn => hn hx))
              have hb15 := Below.trans HBW3.out (Below.mono hl15.bel HBW3.out.size)
              obtain ⟨F15, hd15⟩ := hl15.disk
              have hreg : regionL (settle m15.st.sure (kept m15.st.waits [])) 0 170 = lsecs 0 (l' ++ [x1]) ++ List.replicate (170 - usedL (l' ++ [x1])) nought := by
                have e1 := hn15.reg
                have e2 : m15.st.read = settle m15.st.sure (kept m15.st.waits []) := by show settle m15.st.sure m15.st.waits = _; rw [hwt15]; rfl
                rw [← e2, e1, hm15]
              have hfit := hn15.fits
              rw [hm15] at hfit
              have hsml15 := hn15.small
              rw [hm15] at hsml15
              have CO15 := Lib.hid (opened_any (A := none) (n := 0) (c := 0) (ks := []) (many := 170) (r := 170 - usedL (l' ++ [x1])) (l := l' ++ [x1]) E HE.out hb15 hd15 (InB.none_ _ _) (by decide) (by have := hl15.far; omega) hsml15 (by omega) hreg)
              have HB15 := Lib.hid hb15
              clear CS14 hbt15 hl15 hn15 hm15 hwt15 hd15 hreg hfit hsml15 hb15
              go_wp2_with fail
              refine CO15.out.mono ?_
              rintro e w16 ⟨g16, sb16, rfl, hl16⟩
              obtain ⟨G16, hs16⟩ := hl16.sto
              have HRow16 := Lib.hid (HRow15.out.below hl16.bel)
              have HB16 := Lib.hid (Below.trans HB15.out (Below.mono hl16.bel HB15.out.size))
              have CH16 := Lib.hid (has_yes (c := c5) hs16 (HRow16.out.came HB16.out) (fun i b hb => hb) (by show (l' ++ [x1]).length ≤ q + 1; rw [List.length_append, HQq.out]; exact Nat.le_refl _) (by omega))
              have CL16 := Lib.hid (fun (W : World) (hW : Below w16.heap.size w16 W) => live_len (hl16.below hW))
              clear CO15 hs16 hl16
              go_wp2_with fail
              refine CH16.out.mono ?_
              rintro e w17 ⟨rfl, hb17⟩
              have CL17 := Lib.hid (CL16.out _ hb17)
              have e17 : ((l' ++ [x1]).length : Int) = (q : Int) + 1 := by rw [List.length_append, HQq.out]; rfl
              have HB17 := Lib.hid (below_on HB16.out (Nat.le_refl _) hb17)
              clear CH16 CL16 hb17
              go_wp2_with fail
              refine CL17.out.mono ?_
              rintro e w18 ⟨rfl, rfl⟩
              have e18 : (⟨⟨settle m15.st.sure (kept m15.st.waits []), [], -1, false⟩, l' ++ [x1], false⟩ : Sm).l.length = q + 1 := by show (l' ++ [x1]).length = _; rw [List.length_append, HQq.out]; rfl
              rw [e18]
              have HB18 : Hid (Below w.heap.size w w17) := below_on HT.out.2.1 (Nat.le_refl _) HB17.out
              clear e17 e18 CL17
              go_wp2_with fail
              go_ret
              exact ⟨rfl, HB18.out⟩
            subst hA2
            have z1 : decide (q < n) = false := by simp; omega
            have z2 : decide (n < q) = false := by simp; omega
            simp only [Act.put, List.setIfInBounds_toArray, List.set_cons_zero, List.set_cons_succ, z1, z2, Bool.or_self] at tail2
            have HTail2 := Lib.hid tail2
            clear tail2 ha2
            refine wp_region_held_drew (S := fun W => Below w11.heap.size w11 W) (by kernel_rfl) ((Below.refl _ _).drew) (fun hS0 => ?_)
            change wpAnyH _ _ _ _ _ _ _ _ w11.drew
            refine' wpAnyH_take (i := 0) (oi := _) (v := _) ?ta0_1 (by kernel_rfl) ?tb0_1 ?tc0_1 ?td0_1 ?te0_1 hS0 ?tf0_1
            case ta0_1 => (simp only [List.getElem?_toArray, List.getElem?_cons_zero]; rfl)
            case tb0_1 => kernel_rfl
            case tc0_1 => kernel_rfl
            case td0_1 => exact fun _ _ _ h => h
            case te0_1 => refine Or.inl ⟨by rfl, ?_⟩; intro W hSw; go_simp; try with_reducible rfl
            try simp only [Act.put, List.setIfInBounds_toArray, List.set_cons_zero, List.set_cons_succ]
            refine' wpAnyH_take (i := 1) (oi := _) (v := _) ?ta1_2 (by kernel_rfl) ?tb1_2 ?tc1_2 ?td1_2 ?te1_2 hS0 ?tf1_2
            case ta1_2 => (simp only [List.getElem?_toArray, List.getElem?_cons_zero, List.getElem?_cons_succ]; rfl)
            case tb1_2 => kernel_rfl
            case tc1_2 => kernel_rfl
            case td1_2 => exact fun _ _ _ h => h
            case te1_2 => refine Or.inl ⟨by rfl, ?_⟩; intro W hSw; go_simp; try with_reducible rfl
            try simp only [Act.put, List.setIfInBounds_toArray, List.set_cons_zero, List.set_cons_succ]
            refine' wpAnyH_take (i := 5) (oi := _) (v := _) ?ta5_3 (by kernel_rfl) ?tb5_3 ?tc5_3 ?td5_3 ?te5_3 hS0 ?tf5_3
            case ta5_3 => (simp only [List.getElem?_toArray, List.getElem?_cons_zero, List.getElem?_cons_succ]; rfl)
            case tb5_3 => kernel_rfl
            case tc5_3 => kernel_rfl
            case td5_3 => exact fun _ _ _ h => h
            case te5_3 => refine Or.inl ⟨by rfl, ?_⟩; intro W hSw; go_simp; try with_reducible rfl
            try simp only [Act.put, List.setIfInBounds_toArray, List.set_cons_zero, List.set_cons_succ]
            refine' wpAnyH_take (i := 6) (oi := _) (v := _) ?ta6_4 (by kernel_rfl) ?tb6_4 ?tc6_4 ?td6_4 ?te6_4 hS0 ?tf6_4
            case ta6_4 => (simp only [List.getElem?_toArray, List.getElem?_cons_zero, List.getElem?_cons_succ]; rfl)
            case tb6_4 => kernel_rfl
            case tc6_4 => kernel_rfl
            case td6_4 => exact fun _ _ _ h => h
            case te6_4 => refine Or.inl ⟨by rfl, ?_⟩; intro W hSw; have q9 := HQ1.out W (Below.trans HBW3.out (Below.mono (Below.trans HB11.out (Below.mono hSw HB11.out.size)) HBW3.out.size)); go_simp; try with_reducible rfl
            try simp only [Act.put, List.setIfInBounds_toArray, List.set_cons_zero, List.set_cons_succ]
            refine wpAnyH_ready (rs := [2, 7]) (by kernel_rfl) (by simp) ?_
            refine' AllReadyH.cons (o := _) ?ra5_2 (fun K hK => ?_) (AllReadyH.cons (o := _) ?ra5_7 (fun K hK => ?_) AllReadyH.nil)
            case ra5_2 => (simp only [List.getElem?_toArray, List.getElem?_cons_zero, List.getElem?_cons_succ]; rfl)
            case ra5_7 => (simp only [List.getElem?_toArray, List.getElem?_cons_zero, List.getElem?_cons_succ]; rfl)
            · go_simp
              refine (CLf.out _ hS0).mono ?_
              rintro e w' ⟨rfl, rfl⟩
              refine hK.out _ _ hS0 (fun _ => ?_)
              clear hK K
              try simp only [Act.put, List.setIfInBounds_toArray, List.set_cons_zero, List.set_cons_succ]
              refine' wpAnyH_take (i := 3) (oi := _) (v := _) ?ta3_6 (by kernel_rfl) ?tb3_6 ?tc3_6 ?td3_6 ?te3_6 hS0 ?tf3_6
              case ta3_6 => (simp only [List.getElem?_toArray, List.getElem?_cons_zero, List.getElem?_cons_succ]; rfl)
              case tb3_6 => kernel_rfl
              case tc3_6 => kernel_rfl
              case td3_6 => exact fun _ _ _ h => h
              case te3_6 => refine Or.inl ⟨by rfl, ?_⟩; intro W hSw; go_simp; try with_reducible rfl
              try simp only [Act.put, List.setIfInBounds_toArray, List.set_cons_zero, List.set_cons_succ]
              refine wpAnyH_ready (rs := [4, 7]) (by kernel_rfl) (by simp) ?_
              refine' AllReadyH.cons (o := _) ?ra7_4 (fun K hK => ?_) (AllReadyH.cons (o := _) ?ra7_7 (fun K hK => ?_) AllReadyH.nil)
              case ra7_4 => (simp only [List.getElem?_toArray, List.getElem?_cons_zero, List.getElem?_cons_succ]; rfl)
              case ra7_7 => (simp only [List.getElem?_toArray, List.getElem?_cons_zero, List.getElem?_cons_succ]; rfl)
              · refine step_rapp (by rfl) _ _ (by rfl) w11.drew.heap.size none 0 0 [] (by rfl) ⟨rfl, .inl ⟨rfl, rfl⟩⟩ A3 q c3 (YY.take q) (by rfl) HYt.out.1 (fun j v hv => (HCells.out j v (take_get hv)).elim fun ad h => ⟨ad, h.1, ((Below.trans HB11.out (Below.mono hS0 HB11.out.size)).cell (World.block_lt_of_cell? W3 _ h.2)).trans h.2⟩) HYt.out.2.1 (fun e => absurd e HA3.out) q (Nat.zero_add q) (by omega) (Nat.le_refl _) ?_
                rw [List.nil_append]
                intro A4 c4 Wa ow_Wa hb_Wa
                have hBa : Below w11.heap.size w11 Wa := Below.trans hS0 (Below.mono hb_Wa hS0.size)
                refine hK.out _ _ hBa (fun _ => ?_)
                clear hK K
                try simp only [Act.put, List.setIfInBounds_toArray, List.set_cons_zero, List.set_cons_succ]
                refine wpAnyH_ready (rs := [7]) (by kernel_rfl) (by simp) ?_
                refine' AllReadyH.cons (o := _) ?ra8_7 (fun K hK => ?_) AllReadyH.nil
                case ra8_7 => (simp only [List.getElem?_toArray, List.getElem?_cons_zero, List.getElem?_cons_succ]; rfl)
                go_simp
                have hb_a := below_alloc Wa (.cells #[.slice A1 n1 c1] 35)
                have hBb : Below w11.heap.size w11 (Wa.alloc (.cells #[.slice A1 n1 c1] 35)) := Below.trans hBa (Below.mono hb_a hBa.size)
                refine hK.out _ _ hBb (fun _ => ?_)
                clear hK K
                try simp only [Act.put, List.setIfInBounds_toArray, List.set_cons_zero, List.set_cons_succ]
                refine wpAnyH_ready (rs := [8]) (by kernel_rfl) (by simp) ?_
                refine' AllReadyH.cons (o := _) ?ra9_8 (fun K hK => ?_) AllReadyH.nil
                case ra9_8 => (simp only [List.getElem?_toArray, List.getElem?_cons_zero, List.getElem?_cons_succ]; rfl)
                refine step_rapp (by rfl) _ _ (by rfl) w11.drew.heap.size A4 q c4 (YY.take q) (by rfl) (own_on ow_Wa hb_a) (some ⟨Wa.heap.size, 0, none⟩) 1 1 [.slice A1 n1 c1] (by rfl) rfl (fun j v hv => by
                  cases j with
                  | zero => cases hv; exact ⟨_, rfl, (by simp [Addr.add])⟩
                  | succ j => simp at hv) (fun v hv => by rw [List.mem_singleton.1 hv]; rfl) (fun e => by cases e) (q + 1) rfl (by omega) (Nat.le_trans hb_Wa.size hb_a.size) ?_
                intro A5 c5 W5 ow5 hb5
                have hB5 : Below w11.heap.size w11 W5 := Below.trans hBb (Below.mono hb5 (Nat.le_refl _))
                refine hK.out _ _ hB5 (fun _ => ?_)
                clear hK K
                try simp only [Act.put, List.setIfInBounds_toArray, List.set_cons_zero, List.set_cons_succ]
                refine' wpAnyH_take (i := 9) (oi := _) (v := _) ?ta9_10 (by kernel_rfl) ?tb9_10 ?tc9_10 ?td9_10 ?te9_10 hB5 ?tf9_10
                case ta9_10 => (simp only [List.getElem?_toArray, List.getElem?_cons_zero, List.getElem?_cons_succ]; rfl)
                case tb9_10 => kernel_rfl
                case tc9_10 => kernel_rfl
                case td9_10 => exact fun _ _ _ h => h
                case te9_10 => refine Or.inl ⟨by rfl, ?_⟩; intro W hSw; go_simp; try with_reducible rfl
                try simp only [Act.put, List.setIfInBounds_toArray, List.set_cons_zero, List.set_cons_succ]
                refine wpAnyH_done (by kernel_rfl) ?_ _
                exact HTail2.out _ _ A5 c5 W5 ⟨⟨_, (Nat.le_refl _), ow5⟩, hB5⟩
              · go_simp
                have hb_a := below_alloc w11.drew (.cells #[.slice A1 n1 c1] 35)
                have cell_a : (w11.drew.alloc (.cells #[.slice A1 n1 c1] 35)).cell? ⟨w11.drew.heap.size, 0, none⟩ = some (.slice A1 n1 c1) := by rw [cell_of_row _ _ 0 _ _ (0, 0) (World.alloc_heap_new w11.drew _)]; rfl
                have hBc : Below w11.heap.size w11 (w11.drew.alloc (.cells #[.slice A1 n1 c1] 35)) := Below.trans hS0 (Below.mono hb_a hS0.size)
                refine hK.out _ _ hBc (fun _ => ?_)
                clear hK K
                try simp only [Act.put, List.setIfInBounds_toArray, List.set_cons_zero, List.set_cons_succ]
                refine wpAnyH_ready (rs := [4]) (by kernel_rfl) (by simp) ?_
                refine' AllReadyH.cons (o := _) ?ra11_4 (fun K hK => ?_) AllReadyH.nil
                case ra11_4 => (simp only [List.getElem?_toArray, List.getElem?_cons_zero, List.getElem?_cons_succ]; rfl)
                refine step_rapp (by rfl) _ _ (by rfl) (w11.drew.alloc (.cells #[.slice A1 n1 c1] 35)).heap.size none 0 0 [] (by rfl) ⟨rfl, .inl ⟨rfl, rfl⟩⟩ A3 q c3 (YY.take q) (by rfl) HYt.out.1 (fun j v hv => (HCells.out j v (take_get hv)).elim fun ad h => ⟨ad, h.1, ((Below.trans HB11.out (Below.mono hBc HB11.out.size)).cell (World.block_lt_of_cell? W3 _ h.2)).trans h.2⟩) HYt.out.2.1 (fun e => absurd e HA3.out) q (Nat.zero_add q) (by omega) (Nat.le_refl _) ?_
                rw [List.nil_append]
                intro A4 c4 Wd ow_Wd hb_Wd
                have hBd : Below w11.heap.size w11 Wd := Below.trans hBc (Below.mono hb_Wd hBc.size)
                refine hK.out _ _ hBd (fun _ => ?_)
                clear hK K
                try simp only [Act.put, List.setIfInBounds_toArray, List.set_cons_zero, List.set_cons_succ]
                have cell_d := (hb_Wd.cell (World.block_lt_of_cell? _ _ cell_a)).trans cell_a
                refine wpAnyH_ready (rs := [8]) (by kernel_rfl) (by simp) ?_
                refine' AllReadyH.cons (o := _) ?ra12_8 (fun K hK => ?_) AllReadyH.nil
                case ra12_8 => (simp only [List.getElem?_toArray, List.getElem?_cons_zero, List.getElem?_cons_succ]; rfl)
                refine step_rapp (by rfl) _ _ (by rfl) (w11.drew.alloc (.cells #[.slice A1 n1 c1] 35)).heap.size A4 q c4 (YY.take q) (by rfl) ow_Wd (some ⟨w11.drew.heap.size, 0, none⟩) 1 1 [.slice A1 n1 c1] (by rfl) rfl (fun j v hv => by
                  cases j with
                  | zero => cases hv; exact ⟨_, rfl, (by simpa [Addr.add] using cell_d)⟩
                  | succ j => simp at hv) (fun v hv => by rw [List.mem_singleton.1 hv]; rfl) (fun e => by cases e) (q + 1) rfl (by omega) hb_Wd.size ?_
                intro A5 c5 W5 ow5 hb5
                have hB5 : Below w11.heap.size w11 W5 := Below.trans hBd (Below.mono hb5 (Nat.le_trans hS0.size hb_a.size))
                refine hK.out _ _ hB5 (fun _ => ?_)
                clear hK K
                try simp only [Act.put, List.setIfInBounds_toArray, List.set_cons_zero, List.set_cons_succ]
                refine' wpAnyH_take (i := 9) (oi := _) (v := _) ?ta9_13 (by kernel_rfl) ?tb9_13 ?tc9_13 ?td9_13 ?te9_13 hB5 ?tf9_13
                case ta9_13 => (simp only [List.getElem?_toArray, List.getElem?_cons_zero, List.getElem?_cons_succ]; rfl)
                case tb9_13 => kernel_rfl
                case tc9_13 => kernel_rfl
                case td9_13 => exact fun _ _ _ h => h
                case te9_13 => refine Or.inl ⟨by rfl, ?_⟩; intro W hSw; go_simp; try with_reducible rfl
                try simp only [Act.put, List.setIfInBounds_toArray, List.set_cons_zero, List.set_cons_succ]
                refine wpAnyH_done (by kernel_rfl) ?_ _
                exact HTail2.out _ _ A5 c5 W5 ⟨⟨_, (Nat.le_trans hS0.size hb_a.size), ow5⟩, hB5⟩
            · go_simp
              have hb_a := below_alloc w11.drew (.cells #[.slice A1 n1 c1] 35)
              have cell_a : (w11.drew.alloc (.cells #[.slice A1 n1 c1] 35)).cell? ⟨w11.drew.heap.size, 0, none⟩ = some (.slice A1 n1 c1) := by rw [cell_of_row _ _ 0 _ _ (0, 0) (World.alloc_heap_new w11.drew _)]; rfl
              have hBc : Below w11.heap.size w11 (w11.drew.alloc (.cells #[.slice A1 n1 c1] 35)) := Below.trans hS0 (Below.mono hb_a hS0.size)
              refine hK.out _ _ hBc (fun _ => ?_)
              clear hK K
              try simp only [Act.put, List.setIfInBounds_toArray, List.set_cons_zero, List.set_cons_succ]
              refine wpAnyH_ready (rs := [2]) (by kernel_rfl) (by simp) ?_
              refine' AllReadyH.cons (o := _) ?ra14_2 (fun K hK => ?_) AllReadyH.nil
              case ra14_2 => (simp only [List.getElem?_toArray, List.getElem?_cons_zero, List.getElem?_cons_succ]; rfl)
              go_simp
              refine (CLf.out _ hBc).mono ?_
              rintro e w' ⟨rfl, rfl⟩
              refine hK.out _ _ hBc (fun _ => ?_)
              clear hK K
              try simp only [Act.put, List.setIfInBounds_toArray, List.set_cons_zero, List.set_cons_succ]
              refine' wpAnyH_take (i := 3) (oi := _) (v := _) ?ta3_15 (by kernel_rfl) ?tb3_15 ?tc3_15 ?td3_15 ?te3_15 hBc ?tf3_15
              case ta3_15 => (simp only [List.getElem?_toArray, List.getElem?_cons_zero, List.getElem?_cons_succ]; rfl)
              case tb3_15 => kernel_rfl
              case tc3_15 => kernel_rfl
              case td3_15 => exact fun _ _ _ h => h
              case te3_15 => refine Or.inl ⟨by rfl, ?_⟩; intro W hSw; go_simp; try with_reducible rfl
              try simp only [Act.put, List.setIfInBounds_toArray, List.set_cons_zero, List.set_cons_succ]
              refine wpAnyH_ready (rs := [4]) (by kernel_rfl) (by simp) ?_
              refine' AllReadyH.cons (o := _) ?ra16_4 (fun K hK => ?_) AllReadyH.nil
              case ra16_4 => (simp only [List.getElem?_toArray, List.getElem?_cons_zero, List.getElem?_cons_succ]; rfl)
              refine step_rapp (by rfl) _ _ (by rfl) (w11.drew.alloc (.cells #[.slice A1 n1 c1] 35)).heap.size none 0 0 [] (by rfl) ⟨rfl, .inl ⟨rfl, rfl⟩⟩ A3 q c3 (YY.take q) (by rfl) HYt.out.1 (fun j v hv => (HCells.out j v (take_get hv)).elim fun ad h => ⟨ad, h.1, ((Below.trans HB11.out (Below.mono hBc HB11.out.size)).cell (World.block_lt_of_cell? W3 _ h.2)).trans h.2⟩) HYt.out.2.1 (fun e => absurd e HA3.out) q (Nat.zero_add q) (by omega) (Nat.le_refl _) ?_
              rw [List.nil_append]
              intro A4 c4 Wd ow_Wd hb_Wd
              have hBd : Below w11.heap.size w11 Wd := Below.trans hBc (Below.mono hb_Wd hBc.size)
              refine hK.out _ _ hBd (fun _ => ?_)
              clear hK K
              try simp only [Act.put, List.setIfInBounds_toArray, List.set_cons_zero, List.set_cons_succ]
              have cell_d := (hb_Wd.cell (World.block_lt_of_cell? _ _ cell_a)).trans cell_a
              refine wpAnyH_ready (rs := [8]) (by kernel_rfl) (by simp) ?_
              refine' AllReadyH.cons (o := _) ?ra17_8 (fun K hK => ?_) AllReadyH.nil
              case ra17_8 => (simp only [List.getElem?_toArray, List.getElem?_cons_zero, List.getElem?_cons_succ]; rfl)
              refine step_rapp (by rfl) _ _ (by rfl) (w11.drew.alloc (.cells #[.slice A1 n1 c1] 35)).heap.size A4 q c4 (YY.take q) (by rfl) ow_Wd (some ⟨w11.drew.heap.size, 0, none⟩) 1 1 [.slice A1 n1 c1] (by rfl) rfl (fun j v hv => by
                cases j with
                | zero => cases hv; exact ⟨_, rfl, (by simpa [Addr.add] using cell_d)⟩
                | succ j => simp at hv) (fun v hv => by rw [List.mem_singleton.1 hv]; rfl) (fun e => by cases e) (q + 1) rfl (by omega) hb_Wd.size ?_
              intro A5 c5 W5 ow5 hb5
              have hB5 : Below w11.heap.size w11 W5 := Below.trans hBd (Below.mono hb5 (Nat.le_trans hS0.size hb_a.size))
              refine hK.out _ _ hB5 (fun _ => ?_)
              clear hK K
              try simp only [Act.put, List.setIfInBounds_toArray, List.set_cons_zero, List.set_cons_succ]
              refine' wpAnyH_take (i := 9) (oi := _) (v := _) ?ta9_18 (by kernel_rfl) ?tb9_18 ?tc9_18 ?td9_18 ?te9_18 hB5 ?tf9_18
              case ta9_18 => (simp only [List.getElem?_toArray, List.getElem?_cons_zero, List.getElem?_cons_succ]; rfl)
              case tb9_18 => kernel_rfl
              case tc9_18 => kernel_rfl
              case td9_18 => exact fun _ _ _ h => h
              case te9_18 => refine Or.inl ⟨by rfl, ?_⟩; intro W hSw; go_simp; try with_reducible rfl
              try simp only [Act.put, List.setIfInBounds_toArray, List.set_cons_zero, List.set_cons_succ]
              refine wpAnyH_done (by kernel_rfl) ?_ _
              exact HTail2.out _ _ A5 c5 W5 ⟨⟨_, (Nat.le_trans hS0.size hb_a.size), ow5⟩, hB5⟩
            -- END
          · obtain ⟨l', hrest, hsml, hpre, hle1, hge⟩ : ∃ l', Rest l' 170 (regionL (settle m7.st.sure (kept m7.st.waits ks)) 0 170) ∧ (∀ b ∈ l', b.length ≤ 256) ∧ (∀ (i : Nat) (b : List Nat), l'[i]? = some b → (R ++ [x0])[i]? = some b) ∧ l'.length ≤ n + 1 ∧ n ≤ l'.length := by
              rcases hk ks with h | h
              · refine ⟨R ++ [x0], h, fun b hb => ?_, fun i b hb => hb, by rw [List.length_append, hlen]; exact Nat.le_refl _, by rw [List.length_append, hlen]; omega⟩
                rcases List.mem_append.1 hb with k | k
                · exact HS.out.2 b k
                · rw [List.mem_singleton.1 k]; omega
              · exact ⟨R, h, HS.out.2, fun i b hb => by rw [List.getElem?_append_left (List.getElem?_eq_some_iff.1 hb).1]; exact hb, by omega, by omega⟩
            have hfar := hl8.far
            have hsm : ∀ b ∈ l', b.length ≤ 256 := hsml
            have HB9 := Lib.hid (below_on hl8.bel (Nat.le_refl _) hM.2)
            have CO := Lib.hid (open_rest (w := W3) (from_ := 0) (many := 170) (l := l') E (HE.out.below hl8.bel) hM.2 hM.1 (fun x hx => hx.1) (by decide) (by show 0 + 170 ≤ (settle _ _).length; rw [settle_length]; exact hfar) (by show ([] : List (Nat × List Nat)).length ≤ _; simp) rfl hsm hrest)
            clear hM
            go_wp2_with fail
            refine CO.out.mono ?_
            rintro e w10 ⟨sb2, m10, rfl, hl10, hn10, hm10, _, _⟩
            have HB10 := Lib.hid (below_on hl8.bel (Nat.le_refl _) hl10.bel)
            have HRow10 := Lib.hid (HRow.out.below hl10.bel)
            obtain ⟨G10, hs10⟩ := hl10.sto
            rw [hm10] at hs10
            have CH := Lib.hid (has_yes (c := c3) hs10 (HRow10.out.came HB10.out) hpre hle1 (by omega))
            have H10 := Lib.hid (And.intro hl10 (And.intro hn10 hm10))
            clear CO hs10 hl10 hn10 hm10
            obtain ⟨q, hq⟩ : ∃ q, l'.length = q := ⟨_, rfl⟩
            have hqn : n ≤ q := by rw [← hq]; exact hge
            have HQq := Lib.hid hq
            have e8 : ¬ (q : Int) < (n : Int) := by omega
            clear hq
            go_wp2_with fail
            refine CH.out.mono ?_
            rintro e w11 ⟨rfl, hb11⟩
            have H11 := Lib.hid (And.intro (H10.out.1.below hb11) (And.intro H10.out.2.1 H10.out.2.2))
            have HRow11 := Lib.hid (HRow10.out.below hb11)
            have CL := Lib.hid (live_len H11.out.1)
            rw [H11.out.2.2, HQq.out] at CL
            clear CH hb11 H10 HRow10
            go_wp2_with fail
            refine CL.out.mono ?_
            rintro e w12 ⟨rfl, rfl⟩
            go_wp2_with fail
            -- REST0
            have CLf := Lib.hid (fun (W : World) (hW : Below w11.heap.size w11 W) => (by
              have h := live_len (H11.out.1.below hW)
              rw [H11.out.2.2, HQq.out] at h
              exact h : Calls Tryd.prog 15 #[.pointer (some ⟨sb2, 0, none⟩)] W fun e w' => e = .returned (.int .i64 (q : Int)) ∧ W = w'))
            have HB11 := Lib.hid H11.out.1.bel
            have hq1 : q ≤ n + 1 := by rw [← HQq.out]; exact hle1
            have hsl : ∀ W : World, (Instr.slice 22 (.slice A3 (n + 1) c3) none (some (.int .i64 (q : Int))) none).run Tryd.prog W = .ok (.slice A3 q c3) W := run_take_rows (by have := HOwc.out; omega) HA3.out
            have HYt := Lib.hid (And.intro (show (YY.take q).length = q by rw [List.length_take, HYY.out.len, List.length_append, hlen]; simp; omega) (And.intro (show ∀ v ∈ YY.take q, v.oneCell' = true from fun v hv => HYY.out.one v (List.mem_of_mem_take hv)) (show l' = (R ++ [x0]).take q from (by rw [← HQq.out]; exact take_of_pre hpre))))
            have q1 := HQ1.out w11 (Below.trans HBW3.out (Below.mono HB11.out HBW3.out.size))
            rename_i K2 ha2
            generalize hA2 : Act.mk _ _ = a2
            have tail2 : ∀ (v143 v146 : Value) (A5 : Option Addr) (c5 : Nat) (W5 : World), Hid ((∃ base, w11.heap.size ≤ base ∧ W5.ownsRow base 35 1 (.slice A5 (q + 1) c5) (q + 1) (YY.take q ++ [.slice A1 n1 c1])) ∧ Below w11.heap.size w11 W5) → K2 ((((((((((a2.put (some 139) (.slice A3 (n + 1) c3)).put (some 140) (.pointer (some ⟨sb2, 0, none⟩))).put (some 141) (.int .i64 (q : Int))).put (some 142) (.slice A3 q c3)).put (some 143) v143).put (some 144) (.pointer (some ⟨T, 1, none⟩))).put (some 145) (.slice A1 n1 c1)).put (some 146) v146).put (some 147) (.slice A5 (q + 1) c5)).put (some 16) (.slice A5 (q + 1) c5)) W5 := by
              intro v143 v146 A5 c5 W5 how2
              subst hA2
              simp only [Act.put, List.setIfInBounds_toArray, List.set_cons_zero, List.set_cons_succ]
              apply ha2
              have hrow2 : ∃ base, w11.heap.size ≤ base ∧ RowIn w1 W5 (fun x => base ≤ x ∧ x < W5.heap.size) A5 (q + 1) (l' ++ [x1]) := by
                obtain ⟨⟨base, hbase, ow⟩, hb3⟩ := how2.out
                refine ⟨base, hbase, rowIn_of_own ow ?_⟩
                have h1 := HYY.out.take q
                rw [← HYt.out.2.2] at h1
                exact h1.append (rowsIs_one HX1.out (by omega))
              obtain ⟨base2, hbase2, hrow2⟩ := hrow2
              have hl13 := H11.out.1.off (O' := fun x => base2 ≤ x ∧ x < W5.heap.size) how2.out.2 (fun x hx => .inr ⟨Nat.le_trans hbase2 hx.1, hx.2⟩)
              have hx1 := HX1.out.in_.len
              have hu := used_take hsm q
              rw [← HQq.out, List.take_length] at hu
              have CA := Lib.hid (live_put hl13 H11.out.2.1 (Below.refl _ _) (HX1.out.below HBW3.out) (by omega) (by have := secs_le n1 (by omega); rw [H11.out.2.2]; have := HQq.out; omega))
              rw [H11.out.2.2] at CA
              have q1 := HQ1.out W5 (Below.trans HBW3.out (Below.mono hl13.bel HBW3.out.size))
              have HRow2 := Lib.hid hrow2
              clear hl13 hrow2 hu
              go_wp2_with fail
              refine CA.out.mono ?_
              rintro e w14 ⟨rfl, hbt14, m14, hl14, hn14, hm14⟩
              have HRow14 := Lib.hid (HRow2.out.but hbt14 (fun x hx hn => hn hx))
              have CS14 := Lib.hid (live_clear hl14 hn14)
              rw [hm14] at CS14
              clear CA hbt14 hl14 hn14 hm14 q1
              go_wp2_with fail
              refine CS14.out.mono ?_
              rintro e w15 ⟨rfl, hbt15, m15, hl15, hn15, hm15, hwt15⟩
              have HRow15 := Lib.hid (HRow14.out.but hbt15 (fun x hx hn => hn hx))
              have hb15 := Below.trans HBW3.out (Below.mono hl15.bel HBW3.out.size)
              obtain ⟨F15, hd15⟩ := hl15.disk
              have hreg : regionL (settle m15.st.sure (kept m15.st.waits [])) 0 170 = lsecs 0 (l' ++ [x1]) ++ List.replicate (170 - usedL (l' ++ [x1])) nought := by
                have e1 := hn15.reg
                have e2 : m15.st.read = settle m15.st.sure (kept m15.st.waits []) := by show settle m15.st.sure m15.st.waits = _; rw [hwt15]; rfl
                rw [← e2, e1, hm15]
              have hfit := hn15.fits
              rw [hm15] at hfit
              have hsml15 := hn15.small
              rw [hm15] at hsml15
              have CO15 := Lib.hid (opened_any (A := none) (n := 0) (c := 0) (ks := []) (many := 170) (r := 170 - usedL (l' ++ [x1])) (l := l' ++ [x1]) E HE.out hb15 hd15 (InB.none_ _ _) (by decide) (by have := hl15.far; omega) hsml15 (by omega) hreg)
              have HB15 := Lib.hid hb15
              clear CS14 hbt15 hl15 hn15 hm15 hwt15 hd15 hreg hfit hsml15 hb15
              go_wp2_with fail
              refine CO15.out.mono ?_
              rintro e w16 ⟨g16, sb16, rfl, hl16⟩
              obtain ⟨G16, hs16⟩ := hl16.sto
              have HRow16 := Lib.hid (HRow15.out.below hl16.bel)
              have HB16 := Lib.hid (Below.trans HB15.out (Below.mono hl16.bel HB15.out.size))
              have CH16 := Lib.hid (has_yes (c := c5) hs16 (HRow16.out.came HB16.out) (fun i b hb => hb) (by show (l' ++ [x1]).length ≤ q + 1; rw [List.length_append, HQq.out]; exact Nat.le_refl _) (by omega))
              have CL16 := Lib.hid (fun (W : World) (hW : Below w16.heap.size w16 W) => live_len (hl16.below hW))
              clear CO15 hs16 hl16
              go_wp2_with fail
              refine CH16.out.mono ?_
              rintro e w17 ⟨rfl, hb17⟩
              have CL17 := Lib.hid (CL16.out _ hb17)
              have e17 : ((l' ++ [x1]).length : Int) = (q : Int) + 1 := by rw [List.length_append, HQq.out]; rfl
              have HB17 := Lib.hid (below_on HB16.out (Nat.le_refl _) hb17)
              clear CH16 CL16 hb17
              go_wp2_with fail
              refine CL17.out.mono ?_
              rintro e w18 ⟨rfl, rfl⟩
              have e18 : (⟨⟨settle m15.st.sure (kept m15.st.waits []), [], -1, false⟩, l' ++ [x1], false⟩ : Sm).l.length = q + 1 := by show (l' ++ [x1]).length = _; rw [List.length_append, HQq.out]; rfl
              rw [e18]
              have HB18 : Hid (Below w.heap.size w w17) := below_on HT.out.2.1 (Nat.le_refl _) HB17.out
              clear e17 e18 CL17
              go_wp2_with fail
              go_ret
              exact ⟨rfl, HB18.out⟩
            subst hA2
            have z1 : decide (q < n) = false := by simp; omega
            simp only [Act.put, List.setIfInBounds_toArray, List.set_cons_zero, List.set_cons_succ, z1] at tail2
            have HTail2 := Lib.hid tail2
            clear tail2 ha2
            refine wp_region_held_drew (S := fun W => Below w11.heap.size w11 W) (by kernel_rfl) ((Below.refl _ _).drew) (fun hS0 => ?_)
            change wpAnyH _ _ _ _ _ _ _ _ w11.drew
            refine' wpAnyH_take (i := 0) (oi := _) (v := _) ?ta0_19 (by kernel_rfl) ?tb0_19 ?tc0_19 ?td0_19 ?te0_19 hS0 ?tf0_19
            case ta0_19 => (simp only [List.getElem?_toArray, List.getElem?_cons_zero]; rfl)
            case tb0_19 => kernel_rfl
            case tc0_19 => kernel_rfl
            case td0_19 => exact fun _ _ _ h => h
            case te0_19 => refine Or.inl ⟨by rfl, ?_⟩; intro W hSw; go_simp; try with_reducible rfl
            try simp only [Act.put, List.setIfInBounds_toArray, List.set_cons_zero, List.set_cons_succ]
            refine' wpAnyH_take (i := 1) (oi := _) (v := _) ?ta1_20 (by kernel_rfl) ?tb1_20 ?tc1_20 ?td1_20 ?te1_20 hS0 ?tf1_20
            case ta1_20 => (simp only [List.getElem?_toArray, List.getElem?_cons_zero, List.getElem?_cons_succ]; rfl)
            case tb1_20 => kernel_rfl
            case tc1_20 => kernel_rfl
            case td1_20 => exact fun _ _ _ h => h
            case te1_20 => refine Or.inl ⟨by rfl, ?_⟩; intro W hSw; go_simp; try with_reducible rfl
            try simp only [Act.put, List.setIfInBounds_toArray, List.set_cons_zero, List.set_cons_succ]
            refine' wpAnyH_take (i := 5) (oi := _) (v := _) ?ta5_21 (by kernel_rfl) ?tb5_21 ?tc5_21 ?td5_21 ?te5_21 hS0 ?tf5_21
            case ta5_21 => (simp only [List.getElem?_toArray, List.getElem?_cons_zero, List.getElem?_cons_succ]; rfl)
            case tb5_21 => kernel_rfl
            case tc5_21 => kernel_rfl
            case td5_21 => exact fun _ _ _ h => h
            case te5_21 => refine Or.inl ⟨by rfl, ?_⟩; intro W hSw; go_simp; try with_reducible rfl
            try simp only [Act.put, List.setIfInBounds_toArray, List.set_cons_zero, List.set_cons_succ]
            refine' wpAnyH_take (i := 6) (oi := _) (v := _) ?ta6_22 (by kernel_rfl) ?tb6_22 ?tc6_22 ?td6_22 ?te6_22 hS0 ?tf6_22
            case ta6_22 => (simp only [List.getElem?_toArray, List.getElem?_cons_zero, List.getElem?_cons_succ]; rfl)
            case tb6_22 => kernel_rfl
            case tc6_22 => kernel_rfl
            case td6_22 => exact fun _ _ _ h => h
            case te6_22 => refine Or.inl ⟨by rfl, ?_⟩; intro W hSw; have q9 := HQ1.out W (Below.trans HBW3.out (Below.mono (Below.trans HB11.out (Below.mono hSw HB11.out.size)) HBW3.out.size)); go_simp; try with_reducible rfl
            try simp only [Act.put, List.setIfInBounds_toArray, List.set_cons_zero, List.set_cons_succ]
            refine wpAnyH_ready (rs := [2, 7]) (by kernel_rfl) (by simp) ?_
            refine' AllReadyH.cons (o := _) ?ra23_2 (fun K hK => ?_) (AllReadyH.cons (o := _) ?ra23_7 (fun K hK => ?_) AllReadyH.nil)
            case ra23_2 => (simp only [List.getElem?_toArray, List.getElem?_cons_zero, List.getElem?_cons_succ]; rfl)
            case ra23_7 => (simp only [List.getElem?_toArray, List.getElem?_cons_zero, List.getElem?_cons_succ]; rfl)
            · go_simp
              refine (CLf.out _ hS0).mono ?_
              rintro e w' ⟨rfl, rfl⟩
              refine hK.out _ _ hS0 (fun _ => ?_)
              clear hK K
              try simp only [Act.put, List.setIfInBounds_toArray, List.set_cons_zero, List.set_cons_succ]
              refine' wpAnyH_take (i := 3) (oi := _) (v := _) ?ta3_24 (by kernel_rfl) ?tb3_24 ?tc3_24 ?td3_24 ?te3_24 hS0 ?tf3_24
              case ta3_24 => (simp only [List.getElem?_toArray, List.getElem?_cons_zero, List.getElem?_cons_succ]; rfl)
              case tb3_24 => kernel_rfl
              case tc3_24 => kernel_rfl
              case td3_24 => exact fun _ _ _ h => h
              case te3_24 => refine Or.inl ⟨by rfl, ?_⟩; intro W hSw; go_simp; try with_reducible rfl
              try simp only [Act.put, List.setIfInBounds_toArray, List.set_cons_zero, List.set_cons_succ]
              refine wpAnyH_ready (rs := [4, 7]) (by kernel_rfl) (by simp) ?_
              refine' AllReadyH.cons (o := _) ?ra25_4 (fun K hK => ?_) (AllReadyH.cons (o := _) ?ra25_7 (fun K hK => ?_) AllReadyH.nil)
              case ra25_4 => (simp only [List.getElem?_toArray, List.getElem?_cons_zero, List.getElem?_cons_succ]; rfl)
              case ra25_7 => (simp only [List.getElem?_toArray, List.getElem?_cons_zero, List.getElem?_cons_succ]; rfl)
              · refine step_rapp (by rfl) _ _ (by rfl) w11.drew.heap.size none 0 0 [] (by rfl) ⟨rfl, .inl ⟨rfl, rfl⟩⟩ A3 q c3 (YY.take q) (by rfl) HYt.out.1 (fun j v hv => (HCells.out j v (take_get hv)).elim fun ad h => ⟨ad, h.1, ((Below.trans HB11.out (Below.mono hS0 HB11.out.size)).cell (World.block_lt_of_cell? W3 _ h.2)).trans h.2⟩) HYt.out.2.1 (fun e => absurd e HA3.out) q (Nat.zero_add q) (by omega) (Nat.le_refl _) ?_
                rw [List.nil_append]
                intro A4 c4 Wa ow_Wa hb_Wa
                have hBa : Below w11.heap.size w11 Wa := Below.trans hS0 (Below.mono hb_Wa hS0.size)
                refine hK.out _ _ hBa (fun _ => ?_)
                clear hK K
                try simp only [Act.put, List.setIfInBounds_toArray, List.set_cons_zero, List.set_cons_succ]
                refine wpAnyH_ready (rs := [7]) (by kernel_rfl) (by simp) ?_
                refine' AllReadyH.cons (o := _) ?ra26_7 (fun K hK => ?_) AllReadyH.nil
                case ra26_7 => (simp only [List.getElem?_toArray, List.getElem?_cons_zero, List.getElem?_cons_succ]; rfl)
                go_simp
                have hb_a := below_alloc Wa (.cells #[.slice A1 n1 c1] 35)
                have hBb : Below w11.heap.size w11 (Wa.alloc (.cells #[.slice A1 n1 c1] 35)) := Below.trans hBa (Below.mono hb_a hBa.size)
                refine hK.out _ _ hBb (fun _ => ?_)
                clear hK K
                try simp only [Act.put, List.setIfInBounds_toArray, List.set_cons_zero, List.set_cons_succ]
                refine wpAnyH_ready (rs := [8]) (by kernel_rfl) (by simp) ?_
                refine' AllReadyH.cons (o := _) ?ra27_8 (fun K hK => ?_) AllReadyH.nil
                case ra27_8 => (simp only [List.getElem?_toArray, List.getElem?_cons_zero, List.getElem?_cons_succ]; rfl)
                refine step_rapp (by rfl) _ _ (by rfl) w11.drew.heap.size A4 q c4 (YY.take q) (by rfl) (own_on ow_Wa hb_a) (some ⟨Wa.heap.size, 0, none⟩) 1 1 [.slice A1 n1 c1] (by rfl) rfl (fun j v hv => by
                  cases j with
                  | zero => cases hv; exact ⟨_, rfl, (by simp [Addr.add])⟩
                  | succ j => simp at hv) (fun v hv => by rw [List.mem_singleton.1 hv]; rfl) (fun e => by cases e) (q + 1) rfl (by omega) (Nat.le_trans hb_Wa.size hb_a.size) ?_
                intro A5 c5 W5 ow5 hb5
                have hB5 : Below w11.heap.size w11 W5 := Below.trans hBb (Below.mono hb5 (Nat.le_refl _))
                refine hK.out _ _ hB5 (fun _ => ?_)
                clear hK K
                try simp only [Act.put, List.setIfInBounds_toArray, List.set_cons_zero, List.set_cons_succ]
                refine' wpAnyH_take (i := 9) (oi := _) (v := _) ?ta9_28 (by kernel_rfl) ?tb9_28 ?tc9_28 ?td9_28 ?te9_28 hB5 ?tf9_28
                case ta9_28 => (simp only [List.getElem?_toArray, List.getElem?_cons_zero, List.getElem?_cons_succ]; rfl)
                case tb9_28 => kernel_rfl
                case tc9_28 => kernel_rfl
                case td9_28 => exact fun _ _ _ h => h
                case te9_28 => refine Or.inl ⟨by rfl, ?_⟩; intro W hSw; go_simp; try with_reducible rfl
                try simp only [Act.put, List.setIfInBounds_toArray, List.set_cons_zero, List.set_cons_succ]
                refine wpAnyH_done (by kernel_rfl) ?_ _
                exact HTail2.out _ _ A5 c5 W5 ⟨⟨_, (Nat.le_refl _), ow5⟩, hB5⟩
              · go_simp
                have hb_a := below_alloc w11.drew (.cells #[.slice A1 n1 c1] 35)
                have cell_a : (w11.drew.alloc (.cells #[.slice A1 n1 c1] 35)).cell? ⟨w11.drew.heap.size, 0, none⟩ = some (.slice A1 n1 c1) := by rw [cell_of_row _ _ 0 _ _ (0, 0) (World.alloc_heap_new w11.drew _)]; rfl
                have hBc : Below w11.heap.size w11 (w11.drew.alloc (.cells #[.slice A1 n1 c1] 35)) := Below.trans hS0 (Below.mono hb_a hS0.size)
                refine hK.out _ _ hBc (fun _ => ?_)
                clear hK K
                try simp only [Act.put, List.setIfInBounds_toArray, List.set_cons_zero, List.set_cons_succ]
                refine wpAnyH_ready (rs := [4]) (by kernel_rfl) (by simp) ?_
                refine' AllReadyH.cons (o := _) ?ra29_4 (fun K hK => ?_) AllReadyH.nil
                case ra29_4 => (simp only [List.getElem?_toArray, List.getElem?_cons_zero, List.getElem?_cons_succ]; rfl)
                refine step_rapp (by rfl) _ _ (by rfl) (w11.drew.alloc (.cells #[.slice A1 n1 c1] 35)).heap.size none 0 0 [] (by rfl) ⟨rfl, .inl ⟨rfl, rfl⟩⟩ A3 q c3 (YY.take q) (by rfl) HYt.out.1 (fun j v hv => (HCells.out j v (take_get hv)).elim fun ad h => ⟨ad, h.1, ((Below.trans HB11.out (Below.mono hBc HB11.out.size)).cell (World.block_lt_of_cell? W3 _ h.2)).trans h.2⟩) HYt.out.2.1 (fun e => absurd e HA3.out) q (Nat.zero_add q) (by omega) (Nat.le_refl _) ?_
                rw [List.nil_append]
                intro A4 c4 Wd ow_Wd hb_Wd
                have hBd : Below w11.heap.size w11 Wd := Below.trans hBc (Below.mono hb_Wd hBc.size)
                refine hK.out _ _ hBd (fun _ => ?_)
                clear hK K
                try simp only [Act.put, List.setIfInBounds_toArray, List.set_cons_zero, List.set_cons_succ]
                have cell_d := (hb_Wd.cell (World.block_lt_of_cell? _ _ cell_a)).trans cell_a
                refine wpAnyH_ready (rs := [8]) (by kernel_rfl) (by simp) ?_
                refine' AllReadyH.cons (o := _) ?ra30_8 (fun K hK => ?_) AllReadyH.nil
                case ra30_8 => (simp only [List.getElem?_toArray, List.getElem?_cons_zero, List.getElem?_cons_succ]; rfl)
                refine step_rapp (by rfl) _ _ (by rfl) (w11.drew.alloc (.cells #[.slice A1 n1 c1] 35)).heap.size A4 q c4 (YY.take q) (by rfl) ow_Wd (some ⟨w11.drew.heap.size, 0, none⟩) 1 1 [.slice A1 n1 c1] (by rfl) rfl (fun j v hv => by
                  cases j with
                  | zero => cases hv; exact ⟨_, rfl, (by simpa [Addr.add] using cell_d)⟩
                  | succ j => simp at hv) (fun v hv => by rw [List.mem_singleton.1 hv]; rfl) (fun e => by cases e) (q + 1) rfl (by omega) hb_Wd.size ?_
                intro A5 c5 W5 ow5 hb5
                have hB5 : Below w11.heap.size w11 W5 := Below.trans hBd (Below.mono hb5 (Nat.le_trans hS0.size hb_a.size))
                refine hK.out _ _ hB5 (fun _ => ?_)
                clear hK K
                try simp only [Act.put, List.setIfInBounds_toArray, List.set_cons_zero, List.set_cons_succ]
                refine' wpAnyH_take (i := 9) (oi := _) (v := _) ?ta9_31 (by kernel_rfl) ?tb9_31 ?tc9_31 ?td9_31 ?te9_31 hB5 ?tf9_31
                case ta9_31 => (simp only [List.getElem?_toArray, List.getElem?_cons_zero, List.getElem?_cons_succ]; rfl)
                case tb9_31 => kernel_rfl
                case tc9_31 => kernel_rfl
                case td9_31 => exact fun _ _ _ h => h
                case te9_31 => refine Or.inl ⟨by rfl, ?_⟩; intro W hSw; go_simp; try with_reducible rfl
                try simp only [Act.put, List.setIfInBounds_toArray, List.set_cons_zero, List.set_cons_succ]
                refine wpAnyH_done (by kernel_rfl) ?_ _
                exact HTail2.out _ _ A5 c5 W5 ⟨⟨_, (Nat.le_trans hS0.size hb_a.size), ow5⟩, hB5⟩
            · go_simp
              have hb_a := below_alloc w11.drew (.cells #[.slice A1 n1 c1] 35)
              have cell_a : (w11.drew.alloc (.cells #[.slice A1 n1 c1] 35)).cell? ⟨w11.drew.heap.size, 0, none⟩ = some (.slice A1 n1 c1) := by rw [cell_of_row _ _ 0 _ _ (0, 0) (World.alloc_heap_new w11.drew _)]; rfl
              have hBc : Below w11.heap.size w11 (w11.drew.alloc (.cells #[.slice A1 n1 c1] 35)) := Below.trans hS0 (Below.mono hb_a hS0.size)
              refine hK.out _ _ hBc (fun _ => ?_)
              clear hK K
              try simp only [Act.put, List.setIfInBounds_toArray, List.set_cons_zero, List.set_cons_succ]
              refine wpAnyH_ready (rs := [2]) (by kernel_rfl) (by simp) ?_
              refine' AllReadyH.cons (o := _) ?ra32_2 (fun K hK => ?_) AllReadyH.nil
              case ra32_2 => (simp only [List.getElem?_toArray, List.getElem?_cons_zero, List.getElem?_cons_succ]; rfl)
              go_simp
              refine (CLf.out _ hBc).mono ?_
              rintro e w' ⟨rfl, rfl⟩
              refine hK.out _ _ hBc (fun _ => ?_)
              clear hK K
              try simp only [Act.put, List.setIfInBounds_toArray, List.set_cons_zero, List.set_cons_succ]
              refine' wpAnyH_take (i := 3) (oi := _) (v := _) ?ta3_33 (by kernel_rfl) ?tb3_33 ?tc3_33 ?td3_33 ?te3_33 hBc ?tf3_33
              case ta3_33 => (simp only [List.getElem?_toArray, List.getElem?_cons_zero, List.getElem?_cons_succ]; rfl)
              case tb3_33 => kernel_rfl
              case tc3_33 => kernel_rfl
              case td3_33 => exact fun _ _ _ h => h
              case te3_33 => refine Or.inl ⟨by rfl, ?_⟩; intro W hSw; go_simp; try with_reducible rfl
              try simp only [Act.put, List.setIfInBounds_toArray, List.set_cons_zero, List.set_cons_succ]
              refine wpAnyH_ready (rs := [4]) (by kernel_rfl) (by simp) ?_
              refine' AllReadyH.cons (o := _) ?ra34_4 (fun K hK => ?_) AllReadyH.nil
              case ra34_4 => (simp only [List.getElem?_toArray, List.getElem?_cons_zero, List.getElem?_cons_succ]; rfl)
              refine step_rapp (by rfl) _ _ (by rfl) (w11.drew.alloc (.cells #[.slice A1 n1 c1] 35)).heap.size none 0 0 [] (by rfl) ⟨rfl, .inl ⟨rfl, rfl⟩⟩ A3 q c3 (YY.take q) (by rfl) HYt.out.1 (fun j v hv => (HCells.out j v (take_get hv)).elim fun ad h => ⟨ad, h.1, ((Below.trans HB11.out (Below.mono hBc HB11.out.size)).cell (World.block_lt_of_cell? W3 _ h.2)).trans h.2⟩) HYt.out.2.1 (fun e => absurd e HA3.out) q (Nat.zero_add q) (by omega) (Nat.le_refl _) ?_
              rw [List.nil_append]
              intro A4 c4 Wd ow_Wd hb_Wd
              have hBd : Below w11.heap.size w11 Wd := Below.trans hBc (Below.mono hb_Wd hBc.size)
              refine hK.out _ _ hBd (fun _ => ?_)
              clear hK K
              try simp only [Act.put, List.setIfInBounds_toArray, List.set_cons_zero, List.set_cons_succ]
              have cell_d := (hb_Wd.cell (World.block_lt_of_cell? _ _ cell_a)).trans cell_a
              refine wpAnyH_ready (rs := [8]) (by kernel_rfl) (by simp) ?_
              refine' AllReadyH.cons (o := _) ?ra35_8 (fun K hK => ?_) AllReadyH.nil
              case ra35_8 => (simp only [List.getElem?_toArray, List.getElem?_cons_zero, List.getElem?_cons_succ]; rfl)
              refine step_rapp (by rfl) _ _ (by rfl) (w11.drew.alloc (.cells #[.slice A1 n1 c1] 35)).heap.size A4 q c4 (YY.take q) (by rfl) ow_Wd (some ⟨w11.drew.heap.size, 0, none⟩) 1 1 [.slice A1 n1 c1] (by rfl) rfl (fun j v hv => by
                cases j with
                | zero => cases hv; exact ⟨_, rfl, (by simpa [Addr.add] using cell_d)⟩
                | succ j => simp at hv) (fun v hv => by rw [List.mem_singleton.1 hv]; rfl) (fun e => by cases e) (q + 1) rfl (by omega) hb_Wd.size ?_
              intro A5 c5 W5 ow5 hb5
              have hB5 : Below w11.heap.size w11 W5 := Below.trans hBd (Below.mono hb5 (Nat.le_trans hS0.size hb_a.size))
              refine hK.out _ _ hB5 (fun _ => ?_)
              clear hK K
              try simp only [Act.put, List.setIfInBounds_toArray, List.set_cons_zero, List.set_cons_succ]
              refine' wpAnyH_take (i := 9) (oi := _) (v := _) ?ta9_36 (by kernel_rfl) ?tb9_36 ?tc9_36 ?td9_36 ?te9_36 hB5 ?tf9_36
              case ta9_36 => (simp only [List.getElem?_toArray, List.getElem?_cons_zero, List.getElem?_cons_succ]; rfl)
              case tb9_36 => kernel_rfl
              case tc9_36 => kernel_rfl
              case td9_36 => exact fun _ _ _ h => h
              case te9_36 => refine Or.inl ⟨by rfl, ?_⟩; intro W hSw; go_simp; try with_reducible rfl
              try simp only [Act.put, List.setIfInBounds_toArray, List.set_cons_zero, List.set_cons_succ]
              refine wpAnyH_done (by kernel_rfl) ?_ _
              exact HTail2.out _ _ A5 c5 W5 ⟨⟨_, (Nat.le_trans hS0.size hb_a.size), ow5⟩, hB5⟩
            -- END
        subst hA
        simp only [Act.put, List.setIfInBounds_toArray, List.set_cons_zero, List.set_cons_succ] at tail
        have HTail := Lib.hid tail
        clear tail ha
        refine wp_region_held_drew (S := fun W => Below w7.heap.size w7 W) (by kernel_rfl) ((Below.refl _ _).drew) (fun hS0 => ?_)
        change wpAnyH _ _ _ _ _ _ _ _ w7.drew
        refine' wpAnyH_take (i := 0) (oi := _) (v := _) ?hir0 (by kernel_rfl) ?hfr0 ?hrr0 ?hQr0 ?hyr0 hS0 ?restr0
        case hir0 => (simp only [List.getElem?_toArray, List.getElem?_cons_zero]; rfl)
        case hfr0 => kernel_rfl
        case hrr0 => kernel_rfl
        case hQr0 => exact fun _ _ _ h => h
        case hyr0 => refine Or.inl ⟨by rfl, ?_⟩; intro W hSw; go_simp; try with_reducible rfl
        try simp only [Act.put, List.setIfInBounds_toArray, List.set_cons_zero, List.set_cons_succ]
        refine' wpAnyH_take (i := 2) (oi := _) (v := _) ?hir2 (by kernel_rfl) ?hfr2 ?hrr2 ?hQr2 ?hyr2 hS0 ?restr2
        case hir2 => (simp only [List.getElem?_toArray, List.getElem?_cons_zero, List.getElem?_cons_succ]; rfl)
        case hfr2 => kernel_rfl
        case hrr2 => kernel_rfl
        case hQr2 => exact fun _ _ _ h => h
        case hyr2 => refine Or.inl ⟨by rfl, ?_⟩; intro W hSw; go_simp; try with_reducible rfl
        try simp only [Act.put, List.setIfInBounds_toArray, List.set_cons_zero, List.set_cons_succ]
        refine' wpAnyH_take (i := 3) (oi := _) (v := _) ?hir3 (by kernel_rfl) ?hfr3 ?hrr3 ?hQr3 ?hyr3 hS0 ?restr3
        case hir3 => (simp only [List.getElem?_toArray, List.getElem?_cons_zero, List.getElem?_cons_succ]; rfl)
        case hfr3 => kernel_rfl
        case hrr3 => kernel_rfl
        case hQr3 => exact fun _ _ _ h => h
        case hyr3 => refine Or.inl ⟨by rfl, ?_⟩; intro W hSw; have q9 := HQ0.out W (Below.trans HB7.out (Below.mono hSw HB7.out.size)); go_simp; try with_reducible rfl
        try simp only [Act.put, List.setIfInBounds_toArray, List.set_cons_zero, List.set_cons_succ]
        refine wpAnyH_ready (rs := [1, 4]) (by kernel_rfl) (by simp) ?_
        refine' AllReadyH.cons (o := _) ?hia (fun K hK => ?_) (AllReadyH.cons (o := _) ?hib (fun K hK => ?_) AllReadyH.nil)
        case hia => (simp only [List.getElem?_toArray, List.getElem?_cons_zero, List.getElem?_cons_succ]; rfl)
        case hib => (simp only [List.getElem?_toArray, List.getElem?_cons_zero, List.getElem?_cons_succ]; rfl)
        · refine step_rapp (by rfl) _ _ (by rfl) w7.drew.heap.size none 0 0 [] (by rfl) ⟨rfl, .inl ⟨rfl, rfl⟩⟩ A n c Y (by rfl) (hY.len.trans hlen) (fun j v hv => (hYc j v hv).elim fun ad h => ⟨ad, h.1, ((Below.trans HB7.out (Below.mono hS0 HB7.out.size)).cell (World.block_lt_of_cell? w1 _ h.2)).trans h.2⟩) hY.one HN.out n (Nat.zero_add n) (by omega) (Nat.le_refl _) ?_
          rw [List.nil_append]
          intro A2 c2 W2 ow2 hb2
          have hB2 : Below w7.heap.size w7 W2 := Below.trans hS0 hb2
          refine hK.out _ _ hB2 (fun _ => ?_)
          clear hK K
          try simp only [Act.put, List.setIfInBounds_toArray, List.set_cons_zero, List.set_cons_succ]
          refine wpAnyH_ready (rs := [4]) (by kernel_rfl) (by simp) ?_
          refine' AllReadyH.cons (o := _) ?hic (fun K hK => ?_) AllReadyH.nil
          case hic => (simp only [List.getElem?_toArray, List.getElem?_cons_zero, List.getElem?_cons_succ]; rfl)
          go_simp
          have hb3 := below_alloc W2 (.cells #[.slice A0 n0 c0] 35)
          have hB3 : Below w7.heap.size w7 (W2.alloc (.cells #[.slice A0 n0 c0] 35)) := Below.trans hB2 (Below.mono hb3 hB2.size)
          have ow3 := own_on ow2 hb3
          refine hK.out _ _ hB3 (fun _ => ?_)
          clear hK K
          try simp only [Act.put, List.setIfInBounds_toArray, List.set_cons_zero, List.set_cons_succ]
          refine wpAnyH_ready (rs := [5]) (by kernel_rfl) (by simp) ?_
          refine' AllReadyH.cons (o := _) ?hid5 (fun K hK => ?_) AllReadyH.nil
          case hid5 => (simp only [List.getElem?_toArray, List.getElem?_cons_zero, List.getElem?_cons_succ]; rfl)
          refine step_rapp (by rfl) _ _ (by rfl) w7.drew.heap.size A2 n c2 Y (by rfl) ow3 (some ⟨W2.heap.size, 0, none⟩) 1 1 [.slice A0 n0 c0] (by rfl) rfl (fun j v hv => by
            cases j with
            | zero => cases hv; exact ⟨_, rfl, by simp [Addr.add]⟩
            | succ j => simp at hv) (fun v hv => by rw [List.mem_singleton.1 hv]; rfl) (fun e => by cases e) (n + 1) rfl (by omega) (Nat.le_trans hb2.size hb3.size) ?_
          intro A3 c3 W4 ow4 hb4
          have hB4 : Below w7.heap.size w7 W4 := Below.trans hB3 hb4
          refine hK.out _ _ hB4 (fun _ => ?_)
          clear hK K
          try simp only [Act.put, List.setIfInBounds_toArray, List.set_cons_zero, List.set_cons_succ]
          refine' wpAnyH_take (i := 6) (oi := _) (v := _) ?hj6 (by kernel_rfl) ?hf6 ?hr6 ?hq6 ?hy6 hB4 ?re6
          case hj6 => (simp only [List.getElem?_toArray, List.getElem?_cons_zero, List.getElem?_cons_succ]; rfl)
          case hf6 => kernel_rfl
          case hr6 => kernel_rfl
          case hq6 => exact fun _ _ _ h => h
          case hy6 => refine Or.inl ⟨by rfl, ?_⟩; intro W hSw; go_simp; try with_reducible rfl
          try simp only [Act.put, List.setIfInBounds_toArray, List.set_cons_zero, List.set_cons_succ]
          refine wpAnyH_done (by kernel_rfl) ?_ _
          exact HTail.out _ _ A3 c3 W4 ⟨⟨_, Nat.le_refl _, ow4⟩, hB4⟩
        · go_simp
          have hb3 := below_alloc w7.drew (.cells #[.slice A0 n0 c0] 35)
          have cell3 : (w7.drew.alloc (.cells #[.slice A0 n0 c0] 35)).cell? ⟨w7.drew.heap.size, 0, none⟩ = some (.slice A0 n0 c0) := by rw [cell_of_row _ _ 0 _ _ (0, 0) (World.alloc_heap_new w7.drew _)]; rfl
          have hB3 : Below w7.heap.size w7 (w7.drew.alloc (.cells #[.slice A0 n0 c0] 35)) := Below.trans hS0 (Below.mono hb3 hS0.size)
          refine hK.out _ _ hB3 (fun _ => ?_)
          clear hK K
          try simp only [Act.put, List.setIfInBounds_toArray, List.set_cons_zero, List.set_cons_succ]
          refine wpAnyH_ready (rs := [1]) (by kernel_rfl) (by simp) ?_
          refine' AllReadyH.cons (o := _) ?hid1 (fun K hK => ?_) AllReadyH.nil
          case hid1 => (simp only [List.getElem?_toArray, List.getElem?_cons_zero, List.getElem?_cons_succ]; rfl)
          refine step_rapp (by rfl) _ _ (by rfl) (w7.drew.alloc (.cells #[.slice A0 n0 c0] 35)).heap.size none 0 0 [] (by rfl) ⟨rfl, .inl ⟨rfl, rfl⟩⟩ A n c Y (by rfl) (hY.len.trans hlen) (fun j v hv => (hYc j v hv).elim fun ad h => ⟨ad, h.1, ((Below.trans HB7.out (Below.mono hB3 HB7.out.size)).cell (World.block_lt_of_cell? w1 _ h.2)).trans h.2⟩) hY.one HN.out n (Nat.zero_add n) (by omega) (Nat.le_refl _) ?_
          rw [List.nil_append]
          intro A2 c2 W3 ow3 hb3x
          have cell4 := (hb3x.cell (World.block_lt_of_cell? (w7.drew.alloc (.cells #[.slice A0 n0 c0] 35)) _ cell3)).trans cell3
          have hB3x : Below w7.heap.size w7 W3 := Below.trans hB3 (Below.mono hb3x hB3.size)
          refine hK.out _ _ hB3x (fun _ => ?_)
          clear hK K
          try simp only [Act.put, List.setIfInBounds_toArray, List.set_cons_zero, List.set_cons_succ]
          refine wpAnyH_ready (rs := [5]) (by kernel_rfl) (by simp) ?_
          refine' AllReadyH.cons (o := _) ?hid6 (fun K hK => ?_) AllReadyH.nil
          case hid6 => (simp only [List.getElem?_toArray, List.getElem?_cons_zero, List.getElem?_cons_succ]; rfl)
          refine step_rapp (by rfl) _ _ (by rfl) (w7.drew.alloc (.cells #[.slice A0 n0 c0] 35)).heap.size A2 n c2 Y (by rfl) ow3 (some ⟨w7.drew.heap.size, 0, none⟩) 1 1 [.slice A0 n0 c0] (by rfl) rfl (fun j v hv => by
            cases j with
            | zero => cases hv; exact ⟨_, rfl, by simpa [Addr.add] using cell4⟩
            | succ j => simp at hv) (fun v hv => by rw [List.mem_singleton.1 hv]; rfl) (fun e => by cases e) (n + 1) rfl (by omega) hb3x.size ?_
          intro A3 c3 W4 ow4 hb4
          have hB4 : Below w7.heap.size w7 W4 := Below.trans hB3x (Below.mono hb4 (Nat.le_trans hS0.size hb3.size))
          refine hK.out _ _ hB4 (fun _ => ?_)
          clear hK K
          try simp only [Act.put, List.setIfInBounds_toArray, List.set_cons_zero, List.set_cons_succ]
          refine' wpAnyH_take (i := 6) (oi := _) (v := _) ?hj6b (by kernel_rfl) ?hf6b ?hr6b ?hq6b ?hy6b hB4 ?re6b
          case hj6b => (simp only [List.getElem?_toArray, List.getElem?_cons_zero, List.getElem?_cons_succ]; rfl)
          case hf6b => kernel_rfl
          case hr6b => kernel_rfl
          case hq6b => exact fun _ _ _ h => h
          case hy6b => refine Or.inl ⟨by rfl, ?_⟩; intro W hSw; go_simp; try with_reducible rfl
          try simp only [Act.put, List.setIfInBounds_toArray, List.set_cons_zero, List.set_cons_succ]
          refine wpAnyH_done (by kernel_rfl) ?_ _
          exact HTail.out _ _ A3 c3 W4 ⟨⟨_, Nat.le_trans hS0.size hb3.size, ow4⟩, hB4⟩

end Go.Proofs.YtjkohceigdfmjaaDoor

/-
  What the three listed variables hold when a call begins.
-/
namespace Go.Proofs.YtjkohceigdfmjaaDoor
open Go.ChangeShapes Go.WideShapes Go.ChangeAt Go.RowKit

theorem gShort : Tryd.prog.globalNamed "almoner/frames.errShort" = some 0 := by kernel_rfl
theorem gForm : Tryd.prog.globalNamed "almoner/frames.errForm" = some 2 := by kernel_rfl
theorem gSum : Tryd.prog.globalNamed "almoner/frames.errSum" = some 1 := by kernel_rfl
theorem tShort : (Tryd.prog.globals[0]?).map (·.type) = some 95 := by kernel_rfl
theorem tForm : (Tryd.prog.globals[2]?).map (·.type) = some 95 := by kernel_rfl
theorem tSum : (Tryd.prog.globals[1]?).map (·.type) = some 95 := by kernel_rfl
theorem cellsEs : Tryd.prog.cellsOf 166 = 1 := by kernel_rfl
theorem cellsStr : Tryd.prog.cellsOf 9 = 1 := by kernel_rfl
theorem starEs : "*" ++ "errors.errorString" = "*errors.errorString" := by decide
theorem rowEs (u : TypeId) (h : Tryd.prog.typeName? 3 u = some "*errors.errorString") : u = 142 :=
  typeName_ptr_named (nm := "errors.errorString") (by rw [starEs]; kernel_rfl) (by kernel_rfl) (by decide) u (by rw [starEs]; exact h)

def laid3 : List (String × DataW Unit) := [("almoner/frames.errShort", Rows.laid_almoner_frames_errShort), ("almoner/frames.errForm", Rows.laid_almoner_frames_errForm), ("almoner/frames.errSum", Rows.laid_almoner_frames_errSum)]

set_option maxRecDepth 100000 in
theorem of_laid {W : World} (h : laidMetH Tryd.prog laid3 W) : ∃ E, Laid W E := by
  rw [MakeChecks.laidMetH_plain _ _ _ (by kernel_rfl)] at h
  obtain ⟨ps, ⟨g0', t0', cs0, f0, p0, q0, hg0', ht0', hv0, hd0, ⟨g1', t1', cs1, f1, p1, q1, hg1', ht1', hv1, hd1, ⟨g2', t2', cs2, f2, p2, q2, hg2', ht2', hv2, hd2, _, e2⟩, e1⟩, e0⟩, hnd, hrows⟩ := h
  obtain rfl := Option.some.inj (gShort.symm.trans hg0')
  obtain rfl := Option.some.inj (gForm.symm.trans hg1')
  obtain rfl := Option.some.inj (gSum.symm.trans hg2')
  obtain rfl := Option.some.inj (tShort.symm.trans ht0')
  obtain rfl := Option.some.inj (tForm.symm.trans ht1')
  obtain rfl := Option.some.inj (tSum.symm.trans ht2')
  subst e2
  subst e1
  subst e0
  obtain ⟨l0⟩ := cs0
  obtain ⟨l1⟩ := cs1
  obtain ⟨l2⟩ := cs2
  have ok0 : ∀ u v, l0 = [.iface u v] → Value.okWide Tryd.prog W .any 0 u v := fun u v e => by
    subst e
    exact (hrows 0 0 (by simp [MemPlace.row])).2 u v (by simpa using World.var?_cell hg0' hv0 0)
  have ok1 : ∀ u v, l1 = [.iface u v] → Value.okWide Tryd.prog W .any 0 u v := fun u v e => by
    subst e
    exact (hrows 2 0 (by simp [MemPlace.row])).2 u v (by simpa using World.var?_cell hg1' hv1 0)
  have ok2 : ∀ u v, l2 = [.iface u v] → Value.okWide Tryd.prog W .any 0 u v := fun u v e => by
    subst e
    exact (hrows 1 0 (by simp [MemPlace.row])).2 u v (by simpa using World.var?_cell hg2' hv2 0)
  obtain ⟨a0, s0, rfl, hc0, hs0, hz0, rfl⟩ := errorString_of_trod Tryd.underlying95 rowEs Tryd.underlying142 Tryd.underlying166 rfl rfl Tryd.underlying9 cellsEs cellsStr hd0 ok0
  obtain ⟨a1, s1, rfl, hc1, hs1, hz1, rfl⟩ := errorString_of_trod Tryd.underlying95 rowEs Tryd.underlying142 Tryd.underlying166 rfl rfl Tryd.underlying9 cellsEs cellsStr hd1 ok1
  obtain ⟨a2, s2, rfl, hc2, hs2, hz2, rfl⟩ := errorString_of_trod Tryd.underlying95 rowEs Tryd.underlying142 Tryd.underlying166 rfl rfl Tryd.underlying9 cellsEs cellsStr hd2 ok2
  have hb0 := (hrows a0.block a0.off (by simp [MemPlace.row])).1
  have hb1 := (hrows a1.block a1.off (by simp [MemPlace.row])).1
  have hb2 := (hrows a2.block a2.off (by simp [MemPlace.row])).1
  refine ⟨⟨a0, a1, a2⟩, by simpa using World.var?_cell hg0' hv0 0, by simpa using World.var?_cell hg1' hv1 0, by simpa using World.var?_cell hg2' hv2 0, ?_, ?_, ?_, ?_⟩
  · intro b
    cases b
    · exact hb0
    · exact hb1
    · exact hb2
  · show a0 ≠ a1
    rintro rfl
    simp [MemPlace.row] at hnd
  · show a0 ≠ a2
    rintro rfl
    simp [MemPlace.row] at hnd
  · show a1 ≠ a2
    rintro rfl
    simp [MemPlace.row] at hnd

end Go.Proofs.YtjkohceigdfmjaaDoor

/-
  An argument [2][]bool.
-/
namespace Go.Proofs.YtjkohceigdfmjaaDoor
open Go.ChangeShapes Go.WideShapes Go.ChangeAt Go.RowKit Go.Deep

theorem came_bools1 {H : Type} {enc : TypeId × Value → H} {w : World} {base fuel : Nat} {held : Bool} {v : Value} {x : DataW H × List MemPlace} (h : DataW.trod enc Tryd.prog w base (fun _ => true) held fuel 23 [v] = some x) :
    ∃ A n c ks, v = .slice A n c ∧ CameBools w A n c ks := by
  rcases open_bools Tryd.underlying23 Tryd.underlying4 (by kernel_rfl) h with ⟨hcs, _⟩ | ⟨a, len, cap, B, hcs, _⟩
  · simp at hcs
    subst hcs
    obtain ⟨ks, hk⟩ := came_bools h
    exact ⟨_, _, _, ks, rfl, hk⟩
  · simp at hcs
    subst hcs
    obtain ⟨ks, hk⟩ := came_bools h
    exact ⟨_, _, _, ks, rfl, hk⟩

theorem trod_two {H : Type} {enc : TypeId × Value → H} {P : Program} {W : World} {base fuel : Nat} {sp : Nat → Bool} {held : Bool} {t e : TypeId} {a b : Value} {x : DataW H × List MemPlace}
    (ht : P.underlying t = some (.array 2 e)) (hc : P.cellsOf e = 1) (h : DataW.trod enc P W base sp held fuel t [a, b] = some x) : ∃ m y z, DataW.trod enc P W base sp held m e [a] = some y ∧ DataW.trod enc P W base sp held m e [b] = some z := by
  obtain ⟨xs, m, _, _, hl, hx, hp⟩ := DataW.trod_array ht h
  have h0 := hp 0 (by omega)
  have h1 := hp 1 (by omega)
  rw [hc] at h0 h1
  rw [List.getElem?_eq_getElem (by omega)] at h0 h1
  exact ⟨m, _, _, h0, h1⟩

theorem cellsBoolsEl : Tryd.prog.cellsOf 23 = 1 := by kernel_rfl
set_option maxRecDepth 100000 in
theorem cellsBools2 : Tryd.prog.cellsOf 24 = 2 := by kernel_rfl
set_option maxRecDepth 100000 in
theorem came_bools2 {H : Type} {enc : TypeId × Value → H} {W : World} {base b0 : Nat} {held : Bool} {r : Reach} {v : Value} {d : DataW H} {ps : List MemPlace}
    (hval : Value.okWide Tryd.prog W r b0 24 v) (hd : DataW.Trod enc Tryd.prog W base (fun _ => true) held 24 v d ps) :
    ∃ A0 n0 c0 k0 A1 n1 c1 k1, v = .agg #[.slice A0 n0 c0, .slice A1 n1 c1] ∧ CameBools W A0 n0 c0 k0 ∧ CameBools W A1 n1 c1 k1 := by
  simp only [Value.okWide, Tryd.underlying24] at hval
  obtain ⟨cs, rfl, hsz, _⟩ := hval
  rw [cellsBools2] at hsz
  obtain ⟨fuel, hf⟩ := hd
  have hl : cs.toList.length = 2 := by simpa using hsz
  obtain ⟨a, b, hab⟩ : ∃ a b, cs.toList = [a, b] := by
    match cs.toList, hl with
    | [a, b], _ => exact ⟨a, b, rfl⟩
  simp only [Value.cells] at hf
  rw [hab] at hf
  obtain ⟨m, y, z, h0, h1⟩ := trod_two Tryd.underlying24 cellsBoolsEl hf
  obtain ⟨A0, n0, c0, k0, e0, g0⟩ := came_bools1 h0
  obtain ⟨A1, n1, c1, k1, e1, g1⟩ := came_bools1 h1
  refine ⟨A0, n0, c0, k0, A1, n1, c1, k1, ?_, g0, g1⟩
  congr 1
  apply Array.ext'
  rw [hab, e0, e1]

end Go.Proofs.YtjkohceigdfmjaaDoor

/-
  An argument of type Blown: two lists of bytes, a number of 8 bits, bools.
-/
namespace Go.Proofs.YtjkohceigdfmjaaDoor
open Go.ChangeShapes Go.WideShapes Go.ChangeAt Go.RowKit Go.Deep

theorem trod_struct4 {H : Type} {enc : TypeId × Value → H} {P : Program} {w : World} {base fuel : Nat} {spare : Nat → Bool} {held : Bool} {t : TypeId} {f0 f1 f2 f3 : Field} {cs : List Value} {x : DataW H × List MemPlace} (ht : P.underlying t = some (.struct #[f0, f1, f2, f3])) (h : DataW.trod enc P w base spare held fuel t cs = some x) :
    ∃ y0 y1 y2 y3 n, cs.length = P.cellsOf t ∧ DataW.trod enc P w base spare held n f0.type ((cs.drop f0.offset).take (P.cellsOf f0.type)) = some y0 ∧ DataW.trod enc P w base spare held n f1.type ((cs.drop f1.offset).take (P.cellsOf f1.type)) = some y1 ∧
      DataW.trod enc P w base spare held n f2.type ((cs.drop f2.offset).take (P.cellsOf f2.type)) = some y2 ∧ DataW.trod enc P w base spare held n f3.type ((cs.drop f3.offset).take (P.cellsOf f3.type)) = some y3 := by
  obtain ⟨xs, n, _, rfl, hl, hlen, hf⟩ := DataW.trod_struct ht h
  match xs, hlen with
  | [y0, y1, y2, y3], _ => exact ⟨y0, y1, y2, y3, n, hl, by simpa using hf 0 f0 rfl, by simpa using hf 1 f1 rfl, by simpa using hf 2 f2 rfl, by simpa using hf 3 f3 rfl⟩

theorem came_bytes1 {H : Type} {enc : TypeId × Value → H} {W : World} {base fuel : Nat} {held : Bool} {v : Value} {x : DataW H × List MemPlace} (h : DataW.trod enc Tryd.prog W base (fun _ => true) held fuel 35 [v] = some x) :
    ∃ A n c xs, v = .slice A n c ∧ Came W A n c xs := by
  rcases open_ints Tryd.underlying35 Tryd.underlying5 (by kernel_rfl) h with ⟨hcs, _⟩ | ⟨x, l, k, zs, hcs, _, hl2, hm2, hz, _, hcell, hwz⟩
  · simp at hcs
    subst hcs
    exact ⟨none, 0, 0, [], rfl, ⟨In.none_ _ _, (by intro x hx; cases hx), fun _ => rfl, Nat.le_refl _⟩⟩
  · simp at hcs
    subst hcs
    obtain ⟨xs, hxs⟩ := came_of (w := W) (a := some x) (len := l) (cap := k) (zs := zs) (.inr ⟨x, rfl, hl2, by simpa using hz, hcell, hwz⟩)
    exact ⟨some x, l, k, xs, rfl, hxs⟩

theorem cellsBlown : Tryd.prog.cellsOf 42 = 4 := by kernel_rfl
theorem four_of (l : List Value) (h : l.length = 4) : ∃ a b c d, l = [a, b, c, d] := by
  match l, h with
  | [a, b, c, d], _ => exact ⟨a, b, c, d, rfl⟩

set_option maxRecDepth 100000 in
theorem came_blown {H : Type} {enc : TypeId × Value → H} {W : World} {base b0 : Nat} {held : Bool} {r : Reach} {v : Value} {d : DataW H} {ps : List MemPlace}
    (hval : Value.okWide Tryd.prog W r b0 42 v) (hd : DataW.Trod enc Tryd.prog W base (fun _ => true) held 42 v d ps) :
    ∃ (A0 : Option Addr) (n0 c0 : Nat) (A1 : Option Addr) (n1 c1 z : Nat) (B : Option Addr) (nb cb : Nat) (x0 x1 : List Nat) (ks : List Bool), v = .agg #[.slice A0 n0 c0, .slice A1 n1 c1, .int .u8 (z : Int), .slice B nb cb] ∧ Came W A0 n0 c0 x0 ∧ Came W A1 n1 c1 x1 ∧ z < 256 ∧ CameBools W B nb cb ks := by
  simp only [Value.okWide, Tryd.underlying42] at hval
  obtain ⟨cs, rfl, hsz, _⟩ := hval
  rw [cellsBlown] at hsz
  obtain ⟨fuel, hf⟩ := hd
  obtain ⟨y0, y1, y2, y3, n, hl, h0, h1, h2, h3⟩ := trod_struct4 Tryd.underlying42 hf
  obtain ⟨l⟩ := cs
  have hln : l.length = 4 := by simpa using hsz
  obtain ⟨a, b, c, d, rfl⟩ := four_of l hln
  have h0' : DataW.trod enc Tryd.prog W base (fun _ => true) held n 35 [a] = some y0 := h0
  have h1' : DataW.trod enc Tryd.prog W base (fun _ => true) held n 35 [b] = some y1 := h1
  have h2' : DataW.trod enc Tryd.prog W base (fun _ => true) held n 5 [c] = some y2 := h2
  have h3' : DataW.trod enc Tryd.prog W base (fun _ => true) held n 23 [d] = some y3 := h3
  obtain ⟨A0, n0, c0, x0, rfl, g0⟩ := came_bytes1 h0'
  obtain ⟨A1, n1, c1, x1, rfl, g1⟩ := came_bytes1 h1'
  obtain ⟨B, nb, cb, ks, rfl, g3⟩ := came_bools1 h3'
  obtain ⟨z, ez, _, hw⟩ := DataW.trod_int Tryd.underlying5 h2'
  have hb := bounds_u8 hw
  simp only [List.cons.injEq, and_true] at ez
  subst ez
  obtain ⟨q, rfl⟩ := Int.eq_ofNat_of_zero_le hb.1
  exact ⟨A0, n0, c0, A1, n1, c1, q, B, nb, cb, x0, x1, ks, rfl, g0, g1, by omega, g3⟩

end Go.Proofs.YtjkohceigdfmjaaDoor
