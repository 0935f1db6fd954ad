/-
  Several texts in one: HProvedLaw, KLaid, LArrArg.
-/
import Derived.Test.YtllohbgejjbagaaDoorChP2
import Derived.Test.YtllohbgejjbagaaDoorShaLaid
import Derived.LaidSub
import Derived.Stop.LaidErr
import Derived.Stop.LaidTwo
import Derived.Test.YtllohbgejjbagaaDoorLPre
import Derived.ProofKit
import Derived.OpenShut
/-
  almonerlaw12.ChainsProved.
-/
namespace Go.Proofs.YtllohbgejjbagaaDoor
open Go.RowKit

set_option maxRecDepth 100000 in
set_option maxHeartbeats 8000000 in
theorem chainsProved_law (w : World) (hk : Knows w) (hs : Starts w) (E : Addr) (hm : Miss w E) {A : Option Addr} {n c : Nat} {rows : List (List Nat)} (cr : CameRows w A n rows) {zs : List Nat} (hz : zs.length = 3) (hzb : ∀ x ∈ zs, x < 256) :
    Calls Tryd.prog 5 #[.slice A n c, .agg (bvs zs).toArray] w fun e w' => e = .returned (.bool true) ∧ Below w.heap.size w w' := by
  obtain ⟨w0, hw0⟩ : ∃ w0, w0 = w.alloc (.cells (bvs zs).toArray 50) := ⟨_, rfl⟩
  have b0 : Below w.heap.size w w0 := by rw [hw0]; exact below_alloc _ _
  have r0 : BArr w0 w.heap.size 50 zs := by rw [hw0]; exact BArr.new _ _ _
  have CG := Lib.hid (hgreat_any A n c rows w0 (cr.below b0))
  have CA := Lib.hid (fun (W : World) (hW : Below w.heap.size w W) => alive_on hk hs hW)
  have HK := Lib.hid (And.intro hk (And.intro hs (And.intro cr (And.intro b0 (And.intro r0 hm)))))
  have HW := Lib.hid hw0
  clear hk hs cr hw0 b0 r0 hm
  go_enter Tryd.func5, Tryd.ntmps5
  go_upto_region 1 with fail
  rw [← HW.out]
  clear HW
  go_wp2_with fail
  refine CG.out.mono ?_
  rintro e w' ⟨B, rfl, hB, e1⟩
  obtain rfl := e1.symm
  clear e1
  by_cases hg : B = true ∨ n = 0
  · cases B with
    | true =>
      go_wp2_with fail
      refine (CA.out _ HK.out.2.2.2.1).mono ?_
      rintro e w2 ⟨rfl, hb⟩
      go_wp2_with fail
      go_ret
      exact ⟨rfl, hb⟩
    | false =>
      obtain rfl : n = 0 := by rcases hg with h | h; cases h; exact h
      go_wp2_with fail
      refine (CA.out _ HK.out.2.2.2.1).mono ?_
      rintro e w2 ⟨rfl, hb⟩
      go_wp2_with fail
      go_ret
      exact ⟨rfl, hb⟩
  · obtain ⟨rfl, hn0⟩ : B = false ∧ n ≠ 0 := by
      cases B with
      | true => exact absurd (.inl rfl) hg
      | false => exact ⟨rfl, fun h => hg (.inr h)⟩
    have n60 := hB rfl
    have hlen : rows.length = n := HK.out.2.2.1.len
    have HL := Lib.hid hlen
    obtain ⟨o, ho⟩ : ∃ o, zs[0]? = some o := ⟨_, List.getElem?_eq_getElem (by omega)⟩
    obtain ⟨p, hp⟩ : ∃ p, zs[1]? = some p := ⟨_, List.getElem?_eq_getElem (by omega)⟩
    obtain ⟨r, hr⟩ : ∃ r, zs[2]? = some r := ⟨_, List.getElem?_eq_getElem (by omega)⟩
    have hob : o < 256 := hzb o (List.mem_of_getElem? ho)
    have hpb : p < 256 := hzb p (List.mem_of_getElem? hp)
    have hrb : r < 256 := hzb r (List.mem_of_getElem? hr)
    obtain ⟨a, ha⟩ : ∃ a, o % n = a := ⟨_, rfl⟩
    have haN : a < n := by rw [← ha]; exact Nat.mod_lt _ (by omega)
    obtain ⟨q, hq⟩ : ∃ q, 1 + a = q := ⟨_, rfl⟩
    have m2 : (o : Int) % (n : Int) = (a : Int) := by rw [← ha]; simp
    have m1 : Int.tmod (o : Int) (n : Int) = (a : Int) := by rw [Int.tmod_eq_emod_of_nonneg (by omega)]; exact m2
    have m3 : (1 : Int) + (a : Int) = (q : Int) := by omega
    have hn0' : ((n : Int) == 0) = false := by simp; omega
    have hqn : q ≤ n := by omega
    have hq1 : 1 ≤ q := by omega
    obtain ⟨x, hx⟩ : ∃ x, p % q = x := ⟨_, rfl⟩
    obtain ⟨y, hy⟩ : ∃ y, r % q = y := ⟨_, rfl⟩
    have hxq : x < q := by rw [← hx]; exact Nat.mod_lt _ (by omega)
    have hyq : y < q := by rw [← hy]; exact Nat.mod_lt _ (by omega)
    obtain ⟨t, ht⟩ : ∃ t, 1 + y = t := ⟨_, rfl⟩
    have htq : t ≤ q := by omega
    have ht1 : 1 ≤ t := by omega
    have x2 : (p : Int) % (q : Int) = (x : Int) := by rw [← hx]; simp
    have x1 : Int.tmod (p : Int) (q : Int) = (x : Int) := by rw [Int.tmod_eq_emod_of_nonneg (by omega)]; exact x2
    have y2 : (r : Int) % (q : Int) = (y : Int) := by rw [← hy]; simp
    have y1 : Int.tmod (r : Int) (q : Int) = (y : Int) := by rw [Int.tmod_eq_emod_of_nonneg (by omega)]; exact y2
    have y3 : (1 : Int) + (y : Int) = (t : Int) := by omega
    have hq0' : ((q : Int) == 0) = false := by simp; omega
    have HZ := Lib.hid (And.intro ho (And.intro hp hr))
    have HQ := Lib.hid (And.intro hqn (And.intro hxq (And.intro htq ht1)))
    have CM := Lib.hid (hmade_any A n c rows w0 (HK.out.2.2.1.below HK.out.2.2.2.1) (by omega) (HK.out.1.below HK.out.2.2.2.1) (HK.out.2.1.below HK.out.2.2.2.1))
    have HX := Lib.hid (And.intro x1 (And.intro x2 (And.intro y1 (And.intro y2 (And.intro y3 (And.intro hq0' (And.intro m1 (And.intro m2 (And.intro m3 hn0')))))))))
    clear CG hB hg ha hq ho hp hr hx hy ht hlen x1 x2 y1 y2 y3 hq0' m1 m2 m3 hn0'
    go_wp2_with fail
    refine CM.out.mono ?_
    rintro e w2 ⟨P, rfl, hb1, hP⟩
    have HB2 := Lib.hid (below_on HK.out.2.2.2.1 (Nat.le_refl _) hb1)
    have HZ2 := Lib.hid (HK.out.2.2.2.2.1.below hb1)
    clear CM hb1
    rcases hP with rfl | ⟨g, G, rfl, hmd⟩
    · have C1 := Lib.hid (CA.out _ HB2.out)
      go_wp2_with fail
      refine C1.out.mono ?_
      rintro e w3 ⟨rfl, hb⟩
      go_wp2_with fail
      go_ret
      exact ⟨rfl, hb⟩
    · have HM : Hid (MadeAt w w2 g G rows) := Lib.hid ⟨hmd.chain, fun x hx => Nat.le_trans HK.out.2.2.2.1.size (hmd.new x hx), HB2.out⟩
      clear hmd
      obtain ⟨b, hbj⟩ : ∃ b, rows[x]? = some b := ⟨_, List.getElem?_eq_getElem (by rw [HL.out]; omega)⟩
      obtain ⟨ad, B, bl, d, rfl, hcell, hcame, hbl⟩ := HK.out.2.2.1.row x b hbj
      have hb16 : bl ≤ 16384 := by have := (HM.out.chain.ok b (List.mem_of_getElem? hbj)).1; rw [hcame.in_.len] at this; exact this
      obtain ⟨s, hs⟩ : ∃ s, lf rows x = s := ⟨_, rfl⟩
      have hsl : s.length = 32 := by rw [← hs]; exact lf_length _ _
      have hsb : leafL b = s := by rw [← hs, lf_of hbj]
      have hs256 : ∀ x ∈ s, x < 256 := by rw [← hs]; exact lf_lt _ _
      obtain ⟨R, hR⟩ : ∃ R, rootV rows q = R := ⟨_, rfl⟩
      have lR : R.length = 32 := by rw [← hR]; exact rootV_length _ _
      obtain ⟨O, hO⟩ : ∃ O, rootV rows t = O := ⟨_, rfl⟩
      have lO : O.length = 32 := by rw [← hO]; exact rootV_length _ _
      have hO256 : ∀ x ∈ O, x < 256 := by rw [← hO]; exact rootV_lt _ _
      obtain ⟨ps, hps⟩ : ∃ ps, pathS rows x q = ps := ⟨_, rfl⟩
      obtain ⟨ls, hls⟩ : ∃ ls, linkS rows t q = ls := ⟨_, rfl⟩
      obtain ⟨u, hu⟩ : ∃ u, dep x q = u := ⟨_, rfl⟩
      have hu64 : u ≤ 64 := by rw [← hu]; exact dep_64 hxq (by omega)
      obtain ⟨v, hv⟩ : ∃ v, ldep t q true = v := ⟨_, rfl⟩
      have hv65 : v ≤ 65 := by rw [← hv]; exact ldep_64 (by omega) _ _
      have hql : q ≤ rows.length := by rw [HL.out]; exact hqn
      have T1 : inTree ps s R u x q = true := by
        rw [← hps, ← hs, ← hR, pathS_in hql hxq, rootV_in hql]
        exact hpath_in (lf rows) (lf_length rows) hxq hu
      have T2 : begins ls O R v t q = true := by
        rw [← hls, ← hO, ← hR, linkS_in hql ht1 htq, rootV_in hql, rootV_in (by omega)]
        exact hlink_in (lf rows) (lf_length rows) ht1 htq hv
      have hp256 : ∀ x ∈ ps, x < 256 := by rw [← hps]; exact pathS_lt _ _ _
      have hl256 : ∀ x ∈ ls, x < 256 := by rw [← hls]; exact linkS_lt _ _ _
      have HE := Lib.hid (And.intro hR (And.intro hO (And.intro hps (And.intro hls (And.intro hu (And.intro hv (And.intro T1 (And.intro T2 (And.intro hp256 (And.intro hl256 (And.intro hs256 (And.intro hO256 (And.intro hsb (And.intro hcell hcame))))))))))))))
      have hcz := HZ2.out.at_ 0 o HZ.out.1
      have hcp := HZ2.out.at_ 1 p HZ.out.2.1
      have hcr := HZ2.out.at_ 2 r HZ.out.2.2
      rw [show (⟨w.heap.size, 0, none⟩ : Addr).add 0 = ⟨w.heap.size, 0, none⟩ from rfl, bv] at hcz
      rw [show (⟨w.heap.size, 0, none⟩ : Addr).add 1 = ⟨w.heap.size, 1, none⟩ from rfl, bv] at hcp
      rw [show (⟨w.heap.size, 0, none⟩ : Addr).add 2 = ⟨w.heap.size, 2, none⟩ from rfl, bv] at hcr
      obtain ⟨x1, x2, y1, y2, y3, hq0', m1, m2, m3, hn0'⟩ := HX.out
      clear hR hO hps hls hu hv T1 T2 hp256 hl256 hs hsb hs256 hO256 hcell hcame hbj HZ2 hql
      have HF2 := Lib.hid (And.intro (HM.out) trivial)
      clear HM
      have CT := c_root HF2.out.1.chain (by have := HL.out; omega) q (HK.out.1.below HF2.out.1.bel) (HK.out.2.1.below HF2.out.1.bel)
      rw [HE.out.1, hasE_in (by rw [HL.out]; exact HQ.out.1)] at CT
      have C1 := Lib.hid CT
      clear CT
      go_wp2_with fail
      refine C1.out.mono ?_
      rintro e w3 ⟨rfl, hb⟩
      clear C1
      have HF3 := Lib.hid (And.intro (HF2.out.1.below hb) trivial)
      clear HF2
      clear hb
      obtain ⟨w4, hw⟩ : ∃ w4, w4 = w3.alloc (.cells (bvs R).toArray 34) := ⟨_, rfl⟩
      have hb : Below w3.heap.size w3 w4 := by rw [hw]; exact below_alloc _ _
      have hn : BArr w4 w3.heap.size 34 R := by rw [hw]; exact BArr.new _ _ _
      have HW := Lib.hid hw
      clear hw
      go_wp2_with (with_reducible refine wpList_store_new w3 _ (by simp) rfl (.tmp 9) (.tmp 53) rfl rfl R lR rfl ?_; rw [← HW.out])
      clear HW
      obtain ⟨g4, hg⟩ : ∃ g, w3.heap.size = g := ⟨_, rfl⟩
      rw [hg] at hn
      have HF4 := Lib.hid (And.intro (HF3.out.1.below hb) (And.intro (hn) trivial))
      clear HF3
      rw [hg]
      clear hn hb hg
      have CT := c_root HF4.out.1.chain (by have := HL.out; omega) t (HK.out.1.below HF4.out.1.bel) (HK.out.2.1.below HF4.out.1.bel)
      rw [HE.out.2.1, hasE_in (by rw [HL.out]; exact Nat.le_trans HQ.out.2.2.1 HQ.out.1)] at CT
      have C1 := Lib.hid CT
      clear CT
      go_wp2_with fail
      refine C1.out.mono ?_
      rintro e w5 ⟨rfl, hb⟩
      clear C1
      have HF5 := Lib.hid (And.intro (HF4.out.1.below hb) (And.intro (HF4.out.2.1.below hb) trivial))
      clear HF4
      clear hb
      obtain ⟨w6, hw⟩ : ∃ w6, w6 = w5.alloc (.cells (bvs O).toArray 34) := ⟨_, rfl⟩
      have hb : Below w5.heap.size w5 w6 := by rw [hw]; exact below_alloc _ _
      have hn : BArr w6 w5.heap.size 34 O := by rw [hw]; exact BArr.new _ _ _
      have HW := Lib.hid hw
      clear hw
      go_wp2_with (with_reducible refine wpList_store_new w5 _ (by simp) rfl (.tmp 11) (.tmp 59) rfl rfl O lO rfl ?_; rw [← HW.out])
      clear HW
      obtain ⟨g6, hg⟩ : ∃ g, w5.heap.size = g := ⟨_, rfl⟩
      rw [hg] at hn
      have HF6 := Lib.hid (And.intro (HF5.out.1.below hb) (And.intro (HF5.out.2.1.below hb) (And.intro (hn) trivial)))
      clear HF5
      rw [hg]
      clear hn hb hg
      have CT := c_path HF6.out.1.chain (by have := HL.out; omega) x q (HK.out.1.below HF6.out.1.bel) (HK.out.2.1.below HF6.out.1.bel)
      rw [pathN_in (by rw [HL.out]; exact HQ.out.1) HQ.out.2.1, pathE_in (by rw [HL.out]; exact HQ.out.1) HQ.out.2.1, HE.out.2.2.1, HE.out.2.2.2.2.1] at CT
      have C1 := Lib.hid CT
      clear CT
      go_wp2_with fail
      refine C1.out.mono ?_
      rintro e w7 ⟨A7, d7, rfl, ho7, hb⟩
      clear C1
      have HF7 := Lib.hid (And.intro (HF6.out.1.below hb) (And.intro (HF6.out.2.1.below hb) (And.intro (HF6.out.2.2.1.below hb) (And.intro (InS.of_own (A := A7) (n := u) (c := d7) (ys := ps) ho7) trivial))))
      clear HF6
      clear hb
      have hcp7 := own_cap ho7
      clear ho7
      have CT := c_link HF7.out.1.chain (by have := HL.out; omega) t q (HK.out.1.below HF7.out.1.bel) (HK.out.2.1.below HF7.out.1.bel)
      rw [linkN_in (by rw [HL.out]; exact HQ.out.1) HQ.out.2.2.2 HQ.out.2.2.1, linkE_in (by rw [HL.out]; exact HQ.out.1) HQ.out.2.2.2 HQ.out.2.2.1, HE.out.2.2.2.1, HE.out.2.2.2.2.2.1] at CT
      have C1 := Lib.hid CT
      clear CT
      go_wp2_with fail
      refine C1.out.mono ?_
      rintro e w8 ⟨A8, d8, rfl, ho8, hb⟩
      clear C1
      have HF8 := Lib.hid (And.intro (HF7.out.1.below hb) (And.intro (HF7.out.2.1.below hb) (And.intro (HF7.out.2.2.1.below hb) (And.intro (HF7.out.2.2.2.1.below hb) (And.intro (InS.of_own (A := A8) (n := v) (c := d8) (ys := ls) ho8) trivial)))))
      clear HF7
      clear hb
      have hcp8 := own_cap ho8
      clear ho8
      have BW := Lib.hid (fun (W : World) (hW : Below w8.heap.size w8 W) => below_on HF8.out.1.bel (Nat.le_refl _) hW)
      have CAl := Lib.hid (fun (W : World) (hW : Below w8.heap.size w8 W) => (halive_any W (HK.out.1.below (BW.out W hW)) (HK.out.2.1.below (BW.out W hW))).mono (R' := fun e w' => e = .returned (.bool true) ∧ Below w8.heap.size w8 w') fun e w' ⟨he, hb⟩ => ⟨he, below_on hW (Nat.le_refl _) hb⟩)
      have HC := Lib.hid (fun (W : World) (hW : Below w8.heap.size w8 W) => ((BW.out W hW).cell (World.block_lt_of_cell? w _ HE.out.2.2.2.2.2.2.2.2.2.2.2.2.2.1)).trans HE.out.2.2.2.2.2.2.2.2.2.2.2.2.2.1)
      have CLf := Lib.hid (fun (W : World) (hW : Below w8.heap.size w8 W) => (leaf_any B bl d b W (HE.out.2.2.2.2.2.2.2.2.2.2.2.2.2.2.below (BW.out W hW)) (HK.out.1.below (BW.out W hW)) (HK.out.2.1.below (BW.out W hW)) (by omega)).mono (R' := fun e w' => e = .returned (sv s) ∧ Below w8.heap.size w8 w') fun e w' ⟨he, hb⟩ => ⟨by rw [he, HE.out.2.2.2.2.2.2.2.2.2.2.2.2.1], below_on hW (Nat.le_refl _) hb⟩)
      have CP := Lib.hid (fun (W : World) (hW : Below w8.heap.size w8 W) => (check_any (leaf := s) (root := R) (at_ := x) (size := q) (HF8.out.2.2.2.1.below hW) HE.out.2.2.2.2.2.2.2.2.1 hcp7 (by omega) hsl HE.out.2.2.2.2.2.2.2.2.2.2.1 lR (by omega) (HK.out.1.below (BW.out W hW)) (HK.out.2.1.below (BW.out W hW))).mono (R' := fun e w' => e = .returned (.bool true) ∧ Below w8.heap.size w8 w') fun e w' ⟨he, hb⟩ => ⟨by rw [he, HE.out.2.2.2.2.2.2.1], below_on hW (Nat.le_refl _) hb⟩)
      have CL := Lib.hid (fun (W : World) (hW : Below w8.heap.size w8 W) => (kcheck_any (a := O) (b := R) (from_ := t) (size := q) (HF8.out.2.2.2.2.1.below hW) HE.out.2.2.2.2.2.2.2.2.2.1 hcp8 (by omega) lO HE.out.2.2.2.2.2.2.2.2.2.2.2.1 lR (by omega) (HK.out.1.below (BW.out W hW)) (HK.out.2.1.below (BW.out W hW)) (HK.out.2.2.2.2.2.below (BW.out W hW))).mono (R' := fun e w' => e = .returned (.bool true) ∧ Below w8.heap.size w8 w') fun e w' ⟨he, hb⟩ => ⟨by rw [he, HE.out.2.2.2.2.2.2.2.1], below_on hW (Nat.le_refl _) hb⟩)
      have hxn : x < n := Nat.lt_of_lt_of_le HQ.out.2.1 HQ.out.1
      go_upto_region 13 with fail
      refine wp_region_held_drew (S := fun W => Below w8.heap.size w8 W) (by kernel_rfl) ((Below.refl _ _).drew) (fun hT0 => ?_)
      change wpAnyH _ _ _ _ _ _ _ _ w8.drew
      generalize w8.drew = WD at hT0 ⊢
      refine wpAnyH_ready (rs := [0]) (by kernel_rfl) (by simp) ?_
      refine' AllReadyH.cons (o := _) ?hir0 (fun K hK => ?_) AllReadyH.nil
      case hir0 => (simp only [List.getElem?_toArray, List.getElem?_cons_zero]; rfl)
      go_simp
      go_at_call 16
      refine (CAl.out _ hT0).mono ?_
      rintro e Wr2 ⟨rfl, hBr1⟩
      refine hK.out _ _ hBr1 (fun _ => ?_)
      clear hK K
      try simp only [Act.put, List.setIfInBounds_toArray, List.set_cons_zero, List.set_cons_succ]
      refine' wpAnyH_take (i := 1) (oi := _) (v := _) ?hir1 (by kernel_rfl) ?hfr1 ?hrr1 ?hQr1 ?hyr1 hBr1 ?restr1
      case hir1 => (simp only [List.getElem?_toArray, List.getElem?_cons_zero, List.getElem?_cons_succ]; rfl)
      case hfr1 => kernel_rfl
      case hrr1 => kernel_rfl
      case hQr1 => exact fun _ _ _ h => h
      case hyr1 => refine Or.inl ⟨by rfl, ?_⟩; intro W hSw; go_simp; try with_reducible rfl
      try simp only [Act.put, List.setIfInBounds_toArray, List.set_cons_zero, List.set_cons_succ]
      refine' wpAnyH_take (i := 2) (oi := _) (v := _) ?hir2 (by kernel_rfl) ?hfr2 ?hrr2 ?hQr2 ?hyr2 hBr1 ?restr2
      case hir2 => (simp only [List.getElem?_toArray, List.getElem?_cons_zero, List.getElem?_cons_succ]; rfl)
      case hfr2 => kernel_rfl
      case hrr2 => kernel_rfl
      case hQr2 => exact fun _ _ _ h => h
      case hyr2 => refine Or.inl ⟨by rfl, ?_⟩; intro W hSw; go_simp; try with_reducible rfl
      try simp only [Act.put, List.setIfInBounds_toArray, List.set_cons_zero, List.set_cons_succ]
      refine' wpAnyH_take (i := 3) (oi := _) (v := _) ?hir3 (by kernel_rfl) ?hfr3 ?hrr3 ?hQr3 ?hyr3 hBr1 ?restr3
      case hir3 => (simp only [List.getElem?_toArray, List.getElem?_cons_zero, List.getElem?_cons_succ]; rfl)
      case hfr3 => kernel_rfl
      case hrr3 => kernel_rfl
      case hQr3 => exact fun _ _ _ h => h
      case hyr3 => refine Or.inl ⟨by rfl, ?_⟩; intro W hSw; go_simp; try with_reducible rfl
      try simp only [Act.put, List.setIfInBounds_toArray, List.set_cons_zero, List.set_cons_succ]
      refine' wpAnyH_take (i := 4) (oi := _) (v := _) ?hir4 (by kernel_rfl) ?hfr4 ?hrr4 ?hQr4 ?hyr4 hBr1 ?restr4
      case hir4 => (simp only [List.getElem?_toArray, List.getElem?_cons_zero, List.getElem?_cons_succ]; rfl)
      case hfr4 => kernel_rfl
      case hrr4 => kernel_rfl
      case hQr4 => exact fun _ _ _ h => h
      case hyr4 => refine Or.inl ⟨by rfl, ?_⟩; intro W hSw; go_simp; try with_reducible rfl
      try simp only [Act.put, List.setIfInBounds_toArray, List.set_cons_zero, List.set_cons_succ]
      refine' wpAnyH_take (i := 5) (oi := _) (v := _) ?hir5 (by kernel_rfl) ?hfr5 ?hrr5 ?hQr5 ?hyr5 hBr1 ?restr5
      case hir5 => (simp only [List.getElem?_toArray, List.getElem?_cons_zero, List.getElem?_cons_succ]; rfl)
      case hfr5 => kernel_rfl
      case hrr5 => kernel_rfl
      case hQr5 => exact fun _ _ _ h => h
      case hyr5 => refine Or.inl ⟨by rfl, ?_⟩; intro W hSw; go_simp; try with_reducible rfl
      try simp only [Act.put, List.setIfInBounds_toArray, List.set_cons_zero, List.set_cons_succ]
      refine' wpAnyH_take (i := 6) (oi := _) (v := _) ?hir6 (by kernel_rfl) ?hfr6 ?hrr6 ?hQr6 ?hyr6 hBr1 ?restr6
      case hir6 => (simp only [List.getElem?_toArray, List.getElem?_cons_zero, List.getElem?_cons_succ]; rfl)
      case hfr6 => kernel_rfl
      case hrr6 => kernel_rfl
      case hQr6 => exact fun _ _ _ h => h
      case hyr6 => refine Or.inl ⟨by rfl, ?_⟩; intro W hSw; go_simp; try with_reducible rfl
      try simp only [Act.put, List.setIfInBounds_toArray, List.set_cons_zero, List.set_cons_succ]
      refine' wpAnyH_take (i := 7) (oi := _) (v := _) ?hir7 (by kernel_rfl) ?hfr7 ?hrr7 ?hQr7 ?hyr7 hBr1 ?restr7
      case hir7 => (simp only [List.getElem?_toArray, List.getElem?_cons_zero, List.getElem?_cons_succ]; rfl)
      case hfr7 => kernel_rfl
      case hrr7 => kernel_rfl
      case hQr7 => exact fun _ _ _ h => h
      case hyr7 => refine Or.inl ⟨by rfl, ?_⟩; intro W hSw; go_simp; try with_reducible rfl
      try simp only [Act.put, List.setIfInBounds_toArray, List.set_cons_zero, List.set_cons_succ]
      refine' wpAnyH_take (i := 8) (oi := _) (v := _) ?hir8 (by kernel_rfl) ?hfr8 ?hrr8 ?hQr8 ?hyr8 hBr1 ?restr8
      case hir8 => (simp only [List.getElem?_toArray, List.getElem?_cons_zero, List.getElem?_cons_succ]; rfl)
      case hfr8 => kernel_rfl
      case hrr8 => kernel_rfl
      case hQr8 => exact fun _ _ _ h => h
      case hyr8 => refine Or.inl ⟨by rfl, ?_⟩; intro W hSw; go_simp; try with_reducible rfl
      try simp only [Act.put, List.setIfInBounds_toArray, List.set_cons_zero, List.set_cons_succ]
      refine' wpAnyH_take (i := 9) (oi := _) (v := _) ?hir9 (by kernel_rfl) ?hfr9 ?hrr9 ?hQr9 ?hyr9 hBr1 ?restr9
      case hir9 => (simp only [List.getElem?_toArray, List.getElem?_cons_zero, List.getElem?_cons_succ]; rfl)
      case hfr9 => kernel_rfl
      case hrr9 => kernel_rfl
      case hQr9 => exact fun _ _ _ h => h
      case hyr9 => refine Or.inl ⟨by rfl, ?_⟩; intro W hSw; go_simp; try with_reducible rfl
      try simp only [Act.put, List.setIfInBounds_toArray, List.set_cons_zero, List.set_cons_succ]
      refine' wpAnyH_take (i := 10) (oi := _) (v := _) ?hir10 (by kernel_rfl) ?hfr10 ?hrr10 ?hQr10 ?hyr10 hBr1 ?restr10
      case hir10 => (simp only [List.getElem?_toArray, List.getElem?_cons_zero, List.getElem?_cons_succ]; rfl)
      case hfr10 => kernel_rfl
      case hrr10 => kernel_rfl
      case hQr10 => exact fun _ _ _ h => h
      case hyr10 => refine Or.inl ⟨by rfl, ?_⟩; intro W hSw; go_simp; try with_reducible rfl
      try simp only [Act.put, List.setIfInBounds_toArray, List.set_cons_zero, List.set_cons_succ]
      refine' wpAnyH_take (i := 11) (oi := _) (v := _) ?hir11 (by kernel_rfl) ?hfr11 ?hrr11 ?hQr11 ?hyr11 hBr1 ?restr11
      case hir11 => (simp only [List.getElem?_toArray, List.getElem?_cons_zero, List.getElem?_cons_succ]; rfl)
      case hfr11 => kernel_rfl
      case hrr11 => kernel_rfl
      case hQr11 => exact fun _ _ _ h => h
      case hyr11 => refine Or.inl ⟨by rfl, ?_⟩; intro W hSw; go_simp; try with_reducible rfl
      try simp only [Act.put, List.setIfInBounds_toArray, List.set_cons_zero, List.set_cons_succ]
      refine' wpAnyH_take (i := 12) (oi := _) (v := _) ?hir12 (by kernel_rfl) ?hfr12 ?hrr12 ?hQr12 ?hyr12 hBr1 ?restr12
      case hir12 => (simp only [List.getElem?_toArray, List.getElem?_cons_zero, List.getElem?_cons_succ]; rfl)
      case hfr12 => kernel_rfl
      case hrr12 => kernel_rfl
      case hQr12 => exact fun _ _ _ h => h
      case hyr12 => refine Or.inl ⟨by rfl, ?_⟩; intro W hSw; go_simp; try with_reducible rfl
      try simp only [Act.put, List.setIfInBounds_toArray, List.set_cons_zero, List.set_cons_succ]
      refine' wpAnyH_take (i := 13) (oi := _) (v := _) ?hir13 (by kernel_rfl) ?hfr13 ?hrr13 ?hQr13 ?hyr13 hBr1 ?restr13
      case hir13 => (simp only [List.getElem?_toArray, List.getElem?_cons_zero, List.getElem?_cons_succ]; rfl)
      case hfr13 => kernel_rfl
      case hrr13 => kernel_rfl
      case hQr13 => exact fun _ _ _ h => h
      case hyr13 => refine Or.inl ⟨by rfl, ?_⟩; intro W hSw; go_simp; try with_reducible rfl
      try simp only [Act.put, List.setIfInBounds_toArray, List.set_cons_zero, List.set_cons_succ]
      refine' wpAnyH_take (i := 14) (oi := _) (v := _) ?hir14 (by kernel_rfl) ?hfr14 ?hrr14 ?hQr14 ?hyr14 hBr1 ?restr14
      case hir14 => (simp only [List.getElem?_toArray, List.getElem?_cons_zero, List.getElem?_cons_succ]; rfl)
      case hfr14 => kernel_rfl
      case hrr14 => kernel_rfl
      case hQr14 => exact fun _ _ _ h => h
      case hyr14 => refine Or.inl ⟨by rfl, ?_⟩; intro W hSw; go_simp; try with_reducible rfl
      try simp only [Act.put, List.setIfInBounds_toArray, List.set_cons_zero, List.set_cons_succ]
      refine' wpAnyH_take (i := 15) (oi := _) (v := _) ?hir15 (by kernel_rfl) ?hfr15 ?hrr15 ?hQr15 ?hyr15 hBr1 ?restr15
      case hir15 => (simp only [List.getElem?_toArray, List.getElem?_cons_zero, List.getElem?_cons_succ]; rfl)
      case hfr15 => kernel_rfl
      case hrr15 => kernel_rfl
      case hQr15 => exact fun _ _ _ h => h
      case hyr15 => refine Or.inl ⟨by rfl, ?_⟩; intro W hSw; go_simp; try with_reducible rfl
      try simp only [Act.put, List.setIfInBounds_toArray, List.set_cons_zero, List.set_cons_succ]
      refine' wpAnyH_take (i := 16) (oi := _) (v := _) ?hir16 (by kernel_rfl) ?hfr16 ?hrr16 ?hQr16 ?hyr16 hBr1 ?restr16
      case hir16 => (simp only [List.getElem?_toArray, List.getElem?_cons_zero, List.getElem?_cons_succ]; rfl)
      case hfr16 => kernel_rfl
      case hrr16 => kernel_rfl
      case hQr16 => exact fun _ _ _ h => h
      case hyr16 => refine Or.inl ⟨by rfl, ?_⟩; intro W hSw; go_simp; try with_reducible rfl
      try simp only [Act.put, List.setIfInBounds_toArray, List.set_cons_zero, List.set_cons_succ]
      refine' wpAnyH_take (i := 17) (oi := _) (v := _) ?hir17 (by kernel_rfl) ?hfr17 ?hrr17 ?hQr17 ?hyr17 hBr1 ?restr17
      case hir17 => (simp only [List.getElem?_toArray, List.getElem?_cons_zero, List.getElem?_cons_succ]; rfl)
      case hfr17 => kernel_rfl
      case hrr17 => kernel_rfl
      case hQr17 => exact fun _ _ _ h => h
      case hyr17 => refine Or.inl ⟨by rfl, ?_⟩; intro W hSw; go_simp; try with_reducible rfl
      try simp only [Act.put, List.setIfInBounds_toArray, List.set_cons_zero, List.set_cons_succ]
      refine' wpAnyH_take (i := 18) (oi := _) (v := _) ?hir18 (by kernel_rfl) ?hfr18 ?hrr18 ?hQr18 ?hyr18 hBr1 ?restr18
      case hir18 => (simp only [List.getElem?_toArray, List.getElem?_cons_zero, List.getElem?_cons_succ]; rfl)
      case hfr18 => kernel_rfl
      case hrr18 => kernel_rfl
      case hQr18 => exact fun _ _ _ h => h
      case hyr18 => refine Or.inl ⟨by rfl, ?_⟩; intro W hSw; go_simp; try with_reducible rfl
      try simp only [Act.put, List.setIfInBounds_toArray, List.set_cons_zero, List.set_cons_succ]
      refine' wpAnyH_take (i := 19) (oi := _) (v := _) ?hir19 (by kernel_rfl) ?hfr19 ?hrr19 ?hQr19 ?hyr19 hBr1 ?restr19
      case hir19 => (simp only [List.getElem?_toArray, List.getElem?_cons_zero, List.getElem?_cons_succ]; rfl)
      case hfr19 => kernel_rfl
      case hrr19 => kernel_rfl
      case hQr19 => exact fun _ _ _ h => h
      case hyr19 => refine Or.inl ⟨by rfl, ?_⟩; intro W hSw; go_simp; try with_reducible rfl
      try simp only [Act.put, List.setIfInBounds_toArray, List.set_cons_zero, List.set_cons_succ]
      refine' wpAnyH_take (i := 20) (oi := _) (v := _) ?hir20 (by kernel_rfl) ?hfr20 ?hrr20 ?hQr20 ?hyr20 hBr1 ?restr20
      case hir20 => (simp only [List.getElem?_toArray, List.getElem?_cons_zero, List.getElem?_cons_succ]; rfl)
      case hfr20 => kernel_rfl
      case hrr20 => kernel_rfl
      case hQr20 => exact fun _ _ _ h => h
      case hyr20 => refine Or.inl ⟨by rfl, ?_⟩; intro W hSw; go_simp; try with_reducible rfl
      try simp only [Act.put, List.setIfInBounds_toArray, List.set_cons_zero, List.set_cons_succ]
      refine' wpAnyH_take (i := 21) (oi := _) (v := .slice B bl d) ?hir21 (by kernel_rfl) ?hfr21 ?hrr21 ?hQr21 ?hyr21 hBr1 ?restr21
      case hir21 => (simp only [List.getElem?_toArray, List.getElem?_cons_zero, List.getElem?_cons_succ]; rfl)
      case hfr21 => kernel_rfl
      case hrr21 => kernel_rfl
      case hQr21 => exact fun _ _ _ h => h
      case hyr21 => refine Or.inl ⟨by rfl, ?_⟩; intro W hSw; have hcc := HC.out W hSw; go_simp; try with_reducible rfl
      try simp only [Act.put, List.setIfInBounds_toArray, List.set_cons_zero, List.set_cons_succ]
      refine' wpAnyH_take (i := 23) (oi := _) (v := _) ?hir23 (by kernel_rfl) ?hfr23 ?hrr23 ?hQr23 ?hyr23 hBr1 ?restr23
      case hir23 => (simp only [List.getElem?_toArray, List.getElem?_cons_zero, List.getElem?_cons_succ]; rfl)
      case hfr23 => kernel_rfl
      case hrr23 => kernel_rfl
      case hQr23 => exact fun _ _ _ h => h
      case hyr23 => refine Or.inl ⟨by rfl, ?_⟩; intro W hSw; go_simp; try with_reducible rfl
      try simp only [Act.put, List.setIfInBounds_toArray, List.set_cons_zero, List.set_cons_succ]
      refine' wpAnyH_take (i := 24) (oi := _) (v := _) ?hir24 (by kernel_rfl) ?hfr24 ?hrr24 ?hQr24 ?hyr24 hBr1 ?restr24
      case hir24 => (simp only [List.getElem?_toArray, List.getElem?_cons_zero, List.getElem?_cons_succ]; rfl)
      case hfr24 => kernel_rfl
      case hrr24 => kernel_rfl
      case hQr24 => exact fun _ _ _ h => h
      case hyr24 => refine Or.inl ⟨by rfl, ?_⟩; intro W hSw; go_simp; try with_reducible rfl
      try simp only [Act.put, List.setIfInBounds_toArray, List.set_cons_zero, List.set_cons_succ]
      refine' wpAnyH_take (i := 25) (oi := _) (v := _) ?hir25 (by kernel_rfl) ?hfr25 ?hrr25 ?hQr25 ?hyr25 hBr1 ?restr25
      case hir25 => (simp only [List.getElem?_toArray, List.getElem?_cons_zero, List.getElem?_cons_succ]; rfl)
      case hfr25 => kernel_rfl
      case hrr25 => kernel_rfl
      case hQr25 => exact fun _ _ _ h => h
      case hyr25 => refine Or.inl ⟨by rfl, ?_⟩; intro W hSw; go_simp; try with_reducible rfl
      try simp only [Act.put, List.setIfInBounds_toArray, List.set_cons_zero, List.set_cons_succ]
      refine' wpAnyH_take (i := 26) (oi := _) (v := sv (R)) ?hir26 (by kernel_rfl) ?hfr26 ?hrr26 ?hQr26 ?hyr26 hBr1 ?restr26
      case hir26 => (simp only [List.getElem?_toArray, List.getElem?_cons_zero, List.getElem?_cons_succ]; rfl)
      case hfr26 => kernel_rfl
      case hrr26 => kernel_rfl
      case hQr26 => exact fun _ _ _ h => h
      case hyr26 => refine yields_sum ?_ (.tmp 9) rfl ⟨g4, 0, none⟩ rfl R lR (fun W hSw => (HF8.out.2.1.below hSw).at_); rfl
      try simp only [Act.put, List.setIfInBounds_toArray, List.set_cons_zero, List.set_cons_succ]
      refine wpAnyH_ready (rs := [22]) (by kernel_rfl) (by simp) ?_
      refine' AllReadyH.cons (o := _) ?hir22 (fun K hK => ?_) AllReadyH.nil
      case hir22 => (simp only [List.getElem?_toArray, List.getElem?_cons_zero, List.getElem?_cons_succ]; rfl)
      go_simp
      go_at_call 20
      refine (CLf.out _ hBr1).mono ?_
      rintro e Wr4 ⟨rfl, hBr3⟩
      refine hK.out _ _ hBr3 (fun _ => ?_)
      clear hK K
      try simp only [Act.put, List.setIfInBounds_toArray, List.set_cons_zero, List.set_cons_succ]
      refine wpAnyH_ready (rs := [27]) (by kernel_rfl) (by simp) ?_
      refine' AllReadyH.cons (o := _) ?hir27 (fun K hK => ?_) AllReadyH.nil
      case hir27 => (simp only [List.getElem?_toArray, List.getElem?_cons_zero, List.getElem?_cons_succ]; rfl)
      go_simp
      go_at_call 19
      refine (CP.out _ hBr3).mono ?_
      rintro e Wr6 ⟨rfl, hBr5⟩
      refine hK.out _ _ hBr5 (fun _ => ?_)
      clear hK K
      try simp only [Act.put, List.setIfInBounds_toArray, List.set_cons_zero, List.set_cons_succ]
      refine' wpAnyH_take (i := 28) (oi := _) (v := _) ?hir28 (by kernel_rfl) ?hfr28 ?hrr28 ?hQr28 ?hyr28 hBr5 ?restr28
      case hir28 => (simp only [List.getElem?_toArray, List.getElem?_cons_zero, List.getElem?_cons_succ]; rfl)
      case hfr28 => kernel_rfl
      case hrr28 => kernel_rfl
      case hQr28 => exact fun _ _ _ h => h
      case hyr28 => refine Or.inl ⟨by rfl, ?_⟩; intro W hSw; go_simp; try with_reducible rfl
      try simp only [Act.put, List.setIfInBounds_toArray, List.set_cons_zero, List.set_cons_succ]
      refine' wpAnyH_take (i := 29) (oi := _) (v := _) ?hir29 (by kernel_rfl) ?hfr29 ?hrr29 ?hQr29 ?hyr29 hBr5 ?restr29
      case hir29 => (simp only [List.getElem?_toArray, List.getElem?_cons_zero, List.getElem?_cons_succ]; rfl)
      case hfr29 => kernel_rfl
      case hrr29 => kernel_rfl
      case hQr29 => exact fun _ _ _ h => h
      case hyr29 => refine Or.inl ⟨by rfl, ?_⟩; intro W hSw; go_simp; try with_reducible rfl
      try simp only [Act.put, List.setIfInBounds_toArray, List.set_cons_zero, List.set_cons_succ]
      refine' wpAnyH_take (i := 30) (oi := _) (v := _) ?hir30 (by kernel_rfl) ?hfr30 ?hrr30 ?hQr30 ?hyr30 hBr5 ?restr30
      case hir30 => (simp only [List.getElem?_toArray, List.getElem?_cons_zero, List.getElem?_cons_succ]; rfl)
      case hfr30 => kernel_rfl
      case hrr30 => kernel_rfl
      case hQr30 => exact fun _ _ _ h => h
      case hyr30 => refine Or.inl ⟨by rfl, ?_⟩; intro W hSw; go_simp; try with_reducible rfl
      try simp only [Act.put, List.setIfInBounds_toArray, List.set_cons_zero, List.set_cons_succ]
      refine' wpAnyH_take (i := 31) (oi := _) (v := _) ?hir31 (by kernel_rfl) ?hfr31 ?hrr31 ?hQr31 ?hyr31 hBr5 ?restr31
      case hir31 => (simp only [List.getElem?_toArray, List.getElem?_cons_zero, List.getElem?_cons_succ]; rfl)
      case hfr31 => kernel_rfl
      case hrr31 => kernel_rfl
      case hQr31 => exact fun _ _ _ h => h
      case hyr31 => refine Or.inl ⟨by rfl, ?_⟩; intro W hSw; go_simp; try with_reducible rfl
      try simp only [Act.put, List.setIfInBounds_toArray, List.set_cons_zero, List.set_cons_succ]
      refine' wpAnyH_take (i := 32) (oi := _) (v := sv (O)) ?hir32 (by kernel_rfl) ?hfr32 ?hrr32 ?hQr32 ?hyr32 hBr5 ?restr32
      case hir32 => (simp only [List.getElem?_toArray, List.getElem?_cons_zero, List.getElem?_cons_succ]; rfl)
      case hfr32 => kernel_rfl
      case hrr32 => kernel_rfl
      case hQr32 => exact fun _ _ _ h => h
      case hyr32 => refine yields_sum ?_ (.tmp 11) rfl ⟨g6, 0, none⟩ rfl O lO (fun W hSw => (HF8.out.2.2.1.below hSw).at_); rfl
      try simp only [Act.put, List.setIfInBounds_toArray, List.set_cons_zero, List.set_cons_succ]
      refine' wpAnyH_take (i := 33) (oi := _) (v := sv (R)) ?hir33 (by kernel_rfl) ?hfr33 ?hrr33 ?hQr33 ?hyr33 hBr5 ?restr33
      case hir33 => (simp only [List.getElem?_toArray, List.getElem?_cons_zero, List.getElem?_cons_succ]; rfl)
      case hfr33 => kernel_rfl
      case hrr33 => kernel_rfl
      case hQr33 => exact fun _ _ _ h => h
      case hyr33 => refine yields_sum ?_ (.tmp 9) rfl ⟨g4, 0, none⟩ rfl R lR (fun W hSw => (HF8.out.2.1.below hSw).at_); rfl
      try simp only [Act.put, List.setIfInBounds_toArray, List.set_cons_zero, List.set_cons_succ]
      refine' wpAnyH_take (i := 34) (oi := _) (v := _) ?hir34 (by kernel_rfl) ?hfr34 ?hrr34 ?hQr34 ?hyr34 hBr5 ?restr34
      case hir34 => (simp only [List.getElem?_toArray, List.getElem?_cons_zero, List.getElem?_cons_succ]; rfl)
      case hfr34 => kernel_rfl
      case hrr34 => kernel_rfl
      case hQr34 => exact fun _ _ _ h => h
      case hyr34 => refine Or.inl ⟨by rfl, ?_⟩; intro W hSw; go_simp; try with_reducible rfl
      try simp only [Act.put, List.setIfInBounds_toArray, List.set_cons_zero, List.set_cons_succ]
      refine wpAnyH_ready (rs := [35]) (by kernel_rfl) (by simp) ?_
      refine' AllReadyH.cons (o := _) ?hir35 (fun K hK => ?_) AllReadyH.nil
      case hir35 => (simp only [List.getElem?_toArray, List.getElem?_cons_zero, List.getElem?_cons_succ]; rfl)
      go_simp
      go_at_call 21
      refine (CL.out _ hBr5).mono ?_
      rintro e Wr8 ⟨rfl, hBr7⟩
      refine hK.out _ _ hBr7 (fun _ => ?_)
      clear hK K
      try simp only [Act.put, List.setIfInBounds_toArray, List.set_cons_zero, List.set_cons_succ]
      refine' wpAnyH_take (i := 36) (oi := _) (v := _) ?hir36 (by kernel_rfl) ?hfr36 ?hrr36 ?hQr36 ?hyr36 hBr7 ?restr36
      case hir36 => (simp only [List.getElem?_toArray, List.getElem?_cons_zero, List.getElem?_cons_succ]; rfl)
      case hfr36 => kernel_rfl
      case hrr36 => kernel_rfl
      case hQr36 => exact fun _ _ _ h => h
      case hyr36 => refine Or.inl ⟨by rfl, ?_⟩; intro W hSw; go_simp; try with_reducible rfl
      try simp only [Act.put, List.setIfInBounds_toArray, List.set_cons_zero, List.set_cons_succ]
      refine' wpAnyH_take (i := 37) (oi := _) (v := _) ?hir37 (by kernel_rfl) ?hfr37 ?hrr37 ?hQr37 ?hyr37 hBr7 ?restr37
      case hir37 => (simp only [List.getElem?_toArray, List.getElem?_cons_zero, List.getElem?_cons_succ]; rfl)
      case hfr37 => kernel_rfl
      case hrr37 => kernel_rfl
      case hQr37 => exact fun _ _ _ h => h
      case hyr37 => refine Or.inl ⟨by rfl, ?_⟩; intro W hSw; go_simp; try with_reducible rfl
      try simp only [Act.put, List.setIfInBounds_toArray, List.set_cons_zero, List.set_cons_succ]
      refine wpAnyH_done (by kernel_rfl) ?_ _
      go_wp2_with fail
      go_ret
      exact ⟨rfl, BW.out _ hBr7⟩

end Go.Proofs.YtllohbgejjbagaaDoor

/-
  What the three listed variables hold when a call begins: two of package shas, and the sentinel of package links.
-/
namespace Go.Proofs.YtllohbgejjbagaaDoor
open Go.ChangeShapes Go.WideShapes Go.ChangeAt Go.RowKit

theorem gMissing : Tryd.prog.globalNamed "almoner/links.errMissing" = some 0 := by kernel_rfl
theorem tMissing : (Tryd.prog.globals[0]?).map (·.type) = some 77 := by kernel_rfl
theorem cellsEs : Tryd.prog.cellsOf 169 = 1 := by kernel_rfl
theorem cellsStr : Tryd.prog.cellsOf 9 = 1 := by kernel_rfl
theorem starEs : "*" ++ "errors.errorString" = "*errors.errorString" := by decide
theorem rowEs (u : TypeId) (h : Tryd.prog.typeName? 3 u = some "*errors.errorString") : u = 144 :=
  typeName_ptr_named (nm := "errors.errorString") (by rw [starEs]; kernel_rfl) (by kernel_rfl) (by decide) u (by rw [starEs]; exact h)

def laid1 : List (String × DataW Unit) := [("almoner/links.errMissing", Rows.laid_almoner_links_errMissing)]

set_option maxRecDepth 100000 in
theorem of_laid1 {W : World} (h : laidMetH Tryd.prog laid1 W) : ∃ E, Miss W E := by
  rw [MakeChecks.laidMetH_plain _ _ _ (by kernel_rfl)] at h
  obtain ⟨ps, ⟨g0', t0', cs0, f0, p0, q0, hg0', ht0', hv0, hd0, _, e0⟩, hnd, hrows⟩ := h
  obtain rfl := Option.some.inj (gMissing.symm.trans hg0')
  obtain rfl := Option.some.inj (tMissing.symm.trans ht0')
  subst e0
  obtain ⟨l0⟩ := cs0
  have ok0 : ∀ u v, l0 = [.iface u v] → Value.okWide Tryd.prog W .any 0 u v := fun u v e => by
    subst e
    exact (hrows 0 0 (by simp [MemPlace.row])).2 u v (by simpa using World.var?_cell hg0' hv0 0)
  obtain ⟨a0, s0, rfl, hc0, hs0, hz0, rfl⟩ := errorString_of_trod Tryd.underlying77 rowEs Tryd.underlying144 Tryd.underlying169 rfl rfl Tryd.underlying9 cellsEs cellsStr hd0 ok0
  exact ⟨a0, by simpa [Miss, missV] using World.var?_cell hg0' hv0 0⟩

def laidK : List (String × DataW Unit) := [("almoner/shas.start", Rows.laid_almoner_shas_start), ("almoner/shas.added", Rows.laid_almoner_shas_added), ("almoner/links.errMissing", Rows.laid_almoner_links_errMissing)]
def isShas (x : String × DataW Unit) : Bool := ["almoner/shas.start", "almoner/shas.added"].contains x.1
def isMiss (x : String × DataW Unit) : Bool := ["almoner/links.errMissing"].contains x.1
theorem laidK_shas : laidK.filter isShas = laid2 := by
  unfold laidK laid2 isShas
  simp [List.filter]
theorem laidK_miss : laidK.filter isMiss = laid1 := by
  unfold laidK laid1 isMiss
  simp [List.filter]

theorem of_laidK {W : World} (h : laidMetH Tryd.prog laidK W) : (Starts W ∧ Knows W) ∧ ∃ E, Miss W E := by
  have h1 := h.filter isShas
  rw [laidK_shas] at h1
  have h2 := h.filter isMiss
  rw [laidK_miss] at h2
  exact ⟨of_laid h1, of_laid1 h2⟩

end Go.Proofs.YtllohbgejjbagaaDoor

/-
  An argument that is an array of bytes.
-/
namespace Go.Proofs.YtllohbgejjbagaaDoor
open Go.ChangeShapes Go.WideShapes Go.ChangeAt Go.RowKit

/-- A value as a byte. -/
def byteOf : Value → Nat
  | .int _ z => z.toNat
  | _ => 0

theorem came_arr {H : Type} {enc : TypeId × Value → H} {P : Program} {W : World} {base b0 n : Nat} {spare : Nat → Bool} {held : Bool} {r : Reach} {t e : TypeId} {v : Value} {d : DataW H} {ps : List MemPlace}
    (ht : P.underlying t = some (.array n e)) (he : P.underlying e = some (.int .u8)) (hc : P.cellsOf e = 1) (hct : P.cellsOf t = n)
    (hval : Value.okWide P W r b0 t v) (hd : DataW.Trod enc P W base spare held t v d ps) : ∃ xs : List Nat, v = .agg (bvs xs).toArray ∧ xs.length = n ∧ ∀ x ∈ xs, x < 256 := by
  simp only [Value.okWide, ht] at hval
  obtain ⟨cs, rfl, hsz, _⟩ := hval
  rw [hct] at hsz
  obtain ⟨fuel, hf⟩ := hd
  obtain ⟨xs, m, rfl, _, _, hlen, hp⟩ := DataW.trod_array ht hf
  have hx : ∀ i, i < n → ∃ z : Nat, z < 256 ∧ cs.toList[i]? = some (bv z) := fun i hi => by
    have h1 := hp i hi
    rw [List.getElem?_eq_getElem (by omega)] at h1
    obtain ⟨z, hz, _, hw⟩ := DataW.trod_int he h1
    rw [hc, Nat.mul_one] at hz
    have hb := bounds_u8 hw
    obtain ⟨z, rfl⟩ := Int.eq_ofNat_of_zero_le hb.1
    refine ⟨z, by omega, ?_⟩
    have : (List.take 1 (List.drop i cs.toList))[0]? = some (.int .u8 (z : Int)) := by simp only [Value.cells] at hz; rw [hz]; rfl
    rw [List.getElem?_take, if_pos (by omega), List.getElem?_drop, Nat.add_zero] at this
    exact this
  have hl : cs.toList.length = n := by simpa using hsz
  refine ⟨cs.toList.map byteOf, ?_, by rw [List.length_map, hl], fun x hxm => ?_⟩
  · congr 1
    apply Array.ext'
    rw [List.toList_toArray]
    apply List.ext_getElem?
    intro i
    rw [bvs_get, List.getElem?_map]
    by_cases hi : i < n
    · obtain ⟨z, _, hz⟩ := hx i hi
      rw [hz]; rfl
    · rw [List.getElem?_eq_none (by omega)]; rfl
  · obtain ⟨v, hv, rfl⟩ := List.mem_map.1 hxm
    obtain ⟨i, hi⟩ := List.mem_iff_getElem?.1 hv
    obtain ⟨z, hz, hz2⟩ := hx i (by rw [← hl]; exact (List.getElem?_eq_some_iff.1 hi).1)
    rw [hi] at hz2
    cases hz2
    exact hz

end Go.Proofs.YtllohbgejjbagaaDoor
