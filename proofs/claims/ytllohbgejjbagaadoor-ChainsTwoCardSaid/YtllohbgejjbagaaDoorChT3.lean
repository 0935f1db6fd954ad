/-
  Several texts in one: HTwoLaw, KLaid.
-/
import Derived.Test.YtllohbgejjbagaaDoorChT2
import Derived.Test.YtllohbgejjbagaaDoorLRowApp
import Derived.Test.YtllohbgejjbagaaDoorShaLaid
import Derived.LaidSub
import Derived.Stop.LaidErr
import Derived.Stop.LaidTwo
/-
  almonerlaw12.ChainsTwo.
-/
namespace Go.Proofs.YtllohbgejjbagaaDoor
open Go.RowKit

/-- Two rows of rows, one behind the other, in a row of the call's own. -/
structure RowsAt (w : World) (Y : List Value) (A : Option Addr) (R : List (List Nat)) : Prop where
  is_ : RowsIs w Y R
  at_ : ∀ (j : Nat) (v : Value), Y[j]? = some v → ∃ ad, A = some ad ∧ w.cell? (ad.add j) = some v
theorem RowsAt.below {w W : World} {Y : List Value} {A : Option Addr} {R : List (List Nat)} (h : RowsAt w Y A R) (hW : Below w.heap.size w W) : ∀ (j : Nat) (v : Value), Y[j]? = some v → ∃ ad, A = some ad ∧ W.cell? (ad.add j) = some v := fun j v hv => by
  obtain ⟨ad, e, hc⟩ := h.at_ j v hv
  exact ⟨ad, e, (hW.cell (World.block_lt_of_cell? w _ hc)).trans hc⟩

set_option maxRecDepth 100000 in
set_option maxHeartbeats 8000000 in
theorem chainsTwo_law (w : World) (hk : Knows w) (hs : Starts w) (E : Addr) (hm : Miss w E) {A : Option Addr} {n c : Nat} {rl : List (List Nat)} (cr : CameRows w A n rl) (hnil : A = none → c = 0)
    {Aa : Option Addr} {na ca : Nat} {ra : List (List Nat)} (cra : CameRows w Aa na ra) (hnila : Aa = none → ca = 0) {Ab : Option Addr} {nb cb : Nat} {rb : List (List Nat)} (crb : CameRows w Ab nb rb) (hnilb : Ab = none → cb = 0) :
    Calls Tryd.prog 7 #[.slice A n c, .slice Aa na ca, .slice Ab nb cb] w fun e w' => e = .returned (.bool true) ∧ Below w.heap.size w w' := by
  obtain ⟨yl, hyl, hcl⟩ := rows_out cr
  obtain ⟨ya, hya, hca⟩ := rows_out cra
  obtain ⟨yb, hyb, hcb⟩ := rows_out crb
  have HY := Lib.hid (And.intro (RowsAt.mk hyl hcl) (And.intro (RowsAt.mk hya hca) (RowsAt.mk hyb hcb)))
  have CG := Lib.hid (hgreat_any A n c rl w cr)
  have CGa := Lib.hid (hgreat_any Aa na ca ra w cra)
  have CGb := Lib.hid (hgreat_any Ab nb cb rb w crb)
  have CA := Lib.hid (fun (W : World) (hW : Below w.heap.size w W) => alive_on hk hs hW)
  have HK := Lib.hid (And.intro hk (And.intro hs (And.intro cr (And.intro cra (And.intro crb (And.intro hm (And.intro hnil (And.intro hnila hnilb))))))))
  clear hk hs cr cra crb hm hnil hnila hnilb hyl hcl hya hca hyb hcb
  go_enter Tryd.func7, Tryd.ntmps7
  go_wp2_with fail
  refine CG.out.mono ?_
  rintro e w' ⟨B, rfl, hB1, e1⟩
  obtain rfl := e1.symm
  clear e1
  cases B with
  | true =>
    go_wp2_with fail
    refine (CA.out _ (Below.refl _ _)).mono ?_
    rintro e w2 ⟨rfl, hb⟩
    go_wp2_with fail
    go_ret
    exact ⟨rfl, hb⟩
  | false =>
    have n60 := hB1 rfl
    clear hB1
    go_wp2_with fail
    refine CGa.out.mono ?_
    rintro e w' ⟨B, rfl, hB2, e1⟩
    obtain rfl := e1.symm
    clear e1
    cases B with
    | true =>
      go_wp2_with fail
      refine (CA.out _ (Below.refl _ _)).mono ?_
      rintro e w2 ⟨rfl, hb⟩
      go_wp2_with fail
      go_ret
      exact ⟨rfl, hb⟩
    | false =>
      have a60 := hB2 rfl
      clear hB2
      go_wp2_with fail
      refine CGb.out.mono ?_
      rintro e w' ⟨B, rfl, hB3, e1⟩
      obtain rfl := e1.symm
      clear e1
      cases B with
      | true =>
        go_wp2_with fail
        refine (CA.out _ (Below.refl _ _)).mono ?_
        rintro e w2 ⟨rfl, hb⟩
        go_wp2_with fail
        go_ret
        exact ⟨rfl, hb⟩
      | false =>
        have b60 := hB3 rfl
        clear hB3
        clear CG CGa CGb
        by_cases hn0 : n = 0
        · subst hn0
          go_wp2_with fail
          refine (CA.out _ (Below.refl _ _)).mono ?_
          rintro e w2 ⟨rfl, hb⟩
          go_wp2_with fail
          go_ret
          exact ⟨rfl, hb⟩
        have hn0' : ((n : Int) == 0) = false := by simp; omega
        by_cases hall : (60 : Int) < (n : Int) + (na : Int) + (nb : Int)
        · have hall' : (60 : Int) < (n : Int) + (na : Int) + (nb : Int) := hall
          go_wp2_with fail
          refine (CA.out _ (Below.refl _ _)).mono ?_
          rintro e w2 ⟨rfl, hb⟩
          go_wp2_with fail
          go_ret
          exact ⟨rfl, hb⟩
        have HB := Lib.hid (Below.refl w.heap.size w)
        obtain ⟨N1, hN1⟩ : ∃ N, n + na = N := ⟨_, rfl⟩
        have HA := Lib.hid (And.intro (show yl.length = n by rw [HY.out.1.is_.len, HK.out.2.2.1.len]) (And.intro (show ya.length = na by rw [HY.out.2.1.is_.len, HK.out.2.2.2.1.len]) (And.intro HY.out.1.is_.one (And.intro HY.out.2.1.is_.one (And.intro HY.out.1 HY.out.2.1)))))
        go_wp2_with (refine wpList_step fun K hK => ?_; first
          | (refine step_rapp (K := K) (by rfl) _ _ (by rfl) w.heap.size A1x n c1x ([] ++ yl) (by rfl) ow1x Aa na ca ya (by rfl) HA.out.2.1 (HA.out.2.2.2.2.2.below (below_on HB.out (Nat.le_refl _) hb1x)) HA.out.2.2.2.1 HK.out.2.2.2.2.2.2.2.1 N1 (by omega) (by omega) hb1x.size ?_; intro A2 c2 W2 ow2 hb2; refine hK _ _ ?_; clear hK K)
          | (refine step_rapp (K := K) (by rfl) _ _ (by rfl) w.heap.size none 0 0 [] (by rfl) (own_none _ _ _ _) A n c yl (by rfl) HA.out.1 (HA.out.2.2.2.2.1.below HB.out) HA.out.2.2.1 HK.out.2.2.2.2.2.2.1 n (by omega) (by omega) (Nat.le_refl _) ?_; intro A1x c1x W1x ow1x hb1x; refine hK _ _ ?_; clear hK K))
        have hx2 := hb1x.trans hb2
        have hw2 := below_on HB.out (Nat.le_refl _) hx2
        have HR := Lib.hid ((rowIn_of_own ow2 ((rowsIs_nil w).append HY.out.1.is_ |>.append HY.out.2.1.is_)).came hw2)
        have HB2 := Lib.hid hw2
        have HX2 := Lib.hid hx2
        clear ow1x ow2 hb1x hb2 hx2 hw2 HA HB
        have CM := Lib.hid (hmade_any A2 N1 c2 _ W2 HR.out (by omega) (HK.out.1.below HB2.out) (HK.out.2.1.below HB2.out))
        clear HR
        refine CM.out.mono ?_
        rintro e w4 ⟨Px, rfl, hb3, hPx⟩
        clear CM
        have hsx : w.heap.size ≤ W2.heap.size := HB2.out.size
        have HB := Lib.hid (below_on HB2.out (Nat.le_refl _) hb3)
        have HX := Lib.hid (below_on HX2.out (Nat.le_refl _) hb3)
        have HPx := Lib.hid (And.intro hsx hPx)
        clear hPx hsx hb3 HB2 HX2
        have HBx := HB
        clear HX
        obtain ⟨N2, hN2⟩ : ∃ N, n + nb = N := ⟨_, rfl⟩
        have HA := Lib.hid (And.intro (show yl.length = n by rw [HY.out.1.is_.len, HK.out.2.2.1.len]) (And.intro (show yb.length = nb by rw [HY.out.2.2.is_.len, HK.out.2.2.2.2.1.len]) (And.intro HY.out.1.is_.one (And.intro HY.out.2.2.is_.one (And.intro HY.out.1 HY.out.2.2)))))
        go_wp2_with (refine wpList_step fun K hK => ?_; first
          | (refine step_rapp (K := K) (by rfl) _ _ (by rfl) w4.heap.size A1y n c1y ([] ++ yl) (by rfl) ow1y Ab nb cb yb (by rfl) HA.out.2.1 (HA.out.2.2.2.2.2.below (below_on HB.out (Nat.le_refl _) hb1y)) HA.out.2.2.2.1 HK.out.2.2.2.2.2.2.2.2 N2 (by omega) (by omega) hb1y.size ?_; intro A2 c2 W2 ow2 hb2; refine hK _ _ ?_; clear hK K)
          | (refine step_rapp (K := K) (by rfl) _ _ (by rfl) w4.heap.size none 0 0 [] (by rfl) (own_none _ _ _ _) A n c yl (by rfl) HA.out.1 (HA.out.2.2.2.2.1.below HB.out) HA.out.2.2.1 HK.out.2.2.2.2.2.2.1 n (by omega) (by omega) (Nat.le_refl _) ?_; intro A1y c1y W1y ow1y hb1y; refine hK _ _ ?_; clear hK K))
        have hx2 := hb1y.trans hb2
        have hw2 := below_on HB.out (Nat.le_refl _) hx2
        have HR := Lib.hid ((rowIn_of_own ow2 ((rowsIs_nil w).append HY.out.1.is_ |>.append HY.out.2.2.is_)).came hw2)
        have HB2 := Lib.hid hw2
        have HX2 := Lib.hid hx2
        clear ow1y ow2 hb1y hb2 hx2 hw2 HA HB
        have CM := Lib.hid (hmade_any A2 N2 c2 _ W2 HR.out (by omega) (HK.out.1.below HB2.out) (HK.out.2.1.below HB2.out))
        clear HR
        refine CM.out.mono ?_
        rintro e w5 ⟨Py, rfl, hb3, hPy⟩
        clear CM
        have hsy : w.heap.size ≤ W2.heap.size := HB2.out.size
        have HB := Lib.hid (below_on HB2.out (Nat.le_refl _) hb3)
        have HX := Lib.hid (below_on HX2.out (Nat.le_refl _) hb3)
        have HPy := Lib.hid (And.intro hsy hPy)
        clear hPy hsy hb3 HB2 HX2
        by_cases hnone : Px = none ∨ Py = none
        · have hor : (Px == none || Py == none) = true := by rcases hnone with rfl | rfl <;> simp
          clear HPx HPy
          have C1 := Lib.hid (CA.out _ HB.out)
          rcases hnone with rfl | rfl
          · go_wp2_with fail
            refine C1.out.mono ?_
            rintro e w3 ⟨rfl, hb⟩
            go_wp2_with fail
            go_ret
            exact ⟨rfl, hb⟩
          · cases Px with
            | none =>
              go_wp2_with fail
              refine C1.out.mono ?_
              rintro e w3 ⟨rfl, hb⟩
              go_wp2_with fail
              go_ret
              exact ⟨rfl, hb⟩
            | some pp =>
              go_wp2_with fail
              refine C1.out.mono ?_
              rintro e w3 ⟨rfl, hb⟩
              go_wp2_with fail
              go_ret
              exact ⟨rfl, hb⟩
        obtain ⟨g, G, rfl, hmx⟩ : ∃ g G, Px = some ⟨g, 0, none⟩ ∧ MadeAt w w4 g G (rl ++ ra) := by
          rcases HPx.out.2 with h | ⟨g, G, e, h⟩
          · exact absurd (.inl h) hnone
          · exact ⟨g, G, e, h.chain, fun x hx => Nat.le_trans HPx.out.1 (h.new x hx), HBx.out⟩
        obtain ⟨d, D, rfl, hmy⟩ : ∃ g G, Py = some ⟨g, 0, none⟩ ∧ MadeAt w w5 g G (rl ++ rb) := by
          rcases HPy.out.2 with h | ⟨g, G, e, h⟩
          · exact absurd (.inr h) hnone
          · exact ⟨g, G, e, h.chain, fun x hx => Nat.le_trans HPy.out.1 (h.new x hx), HB.out⟩
        have HM := Lib.hid (hmx.below HX.out)
        have HD := Lib.hid hmy
        clear hmx hmy HPx HPy hnone HX HBx
        have hl0 : rl.length = n := HK.out.2.2.1.len
        have hla : (rl ++ ra).length = N1 := by rw [List.length_append, hl0, HK.out.2.2.2.1.len, hN1]
        have hlb : (rl ++ rb).length = N2 := by rw [List.length_append, hl0, HK.out.2.2.2.2.1.len, hN2]
        obtain ⟨r, hr⟩ : ∃ r, rootV rl n = r := ⟨_, rfl⟩
        have lr : r.length = 32 := by rw [← hr]; exact rootV_length _ _
        have hr256 : ∀ x ∈ r, x < 256 := by rw [← hr]; exact rootV_lt _ _
        obtain ⟨m, hm⟩ : ∃ m, markV rl n = m := ⟨_, rfl⟩
        have lm : m.length = 32 := by rw [← hm]; exact markV_length _ _
        obtain ⟨R, hR⟩ : ∃ R, rootV (rl ++ ra) N1 = R := ⟨_, rfl⟩
        have lR : R.length = 32 := by rw [← hR]; exact rootV_length _ _
        obtain ⟨U, hU⟩ : ∃ U, rootV (rl ++ rb) N2 = U := ⟨_, rfl⟩
        have lU : U.length = 32 := by rw [← hU]; exact rootV_length _ _
        obtain ⟨ls, hls⟩ : ∃ ls, linkS (rl ++ ra) n N1 = ls := ⟨_, rfl⟩
        obtain ⟨qs, hqs⟩ : ∃ qs, linkS (rl ++ rb) n N2 = qs := ⟨_, rfl⟩
        obtain ⟨u, hu⟩ : ∃ u, ldep n N1 true = u := ⟨_, rfl⟩
        have hu65 : u ≤ 65 := by rw [← hu]; exact ldep_64 (by omega) _ _
        obtain ⟨v, hv⟩ : ∃ v, ldep n N2 true = v := ⟨_, rfl⟩
        have hv65 : v ≤ 65 := by rw [← hv]; exact ldep_64 (by omega) _ _
        have erx : rootV (rl ++ ra) n = r := by rw [rootV_begin (by rw [hl0]; exact Nat.le_refl _), hr]
        have ery : rootV (rl ++ rb) n = r := by rw [rootV_begin (by rw [hl0]; exact Nat.le_refl _), hr]
        have emx : markV (rl ++ ra) n = m := by rw [mark_begin (by rw [hl0]; exact Nat.le_refl _), hm]
        have emy : markV (rl ++ rb) n = m := by rw [mark_begin (by rw [hl0]; exact Nat.le_refl _), hm]
        have h1n : 1 ≤ n := by omega
        have hnx : n ≤ N1 := by omega
        have hny : n ≤ N2 := by omega
        have T1 : begins ls r R u n N1 = true := by
          rw [← hls, ← erx, ← hR, linkS_in (by rw [hla]; exact Nat.le_refl _) h1n hnx, rootV_in (by rw [hla]; exact hnx), rootV_in (by rw [hla]; exact Nat.le_refl _)]
          exact hlink_in (lf (rl ++ ra)) (lf_length _) h1n hnx hu
        have T2 : begins qs r U v n N2 = true := by
          rw [← hqs, ← ery, ← hU, linkS_in (by rw [hlb]; exact Nat.le_refl _) h1n hny, rootV_in (by rw [hlb]; exact hny), rootV_in (by rw [hlb]; exact Nat.le_refl _)]
          exact hlink_in (lf (rl ++ rb)) (lf_length _) h1n hny hv
        have hl256 : ∀ x ∈ ls, x < 256 := by rw [← hls]; exact linkS_lt _ _ _
        have hq256 : ∀ x ∈ qs, x < 256 := by rw [← hqs]; exact linkS_lt _ _ _
        have HE := Lib.hid (And.intro erx (And.intro ery (And.intro emx (And.intro emy (And.intro hR (And.intro hU (And.intro hls (And.intro hqs (And.intro hu (And.intro hv (And.intro hla (And.intro hlb (And.intro T1 (And.intro T2 (And.intro hl256 (And.intro hq256 hr256))))))))))))))))
        have q1 := run_eql_sum r r lr lr
        rw [decide_eq_true rfl] at q1
        have q2 := run_eql_sum m m lm lm
        rw [decide_eq_true rfl] at q2
        have q3 := run_guard_eql
        clear hr hm erx ery emx emy hR hU hls hqs hu hv T1 T2 hl256 hq256 hr256 hl0 HY
        have HF5 := Lib.hid (And.intro (HM.out) (And.intro (HD.out) trivial))
        clear HM HD HB
        have CT := c_root HF5.out.1.chain (by omega) n (HK.out.1.below HF5.out.1.bel) (HK.out.2.1.below HF5.out.1.bel)
        rw [HE.out.1, hasE_in (by rw [hla]; omega)] at CT
        have C1 := Lib.hid CT
        clear CT
        go_wp2_with fail
        refine C1.out.mono ?_
        rintro e w6 ⟨rfl, hb⟩
        clear C1
        have HF6 := Lib.hid (And.intro (HF5.out.1.below hb) (And.intro (HF5.out.2.1.below hb) trivial))
        clear HF5
        clear hb
        obtain ⟨w7, hw⟩ : ∃ w7, w7 = w6.alloc (.cells (bvs r).toArray 34) := ⟨_, rfl⟩
        have hb : Below w6.heap.size w6 w7 := by rw [hw]; exact below_alloc _ _
        have hn : BArr w7 w6.heap.size 34 r := by rw [hw]; exact BArr.new _ _ _
        have HW := Lib.hid hw
        clear hw
        go_wp2_with (with_reducible refine wpList_store_new w6 _ (by simp) rfl (.tmp 10) (.tmp 77) rfl rfl r lr rfl ?_; rw [← HW.out])
        clear HW
        obtain ⟨g7, hg⟩ : ∃ g, w6.heap.size = g := ⟨_, rfl⟩
        rw [hg] at hn
        have HF7 := Lib.hid (And.intro (HF6.out.1.below hb) (And.intro (HF6.out.2.1.below hb) (And.intro (hn) trivial)))
        clear HF6
        rw [hg]
        clear hn hb hg
        have CT := c_root HF7.out.2.1.chain (by omega) n (HK.out.1.below HF7.out.1.bel) (HK.out.2.1.below HF7.out.1.bel)
        rw [HE.out.2.1, hasE_in (by rw [hlb]; omega)] at CT
        have C1 := Lib.hid CT
        clear CT
        go_wp2_with fail
        refine C1.out.mono ?_
        rintro e w8 ⟨rfl, hb⟩
        clear C1
        have HF8 := Lib.hid (And.intro (HF7.out.1.below hb) (And.intro (HF7.out.2.1.below hb) (And.intro (HF7.out.2.2.1.below hb) trivial)))
        clear HF7
        clear hb
        obtain ⟨w9, hw⟩ : ∃ w9, w9 = w8.alloc (.cells (bvs r).toArray 34) := ⟨_, rfl⟩
        have hb : Below w8.heap.size w8 w9 := by rw [hw]; exact below_alloc _ _
        have hn : BArr w9 w8.heap.size 34 r := by rw [hw]; exact BArr.new _ _ _
        have HW := Lib.hid hw
        clear hw
        go_wp2_with (with_reducible refine wpList_store_new w8 _ (by simp) rfl (.tmp 12) (.tmp 83) rfl rfl r lr rfl ?_; rw [← HW.out])
        clear HW
        obtain ⟨g9, hg⟩ : ∃ g, w8.heap.size = g := ⟨_, rfl⟩
        rw [hg] at hn
        have HF9 := Lib.hid (And.intro (HF8.out.1.below hb) (And.intro (HF8.out.2.1.below hb) (And.intro (HF8.out.2.2.1.below hb) (And.intro (hn) trivial))))
        clear HF8
        rw [hg]
        clear hn hb hg
        have CT := c_size HF9.out.1.chain
        rw [hla] at CT
        have C1 := Lib.hid CT
        clear CT
        go_wp2_with fail
        refine C1.out.mono ?_
        rintro e w' ⟨rfl, e1⟩
        obtain rfl := e1.symm
        clear e1 C1
        have CT := c_link HF9.out.1.chain (by omega) n N1 (HK.out.1.below HF9.out.1.bel) (HK.out.2.1.below HF9.out.1.bel)
        rw [linkN_in (by rw [hla]; exact Nat.le_refl _) h1n hnx, linkE_in (by rw [hla]; exact Nat.le_refl _) h1n hnx, HE.out.2.2.2.2.2.2.1, HE.out.2.2.2.2.2.2.2.2.1] at CT
        have C1 := Lib.hid CT
        clear CT
        go_wp2_with fail
        refine C1.out.mono ?_
        rintro e w10 ⟨A10, d10, rfl, ho10, hb⟩
        clear C1
        have HF10 := Lib.hid (And.intro (HF9.out.1.below hb) (And.intro (HF9.out.2.1.below hb) (And.intro (HF9.out.2.2.1.below hb) (And.intro (HF9.out.2.2.2.1.below hb) (And.intro (InS.of_own (A := A10) (n := u) (c := d10) (ys := ls) ho10) trivial)))))
        clear HF9
        clear hb
        have hcp10 := own_cap ho10
        clear ho10
        have CT := c_size HF10.out.2.1.chain
        rw [hlb] at CT
        have C1 := Lib.hid CT
        clear CT
        go_wp2_with fail
        refine C1.out.mono ?_
        rintro e w' ⟨rfl, e1⟩
        obtain rfl := e1.symm
        clear e1 C1
        have CT := c_link HF10.out.2.1.chain (by omega) n N2 (HK.out.1.below HF10.out.1.bel) (HK.out.2.1.below HF10.out.1.bel)
        rw [linkN_in (by rw [hlb]; exact Nat.le_refl _) h1n hny, linkE_in (by rw [hlb]; exact Nat.le_refl _) h1n hny, HE.out.2.2.2.2.2.2.2.1, HE.out.2.2.2.2.2.2.2.2.2.1] at CT
        have C1 := Lib.hid CT
        clear CT
        go_wp2_with fail
        refine C1.out.mono ?_
        rintro e w11 ⟨A11, d11, rfl, ho11, hb⟩
        clear C1
        have HF11 := Lib.hid (And.intro (HF10.out.1.below hb) (And.intro (HF10.out.2.1.below hb) (And.intro (HF10.out.2.2.1.below hb) (And.intro (HF10.out.2.2.2.1.below hb) (And.intro (HF10.out.2.2.2.2.1.below hb) (And.intro (InS.of_own (A := A11) (n := v) (c := d11) (ys := qs) ho11) trivial))))))
        clear HF10
        clear hb
        have hcp11 := own_cap ho11
        clear ho11
        have CT := c_size HF11.out.1.chain
        rw [hla] at CT
        have C1 := Lib.hid CT
        clear CT
        go_wp2_with fail
        refine C1.out.mono ?_
        rintro e w' ⟨rfl, e1⟩
        obtain rfl := e1.symm
        clear e1 C1
        have CT := c_root HF11.out.1.chain (by omega) N1 (HK.out.1.below HF11.out.1.bel) (HK.out.2.1.below HF11.out.1.bel)
        rw [HE.out.2.2.2.2.1, hasE_in (by rw [hla]; exact Nat.le_refl _)] at CT
        have C1 := Lib.hid CT
        clear CT
        go_wp2_with fail
        refine C1.out.mono ?_
        rintro e w12 ⟨rfl, hb⟩
        clear C1
        have HF12 := Lib.hid (And.intro (HF11.out.1.below hb) (And.intro (HF11.out.2.1.below hb) (And.intro (HF11.out.2.2.1.below hb) (And.intro (HF11.out.2.2.2.1.below hb) (And.intro (HF11.out.2.2.2.2.1.below hb) (And.intro (HF11.out.2.2.2.2.2.1.below hb) trivial))))))
        clear HF11
        clear hb
        obtain ⟨w13, hw⟩ : ∃ w13, w13 = w12.alloc (.cells (bvs R).toArray 34) := ⟨_, rfl⟩
        have hb : Below w12.heap.size w12 w13 := by rw [hw]; exact below_alloc _ _
        have hn : BArr w13 w12.heap.size 34 R := by rw [hw]; exact BArr.new _ _ _
        have HW := Lib.hid hw
        clear hw
        go_wp2_with (with_reducible refine wpList_store_new w12 _ (by simp) rfl (.tmp 18) (.tmp 106) rfl rfl R lR rfl ?_; rw [← HW.out])
        clear HW
        obtain ⟨g13, hg⟩ : ∃ g, w12.heap.size = g := ⟨_, rfl⟩
        rw [hg] at hn
        have HF13 := Lib.hid (And.intro (HF12.out.1.below hb) (And.intro (HF12.out.2.1.below hb) (And.intro (HF12.out.2.2.1.below hb) (And.intro (HF12.out.2.2.2.1.below hb) (And.intro (HF12.out.2.2.2.2.1.below hb) (And.intro (HF12.out.2.2.2.2.2.1.below hb) (And.intro (hn) trivial)))))))
        clear HF12
        rw [hg]
        clear hn hb hg
        have CT := c_size HF13.out.2.1.chain
        rw [hlb] at CT
        have C1 := Lib.hid CT
        clear CT
        go_wp2_with fail
        refine C1.out.mono ?_
        rintro e w' ⟨rfl, e1⟩
        obtain rfl := e1.symm
        clear e1 C1
        have CT := c_root HF13.out.2.1.chain (by omega) N2 (HK.out.1.below HF13.out.1.bel) (HK.out.2.1.below HF13.out.1.bel)
        rw [HE.out.2.2.2.2.2.1, hasE_in (by rw [hlb]; exact Nat.le_refl _)] at CT
        have C1 := Lib.hid CT
        clear CT
        go_wp2_with fail
        refine C1.out.mono ?_
        rintro e w14 ⟨rfl, hb⟩
        clear C1
        have HF14 := Lib.hid (And.intro (HF13.out.1.below hb) (And.intro (HF13.out.2.1.below hb) (And.intro (HF13.out.2.2.1.below hb) (And.intro (HF13.out.2.2.2.1.below hb) (And.intro (HF13.out.2.2.2.2.1.below hb) (And.intro (HF13.out.2.2.2.2.2.1.below hb) (And.intro (HF13.out.2.2.2.2.2.2.1.below hb) trivial)))))))
        clear HF13
        clear hb
        obtain ⟨w15, hw⟩ : ∃ w15, w15 = w14.alloc (.cells (bvs U).toArray 34) := ⟨_, rfl⟩
        have hb : Below w14.heap.size w14 w15 := by rw [hw]; exact below_alloc _ _
        have hn : BArr w15 w14.heap.size 34 U := by rw [hw]; exact BArr.new _ _ _
        have HW := Lib.hid hw
        clear hw
        go_wp2_with (with_reducible refine wpList_store_new w14 _ (by simp) rfl (.tmp 20) (.tmp 113) rfl rfl U lU rfl ?_; rw [← HW.out])
        clear HW
        obtain ⟨g15, hg⟩ : ∃ g, w14.heap.size = g := ⟨_, rfl⟩
        rw [hg] at hn
        have HF15 := Lib.hid (And.intro (HF14.out.1.below hb) (And.intro (HF14.out.2.1.below hb) (And.intro (HF14.out.2.2.1.below hb) (And.intro (HF14.out.2.2.2.1.below hb) (And.intro (HF14.out.2.2.2.2.1.below hb) (And.intro (HF14.out.2.2.2.2.2.1.below hb) (And.intro (HF14.out.2.2.2.2.2.2.1.below hb) (And.intro (hn) trivial))))))))
        clear HF14
        rw [hg]
        clear hn hb hg
        have CT := c_mark HF15.out.1.chain (by omega) n
        rw [HE.out.2.2.1, hasE_in (by rw [hla]; omega)] at CT
        have C1 := Lib.hid CT
        clear CT
        go_wp2_with fail
        refine C1.out.mono ?_
        rintro e w16 ⟨rfl, hb⟩
        clear C1
        have HF16 := Lib.hid (And.intro (HF15.out.1.below hb) (And.intro (HF15.out.2.1.below hb) (And.intro (HF15.out.2.2.1.below hb) (And.intro (HF15.out.2.2.2.1.below hb) (And.intro (HF15.out.2.2.2.2.1.below hb) (And.intro (HF15.out.2.2.2.2.2.1.below hb) (And.intro (HF15.out.2.2.2.2.2.2.1.below hb) (And.intro (HF15.out.2.2.2.2.2.2.2.1.below hb) trivial))))))))
        clear HF15
        clear hb
        obtain ⟨w17, hw⟩ : ∃ w17, w17 = w16.alloc (.cells (bvs m).toArray 34) := ⟨_, rfl⟩
        have hb : Below w16.heap.size w16 w17 := by rw [hw]; exact below_alloc _ _
        have hn : BArr w17 w16.heap.size 34 m := by rw [hw]; exact BArr.new _ _ _
        have HW := Lib.hid hw
        clear hw
        go_wp2_with (with_reducible refine wpList_store_new w16 _ (by simp) rfl (.tmp 22) (.tmp 119) rfl rfl m lm rfl ?_; rw [← HW.out])
        clear HW
        obtain ⟨g17, hg⟩ : ∃ g, w16.heap.size = g := ⟨_, rfl⟩
        rw [hg] at hn
        have HF17 := Lib.hid (And.intro (HF16.out.1.below hb) (And.intro (HF16.out.2.1.below hb) (And.intro (HF16.out.2.2.1.below hb) (And.intro (HF16.out.2.2.2.1.below hb) (And.intro (HF16.out.2.2.2.2.1.below hb) (And.intro (HF16.out.2.2.2.2.2.1.below hb) (And.intro (HF16.out.2.2.2.2.2.2.1.below hb) (And.intro (HF16.out.2.2.2.2.2.2.2.1.below hb) (And.intro (hn) trivial)))))))))
        clear HF16
        rw [hg]
        clear hn hb hg
        have CT := c_mark HF17.out.2.1.chain (by omega) n
        rw [HE.out.2.2.2.1, hasE_in (by rw [hlb]; omega)] at CT
        have C1 := Lib.hid CT
        clear CT
        go_wp2_with fail
        refine C1.out.mono ?_
        rintro e w18 ⟨rfl, hb⟩
        clear C1
        have HF18 := Lib.hid (And.intro (HF17.out.1.below hb) (And.intro (HF17.out.2.1.below hb) (And.intro (HF17.out.2.2.1.below hb) (And.intro (HF17.out.2.2.2.1.below hb) (And.intro (HF17.out.2.2.2.2.1.below hb) (And.intro (HF17.out.2.2.2.2.2.1.below hb) (And.intro (HF17.out.2.2.2.2.2.2.1.below hb) (And.intro (HF17.out.2.2.2.2.2.2.2.1.below hb) (And.intro (HF17.out.2.2.2.2.2.2.2.2.1.below hb) trivial)))))))))
        clear HF17
        clear hb
        obtain ⟨w19, hw⟩ : ∃ w19, w19 = w18.alloc (.cells (bvs m).toArray 34) := ⟨_, rfl⟩
        have hb : Below w18.heap.size w18 w19 := by rw [hw]; exact below_alloc _ _
        have hn : BArr w19 w18.heap.size 34 m := by rw [hw]; exact BArr.new _ _ _
        have HW := Lib.hid hw
        clear hw
        go_wp2_with (with_reducible refine wpList_store_new w18 _ (by simp) rfl (.tmp 24) (.tmp 125) rfl rfl m lm rfl ?_; rw [← HW.out])
        clear HW
        obtain ⟨g19, hg⟩ : ∃ g, w18.heap.size = g := ⟨_, rfl⟩
        rw [hg] at hn
        have HF19 := Lib.hid (And.intro (HF18.out.1.below hb) (And.intro (HF18.out.2.1.below hb) (And.intro (HF18.out.2.2.1.below hb) (And.intro (HF18.out.2.2.2.1.below hb) (And.intro (HF18.out.2.2.2.2.1.below hb) (And.intro (HF18.out.2.2.2.2.2.1.below hb) (And.intro (HF18.out.2.2.2.2.2.2.1.below hb) (And.intro (HF18.out.2.2.2.2.2.2.2.1.below hb) (And.intro (HF18.out.2.2.2.2.2.2.2.2.1.below hb) (And.intro (hn) trivial))))))))))
        clear HF18
        rw [hg]
        clear hn hb hg
        have BW := Lib.hid (fun (W : World) (hW : Below w19.heap.size w19 W) => below_on HF19.out.1.bel (Nat.le_refl _) hW)
        have CAl := Lib.hid (fun (W : World) (hW : Below w19.heap.size w19 W) => (halive_any W (HK.out.1.below (BW.out W hW)) (HK.out.2.1.below (BW.out W hW))).mono (R' := fun e w' => e = .returned (.bool true) ∧ Below w19.heap.size w19 w') fun e w' ⟨he, hb⟩ => ⟨he, below_on hW (Nat.le_refl _) hb⟩)
        have CL1 := Lib.hid (fun (W : World) (hW : Below w19.heap.size w19 W) => (kcheck_any (a := r) (b := R) (from_ := n) (size := N1) (HF19.out.2.2.2.2.1.below hW) HE.out.2.2.2.2.2.2.2.2.2.2.2.2.2.2.1 hcp10 (by omega) lr HE.out.2.2.2.2.2.2.2.2.2.2.2.2.2.2.2.2 lR (by omega) (HK.out.1.below (BW.out W hW)) (HK.out.2.1.below (BW.out W hW)) (HK.out.2.2.2.2.2.1.below (BW.out W hW))).mono (R' := fun e w' => e = .returned (.bool true) ∧ Below w19.heap.size w19 w') fun e w' ⟨he, hb⟩ => ⟨by rw [he, HE.out.2.2.2.2.2.2.2.2.2.2.2.2.1], below_on hW (Nat.le_refl _) hb⟩)
        have CL2 := Lib.hid (fun (W : World) (hW : Below w19.heap.size w19 W) => (kcheck_any (a := r) (b := U) (from_ := n) (size := N2) (HF19.out.2.2.2.2.2.1.below hW) HE.out.2.2.2.2.2.2.2.2.2.2.2.2.2.2.2.1 hcp11 (by omega) lr HE.out.2.2.2.2.2.2.2.2.2.2.2.2.2.2.2.2 lU (by omega) (HK.out.1.below (BW.out W hW)) (HK.out.2.1.below (BW.out W hW)) (HK.out.2.2.2.2.2.1.below (BW.out W hW))).mono (R' := fun e w' => e = .returned (.bool true) ∧ Below w19.heap.size w19 w') fun e w' ⟨he, hb⟩ => ⟨by rw [he, HE.out.2.2.2.2.2.2.2.2.2.2.2.2.2.1], below_on hW (Nat.le_refl _) hb⟩)
        have CS1 := Lib.hid (fun (W : World) (hW : Below w19.heap.size w19 W) => (c_size (HF19.out.1.chain.below hW)).mono (R' := fun e w' => e = .returned (.int .u64 (N1 : Int)) ∧ Below w19.heap.size w19 w') fun e w' ⟨he, hw⟩ => ⟨by rw [he, hla], by rw [hw]; exact hW⟩)
        have CS2 := Lib.hid (fun (W : World) (hW : Below w19.heap.size w19 W) => (c_size (HF19.out.2.1.chain.below hW)).mono (R' := fun e w' => e = .returned (.int .u64 (N2 : Int)) ∧ Below w19.heap.size w19 w') fun e w' ⟨he, hw⟩ => ⟨by rw [he, hlb], by rw [hw]; exact hW⟩)
        go_upto_region 18 with fail
        refine wp_region_held_drew (S := fun W => Below w19.heap.size w19 W) (by kernel_rfl) ((Below.refl _ _).drew) (fun hT0 => ?_)
        change wpAnyH _ _ _ _ _ _ _ _ w19.drew
        generalize w19.drew = WD at hT0 ⊢
        refine wpAnyH_ready (rs := [0]) (by kernel_rfl) (by simp) ?_
        refine' AllReadyH.cons (o := _) ?hir0 (fun K hK => ?_) AllReadyH.nil
        case hir0 => (simp only [List.getElem?_toArray, List.getElem?_cons_zero]; rfl)
        go_simp
        go_at_call 16
        refine (CAl.out _ hT0).mono ?_
        rintro e Wr2 ⟨rfl, hBr1⟩
        refine hK.out _ _ hBr1 (fun _ => ?_)
        clear hK K
        try simp only [Act.put, List.setIfInBounds_toArray, List.set_cons_zero, List.set_cons_succ]
        refine' wpAnyH_take (i := 1) (oi := _) (v := _) ?hir1 (by kernel_rfl) ?hfr1 ?hrr1 ?hQr1 ?hyr1 hBr1 ?restr1
        case hir1 => (simp only [List.getElem?_toArray, List.getElem?_cons_zero, List.getElem?_cons_succ]; rfl)
        case hfr1 => kernel_rfl
        case hrr1 => kernel_rfl
        case hQr1 => exact fun _ _ _ h => h
        case hyr1 => refine Or.inl ⟨by rfl, ?_⟩; intro W hSw; go_simp; try with_reducible rfl
        try simp only [Act.put, List.setIfInBounds_toArray, List.set_cons_zero, List.set_cons_succ]
        refine' wpAnyH_take (i := 2) (oi := _) (v := sv (r)) ?hir2 (by kernel_rfl) ?hfr2 ?hrr2 ?hQr2 ?hyr2 hBr1 ?restr2
        case hir2 => (simp only [List.getElem?_toArray, List.getElem?_cons_zero, List.getElem?_cons_succ]; rfl)
        case hfr2 => kernel_rfl
        case hrr2 => kernel_rfl
        case hQr2 => exact fun _ _ _ h => h
        case hyr2 => refine yields_sum ?_ (.tmp 10) rfl ⟨g7, 0, none⟩ rfl r lr (fun W hSw => (HF19.out.2.2.1.below hSw).at_); rfl
        try simp only [Act.put, List.setIfInBounds_toArray, List.set_cons_zero, List.set_cons_succ]
        refine' wpAnyH_take (i := 3) (oi := _) (v := sv (r)) ?hir3 (by kernel_rfl) ?hfr3 ?hrr3 ?hQr3 ?hyr3 hBr1 ?restr3
        case hir3 => (simp only [List.getElem?_toArray, List.getElem?_cons_zero, List.getElem?_cons_succ]; rfl)
        case hfr3 => kernel_rfl
        case hrr3 => kernel_rfl
        case hQr3 => exact fun _ _ _ h => h
        case hyr3 => refine yields_sum ?_ (.tmp 12) rfl ⟨g9, 0, none⟩ rfl r lr (fun W hSw => (HF19.out.2.2.2.1.below hSw).at_); rfl
        try simp only [Act.put, List.setIfInBounds_toArray, List.set_cons_zero, List.set_cons_succ]
        refine' wpAnyH_take (i := 4) (oi := _) (v := _) ?hir4 (by kernel_rfl) ?hfr4 ?hrr4 ?hQr4 ?hyr4 hBr1 ?restr4
        case hir4 => (simp only [List.getElem?_toArray, List.getElem?_cons_zero, List.getElem?_cons_succ]; rfl)
        case hfr4 => kernel_rfl
        case hrr4 => kernel_rfl
        case hQr4 => exact fun _ _ _ h => h
        case hyr4 => refine Or.inl ⟨by rfl, ?_⟩; intro W hSw; go_simp; try with_reducible rfl
        try simp only [Act.put, List.setIfInBounds_toArray, List.set_cons_zero, List.set_cons_succ]
        refine' wpAnyH_take (i := 5) (oi := _) (v := _) ?hir5 (by kernel_rfl) ?hfr5 ?hrr5 ?hQr5 ?hyr5 hBr1 ?restr5
        case hir5 => (simp only [List.getElem?_toArray, List.getElem?_cons_zero, List.getElem?_cons_succ]; rfl)
        case hfr5 => kernel_rfl
        case hrr5 => kernel_rfl
        case hQr5 => exact fun _ _ _ h => h
        case hyr5 => refine Or.inl ⟨by rfl, ?_⟩; intro W hSw; go_simp; try with_reducible rfl
        try simp only [Act.put, List.setIfInBounds_toArray, List.set_cons_zero, List.set_cons_succ]
        refine' wpAnyH_take (i := 6) (oi := _) (v := _) ?hir6 (by kernel_rfl) ?hfr6 ?hrr6 ?hQr6 ?hyr6 hBr1 ?restr6
        case hir6 => (simp only [List.getElem?_toArray, List.getElem?_cons_zero, List.getElem?_cons_succ]; rfl)
        case hfr6 => kernel_rfl
        case hrr6 => kernel_rfl
        case hQr6 => exact fun _ _ _ h => h
        case hyr6 => refine Or.inl ⟨by rfl, ?_⟩; intro W hSw; go_simp; try with_reducible rfl
        try simp only [Act.put, List.setIfInBounds_toArray, List.set_cons_zero, List.set_cons_succ]
        refine' wpAnyH_take (i := 7) (oi := _) (v := sv (m)) ?hir7 (by kernel_rfl) ?hfr7 ?hrr7 ?hQr7 ?hyr7 hBr1 ?restr7
        case hir7 => (simp only [List.getElem?_toArray, List.getElem?_cons_zero, List.getElem?_cons_succ]; rfl)
        case hfr7 => kernel_rfl
        case hrr7 => kernel_rfl
        case hQr7 => exact fun _ _ _ h => h
        case hyr7 => refine yields_sum ?_ (.tmp 22) rfl ⟨g17, 0, none⟩ rfl m lm (fun W hSw => (HF19.out.2.2.2.2.2.2.2.2.1.below hSw).at_); rfl
        try simp only [Act.put, List.setIfInBounds_toArray, List.set_cons_zero, List.set_cons_succ]
        refine' wpAnyH_take (i := 8) (oi := _) (v := sv (m)) ?hir8 (by kernel_rfl) ?hfr8 ?hrr8 ?hQr8 ?hyr8 hBr1 ?restr8
        case hir8 => (simp only [List.getElem?_toArray, List.getElem?_cons_zero, List.getElem?_cons_succ]; rfl)
        case hfr8 => kernel_rfl
        case hrr8 => kernel_rfl
        case hQr8 => exact fun _ _ _ h => h
        case hyr8 => refine yields_sum ?_ (.tmp 24) rfl ⟨g19, 0, none⟩ rfl m lm (fun W hSw => (HF19.out.2.2.2.2.2.2.2.2.2.1.below hSw).at_); rfl
        try simp only [Act.put, List.setIfInBounds_toArray, List.set_cons_zero, List.set_cons_succ]
        refine' wpAnyH_take (i := 9) (oi := _) (v := _) ?hir9 (by kernel_rfl) ?hfr9 ?hrr9 ?hQr9 ?hyr9 hBr1 ?restr9
        case hir9 => (simp only [List.getElem?_toArray, List.getElem?_cons_zero, List.getElem?_cons_succ]; rfl)
        case hfr9 => kernel_rfl
        case hrr9 => kernel_rfl
        case hQr9 => exact fun _ _ _ h => h
        case hyr9 => refine Or.inl ⟨by rfl, ?_⟩; intro W hSw; go_simp; try with_reducible rfl
        try simp only [Act.put, List.setIfInBounds_toArray, List.set_cons_zero, List.set_cons_succ]
        refine' wpAnyH_take (i := 10) (oi := _) (v := _) ?hir10 (by kernel_rfl) ?hfr10 ?hrr10 ?hQr10 ?hyr10 hBr1 ?restr10
        case hir10 => (simp only [List.getElem?_toArray, List.getElem?_cons_zero, List.getElem?_cons_succ]; rfl)
        case hfr10 => kernel_rfl
        case hrr10 => kernel_rfl
        case hQr10 => exact fun _ _ _ h => h
        case hyr10 => refine Or.inl ⟨by rfl, ?_⟩; intro W hSw; go_simp; try with_reducible rfl
        try simp only [Act.put, List.setIfInBounds_toArray, List.set_cons_zero, List.set_cons_succ]
        refine' wpAnyH_take (i := 11) (oi := _) (v := _) ?hir11 (by kernel_rfl) ?hfr11 ?hrr11 ?hQr11 ?hyr11 hBr1 ?restr11
        case hir11 => (simp only [List.getElem?_toArray, List.getElem?_cons_zero, List.getElem?_cons_succ]; rfl)
        case hfr11 => kernel_rfl
        case hrr11 => kernel_rfl
        case hQr11 => exact fun _ _ _ h => h
        case hyr11 => refine Or.inl ⟨by rfl, ?_⟩; intro W hSw; go_simp; try with_reducible rfl
        try simp only [Act.put, List.setIfInBounds_toArray, List.set_cons_zero, List.set_cons_succ]
        refine' wpAnyH_take (i := 12) (oi := _) (v := _) ?hir12 (by kernel_rfl) ?hfr12 ?hrr12 ?hQr12 ?hyr12 hBr1 ?restr12
        case hir12 => (simp only [List.getElem?_toArray, List.getElem?_cons_zero, List.getElem?_cons_succ]; rfl)
        case hfr12 => kernel_rfl
        case hrr12 => kernel_rfl
        case hQr12 => exact fun _ _ _ h => h
        case hyr12 => refine Or.inl ⟨by rfl, ?_⟩; intro W hSw; go_simp; try with_reducible rfl
        try simp only [Act.put, List.setIfInBounds_toArray, List.set_cons_zero, List.set_cons_succ]
        refine' wpAnyH_take (i := 13) (oi := _) (v := _) ?hir13 (by kernel_rfl) ?hfr13 ?hrr13 ?hQr13 ?hyr13 hBr1 ?restr13
        case hir13 => (simp only [List.getElem?_toArray, List.getElem?_cons_zero, List.getElem?_cons_succ]; rfl)
        case hfr13 => kernel_rfl
        case hrr13 => kernel_rfl
        case hQr13 => exact fun _ _ _ h => h
        case hyr13 => refine Or.inl ⟨by rfl, ?_⟩; intro W hSw; go_simp; try with_reducible rfl
        try simp only [Act.put, List.setIfInBounds_toArray, List.set_cons_zero, List.set_cons_succ]
        refine' wpAnyH_take (i := 15) (oi := _) (v := sv (r)) ?hir15 (by kernel_rfl) ?hfr15 ?hrr15 ?hQr15 ?hyr15 hBr1 ?restr15
        case hir15 => (simp only [List.getElem?_toArray, List.getElem?_cons_zero, List.getElem?_cons_succ]; rfl)
        case hfr15 => kernel_rfl
        case hrr15 => kernel_rfl
        case hQr15 => exact fun _ _ _ h => h
        case hyr15 => refine yields_sum ?_ (.tmp 10) rfl ⟨g7, 0, none⟩ rfl r lr (fun W hSw => (HF19.out.2.2.1.below hSw).at_); rfl
        try simp only [Act.put, List.setIfInBounds_toArray, List.set_cons_zero, List.set_cons_succ]
        refine' wpAnyH_take (i := 16) (oi := _) (v := sv (R)) ?hir16 (by kernel_rfl) ?hfr16 ?hrr16 ?hQr16 ?hyr16 hBr1 ?restr16
        case hir16 => (simp only [List.getElem?_toArray, List.getElem?_cons_zero, List.getElem?_cons_succ]; rfl)
        case hfr16 => kernel_rfl
        case hrr16 => kernel_rfl
        case hQr16 => exact fun _ _ _ h => h
        case hyr16 => refine yields_sum ?_ (.tmp 18) rfl ⟨g13, 0, none⟩ rfl R lR (fun W hSw => (HF19.out.2.2.2.2.2.2.1.below hSw).at_); rfl
        try simp only [Act.put, List.setIfInBounds_toArray, List.set_cons_zero, List.set_cons_succ]
        refine' wpAnyH_take (i := 17) (oi := _) (v := _) ?hir17 (by kernel_rfl) ?hfr17 ?hrr17 ?hQr17 ?hyr17 hBr1 ?restr17
        case hir17 => (simp only [List.getElem?_toArray, List.getElem?_cons_zero, List.getElem?_cons_succ]; rfl)
        case hfr17 => kernel_rfl
        case hrr17 => kernel_rfl
        case hQr17 => exact fun _ _ _ h => h
        case hyr17 => refine Or.inl ⟨by rfl, ?_⟩; intro W hSw; go_simp; try with_reducible rfl
        try simp only [Act.put, List.setIfInBounds_toArray, List.set_cons_zero, List.set_cons_succ]
        refine wpAnyH_ready (rs := [14]) (by kernel_rfl) (by simp) ?_
        refine' AllReadyH.cons (o := _) ?hir14 (fun K hK => ?_) AllReadyH.nil
        case hir14 => (simp only [List.getElem?_toArray, List.getElem?_cons_zero, List.getElem?_cons_succ]; rfl)
        go_simp
        go_at_call 14
        refine (CS1.out _ hBr1).mono ?_
        rintro e Wr4 ⟨rfl, hBr3⟩
        refine hK.out _ _ hBr3 (fun _ => ?_)
        clear hK K
        try simp only [Act.put, List.setIfInBounds_toArray, List.set_cons_zero, List.set_cons_succ]
        refine wpAnyH_ready (rs := [18]) (by kernel_rfl) (by simp) ?_
        refine' AllReadyH.cons (o := _) ?hir18 (fun K hK => ?_) AllReadyH.nil
        case hir18 => (simp only [List.getElem?_toArray, List.getElem?_cons_zero, List.getElem?_cons_succ]; rfl)
        go_simp
        go_at_call 21
        refine (CL1.out _ hBr3).mono ?_
        rintro e Wr6 ⟨rfl, hBr5⟩
        refine hK.out _ _ hBr5 (fun _ => ?_)
        clear hK K
        try simp only [Act.put, List.setIfInBounds_toArray, List.set_cons_zero, List.set_cons_succ]
        refine' wpAnyH_take (i := 19) (oi := _) (v := _) ?hir19 (by kernel_rfl) ?hfr19 ?hrr19 ?hQr19 ?hyr19 hBr5 ?restr19
        case hir19 => (simp only [List.getElem?_toArray, List.getElem?_cons_zero, List.getElem?_cons_succ]; rfl)
        case hfr19 => kernel_rfl
        case hrr19 => kernel_rfl
        case hQr19 => exact fun _ _ _ h => h
        case hyr19 => refine Or.inl ⟨by rfl, ?_⟩; intro W hSw; go_simp; try with_reducible rfl
        try simp only [Act.put, List.setIfInBounds_toArray, List.set_cons_zero, List.set_cons_succ]
        refine' wpAnyH_take (i := 20) (oi := _) (v := _) ?hir20 (by kernel_rfl) ?hfr20 ?hrr20 ?hQr20 ?hyr20 hBr5 ?restr20
        case hir20 => (simp only [List.getElem?_toArray, List.getElem?_cons_zero, List.getElem?_cons_succ]; rfl)
        case hfr20 => kernel_rfl
        case hrr20 => kernel_rfl
        case hQr20 => exact fun _ _ _ h => h
        case hyr20 => refine Or.inl ⟨by rfl, ?_⟩; intro W hSw; go_simp; try with_reducible rfl
        try simp only [Act.put, List.setIfInBounds_toArray, List.set_cons_zero, List.set_cons_succ]
        refine' wpAnyH_take (i := 21) (oi := _) (v := _) ?hir21 (by kernel_rfl) ?hfr21 ?hrr21 ?hQr21 ?hyr21 hBr5 ?restr21
        case hir21 => (simp only [List.getElem?_toArray, List.getElem?_cons_zero, List.getElem?_cons_succ]; rfl)
        case hfr21 => kernel_rfl
        case hrr21 => kernel_rfl
        case hQr21 => exact fun _ _ _ h => h
        case hyr21 => refine Or.inl ⟨by rfl, ?_⟩; intro W hSw; go_simp; try with_reducible rfl
        try simp only [Act.put, List.setIfInBounds_toArray, List.set_cons_zero, List.set_cons_succ]
        refine' wpAnyH_take (i := 22) (oi := _) (v := _) ?hir22 (by kernel_rfl) ?hfr22 ?hrr22 ?hQr22 ?hyr22 hBr5 ?restr22
        case hir22 => (simp only [List.getElem?_toArray, List.getElem?_cons_zero, List.getElem?_cons_succ]; rfl)
        case hfr22 => kernel_rfl
        case hrr22 => kernel_rfl
        case hQr22 => exact fun _ _ _ h => h
        case hyr22 => refine Or.inl ⟨by rfl, ?_⟩; intro W hSw; go_simp; try with_reducible rfl
        try simp only [Act.put, List.setIfInBounds_toArray, List.set_cons_zero, List.set_cons_succ]
        refine' wpAnyH_take (i := 24) (oi := _) (v := sv (r)) ?hir24 (by kernel_rfl) ?hfr24 ?hrr24 ?hQr24 ?hyr24 hBr5 ?restr24
        case hir24 => (simp only [List.getElem?_toArray, List.getElem?_cons_zero, List.getElem?_cons_succ]; rfl)
        case hfr24 => kernel_rfl
        case hrr24 => kernel_rfl
        case hQr24 => exact fun _ _ _ h => h
        case hyr24 => refine yields_sum ?_ (.tmp 12) rfl ⟨g9, 0, none⟩ rfl r lr (fun W hSw => (HF19.out.2.2.2.1.below hSw).at_); rfl
        try simp only [Act.put, List.setIfInBounds_toArray, List.set_cons_zero, List.set_cons_succ]
        refine' wpAnyH_take (i := 25) (oi := _) (v := sv (U)) ?hir25 (by kernel_rfl) ?hfr25 ?hrr25 ?hQr25 ?hyr25 hBr5 ?restr25
        case hir25 => (simp only [List.getElem?_toArray, List.getElem?_cons_zero, List.getElem?_cons_succ]; rfl)
        case hfr25 => kernel_rfl
        case hrr25 => kernel_rfl
        case hQr25 => exact fun _ _ _ h => h
        case hyr25 => refine yields_sum ?_ (.tmp 20) rfl ⟨g15, 0, none⟩ rfl U lU (fun W hSw => (HF19.out.2.2.2.2.2.2.2.1.below hSw).at_); rfl
        try simp only [Act.put, List.setIfInBounds_toArray, List.set_cons_zero, List.set_cons_succ]
        refine' wpAnyH_take (i := 26) (oi := _) (v := _) ?hir26 (by kernel_rfl) ?hfr26 ?hrr26 ?hQr26 ?hyr26 hBr5 ?restr26
        case hir26 => (simp only [List.getElem?_toArray, List.getElem?_cons_zero, List.getElem?_cons_succ]; rfl)
        case hfr26 => kernel_rfl
        case hrr26 => kernel_rfl
        case hQr26 => exact fun _ _ _ h => h
        case hyr26 => refine Or.inl ⟨by rfl, ?_⟩; intro W hSw; go_simp; try with_reducible rfl
        try simp only [Act.put, List.setIfInBounds_toArray, List.set_cons_zero, List.set_cons_succ]
        refine wpAnyH_ready (rs := [23]) (by kernel_rfl) (by simp) ?_
        refine' AllReadyH.cons (o := _) ?hir23 (fun K hK => ?_) AllReadyH.nil
        case hir23 => (simp only [List.getElem?_toArray, List.getElem?_cons_zero, List.getElem?_cons_succ]; rfl)
        go_simp
        go_at_call 14
        refine (CS2.out _ hBr5).mono ?_
        rintro e Wr8 ⟨rfl, hBr7⟩
        refine hK.out _ _ hBr7 (fun _ => ?_)
        clear hK K
        try simp only [Act.put, List.setIfInBounds_toArray, List.set_cons_zero, List.set_cons_succ]
        refine wpAnyH_ready (rs := [27]) (by kernel_rfl) (by simp) ?_
        refine' AllReadyH.cons (o := _) ?hir27 (fun K hK => ?_) AllReadyH.nil
        case hir27 => (simp only [List.getElem?_toArray, List.getElem?_cons_zero, List.getElem?_cons_succ]; rfl)
        go_simp
        go_at_call 21
        refine (CL2.out _ hBr7).mono ?_
        rintro e Wr10 ⟨rfl, hBr9⟩
        refine hK.out _ _ hBr9 (fun _ => ?_)
        clear hK K
        try simp only [Act.put, List.setIfInBounds_toArray, List.set_cons_zero, List.set_cons_succ]
        refine' wpAnyH_take (i := 28) (oi := _) (v := _) ?hir28 (by kernel_rfl) ?hfr28 ?hrr28 ?hQr28 ?hyr28 hBr9 ?restr28
        case hir28 => (simp only [List.getElem?_toArray, List.getElem?_cons_zero, List.getElem?_cons_succ]; rfl)
        case hfr28 => kernel_rfl
        case hrr28 => kernel_rfl
        case hQr28 => exact fun _ _ _ h => h
        case hyr28 => refine Or.inl ⟨by rfl, ?_⟩; intro W hSw; go_simp; try with_reducible rfl
        try simp only [Act.put, List.setIfInBounds_toArray, List.set_cons_zero, List.set_cons_succ]
        refine' wpAnyH_take (i := 29) (oi := _) (v := _) ?hir29 (by kernel_rfl) ?hfr29 ?hrr29 ?hQr29 ?hyr29 hBr9 ?restr29
        case hir29 => (simp only [List.getElem?_toArray, List.getElem?_cons_zero, List.getElem?_cons_succ]; rfl)
        case hfr29 => kernel_rfl
        case hrr29 => kernel_rfl
        case hQr29 => exact fun _ _ _ h => h
        case hyr29 => refine Or.inl ⟨by rfl, ?_⟩; intro W hSw; go_simp; try with_reducible rfl
        try simp only [Act.put, List.setIfInBounds_toArray, List.set_cons_zero, List.set_cons_succ]
        refine wpAnyH_done (by kernel_rfl) ?_ _
        go_wp2_with fail
        go_ret
        exact ⟨rfl, BW.out _ hBr9⟩

end Go.Proofs.YtllohbgejjbagaaDoor

/-
  What the three listed variables hold when a call begins: two of package shas, and the sentinel of package links.
-/
namespace Go.Proofs.YtllohbgejjbagaaDoor
open Go.ChangeShapes Go.WideShapes Go.ChangeAt Go.RowKit

theorem gMissing : Tryd.prog.globalNamed "almoner/links.errMissing" = some 0 := by kernel_rfl
theorem tMissing : (Tryd.prog.globals[0]?).map (·.type) = some 77 := by kernel_rfl
theorem cellsEs : Tryd.prog.cellsOf 169 = 1 := by kernel_rfl
theorem cellsStr : Tryd.prog.cellsOf 9 = 1 := by kernel_rfl
theorem starEs : "*" ++ "errors.errorString" = "*errors.errorString" := by decide
theorem rowEs (u : TypeId) (h : Tryd.prog.typeName? 3 u = some "*errors.errorString") : u = 144 :=
  typeName_ptr_named (nm := "errors.errorString") (by rw [starEs]; kernel_rfl) (by kernel_rfl) (by decide) u (by rw [starEs]; exact h)

def laid1 : List (String × DataW Unit) := [("almoner/links.errMissing", Rows.laid_almoner_links_errMissing)]

set_option maxRecDepth 100000 in
theorem of_laid1 {W : World} (h : laidMetH Tryd.prog laid1 W) : ∃ E, Miss W E := by
  rw [MakeChecks.laidMetH_plain _ _ _ (by kernel_rfl)] at h
  obtain ⟨ps, ⟨g0', t0', cs0, f0, p0, q0, hg0', ht0', hv0, hd0, _, e0⟩, hnd, hrows⟩ := h
  obtain rfl := Option.some.inj (gMissing.symm.trans hg0')
  obtain rfl := Option.some.inj (tMissing.symm.trans ht0')
  subst e0
  obtain ⟨l0⟩ := cs0
  have ok0 : ∀ u v, l0 = [.iface u v] → Value.okWide Tryd.prog W .any 0 u v := fun u v e => by
    subst e
    exact (hrows 0 0 (by simp [MemPlace.row])).2 u v (by simpa using World.var?_cell hg0' hv0 0)
  obtain ⟨a0, s0, rfl, hc0, hs0, hz0, rfl⟩ := errorString_of_trod Tryd.underlying77 rowEs Tryd.underlying144 Tryd.underlying169 rfl rfl Tryd.underlying9 cellsEs cellsStr hd0 ok0
  exact ⟨a0, by simpa [Miss, missV] using World.var?_cell hg0' hv0 0⟩

def laidK : List (String × DataW Unit) := [("almoner/shas.start", Rows.laid_almoner_shas_start), ("almoner/shas.added", Rows.laid_almoner_shas_added), ("almoner/links.errMissing", Rows.laid_almoner_links_errMissing)]
def isShas (x : String × DataW Unit) : Bool := ["almoner/shas.start", "almoner/shas.added"].contains x.1
def isMiss (x : String × DataW Unit) : Bool := ["almoner/links.errMissing"].contains x.1
theorem laidK_shas : laidK.filter isShas = laid2 := by
  unfold laidK laid2 isShas
  simp [List.filter]
theorem laidK_miss : laidK.filter isMiss = laid1 := by
  unfold laidK laid1 isMiss
  simp [List.filter]

theorem of_laidK {W : World} (h : laidMetH Tryd.prog laidK W) : (Starts W ∧ Knows W) ∧ ∃ E, Miss W E := by
  have h1 := h.filter isShas
  rw [laidK_shas] at h1
  have h2 := h.filter isMiss
  rw [laidK_miss] at h2
  exact ⟨of_laid h1, of_laid1 h2⟩

end Go.Proofs.YtllohbgejjbagaaDoor
