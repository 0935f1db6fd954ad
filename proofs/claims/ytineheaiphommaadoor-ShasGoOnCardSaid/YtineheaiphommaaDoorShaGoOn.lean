/-
  ShasGoOn: whoever knows a sum goes on from there.
-/
import Derived.Test.YtineheaiphommaaDoorRefOf
import Derived.Test.YtineheaiphommaaDoorShaEight
import Derived.Test.YtineheaiphommaaDoorShaLawTaken
namespace Go.Proofs.YtineheaiphommaaDoor
open Go.RowKit

theorem eaten_on (S P xs : List Nat) (p : Nat) (hP : P.length = 64 * p) (k : Nat) : eaten S (P ++ xs) (p + k) = eaten (eaten S P p) xs k := by
  induction k with
  | zero => rw [Nat.add_zero, eaten_append _ _ _ _ (by omega)]; rfl
  | succ k ih =>
    rw [← Nat.add_assoc, eaten, eaten, ih, List.drop_append, List.drop_of_length_le (by omega), List.nil_append, show 64 * (p + k) - P.length = 64 * k by omega]

set_option maxRecDepth 100000 in
set_option maxHeartbeats 1000000 in
theorem goOn_long (A B : Option Addr) (n c m d : Nat) (w : World) (h : 20000 < n ∨ 20000 < m) :
    Calls Tryd.prog 7 #[.slice A n c, .slice B m d] w fun e w' => e = .returned (.bool true) ∧ Below w.heap.size w w' := by
  by_cases h1 : 20000 < n
  · go_enter Tryd.func7, Tryd.ntmps7
    go_wp2
    go_ret
    exact ⟨rfl, Below.refl _ _⟩
  · have h2 : 20000 < m := by omega
    go_enter Tryd.func7, Tryd.ntmps7
    go_wp2
    go_ret
    exact ⟨rfl, Below.refl _ _⟩

set_option maxRecDepth 100000 in
set_option maxHeartbeats 2000000 in
theorem goOn_any (A B : Option Addr) (n c m d : Nat) (xs ys : List Nat) (w : World) (hx : Came w A n c xs) (hy : Came w B m d ys) (hk : Knows w) (hs : Starts w) (hn : n ≤ 20000) (hm : m ≤ 20000) :
    Calls Tryd.prog 7 #[.slice A n c, .slice B m d] w fun e w' => e = .returned (.bool true) ∧ Below w.heap.size w w' := by
  obtain ⟨E1, hE1⟩ : ∃ E, endL n = E := ⟨_, rfl⟩
  obtain ⟨e1, he1⟩ : ∃ e, E1.length = e := ⟨_, rfl⟩
  have e1b : e1 ≤ 73 := by rw [← he1, ← hE1, endL_length]; have := noughts_lt n; omega
  have hE1l : ∀ x ∈ E1, x < 256 := hE1 ▸ endL_lt n
  obtain ⟨P, hP⟩ : ∃ P, xs ++ E1 = P := ⟨_, rfl⟩
  have hPlen : P.length = n + e1 := by rw [← hP, List.length_append, hx.in_.len, he1]
  have hPmod : P.length % 64 = 0 := by rw [← hP, ← hE1, ← hx.in_.len]; exact whole_mod xs
  have hPl : ∀ x ∈ P, x < 256 := hP ▸ bytes_append hx.lt hE1l
  obtain ⟨N, hN⟩ : ∃ N, n + e1 + m = N := ⟨_, rfl⟩
  have hWlen : (P ++ ys).length = N := by rw [List.length_append, hPlen, hy.in_.len, hN]
  have hWl : ∀ x ∈ P ++ ys, x < 256 := bytes_append hPl hy.lt
  obtain ⟨E2, hE2⟩ : ∃ E, endL N = E := ⟨_, rfl⟩
  obtain ⟨e2, he2⟩ : ∃ e, E2.length = e := ⟨_, rfl⟩
  have e2b : e2 ≤ 73 := by rw [← he2, ← hE2, endL_length]; have := noughts_lt N; omega
  have hE2l : ∀ x ∈ E2, x < 256 := hE2 ▸ endL_lt N
  have hRl : ∀ x ∈ ys ++ E2, x < 256 := bytes_append hy.lt hE2l
  have hRlen : (ys ++ E2).length = m + e2 := by rw [List.length_append, hy.in_.len, he2]
  have hAll : (P ++ ys ++ E2).length % 64 = 0 := by rw [← hE2, ← hWlen]; exact whole_mod (P ++ ys)
  have hRmod : (m + e2) % 64 = 0 := by rw [List.length_append, hWlen, he2] at hAll; rw [hPlen] at hPmod; omega
  obtain ⟨p, hp⟩ : ∃ p, P.length / 64 = p := ⟨_, rfl⟩
  obtain ⟨S0, hS0⟩ : ∃ S, eaten h0 P p = S := ⟨_, rfl⟩
  have hS08 : S0.length = 8 := hS0 ▸ eaten_length _ _ h0_length _
  have hS0l : ∀ x ∈ S0, x < 4294967296 := hS0 ▸ eaten_lt _ _ h0_lt _
  have hshaX : sha xs = toldL S0 := by rw [sha, hx.in_.len, hE1, hP, hp, hS0]
  have hshaW : sha (P ++ ys) = toldL (eaten S0 (ys ++ E2) ((m + e2) / 64)) := by
    rw [sha, hWlen, hE2, List.append_assoc, ← hS0, ← eaten_on h0 P (ys ++ E2) p (by omega)]
    congr 2
    rw [List.length_append, hRlen, hPlen]
    rw [hPlen] at hp hPmod
    omega
  have HM := Lib.hid (And.intro hE1 (And.intro he1 (And.intro hP (And.intro hN (And.intro hE2 (And.intro he2 (And.intro hPlen (And.intro hRmod (And.intro hshaX (And.intro hshaW (And.intro hS08 hS0l)))))))))))
  have HBy := Lib.hid (And.intro hWl (And.intro hRl hWlen))
  clear hE1 he1 hP hPlen hPmod hPl hN hWlen hWl hE2 he2 hE2l hRl hRlen hAll hRmod hp hS0 hS08 hS0l hshaX hshaW hE1l
  have hNb : N ≤ 50000 := by have := HM.out.2.2.2.1; omega
  have C1 := Lib.hid (refEnd_any n w (by omega))
  rw [HM.out.1] at C1
  have own0 : ∀ (b : Nat) (W : World), W.ownsRow b 5 1 (.slice none 0 0) 0 (bvs []) := fun b W => ⟨rfl, .inl ⟨rfl, rfl⟩⟩
  have OWN := Lib.hid own0
  clear own0
  go_enter Tryd.func7, Tryd.ntmps7
  go_wp2_with fail
  refine C1.out.mono ?_
  rintro e w1 ⟨A1, c1, rfl, ho1, hb1⟩
  have i1 : In w1 A1 E1.length E1 := In.of_own ho1
  have n1 := own_nil ho1
  rw [HM.out.2.1] at i1 ⊢
  clear ho1 C1
  obtain ⟨b1, hb1e⟩ : ∃ b, w1.heap.size = b := ⟨_, rfl⟩
  have HBe := Lib.hid hb1e
  have zz1 := hb1.size
  have hwb : w.heap.size ≤ b1 := by omega
  clear hb1e zz1
  have szb : b1 ≤ w1.heap.size := Nat.le_of_eq HBe.out.symm
  have inX1 := hx.in_.below hb1
  have nlX := hx.nil
  have nlY := hy.nil
  have inY := hy.in_
  have le1 : 0 + n ≤ 140737488355328 := by omega
  have le2 : n + e1 ≤ 140737488355328 := by omega
  have le3 : n + e1 + m ≤ 140737488355328 := by omega
  have OWN0 := Lib.hid (OWN.out b1 w1)
  have toB : ∀ W : World, Below b1 w1 W → Below w1.heap.size w1 W := fun _ h => by rw [HBe.out]; exact h
  have TOB := Lib.hid toB
  have HX1 := Lib.hid inX1
  have HI1 := Lib.hid i1
  have HN1 := Lib.hid n1
  have HNX := Lib.hid nlX
  have HNY := Lib.hid nlY
  clear toB inX1 i1 n1 nlX nlY
  go_wp2_with (first
    | (at_builtin; refine wpList_app _ rfl (.const (.slice none 0 0)) (.tmp 21) rfl b1 none 0 0 [] rfl OWN0.out A n c xs rfl HX1.out HNX.out le1 szb ?_; intro A2 c2 w2 ho2 hb2; simp only [Nat.zero_add, List.nil_append] at ho2)
    | (at_builtin; refine wpList_app _ rfl (.tmp 22) (.tmp 23) rfl b1 A2 n c2 xs rfl ho2 A1 e1 c1 E1 rfl (HI1.out.below (TOB.out _ hb2)) HN1.out le2 (Nat.le_trans szb hb2.size) ?_; intro A3 c3 w3 ho3 hb3)
    | (at_builtin; refine wpList_app _ rfl (.tmp 24) (.tmp 25) rfl b1 A3 (n + e1) c3 (xs ++ E1) rfl ho3 B m d ys rfl (inY.below (below_on hb1 (Nat.le_refl _) (TOB.out _ (hb2.trans hb3)))) HNY.out le3 (Nat.le_trans szb (hb2.trans hb3).size) ?_; intro A4 c4 w4 ho4 hb4))
  rw [HM.out.2.2.1, HM.out.2.2.2.1] at ho4
  have iW : In w4 A4 N (P ++ ys) := In.of_own ho4
  have lW := own_cap ho4
  have bel4 : Below w.heap.size w w4 := below_on hb1 (Nat.le_refl _) (TOB.out _ ((hb2.trans hb3).trans hb4))
  have HW4 := Lib.hid (And.intro bel4 iW)
  clear ho2 ho3 ho4 hb2 hb3 hb4 bel4 iW hb1 HBe szb le1 le2 le3 OWN0 TOB HX1 HI1 HN1 HNX HNY inY
  have C2 := Lib.hid (of_any A n c xs w4 (hx.in_.below HW4.out.1) hx.lt hx.cap (hk.below HW4.out.1) (hs.below HW4.out.1) (by omega))
  rw [HM.out.2.2.2.2.2.2.2.2.1] at C2
  go_wp2_with fail
  refine C2.out.mono ?_
  rintro e w5 ⟨rfl, hb5⟩
  have C3 := Lib.hid (eight_any S0 w5 HM.out.2.2.2.2.2.2.2.2.2.2.1 HM.out.2.2.2.2.2.2.2.2.2.2.2)
  go_wp2_with fail
  refine C3.out.mono ?_
  rintro e w6 ⟨rfl, hb6⟩
  have n6 := Arr.new w6 68 zero8
  rw [zero8_lit] at n6
  have HZ8 := Lib.hid (show zero8.length = 8 from rfl)
  have H8 := Lib.hid HM.out.2.2.2.2.2.2.2.2.2.2.1
  have bel6 := below_on (below_on HW4.out.1 (Nat.le_refl _) hb5) (Nat.le_refl _) hb6
  have iW6 := (HW4.out.2.below hb5).below hb6
  have HW6 := Lib.hid (And.intro bel6 iW6)
  clear hb5 hb6 bel6 iW6 HW4 C2 C3
  go_upto_region 6 with (with_reducible refine wpList_storeE rfl (.tmp 7) (.tmp 29) rfl w6.heap.size rfl zero8 S0 HZ8 H8 n6 rfl ?_)
  rw [HM.out.2.2.2.1]
  obtain ⟨D, hD⟩ : ∃ D, w6.heap.size = D := ⟨_, rfl⟩
  have offW : Off A4 N D := by
    intro hpos ad he
    obtain ⟨ad', x, ee, _, hcell⟩ := HW6.out.2.at_ hpos
    rw [he] at ee
    cases ee
    have := World.block_lt_of_cell? w6 _ hcell
    rw [block_add] at this
    omega
  have n7 := n6.setRow S0
  have bb : Below w6.heap.size w6 ((w6.alloc (.cells #[.int .u32 0, .int .u32 0, .int .u32 0, .int .u32 0, .int .u32 0, .int .u32 0, .int .u32 0, .int .u32 0] 68)).setRow w6.heap.size (uvs S0).toArray) := below_setRow (below_alloc _ _) (Nat.le_refl _) _
  obtain ⟨w7, hw7⟩ : ∃ w7, w7 = (w6.alloc (.cells #[.int .u32 0, .int .u32 0, .int .u32 0, .int .u32 0, .int .u32 0, .int .u32 0, .int .u32 0, .int .u32 0] 68)).setRow w6.heap.size (uvs S0).toArray := ⟨_, rfl⟩
  rw [← hw7] at n7 bb ⊢
  rw [hD] at n7 ⊢
  have bel7 := below_on HW6.out.1 (Nat.le_refl _) bb
  have iW7 := HW6.out.2.below bb
  have hDw : w.heap.size ≤ D := hD ▸ HW6.out.1.size
  have HD := Lib.hid (And.intro n7 (And.intro bel7 iW7))
  clear hw7 hD bb bel7 iW7 n7 n6 HW6
  obtain ⟨b7, hb7⟩ : ∃ b, w7.heap.size = b := ⟨_, rfl⟩
  have HB7 := Lib.hid hb7
  have hDb : D < b7 := hb7 ▸ HD.out.1.lt
  clear hb7
  have inY := hy.in_.below HD.out.2.1
  have nlY := hy.nil
  have HYs := Lib.hid (And.intro inY nlY)
  clear inY nlY
  have le4 : 0 + m ≤ 140737488355328 := by omega
  have szb : b7 ≤ w7.heap.size := Nat.le_of_eq HB7.out.symm
  have OWN0 := Lib.hid (OWN.out b7 w7)
  go_wp2_with (at_builtin; refine wpList_app _ rfl (.const (.slice none 0 0)) (.tmp 30) rfl b7 none 0 0 [] rfl OWN0.out B m d ys rfl HYs.out.1 HYs.out.2 le4 szb ?_; intro A8 c8 w8 ho8 hb8; simp only [Nat.zero_add, List.nil_append] at ho8)
  have C8 := Lib.hid (refEnd_any N w8 (by omega))
  rw [HM.out.2.2.2.2.1] at C8
  refine C8.out.mono ?_
  rintro e w9 ⟨A9, c9, rfl, ho9, hb9⟩
  have i9 : In w9 A9 E2.length E2 := In.of_own ho9
  have n9 := own_nil ho9
  rw [HM.out.2.2.2.2.2.1] at i9 ⊢
  have ho8' := own_below ho8 hb9
  have hb78 : Below w7.heap.size w7 w8 := by rw [HB7.out]; exact hb8
  have hb79 := below_on hb78 (Nat.le_refl _) hb9
  have zb9 : b7 ≤ w9.heap.size := by rw [← HB7.out]; exact hb79.size
  have HI9 := Lib.hid (And.intro i9 (And.intro n9 hb79))
  clear ho9 C8 i9 n9 hb8 hb78 ho8 hb9 HYs OWN0 szb
  have le5 : m + e2 ≤ 140737488355328 := by omega
  have tst : ((m : Int) + (e2 : Int)) % 64 = 0 := by have := HM.out.2.2.2.2.2.2.2.1; omega
  go_upto_region 9 with (at_builtin; refine wpList_app _ rfl (.tmp 31) (.tmp 34) rfl b7 A8 m c8 ys rfl ho8' A9 e2 c9 E2 rfl HI9.out.1 HI9.out.2.1 le5 zb9 ?_; intro A10 c10 w10 ho10 hb10)
  have iR : In w10 A10 (m + e2) (ys ++ E2) := In.of_own ho10
  have lR := own_cap ho10
  have hb710 : Below w7.heap.size w7 w10 := (HI9.out.2.2).trans (by rw [HB7.out]; exact hb10)
  have bel10 := below_on HD.out.2.1 (Nat.le_refl _) hb710
  have aD10 := HD.out.1.below hb710
  have iW10 := HD.out.2.2.below hb710
  obtain ⟨M, hM⟩ : ∃ M, m + e2 = M := ⟨_, rfl⟩
  have hMb : M ≤ 30000 := by omega
  have offR : Off A10 M D := by
    intro hpos ad he
    rcases ho10.2 with ⟨ee, _⟩ | ⟨g, cap, cur, ee, hg, _⟩
    · rw [he] at ee; cases ee
    · rw [he] at ee
      cases ee
      show g ≠ D
      omega
  rw [hM] at iR lR ⊢
  have hRmod : M % 64 = 0 := by rw [← hM]; exact HM.out.2.2.2.2.2.2.2.1
  have hshaW := HM.out.2.2.2.2.2.2.2.2.2.1
  rw [hM] at hshaW
  have hRl : (ys ++ E2).length = M := iR.len
  obtain ⟨R, hR⟩ : ∃ R, ys ++ E2 = R := ⟨_, rfl⟩
  rw [hR] at iR hshaW hRl
  have hRlt : ∀ x ∈ R, x < 256 := hR ▸ HBy.out.2.1
  have HT := Lib.hid (And.intro aD10 (And.intro bel10 (And.intro iW10 iR)))
  have HRR := Lib.hid (And.intro hRmod (And.intro hshaW (And.intro hRl hRlt)))
  clear ho10 hb10 hb710 bel10 aD10 iW10 iR ho8' zb9 HI9 tst hM hRmod hshaW hRl hR hRlt HD
  go_wp2
  go_loopw [9] (fun i wr => ∃ (k : Nat), 64 * k ≤ M ∧ i = .int .i64 ((64 * k : Nat) : Int) ∧ Arr wr D 68 (eaten S0 R k) ∧ Below w.heap.size w wr ∧ In wr A4 N (P ++ ys) ∧ In wr A10 M R) (fun i _ => M - (intOf i).toNat)
  case atStart => exact ⟨0, by omega, rfl, HT.out.1, HT.out.2.1, HT.out.2.2.1, HT.out.2.2.2⟩
  case round =>
    clear HT
    obtain ⟨k, hk', rfl, aS, bel, iW, i4⟩ := hrel
    obtain ⟨q, hq⟩ : ∃ q, 64 * k = q := ⟨_, rfl⟩
    rw [hq] at hk' ⊢
    have hmod := HRR.out.1
    by_cases hlt : q < M
    · have h64 : q + 64 ≤ M := by omega
      obtain ⟨ad, _, rfl, _⟩ := i4.at_ (show 0 < M by omega)
      have hcut := run_cut64 (ad := ad) h64 lR
      have hblk : In wr (some (ad.add q)) 64 ((R.drop q).take 64) := i4.drop_take h64
      have hb8 := eaten_length S0 R H8.out k
      obtain ⟨Q, hQ⟩ : ∃ Q, eaten S0 R k = Q := ⟨_, rfl⟩
      obtain ⟨Z, hZ⟩ : ∃ Z, (R.drop q).take 64 = Z := ⟨_, rfl⟩
      have hQl : ∀ x ∈ Q, x < 4294967296 := hQ ▸ eaten_lt _ _ HM.out.2.2.2.2.2.2.2.2.2.2.2 _
      have hZl : ∀ x ∈ Z, x < 256 := by
        intro x hx
        rw [← hZ] at hx
        exact HRR.out.2.2.2 x (List.mem_of_mem_drop (List.mem_of_mem_take hx))
      rw [hQ] at aS hb8
      rw [hZ] at hblk
      have hnext : eaten S0 R (k + 1) = take16 Q (words Z) := by rw [eaten, hq, hQ, hZ]
      have HNx := Lib.hid (And.intro hnext (And.intro hq hQl))
      have HQ8 := Lib.hid hb8
      have HAll := Lib.hid (And.intro aS (And.intro bel (And.intro iW (And.intro i4 (And.intro hblk hZl)))))
      clear hnext hQ hZ hQl hb8 hq hZl aS bel iW i4 hblk hmod
      have hqi : (q : Int) < (M : Int) := by omega
      have hw64 : IntKind.i64.wrap ((q : Int) + 64) = (q : Int) + 64 := IntWalk.i64_in _ (by omega)
      go_wp2
      refine wp_region_quiet_tail (C := fun w' => Below wr.heap.size wr w') 7 (by kernel_rfl) (by kernel_rfl) ((Below.refl _ _).drew) ?_
      simp only [List.take_succ_cons, List.take_zero, List.drop_succ_cons, List.drop_zero]
      refine wpQuiet_step (fun K hK => ?_)
      refine quiet_load_mid rfl 68 (.tmp 7) rfl D 0 rfl (uvs Q) _ Tryd.underlying68 rfl (by rw [uvs_length, HQ8.out]; exact infoE) (fun W hC => (HAll.out.1.below hC).range) (hK _ ?_)
      clear hK K
      repeat (refine wpQuiet_step (fun K hK => ?_); go_simp; refine ⟨_, fun _ _ => rfl, hK _ ?_⟩; clear hK K)
      refine wpQuiet_step (fun K hK => ?_)
      go_simp
      refine ⟨.agg (uvs (take16 Q (words Z))).toArray, fun W hC => ?_, hK _ ?_⟩
      · exact (refTake_any Q Z _ _ W HQ8.out HNx.out.2.2 (HAll.out.2.2.2.2.1.below hC) HAll.out.2.2.2.2.2).mono fun e w'' ⟨he, hb⟩ => ⟨he, below_on hC (Nat.le_refl _) hb⟩
      clear hK K
      refine wpQuiet_nil ?_
      intro v6 hbv
      have hS8 := take16_length Q (words Z) HQ8.out
      have HS8 := Lib.hid hS8
      have a6 := HAll.out.1.below hbv
      clear hS8
      have HA6 := Lib.hid a6
      refine wpList_storeE rfl (.tmp 7) (.tmp 52) rfl D rfl Q (take16 Q (words Z)) HQ8 HS8 a6 rfl ?_
      clear a6
      go_wp2
      go_roundw
      case rel =>
        refine ⟨k + 1, by have := HNx.out.2.1; omega, ?_, ?_, ?_, ?_, ?_⟩
        · have := HNx.out.2.1
          show Value.int .i64 ((q : Int) + 64) = _
          congr 1
          omega
        · rw [HNx.out.1]
          exact HA6.out.setRow _
        · exact below_setRow (below_on HAll.out.2.1 (Nat.le_refl _) hbv) (by omega) _
        · exact (HAll.out.2.2.1.below hbv).only ((Only.refl D v6).setRow _) offW
        · exact (HAll.out.2.2.2.1.below hbv).only ((Only.refl D v6).setRow _) offR
      case measure => simp [intOf]; omega
    · have hk2 : M / 64 = k := by omega
      have hshaW := HRR.out.2.1
      rw [hk2] at hshaW
      obtain ⟨Q, hQ⟩ : ∃ Q, eaten S0 R k = Q := ⟨_, rfl⟩
      have hQ8 : Q.length = 8 := hQ ▸ eaten_length _ _ H8.out _
      have hQl : ∀ x ∈ Q, x < 4294967296 := hQ ▸ eaten_lt _ _ HM.out.2.2.2.2.2.2.2.2.2.2.2 _
      rw [hQ] at aS hshaW
      have HQ8 := Lib.hid hQ8
      have HE := Lib.hid (And.intro hshaW hQl)
      have HF := Lib.hid (And.intro bel (And.intro iW aS))
      have hqd : decide ((q : Int) < (M : Int)) = false := by simp; omega
      have q1 := eql_same' (toldL Q) (by rw [toldL_length, hQ8])
      have q4 := run_guard_eql
      clear hQ hQ8 hQl hk2 hshaW hmod i4 bel iW aS hq
      go_wp2
      refine wp_region_quiet (C := fun w' => Below wr.heap.size wr w') (by kernel_rfl) (by kernel_rfl) ((Below.refl _ _).drew) ?_
      repeat (refine wpQuiet_step (fun K hK => ?_); go_simp; refine ⟨_, fun _ _ => rfl, hK _ ?_⟩; clear hK K)
      refine wpQuiet_step (fun K hK => ?_)
      go_simp
      refine ⟨sv (toldL Q), fun W hC => ?_, hK _ ?_⟩
      · have hb := below_on HF.out.1 (Nat.le_refl _) hC
        have C := of_any A4 N c4 (P ++ ys) W (HF.out.2.1.below hC) HBy.out.1 lW (hk.below hb) (hs.below hb) (by omega)
        rw [HE.out.1] at C
        exact C.mono fun e w'' ⟨he, hb'⟩ => ⟨he, below_on hC (Nat.le_refl _) hb'⟩
      clear hK K
      refine wpQuiet_step (fun K hK => ?_)
      refine quiet_load_mid rfl 68 (.tmp 7) rfl D 0 rfl (uvs Q) _ Tryd.underlying68 rfl (by rw [uvs_length, HQ8.out]; exact infoE) (fun W hC => (HF.out.2.2.below hC).range) (hK _ ?_)
      clear hK K
      refine wpQuiet_step (fun K hK => ?_)
      go_simp
      refine ⟨sv (toldL Q), fun W hC => ?_, hK _ ?_⟩
      · exact (refSum_any Q W HQ8.out HE.out.2).mono fun e w'' ⟨he, hb'⟩ => ⟨he, below_on hC (Nat.le_refl _) hb'⟩
      clear hK K
      repeat (refine wpQuiet_step (fun K hK => ?_); go_simp; refine ⟨_, fun _ _ => rfl, hK _ ?_⟩; clear hK K)
      refine wpQuiet_nil ?_
      intro v7 hb7
      go_wp2
      go_ret
      exact ⟨rfl, below_on HF.out.1 (Nat.le_refl _) hb7⟩

theorem shasGoOn_law (w : World) (hk : Knows w) (hs : Starts w) {A B : Option Addr} {n c m d : Nat} {xs ys : List Nat} (h1 : Came w A n c xs) (h2 : Came w B m d ys) :
    Calls Tryd.prog 7 #[.slice A n c, .slice B m d] w fun e w' => e = .returned (.bool true) ∧ Below w.heap.size w w' := by
  by_cases h : 20000 < n ∨ 20000 < m
  · exact goOn_long A B n c m d w h
  · exact goOn_any A B n c m d xs ys w h1 h2 hk hs (by omega) (by omega)

end Go.Proofs.YtineheaiphommaaDoor
