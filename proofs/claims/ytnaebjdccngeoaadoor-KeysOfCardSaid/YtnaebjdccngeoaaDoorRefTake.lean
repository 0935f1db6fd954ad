/-
  The document's Take.
-/
import Derived.Test.YtnaebjdccngeoaaDoorRefInv
import Derived.Test.YtnaebjdccngeoaaDoorShaInv
namespace Go.Proofs.YtnaebjdccngeoaaDoor
open Go.RowKit

theorem refR_z (x : Nat) (z : Int) (w : World) (hx : x < 4294967296) (h0 : 0 < z) (hn : z < 32) :
    Calls Tryd.prog 93 #[.int .u32 (x : Int), .int .i64 z] w fun e w' => e = .returned (.int .u32 (rotr x z.toNat : Nat)) ∧ w = w' :=
  refR_any x z.toNat z (by omega) w hx (by omega) (by omega)

theorem ch_eq2 {e f g : Nat} (he : e < 4294967296) (hf : f < 4294967296) (hg : g < 4294967296) :
    bits .or .u32 (bits .and .u32 (e : Int) (f : Int)) (bits .and .u32 (bits .xor .u32 IntKind.u32.max (e : Int)) (g : Int)) = ((ch e f g : Nat) : Int) := ch_eq he hf hg

/-- The eight behind one time more. -/
theorem agg_rnd {R : List Nat} {kt wt v0 v1 v2 v3 v4 v5 v6 v7 : Nat} (h : R.getD 0 0 = v0 ∧ R.getD 1 0 = v1 ∧ R.getD 2 0 = v2 ∧ R.getD 3 0 = v3 ∧ R.getD 4 0 = v4 ∧ R.getD 5 0 = v5 ∧ R.getD 6 0 = v6 ∧ R.getD 7 0 = v7) {e0 e4 : Int}
    (h0 : e0 = ((((v7 + kt + wt + mixE v4 + ch v4 v5 v6) % 4294967296 + (mixA v0 + maj v0 v1 v2) % 4294967296) % 4294967296 : Nat) : Int))
    (h4 : e4 = (((v3 + (v7 + kt + wt + mixE v4 + ch v4 v5 v6) % 4294967296) % 4294967296 : Nat) : Int)) :
    Value.agg #[.int .u32 e0, .int .u32 (v0 : Int), .int .u32 (v1 : Int), .int .u32 (v2 : Int), .int .u32 e4, .int .u32 (v4 : Int), .int .u32 (v5 : Int), .int .u32 (v6 : Int)] = .agg (uvs (rnd kt wt R)).toArray := by
  obtain ⟨r0, r1, r2, r3, r4, r5, r6, r7⟩ := h
  rw [rnd, rndP, rndQ, r0, r1, r2, r3, r4, r5, r6, r7, h0, h4]
  rfl
/-- The sum of each with what it was. -/
theorem agg_sum {S R : List Nat} (hS : S.length = 8) (hR : R.length = 8) {v0 v1 v2 v3 v4 v5 v6 v7 u0 u1 u2 u3 u4 u5 u6 u7 : Nat}
    (h : (R.getD 0 0 = v0 ∧ R.getD 1 0 = v1 ∧ R.getD 2 0 = v2 ∧ R.getD 3 0 = v3 ∧ R.getD 4 0 = v4 ∧ R.getD 5 0 = v5 ∧ R.getD 6 0 = v6 ∧ R.getD 7 0 = v7) ∧
      S.getD 0 0 = u0 ∧ S.getD 1 0 = u1 ∧ S.getD 2 0 = u2 ∧ S.getD 3 0 = u3 ∧ S.getD 4 0 = u4 ∧ S.getD 5 0 = u5 ∧ S.getD 6 0 = u6 ∧ S.getD 7 0 = u7) :
    Value.agg #[.int .u32 (((u0 : Int) + (v0 : Int)) % 4294967296), .int .u32 (((u1 : Int) + (v1 : Int)) % 4294967296), .int .u32 (((u2 : Int) + (v2 : Int)) % 4294967296), .int .u32 (((u3 : Int) + (v3 : Int)) % 4294967296),
      .int .u32 (((u4 : Int) + (v4 : Int)) % 4294967296), .int .u32 (((u5 : Int) + (v5 : Int)) % 4294967296), .int .u32 (((u6 : Int) + (v6 : Int)) % 4294967296), .int .u32 (((u7 : Int) + (v7 : Int)) % 4294967296)] = .agg (uvs (List.zipWith (fun x y => (x + y) % 4294967296) R S)).toArray := by
  have e : ∀ a b : Nat, ((a : Int) + (b : Int)) % 4294967296 = (((b + a) % 4294967296 : Nat) : Int) := fun a b => by omega
  obtain ⟨⟨rfl, rfl, rfl, rfl, rfl, rfl, rfl, rfl⟩, rfl, rfl, rfl, rfl, rfl, rfl, rfl, rfl⟩ := h
  match S, hS, R, hR with
  | [s0, s1, s2, s3, s4, s5, s6, s7], _, [r0, r1, r2, r3, r4, r5, r6, r7], _ =>
    rw [e, e, e, e, e, e, e, e]
    rfl

set_option maxRecDepth 100000 in
set_option maxHeartbeats 4000000 in
theorem refTake_any (S xs : List Nat) (A : Option Addr) (c : Nat) (w : World) (hS : S.length = 8) (hS2 : ∀ x ∈ S, x < 4294967296) (hin : In w A 64 xs) (hx : ∀ x ∈ xs, x < 256) :
    Calls Tryd.prog 78 #[.agg (uvs S).toArray, .slice A 64 c] w fun e w' => e = .returned (.agg (uvs (take16 S (words xs))).toArray) ∧ Below w.heap.size w w' := by
  have HS := Lib.hid hS
  have HS2 := Lib.hid hS2
  have HX := Lib.hid hx
  obtain ⟨Z, hZ⟩ : ∃ Z, sched (words xs) 48 = Z := ⟨_, rfl⟩
  have hZl : Z.length = 64 := by rw [← hZ, sched_length, words_length]
  have hZlt : ∀ x ∈ Z, x < 4294967296 := hZ ▸ sched_lt _ (words_lt hx) 48
  have hZ1 : ∀ t, t < 16 → Z.getD t 0 = word xs t := fun t ht => by rw [← hZ, sched_first _ (words_length xs) 48 t ht, words_get xs t ht]
  have hZ2 : ∀ t, 16 ≤ t → t < 64 → Z.getD t 0 = (Z.getD (t - 16) 0 + Z.getD (t - 7) 0 + far (Z.getD (t - 15) 0) + near (Z.getD (t - 2) 0)) % 4294967296 := fun t h1 h2 => by
    rw [← hZ]; exact sched_next _ (words_length xs) 48 t h1 (by omega)
  have HZ := Lib.hid (And.intro hZ (And.intro hZl (And.intro hZlt (And.intro hZ1 hZ2))))
  clear hS hS2 hx hZ hZl hZlt hZ1 hZ2
  obtain ⟨ad, _, rfl, _⟩ := hin.at_ (show 0 < 64 by omega)
  go_enter Tryd.func78, Tryd.ntmps78
  go_wp2
  go_loopw [6] (fun i wr => ∃ (t : Nat) (W : List Nat), t ≤ 64 ∧ i = .int .i64 (t : Int) ∧ WP Z t W ∧ RT w S W wr) (fun i _ => 64 - (intOf i).toNat)
  case atStart => exact ⟨0, zero64u, by omega, rfl, WP.start Z, heap3_old w _ _ _, heap3_mid w _ _ _, heap3_new w _ _ _, below3 w _ _ _⟩
  case round =>
    obtain ⟨t, W, ht, rfl, hW, T⟩ := hrel
    by_cases hlt : t < 64
    · by_cases h16 : t < 16
      · obtain ⟨wo, rfl⟩ : ∃ wo : World, wo = wr := ⟨_, rfl⟩
        have h16i : (t : Int) < 16 := by omega
        have h64i : (t : Int) < 64 := by omega
        go_wp2
        go_loopw [7] (fun i wr => ∃ (j : Nat), j ≤ 4 ∧ i = .int .i64 (j : Int) ∧ RT w S (W.set t (wordP xs t j)) wr) (fun i _ => 4 - (intOf i).toNat)
        case atStart => exact ⟨0, by omega, rfl, by rw [wordP, set_zero (by rw [hW.len]; exact hlt) (hW.zero t (Nat.le_refl _) hlt)]; exact T⟩
        case round =>
          obtain ⟨j, hj, rfl, T2⟩ := hrel
          by_cases hl4 : j < 4
          · obtain ⟨k, hk⟩ : ∃ k, 4 * t + j = k := ⟨_, rfl⟩
            obtain ⟨ad', x, e', hxk, hcell⟩ := (hin.below T2.below).at_ (show k < 64 by omega)
            cases e'
            have hx8 : x < 256 := HX.out x (List.mem_of_getElem? hxk)
            obtain ⟨f, hf⟩ : ∃ f, wordP xs t j = f := ⟨_, rfl⟩
            have hfl := wordP_lt HX.out t j
            rw [hf] at T2 hfl
            have hp : 256 ^ j ≤ 256 ^ 3 := Nat.pow_le_pow_right (by omega) (by omega)
            have hp3 : (256 : Nat) ^ 3 = 16777216 := by decide
            have hfb : f < 16777216 := by omega
            clear hp3
            have ct := T2.w64.cell (i := t) (by rw [List.length_set, hW.len]; exact hlt)
            rw [getD_set _ _ _ _ (by rw [hW.len]; exact hlt), if_pos rfl] at ct
            have fr := T2.w64.free t
            have ht1 : (t : Int) < 64 := by omega
            have hk1 : (k : Int) < 64 := by omega
            have hk2 : 4 * (t : Int) + (j : Int) = (k : Int) := by omega
            have hk3 : IntKind.i64.wrap (4 * (t : Int) + (j : Int)) = (k : Int) := by rw [hk2]; exact IntWalk.i64_in _ (by omega)
            have hk4 : IntKind.i64.wrap (k : Int) = (k : Int) := IntWalk.i64_in _ (by omega)
            have e4 : IntKind.i64.wrap (4 * (t : Int)) = 4 * (t : Int) := IntWalk.i64_in _ (by omega)
            have hnew : wordP xs t (j + 1) = 256 * f + x := by
              rw [wordP, hf, hk, List.getD_eq_getElem?_getD, hxk]; rfl
            have HN := Lib.hid hnew
            have HT := Lib.hid T2
            clear T2 hnew hf hk hxk hp hfl
            go_wp2
            go_still_tail 15, (by kernel_rfl)
            go_wp2
            go_roundw
            case rel =>
              refine ⟨j + 1, by omega, by go_num, ?_⟩
              have e := (HT.out.setW t (256 * f + x)).drew
              rw [List.set_set] at e
              rw [HN.out, show (256 * (f : Int) + (x : Int)) = ((256 * f + x : Nat) : Int) by omega]
              exact e
            case measure => simp [intOf]; omega
          · obtain rfl : j = 4 := by omega
            rw [wordP_all] at T2
            have hW2 := hW.next hlt (HZ.out.2.2.2.1 t h16).symm
            have HT := Lib.hid (And.intro hW2 T2)
            clear T2 hW2
            go_wp2
            go_roundw
            case rel => exact ⟨t + 1, _, by omega, by go_num, HT.out.1, HT.out.2⟩
            case measure => simp [intOf]; omega
      · have h16i : decide ((t : Int) < 16) = false := by simp; omega
        have h64i : (t : Int) < 64 := by omega
        obtain ⟨a16, ha16⟩ : ∃ k, t - 16 = k := ⟨_, rfl⟩
        obtain ⟨a7, ha7⟩ : ∃ k, t - 7 = k := ⟨_, rfl⟩
        obtain ⟨a15, ha15⟩ : ∃ k, t - 15 = k := ⟨_, rfl⟩
        obtain ⟨a2, ha2⟩ : ∃ k, t - 2 = k := ⟨_, rfl⟩
        have hnx := HZ.out.2.2.2.2 t (by omega) hlt
        rw [ha16, ha7, ha15, ha2] at hnx
        have c16 := T.w64.cell (i := a16) (by rw [hW.len]; omega)
        have c7 := T.w64.cell (i := a7) (by rw [hW.len]; omega)
        have c15 := T.w64.cell (i := a15) (by rw [hW.len]; omega)
        have c2 := T.w64.cell (i := a2) (by rw [hW.len]; omega)
        have ct := T.w64.cell (i := t) (by rw [hW.len]; omega)
        have fr := T.w64.free t
        rw [hW.old a16 (by omega)] at c16
        rw [hW.old a7 (by omega)] at c7
        rw [hW.old a15 (by omega)] at c15
        rw [hW.old a2 (by omega)] at c2
        have b15 := getD_lt HZ.out.2.2.1 a15
        have b2 := getD_lt HZ.out.2.2.1 a2
        obtain ⟨v16, hv16⟩ : ∃ v, Z.getD a16 0 = v := ⟨_, rfl⟩
        obtain ⟨v7, hv7⟩ : ∃ v, Z.getD a7 0 = v := ⟨_, rfl⟩
        obtain ⟨v15, hv15⟩ : ∃ v, Z.getD a15 0 = v := ⟨_, rfl⟩
        obtain ⟨v2, hv2⟩ : ∃ v, Z.getD a2 0 = v := ⟨_, rfl⟩
        rw [hv16] at c16 hnx
        rw [hv7] at c7 hnx
        rw [hv15] at c15 hnx b15
        rw [hv2] at c2 hnx b2
        have i16 : (t : Int) - 16 = (a16 : Int) := by omega
        have i7 : (t : Int) - 7 = (a7 : Int) := by omega
        have i15 : (t : Int) - 15 = (a15 : Int) := by omega
        have i2 : (t : Int) - 2 = (a2 : Int) := by omega
        have l16 : (a16 : Int) < 64 := by omega
        have l7 : (a7 : Int) < 64 := by omega
        have l15 : (a15 : Int) < 64 := by omega
        have l2 : (a2 : Int) < 64 := by omega
        have w16 : IntKind.i64.wrap (a16 : Int) = (a16 : Int) := IntWalk.i64_in _ (by omega)
        have w7 : IntKind.i64.wrap (a7 : Int) = (a7 : Int) := IntWalk.i64_in _ (by omega)
        have HN := Lib.hid (And.intro hnx (And.intro hW T))
        clear hnx hW T ha16 ha7 ha15 ha2 hv16 hv7 hv15 hv2
        go_wp2
        go_still_tail 29, (by kernel_rfl)
        still_call (still_left (refR_any v15 7 7 rfl _ b15 (by omega) (by omega)))
        repeat still_step
        still_call (still_left (refR_any v15 18 18 rfl _ b15 (by omega) (by omega)))
        repeat still_step
        still_call (still_left (refR_any v2 17 17 rfl _ b2 (by omega) (by omega)))
        repeat still_step
        still_call (still_left (refR_any v2 19 19 rfl _ b2 (by omega) (by omega)))
        repeat still_step
        refine wpStill_nil ?_
        change wpList _ _ _ _ _ wr.drew
        go_wp2
        go_roundw
        case rel =>
          have e1 := xor3 (c := v15 / 8) (rotr_lt 7 b15) (rotr_lt 18 b15) (div_lt32 8 b15)
          have e2 := xor3 (c := v2 / 1024) (rotr_lt 17 b2) (rotr_lt 19 b2) (div_lt32 1024 b2)
          have d1 : ((v15 / 8 : Nat) : Int) = (v15 : Int) / 8 := by omega
          have d2 : ((v2 / 1024 : Nat) : Int) = (v2 : Int) / 1024 := by omega
          rw [d1] at e1
          rw [d2] at e2
          rw [e1, e2]
          have hv : ((v16 : Int) + (v7 : Int) + ((rotr v15 7 ^^^ rotr v15 18 ^^^ v15 / 8 : Nat) : Int) + ((rotr v2 17 ^^^ rotr v2 19 ^^^ v2 / 1024 : Nat) : Int)) % 4294967296 = (((v16 + v7 + far v15 + near v2) % 4294967296 : Nat) : Int) := by
            rw [far, near, show (2 : Nat) ^ 3 = 8 from rfl, show (2 : Nat) ^ 10 = 1024 from rfl]
            omega
          rw [hv]
          exact ⟨t + 1, _, by omega, by go_num, HN.out.2.1.next hlt HN.out.1.symm, (HN.out.2.2.setW t _).drew⟩
        case measure => simp [intOf]; omega
    · have ht64 : t = 64 := by omega
      rw [ht64] at hW
      obtain rfl := hW.end_ HZ.out.2.1
      have HL := Lib.hid hW.len
      clear hW ht64
      have sA := T.s
      have s1 : ∀ o, Arr (wr.alloc o) w.heap.size 103 S := fun o => T.s.alloc o
      have n1 := Arr.new wr 103 zero8
      rw [zero8_lit] at n1
      have HZ8 := Lib.hid (show zero8.length = 8 from rfl)
      have hDl : w.heap.size + 1 + 1 < wr.heap.size := T.w64.lt
      have HTa := Lib.hid T
      have HS1 := Lib.hid s1
      have N1 := Lib.hid n1
      clear T s1
      have h64f : decide ((t : Int) < 64) = false := by simp; omega
      go_wp2_with (first
        | (with_reducible refine wpList_loadE rfl (.tmp 2) rfl w.heap.size rfl S HS sA ?_)
        | (with_reducible refine wpList_storeE rfl (.tmp 10) (.tmp 76) rfl wr.heap.size rfl zero8 S HZ8 HS n1 rfl ?_))
      obtain ⟨wo, rfl⟩ : ∃ wo : World, wo = wr := ⟨_, rfl⟩
      have st : Arr ((wo.alloc (.cells #[.int .u32 0, .int .u32 0, .int .u32 0, .int .u32 0, .int .u32 0, .int .u32 0, .int .u32 0, .int .u32 0] 103)).setRow wo.heap.size (uvs S).toArray) wo.heap.size 103 S := N1.out.setRow S
      have rt : RT w S W ((wo.alloc (.cells #[.int .u32 0, .int .u32 0, .int .u32 0, .int .u32 0, .int .u32 0, .int .u32 0, .int .u32 0, .int .u32 0] 103)).setRow wo.heap.size (uvs S).toArray) :=
        ⟨(HTa.out.s.alloc _).setRow_other _ (by omega) _, (HTa.out.r.alloc _).setRow_other _ (by omega) _, (HTa.out.w64.alloc _).setRow_other _ (by omega) _, below_setRow (HTa.out.below.alloc HTa.out.below.size _) (by omega) _⟩
      have ST := Lib.hid (And.intro st rt)
      clear st rt sA n1
      go_loopw [11] (fun i wr => ∃ (t : Nat), t ≤ 64 ∧ i = .int .i64 (t : Int) ∧ Arr wr wo.heap.size 103 (rounds W S t) ∧ RT w S W wr) (fun i _ => 64 - (intOf i).toNat)
      case atStart => exact ⟨0, by omega, rfl, ST.out.1, ST.out.2⟩
      case round =>
        clear ST N1 HS1 HTa
        obtain ⟨t2, ht2, rfl, aN, rt⟩ := hrel
        by_cases hl2 : t2 < 64
        · obtain ⟨R, hR⟩ : ∃ R, rounds W S t2 = R := ⟨_, rfl⟩
          have hR8 : R.length = 8 := hR ▸ rounds_length W S HS.out t2
          have hRl : ∀ x ∈ R, x < 4294967296 := hR ▸ rounds_lt W S HS2.out t2
          rw [hR] at aN
          have c0 := aN.cell (i := 0) (by omega)
          have x0 := getD_lt hRl 0
          obtain ⟨v0, hv0⟩ : ∃ v, R.getD 0 0 = v := ⟨_, rfl⟩
          rw [hv0] at c0 x0
          have c1 := aN.cell (i := 1) (by omega)
          have x1 := getD_lt hRl 1
          obtain ⟨v1, hv1⟩ : ∃ v, R.getD 1 0 = v := ⟨_, rfl⟩
          rw [hv1] at c1 x1
          have c2 := aN.cell (i := 2) (by omega)
          have x2 := getD_lt hRl 2
          obtain ⟨v2, hv2⟩ : ∃ v, R.getD 2 0 = v := ⟨_, rfl⟩
          rw [hv2] at c2 x2
          have c3 := aN.cell (i := 3) (by omega)
          have x3 := getD_lt hRl 3
          obtain ⟨v3, hv3⟩ : ∃ v, R.getD 3 0 = v := ⟨_, rfl⟩
          rw [hv3] at c3 x3
          have c4 := aN.cell (i := 4) (by omega)
          have x4 := getD_lt hRl 4
          obtain ⟨v4, hv4⟩ : ∃ v, R.getD 4 0 = v := ⟨_, rfl⟩
          rw [hv4] at c4 x4
          have c5 := aN.cell (i := 5) (by omega)
          have x5 := getD_lt hRl 5
          obtain ⟨v5, hv5⟩ : ∃ v, R.getD 5 0 = v := ⟨_, rfl⟩
          rw [hv5] at c5 x5
          have c6 := aN.cell (i := 6) (by omega)
          have x6 := getD_lt hRl 6
          obtain ⟨v6, hv6⟩ : ∃ v, R.getD 6 0 = v := ⟨_, rfl⟩
          rw [hv6] at c6 x6
          have c7 := aN.cell (i := 7) (by omega)
          have x7 := getD_lt hRl 7
          obtain ⟨v7, hv7⟩ : ∃ v, R.getD 7 0 = v := ⟨_, rfl⟩
          rw [hv7] at c7 x7
          have cw := rt.w64.cell (i := t2) (by rw [HL.out]; exact hl2)
          obtain ⟨wt, hwt⟩ : ∃ v, W.getD t2 0 = v := ⟨_, rfl⟩
          rw [hwt] at cw
          have hl2i : (t2 : Int) < 64 := by omega
          obtain ⟨kt, hkt⟩ : ∃ v, kAdd.getD t2 0 = v := ⟨_, rfl⟩
          have CK := fun W' => added_any t2 W' hl2
          rw [hkt] at CK
          have HV := Lib.hid (And.intro hR (And.intro hwt (And.intro hkt (And.intro hv0 (And.intro hv1 (And.intro hv2 (And.intro hv3 (And.intro hv4 (And.intro hv5 (And.intro hv6 hv7))))))))))
          have HCK := Lib.hid CK
          have HAN := Lib.hid (And.intro aN rt)
          have HR8 := Lib.hid hR8
          clear hR hR8 hRl aN rt hv0 hv1 hv2 hv3 hv4 hv5 hv6 hv7 hwt hkt CK
          go_wp2
          go_quiet ((first | (go_at_call 94; exact quiet_left (HCK.out _)) | (go_at_call 93; exact quiet_left (refR_z v4 _ _ x4 (by omega) (by omega)))))
          go_wp2
          go_quiet ((go_at_call 93; exact quiet_add_left (refR_z v0 _ _ x0 (by omega) (by omega))))
          have aN := HAN.out.1
          have HRN := Lib.hid (show (rnd kt wt R).length = 8 from rfl)
          obtain ⟨RN, hRN⟩ : ∃ RN, rnd kt wt R = RN := ⟨_, rfl⟩
          rw [hRN] at HRN
          have HRNe := Lib.hid hRN
          clear hRN
          go_wp2_with (with_reducible refine wpList_storeE rfl (.tmp 10) (.tmp 163) rfl wo.heap.size rfl R RN HR8 HRN (aN.drewN _) ?_ ?_)
          · clear aN
            rw [← HRNe.out]
            refine agg_rnd HV.out.2.2.2 ?_ ?_
            · rw [ch_eq2 x4 x5 x6, maj_eq x0 x1 x2, xor3 (rotr_lt 6 x4) (rotr_lt 11 x4) (rotr_lt 25 x4), xor3 (rotr_lt 2 x0) (rotr_lt 13 x0) (rotr_lt 22 x0), mixE, mixA]
              omega
            · rw [ch_eq2 x4 x5 x6, xor3 (rotr_lt 6 x4) (rotr_lt 11 x4) (rotr_lt 25 x4), mixE]
              omega
          · go_wp2
            go_roundw
            case rel =>
              refine ⟨t2 + 1, by omega, by go_num, ?_, ?_⟩
              · rw [rounds, HV.out.2.2.1, HV.out.2.1, HV.out.1, HRNe.out]
                exact (aN.drewN _).setRow RN
              · have rt := (HAN.out.2).drewN
                exact ⟨(rt _).s.setRow_other _ (by omega) _, (rt _).r.setRow_other _ (by omega) _, (rt _).w64.setRow_other _ (by omega) _, below_setRow (rt _).below (by omega) _⟩
            case measure => simp [intOf]; omega
        · have ht64' : t2 = 64 := by omega
          rw [ht64'] at aN
          clear ht64'
          have hfin : take16 S (words xs) = List.zipWith (fun x y => (x + y) % 4294967296) (rounds W S 64) S := by rw [take16, HZ.out.1]
          obtain ⟨R, hR⟩ : ∃ R, rounds W S 64 = R := ⟨_, rfl⟩
          have hR8 : R.length = 8 := hR ▸ rounds_length W S HS.out 64
          rw [hR] at aN hfin
          have hX8 : (take16 S (words xs)).length = 8 := take16_length S _ HS.out
          obtain ⟨X, hX⟩ : ∃ X, take16 S (words xs) = X := ⟨_, rfl⟩
          rw [hX] at hfin hX8
          have HXe := Lib.hid hX
          have sA := rt.s
          have rA := rt.r
          have c0 := aN.cell (i := 0) (by omega)
          have d0 := sA.cell (i := 0) (by rw [HS.out]; omega)
          have c1 := aN.cell (i := 1) (by omega)
          have d1 := sA.cell (i := 1) (by rw [HS.out]; omega)
          have c2 := aN.cell (i := 2) (by omega)
          have d2 := sA.cell (i := 2) (by rw [HS.out]; omega)
          have c3 := aN.cell (i := 3) (by omega)
          have d3 := sA.cell (i := 3) (by rw [HS.out]; omega)
          have c4 := aN.cell (i := 4) (by omega)
          have d4 := sA.cell (i := 4) (by rw [HS.out]; omega)
          have c5 := aN.cell (i := 5) (by omega)
          have d5 := sA.cell (i := 5) (by rw [HS.out]; omega)
          have c6 := aN.cell (i := 6) (by omega)
          have d6 := sA.cell (i := 6) (by rw [HS.out]; omega)
          have c7 := aN.cell (i := 7) (by omega)
          have d7 := sA.cell (i := 7) (by rw [HS.out]; omega)
          obtain ⟨v0, hv0⟩ : ∃ v, R.getD 0 0 = v := ⟨_, rfl⟩
          obtain ⟨u0s, hu0⟩ : ∃ v, S.getD 0 0 = v := ⟨_, rfl⟩
          rw [hv0] at c0
          rw [hu0] at d0
          obtain ⟨v1, hv1⟩ : ∃ v, R.getD 1 0 = v := ⟨_, rfl⟩
          obtain ⟨u1s, hu1⟩ : ∃ v, S.getD 1 0 = v := ⟨_, rfl⟩
          rw [hv1] at c1
          rw [hu1] at d1
          obtain ⟨v2, hv2⟩ : ∃ v, R.getD 2 0 = v := ⟨_, rfl⟩
          obtain ⟨u2s, hu2⟩ : ∃ v, S.getD 2 0 = v := ⟨_, rfl⟩
          rw [hv2] at c2
          rw [hu2] at d2
          obtain ⟨v3, hv3⟩ : ∃ v, R.getD 3 0 = v := ⟨_, rfl⟩
          obtain ⟨u3s, hu3⟩ : ∃ v, S.getD 3 0 = v := ⟨_, rfl⟩
          rw [hv3] at c3
          rw [hu3] at d3
          obtain ⟨v4, hv4⟩ : ∃ v, R.getD 4 0 = v := ⟨_, rfl⟩
          obtain ⟨u4s, hu4⟩ : ∃ v, S.getD 4 0 = v := ⟨_, rfl⟩
          rw [hv4] at c4
          rw [hu4] at d4
          obtain ⟨v5, hv5⟩ : ∃ v, R.getD 5 0 = v := ⟨_, rfl⟩
          obtain ⟨u5s, hu5⟩ : ∃ v, S.getD 5 0 = v := ⟨_, rfl⟩
          rw [hv5] at c5
          rw [hu5] at d5
          obtain ⟨v6, hv6⟩ : ∃ v, R.getD 6 0 = v := ⟨_, rfl⟩
          obtain ⟨u6s, hu6⟩ : ∃ v, S.getD 6 0 = v := ⟨_, rfl⟩
          rw [hv6] at c6
          rw [hu6] at d6
          obtain ⟨v7, hv7⟩ : ∃ v, R.getD 7 0 = v := ⟨_, rfl⟩
          obtain ⟨u7s, hu7⟩ : ∃ v, S.getD 7 0 = v := ⟨_, rfl⟩
          rw [hv7] at c7
          rw [hu7] at d7
          have HF := Lib.hid (And.intro hfin hR8)
          have HX8 := Lib.hid hX8
          have HV := Lib.hid (And.intro (And.intro hv0 (And.intro hv1 (And.intro hv2 (And.intro hv3 (And.intro hv4 (And.intro hv5 (And.intro hv6 hv7))))))) (And.intro hu0 (And.intro hu1 (And.intro hu2 (And.intro hu3 (And.intro hu4 (And.intro hu5 (And.intro hu6 hu7))))))))
          clear hfin hR8 hR hX hX8 hv0 hv1 hv2 hv3 hv4 hv5 hv6 hv7 hu0 hu1 hu2 hu3 hu4 hu5 hu6 hu7 aN sA
          have HRT := Lib.hid rt
          clear rt
          go_wp2_with (with_reducible refine wpList_storeE rfl (.tmp 4) (.tmp 204) rfl (w.heap.size + 1) rfl zero8 X HZ8 HX8 rA ?_ ?_)
          · rw [HF.out.1]
            exact agg_sum HS.out HF.out.2 HV.out
          · refine bodyPost_ret_by (results_cell_row (p := 4) (ty := 103) (by kernel_rfl) _ _ (w.heap.size + 1) 103 (uvs X).toArray (0, 0) _ rfl (rA.setRow X) Tryd.underlying103 rfl (by rw [List.size_toArray, uvs_length, HX8.out]; exact infoE)) rfl ?_
            exact ⟨by rw [HXe.out], below_setRow HRT.out.below (by omega) _⟩

end Go.Proofs.YtnaebjdccngeoaaDoor
