/-
  shas.taken.
-/
import Derived.Test.YthbgcijkpincfaaDoorShaInv
namespace Go.Proofs.YthbgcijkpincfaaDoor
open Go.RowKit

set_option maxRecDepth 100000 in
set_option maxHeartbeats 1000000 in
theorem taken_any (S B : List Nat) (w : World) (hS : S.length = 8) (hB : B.length = 16) (hS2 : ∀ x ∈ S, x < 4294967296) (hB2 : ∀ x ∈ B, x < 4294967296) (hk : Knows w) :
    Calls Tryd.prog 60 #[.agg (uvs S).toArray, .agg (uvs B).toArray] w fun e w' => e = .returned (.agg (uvs (take16 S B)).toArray) ∧ Below w.heap.size w w' := by
  have HS := Lib.hid hS
  have HB := Lib.hid hB
  clear hS hB
  have f1 := Arr.alloc (Arr.alloc (Arr.new w 79 S) (.cells (uvs B).toArray 100)) (.cells (uvs zero8).toArray 79)
  have f2 := Arr.alloc (Arr.new (w.alloc (.cells (uvs S).toArray 79)) 100 B) (.cells (uvs zero8).toArray 79)
  have f3 := Arr.new ((w.alloc (.cells (uvs S).toArray 79)).alloc (.cells (uvs B).toArray 100)) 79 zero8
  have bel : Below w.heap.size w (((w.alloc (.cells (uvs S).toArray 79)).alloc (.cells (uvs B).toArray 100)).alloc (.cells (uvs zero8).toArray 79)) :=
    ((below_alloc w _).alloc (by simp) _).alloc (by simp; omega) _
  have f4 := Arr.new (((w.alloc (.cells (uvs S).toArray 79)).alloc (.cells (uvs B).toArray 100)).alloc (.cells (uvs zero8).toArray 79)) 79 zero8
  rw [World.size_alloc] at f2
  rw [World.size_alloc, World.size_alloc] at f3
  rw [World.size_alloc, World.size_alloc, World.size_alloc] at f4
  rw [zero8_lit] at f1 f2 f3 f4 bel
  have F2 := Lib.hid f2
  have F3 := Lib.hid f3
  have F4 := Lib.hid f4
  have BEL := Lib.hid bel
  have HZ8 := Lib.hid (show zero8.length = 8 from rfl)
  clear f2 f3 bel
  go_enter Tryd.func60, Tryd.ntmps60
  go_wp2_with (first
    | (with_reducible refine wpList_load8 rfl (.tmp 2) rfl w.heap.size rfl S HS f1 ?_)
    | (with_reducible refine wpList_store8 rfl (.tmp 5) (.tmp 17) rfl (w.heap.size + 1 + 1 + 1) rfl zero8 S HZ8 HS f4 rfl ?_))
  have HS2 := Lib.hid hS2
  have HB2 := Lib.hid hB2
  clear hS2 hB2
  go_loopw [18] (fun i wr => ∃ (t : Nat) (W N : List Nat), t ≤ 64 ∧ i = .int .u64 (t : Int) ∧ TakeInv w S B t W N t wr) (fun i _ => 64 - (intOf i).toNat)
  case atStart =>
    refine ⟨0, B, S, by omega, rfl, HB.out, HS.out, fun j h1 h2 => ?_, Ring.start, ?_⟩
    · rw [show j % 16 = j by omega, sched_first B HB.out 48 j (by omega)]
    · exact ⟨(f1.alloc _).setRow_other _ (by omega) _, (F2.out.alloc _).setRow_other _ (by omega) _, (F3.out.alloc _).setRow_other _ (by omega) _, F4.out.setRow S, below_setRow (BEL.out.alloc (by simp; omega) _) (by omega) _⟩
  case round =>
    clear f1 f4 F2 F3 F4 BEL
    obtain ⟨t, W, N, ht, rfl, T⟩ := hrel
    have HT := Lib.hid T
    clear T
    by_cases hlt : t < 64
    · go_upto_if 22 with (fail)
      go_cut [18] from 18 to 134 (fun s18 wx => ∃ W' : List Nat, s18 = .int .u64 (t : Int) ∧ TakeInv w S B t W' N (t + 1) wx)
      case first =>
        by_cases h16 : t < 16
        · go_wp2
          go_meet
          case rel => exact ⟨W, rfl, HT.out.lw, HT.out.ln, HT.out.win.early h16, HT.out.ring, HT.out.at_⟩
        · obtain ⟨j0, v0, H0, l0, k0, b0, c0⟩ := idx16 HT.out.at_.w16 HT.out.lw t 0 ht (by decide) 0 rfl
          obtain ⟨j9, v9, H9, l9, k9, b9, c9⟩ := idx16 HT.out.at_.w16 HT.out.lw t 9 ht (by decide) 9 rfl
          obtain ⟨j1, v1, H1, l1, k1, b1, c1⟩ := idx16 HT.out.at_.w16 HT.out.lw t 1 ht (by decide) 1 rfl
          obtain ⟨j14, v14, H14, l14, k14, b14, c14⟩ := idx16 HT.out.at_.w16 HT.out.lw t 14 ht (by decide) 14 rfl
          rw [Int.add_zero] at k0
          have fr0 := HT.out.at_.w16.free j0
          have x1 : v1 < 4294967296 := HT.out.lt1 HB2.out (by omega) H1.out
          have x14 : v14 < 4294967296 := HT.out.lt14 HB2.out (by omega) H14.out
          clear b0
          go_wp2
          go_still_tail 25, (by kernel_rfl)
          still_call (still_left (mixedFar_any v1 _ x1))
          repeat still_step
          still_call (still_left (mixedNear_any v14 _ x14))
          repeat still_step
          refine wpStill_nil ?_
          change wpList _ _ _ _ _ wr.drew
          have hm := fun z hz => (TakeInv.more HT.out HB.out (by omega) hlt H0.out H9.out H1.out H14.out z hz).drew
          have HM := Lib.hid hm
          clear hm HT
          go_wp2
          go_meet
          case rel => exact ⟨_, rfl, HM.out _ (by omega)⟩
      case rest =>
        obtain ⟨W', rfl, T'⟩ := hcut
        clear HT
        obtain ⟨A, hA⟩ : ∃ A : Nat, 64 - t = A := ⟨_, rfl⟩
        have a1 : (64 : Int) - (t : Int) = (A : Int) := by omega
        have a2 : IntKind.u64.wrap (A : Int) = (A : Int) := u64_id (by omega)
        have hkt := hk t hlt
        have hkr : wc.cell? ⟨2, t, none⟩ = some (.int .u32 ((kAdd.getD t 0 : Nat) : Int)) := (T'.at_.below.cell (World.block_lt_of_cell? w _ hkt)).trans hkt
        have hA2 : A ≤ 64 := by omega
        have lt : (t : Int) < 64 := by omega
        obtain ⟨j0, hj0⟩ : ∃ j : Nat, t % 16 = j := ⟨_, rfl⟩
        have lj : (j0 : Int) < 16 := by omega
        have kj : (t : Int).tmod 16 = (j0 : Int) := tm16 (by omega)
        have cj := T'.at_.w16.cell (i := j0) (by rw [T'.lw]; omega)
        obtain ⟨i0, v0, H0, l0, k0, b0, c0⟩ := idx8 T'.at_.n8 T'.ln A 0 hA2 (by decide) 0 rfl
        obtain ⟨i1, v1, H1, l1, k1, b1, c1⟩ := idx8 T'.at_.n8 T'.ln A 1 hA2 (by decide) 1 rfl
        obtain ⟨i2, v2, H2, l2, k2, b2, c2⟩ := idx8 T'.at_.n8 T'.ln A 2 hA2 (by decide) 2 rfl
        obtain ⟨i3, v3, H3, l3, k3, b3, c3⟩ := idx8 T'.at_.n8 T'.ln A 3 hA2 (by decide) 3 rfl
        obtain ⟨i4, v4, H4, l4, k4, b4, c4⟩ := idx8 T'.at_.n8 T'.ln A 4 hA2 (by decide) 4 rfl
        obtain ⟨i5, v5, H5, l5, k5, b5, c5⟩ := idx8 T'.at_.n8 T'.ln A 5 hA2 (by decide) 5 rfl
        obtain ⟨i6, v6, H6, l6, k6, b6, c6⟩ := idx8 T'.at_.n8 T'.ln A 6 hA2 (by decide) 6 rfl
        obtain ⟨i7, v7, H7, l7, k7, b7, c7⟩ := idx8 T'.at_.n8 T'.ln A 7 hA2 (by decide) 7 rfl
        rw [Int.add_zero] at k0
        have m3 : ((A : Int) + 3) % 8 = (i3 : Int) := by rw [← k3, Int.tmod_eq_emod_of_nonneg (by omega)]
        have m7 : ((A : Int) + 7) % 8 = (i7 : Int) := by rw [← k7, Int.tmod_eq_emod_of_nonneg (by omega)]
        have n37 : ¬ i3 = i7 := by have := H3.out.1; have := H7.out.1; omega
        have fr3 := T'.at_.n8.free i3
        have fr7 := T'.at_.n8.free i7
        obtain ⟨wt, hwt⟩ : ∃ wt : Nat, W'.getD j0 0 = wt := ⟨_, rfl⟩
        obtain ⟨kt, hkk⟩ : ∃ kt : Nat, kAdd.getD t 0 = kt := ⟨_, rfl⟩
        rw [hwt] at cj
        rw [hkk] at hkr
        have x4 : v4 < 4294967296 := T'.ltN HS2.out hA (by decide) H4.out
        have x0 : v0 < 4294967296 := T'.ltN HS2.out hA (by decide) H0.out
        have HNX := Lib.hid (fun x y hx hy q => T'.next HS2.out hA hlt hkk hj0 hwt H0.out H1.out H2.out H3.out H4.out H5.out H6.out H7.out x y hx hy q)
        clear T' hk hA hj0 hkt b0 hwt hkk
        go_wp2
        go_quiet (fail)
        go_wp2
        go_quiet (fail)
        go_wp2
        go_quiet ((go_at_call 69; exact quiet_add_left (mixedE_any v4 _ x4)))
        go_wp2_with (go_at_call 70; refine (mixedA_any v0 _ x0).mono ?_; rintro e w' ⟨rfl, rfl⟩)
        go_roundw
        case rel =>
          obtain ⟨N', hN'⟩ := HNX.out _ _ rfl rfl _
          exact ⟨t + 1, W', N', by omega, by go_num, hN'⟩
        case measure => simp [intOf]; omega
    · have ht64 : t = 64 := by omega
      have hrg := HT.out.ring
      rw [ht64] at hrg
      have hN := hrg.end_ (rounds_length _ S HS.out 64) HT.out.ln
      have hq : Sum8 (rounds (sched B 48) S 64) S 0 N := ⟨HT.out.ln, fun i hi => by rw [if_neg (by omega), hN]⟩
      have TA := HT.out.at_
      clear HT hN hk ht64 hrg
      have HQ := Lib.hid hq
      clear hq
      go_wp2
      go_loopw [135] (fun i wr => ∃ (j : Nat) (N : List Nat), j ≤ 8 ∧ i = .int .i64 (j : Int) ∧ Sum8 (rounds (sched B 48) S 64) S j N ∧ TakenAt w S W N wr) (fun i _ => 8 - (intOf i).toNat)
      case atStart => exact ⟨0, N, by omega, rfl, HQ.out, TA⟩
      case round =>
        clear HQ TA
        obtain ⟨j, N, hj, rfl, Q, TA⟩ := hrel
        by_cases hl : j < 8
        · have c1 := TA.n8.cell (i := j) (by rw [Q.1]; exact hl)
          have c2 := TA.s.cell (i := j) (by rw [HS.out]; exact hl)
          have fr := TA.n8.free j
          obtain ⟨a, ha⟩ : ∃ a : Nat, N.getD j 0 = a := ⟨_, rfl⟩
          obtain ⟨b, hb⟩ : ∃ b : Nat, S.getD j 0 = b := ⟨_, rfl⟩
          rw [ha] at c1
          rw [hb] at c2
          have hjl : (j : Int) < 8 := by omega
          have HQ := Lib.hid (Q.step hl ha hb)
          have HT := Lib.hid (TA.setN j ((a + b) % 4294967296)).drew
          clear Q TA ha hb
          go_wp2
          go_still_tail 8, (by kernel_rfl)
          go_wp2
          go_roundw
          case rel =>
            refine ⟨j + 1, _, by omega, by go_num, HQ.out, ?_⟩
            exact HT.out
          case measure => simp [intOf]; omega
        · obtain rfl : j = 8 := by omega
          obtain rfl := Q.end_ HS.out
          clear Q
          have HL := Lib.hid (take16_length S B HS.out)
          have n8 := TA.n8
          have r8 := TA.r8
          go_wp2_with (first
            | (with_reducible refine wpList_load8 rfl (.tmp 5) rfl (w.heap.size + 1 + 1 + 1) rfl (take16 S B) HL n8 ?_)
            | (with_reducible refine wpList_store8 rfl (.tmp 4) (.tmp 147) rfl (w.heap.size + 1 + 1) rfl zero8 (take16 S B) HZ8 HL r8 rfl ?_))
          refine bodyPost_ret_by (results_cell_row (p := 4) (ty := 79) (by kernel_rfl) _ _ (w.heap.size + 1 + 1) 79 (uvs (take16 S B)).toArray (0, 0) _ rfl (r8.setRow _) Tryd.underlying79 rfl (by rw [List.size_toArray, uvs_length, HL.out]; exact info8)) rfl ?_
          exact ⟨rfl, below_setRow TA.below (by omega) _⟩

end Go.Proofs.YthbgcijkpincfaaDoor
