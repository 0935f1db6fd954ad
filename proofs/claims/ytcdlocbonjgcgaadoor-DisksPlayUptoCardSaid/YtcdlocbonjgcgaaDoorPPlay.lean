/-
  DisksPlay: the walk.
-/
import Derived.Test.YtcdlocbonjgcgaaDoorPStage
import Derived.Deep.RegionHeld3
namespace Go.Proofs.YtcdlocbonjgcgaaDoor
open Go.RowKit

section
variable {base : Nat} {O O1 : Nat → Prop} {w W W1 W5 W6 : World} {gd gm gc gm' kb N xb tb m k p q : Nat} {s s' r r' sc rc : St} {bs : Value} {hs : List Held} {x : Deed} {B K : Option Addr} {Fc : Nat → Prop}
/-- The disk that is left goes on, the document's too. -/
theorem Mid.failed (h0 : Mid base O w W kb gd gm s r bs hs N xb tb x B m k K p q) (h : Mid base O1 w W5 kb gd gm s' r bs hs N xb tb x B m k K p q) (hc : Disk W5 gc Fc sc) (hF : ∀ y, Fc y → W.heap.size ≤ y) (hs5 : W.heap.size ≤ W5.heap.size) (hm : RMade W5 rc gm' W6) :
    Mid base O w W6 kb gc gm' sc rc bs hs N xb tb x B m k K p q := by
  have h6 := h.below hm.2
  have hbl := h0.pair.bl
  have hol := h0.pair.ol
  have hs6 := hm.2.size
  refine ⟨⟨Fc, _, hc.below hm.2, hm.1, fun y hy hg => ?_, fun y hy => ⟨?_, fun e => ?_⟩, fun y hy => ⟨?_, fun e => ?_⟩, fun y hy => ?_, ?_⟩, h6.book, h6.bel, h6.row, h6.twin, h0.oi, h0.ox, h0.ot, h0.xn, h0.tn, h0.bt⟩
  · have := disk_lt hc y hy; have := hg.1; omega
  · have := hF y hy; omega
  · have := hF y hy; have := hol y e; omega
  · have := hy.1; omega
  · have := hy.1; have := hol y e; omega
  · have := hol y hy; omega
  · omega
/-- The Book is new. -/
theorem stage_new (h : Pair base (fun _ => False) W gd s gm s) (hb : Below base w W) (hw : s.waits = []) :
    Stage base w (W.alloc (.cells #[.int .i64 0, .slice none 0 0, .slice none 0 0, .slice none 0 0, .slice none 0 0, .slice none 0 0, .slice none 0 0, .slice none 0 0, .slice none 0 0, .slice none 0 0] 41)) W.heap.size gd gm s (.slice none 0 0) [] 0 0 := by
  have hl := h.bl
  have hb4 := below_alloc W (.cells #[.int .i64 0, .slice none 0 0, .slice none 0 0, .slice none 0 0, .slice none 0 0, .slice none 0 0, .slice none 0 0, .slice none 0 0, .slice none 0 0, .slice none 0 0] 41)
  have hk := Keeping.new (w := W) hl
  refine ⟨h.turn (S := fun _ => False) (But.of_below hb4) (fun _ e => e.elim) (fun y hy => ?_) (fun y hy => (hk.lt y hy).2), hk, hb.trans (hb4.mono hl), by omega, by rw [hw]; exact Nat.le_refl _⟩
  rcases hy with e | e | ⟨i, k, hk, _⟩
  · exact .inr (by omega)
  · cases e
  · simp at hk
end

theorem drewN_below (W : World) (q : Nat) : Below W.heap.size W (W.drewN q) := ⟨rfl, rfl, rfl, Nat.le_refl _, fun _ _ => rfl⟩

set_option maxRecDepth 100000 in
set_option maxHeartbeats 8000000 in
theorem disksPlay_law (w : World) {A : Option Addr} {n c : Nat} {ds : List Deed} (z : Int) (h : CameActs w A n ds) (hn : n ≤ 1048576) :
    Calls Tryd.prog 3 #[.int .i64 z, .slice A n c] w fun e w' => e = .returned (.bool true) ∧ Below w.heap.size w w' := by
  have HG := Lib.hid (great_any (c := c) h hn)
  by_cases hg : 400 < weight ds n
  · go_enter Tryd.func3, Tryd.ntmps3
    go_wp2_with fail
    refine HG.out.mono ?_
    rintro e w1 ⟨rfl, b1⟩
    rw [decide_eq_true hg]
    have B1 := Lib.hid b1
    clear b1
    go_wp2
    go_ret
    exact ⟨rfl, B1.out⟩
  · have hn200 : n ≤ 200 := by have := weight_ge (ds := ds) (j := n) (by rw [h.len]; exact Nat.le_refl _); omega
    by_cases hz : 1 ≤ z ∧ z ≤ 4096
    · obtain ⟨n0, rfl⟩ := Int.eq_ofNat_of_zero_le (show 0 ≤ z by omega)
      have C1 := fun w => Lib.hid (new_yes w n0 (by omega) (by omega))
      have C2 := fun w => Lib.hid (rnew_yes w n0 (by omega) (by omega))
      have HD := Lib.hid h
      clear hz h
      go_enter Tryd.func3, Tryd.ntmps3
      go_wp2_with fail
      refine HG.out.mono ?_
      rintro e w1 ⟨rfl, b1⟩
      rw [decide_eq_false hg]
      have B1 := Lib.hid b1
      clear b1 HG
      go_wp2_with fail
      refine (C1 w1).out.mono ?_
      rintro e w2 ⟨gd, rfl, m2⟩
      have M2 := Lib.hid m2
      clear m2 C1
      go_wp2_with fail
      refine (C2 w2).out.mono ?_
      rintro e w3 ⟨gm, rfl, m3⟩
      have P3 : Hid (Pair w.heap.size (fun _ => False) w3 gd (fresh (zeros n0)) gm (fresh (zeros n0))) := pair_new M2.out m3 B1.out.size
      have B3 : Hid (Below w.heap.size w w3) := B1.out.trans ((M2.out.2.mono B1.out.size).trans (m3.2.mono (Nat.le_trans B1.out.size M2.out.2.size)))
      clear m3 C2 M2 B1
      go_upto_region 8 with (fail)
      have hS4 := Lib.hid (stage_new P3.out B3.out rfl)
      obtain ⟨W4, hW4⟩ : ∃ W4, w3.alloc (Obj.cells #[Value.int IntKind.i64 0, Value.slice none 0 0, Value.slice none 0 0, Value.slice none 0 0, Value.slice none 0 0, Value.slice none 0 0, Value.slice none 0 0, Value.slice none 0 0, Value.slice none 0 0, Value.slice none 0 0] 41) = W4 := ⟨_, rfl⟩
      obtain ⟨kb, hkb⟩ : ∃ kb, w3.heap.size = kb := ⟨_, rfl⟩
      rw [hW4, hkb] at hS4
      rw [hW4, hkb]
      clear hW4 hkb P3 B3
      go_wp2
      go_loopw [5, 7, 10] (fun dv mv i wr => ∃ (j gd gm : Nat) (s : St) (bs : Value) (hs : List Held) (N : Nat), j ≤ n ∧ i = .int .i64 (j : Int) ∧ dv = .pointer (some ⟨gd, 0, none⟩) ∧ mv = .pointer (some ⟨gm, 0, none⟩) ∧ Hid (Stage w.heap.size w wr kb gd gm s bs hs N j)) (fun _ _ i _ => n - (intOf i).toNat)
      case atStart => exact ⟨0, gd, gm, _, _, _, 0, Nat.zero_le _, rfl, rfl, rfl, hS4⟩
      case round =>
        clear hS4
        obtain ⟨j, gd, gm, s, bs, hs, N, hj, rfl, rfl, rfl, hrel⟩ := hrel
        by_cases hlt : j < n
        · have hji : (j : Int) < (n : Int) := by omega
          obtain ⟨x, hx⟩ : ∃ x, ds[j]? = some x := ⟨_, List.getElem?_eq_getElem (by rw [HD.out.len]; exact hlt)⟩
          obtain ⟨ad, B, m, k, K, p, q, rfl, hd⟩ := HD.out.row j x hx
          have hdw := Lib.hid hd
          have hd := hd.below hrel.out.bel
          have c0 : wr.cell? (ad.add (j * 6)) = some (.int .u8 (x.kind : Int)) := by have := hd.c0; rwa [show (ad.add (j * 6)).add 0 = ad.add (j * 6) from by rw [add_add]; rfl] at this
          have c1 : wr.cell? ⟨(ad.add (j * 6)).block, (ad.add (j * 6)).off + 1, none⟩ = some (.int .i64 x.n) := by rw [← add_pos _ (by decide)]; exact hd.c1
          have c2 : wr.cell? ⟨(ad.add (j * 6)).block, (ad.add (j * 6)).off + 2, none⟩ = some (.slice B m k) := by rw [← add_pos _ (by decide)]; exact hd.c2
          have c3 : wr.cell? ⟨(ad.add (j * 6)).block, (ad.add (j * 6)).off + 3, none⟩ = some (.int .i64 x.at_) := by rw [← add_pos _ (by decide)]; exact hd.c3
          have c4 : wr.cell? ⟨(ad.add (j * 6)).block, (ad.add (j * 6)).off + 4, none⟩ = some (.int .u8 (x.by_ : Int)) := by rw [← add_pos _ (by decide)]; exact hd.c4
          have c5 : wr.cell? ⟨(ad.add (j * 6)).block, (ad.add (j * 6)).off + 5, none⟩ = some (.slice K p q) := by rw [← add_pos _ (by decide)]; exact hd.c5
          have HX := Lib.hid hx
          clear hx hd
          go_upto_region 12 with (fail)
          obtain ⟨W1, hW1⟩ : ∃ W1, wr.alloc (Obj.cells #[Value.int IntKind.u8 (x.kind : Int), Value.int IntKind.i64 x.n, Value.slice B m k, Value.int IntKind.i64 x.at_, Value.int IntKind.u8 (x.by_ : Int), Value.slice K p q] 45) = W1 := ⟨_, rfl⟩
          obtain ⟨xb, hxb⟩ : ∃ xb, wr.heap.size = xb := ⟨_, rfl⟩
          have bW1 : Below w.heap.size w W1 := hrel.out.bel.trans ((hW1 ▸ below_alloc wr _ : Below wr.heap.size wr W1).mono hrel.out.bel.size)
          have hm1 : m ≤ 1048576 := hdw.out.m_le
          have CT := Lib.hid (twinBytes_any B m k x.xs W1 (hdw.out.bytes.in_.below bW1) (by omega))
          have x2 : W1.cell? ⟨xb, 2, none⟩ = some (.slice B m k) := by rw [← hW1, ← hxb, cell_of_row _ _ 2 _ _ (0, 0) (World.alloc_heap_new wr _)]; rfl
          have HW1 := Lib.hid (And.intro hW1 hxb)
          rw [hW1, hxb]
          clear hW1 hxb bW1 c0 c1 c2 c3 c4 c5
          go_wp2_with fail
          refine CT.out.mono ?_
          rintro e w2 ⟨rfl, ht2, hb2⟩
          have hM := Stage.mid hrel.out HW1.out.1.symm ht2 hb2
          obtain ⟨tb, htb⟩ : ∃ tb, W1.heap.size = tb := ⟨_, rfl⟩
          rw [HW1.out.2, htb] at hM
          rw [htb]
          generalize (fun y => InBook kb bs hs y ∨ y = xb ∨ y = tb) = O at hM
          have hN1 : N ≤ 2 * j := hrel.out.n_le
          have hw1 : s.waits.length ≤ j := hrel.out.w_le
          have c0 := hM.c0
          have M := Lib.hid hM
          obtain ⟨kd, hkd⟩ : ∃ kd, x.kind % 9 = kd := ⟨_, rfl⟩
          have hk1 : Int.tmod (x.kind : Int) 9 = (kd : Int) := by rw [Int.tmod_eq_emod_of_nonneg (by omega), ← hkd]; simp
          have hk2 : (x.kind : Int) % 9 = (kd : Int) := by omega
          clear CT ht2 hb2 htb HW1 x2 hM hkd hrel
          by_cases h4 : kd = 4
          · subst h4
            have c1 := M.out.c1
            go_wp2_with fail
            refine (play_read M.out.pair).mono ?_
            rintro e w4 ⟨A4, n4, k4, rfl, e4, l4, i4, o4, b4⟩
            have M4 := Lib.hid (M.out.below b4)
            have KK : Hid (∀ W, Below w4.heap.size w4 W → Calls Tryd.prog 11 #[.pointer (some ⟨kb, 0, none⟩), .slice A4 n4 k4] W fun e W' => e = .returned (.tuple #[]) ∧ Hid (∃ O' bs' hs', Mid w.heap.size O' w W' kb gd gm s s bs' hs' (N + 1) xb tb x B m k K p q)) := fun W hW => M.out.keepRead o4 b4 hW (by omega) (by omega)
            have I4 := Lib.hid i4
            have E4 := Lib.hid (And.intro e4 l4)
            have c1 := M4.out.c1
            clear b4 c0 M o4 i4 e4 l4
            go_wp2_with fail
            refine (play_rread M4.out.pair).mono ?_
            rintro e w5 ⟨A5, n5, k5, rfl, e5, i5, b5⟩
            have en : n5 = n4 := by rw [e5, ← E4.out.1]
            subst en
            have C5 := Lib.hid (sameBytes_yes A4 A5 n5 k4 k5 _ w5 (I4.out.below b5) i5 (by have := E4.out.2; omega))
            have B5 := Lib.hid b5
            clear M4 e5 i5 b5 c1 I4 E4
            go_wp2_with fail
            refine C5.out.mono ?_
            rintro e _ ⟨rfl, q5, rfl⟩
            have C6 := Lib.hid (KK.out (w5.drewN q5) (below_then B5.out (drewN_below _ q5)))
            clear C5 KK
            go_wp2_with fail
            refine C6.out.mono ?_
            rintro e w6 ⟨rfl, h6⟩
            obtain ⟨O6, bs6, hs6, M6⟩ := h6.out
            have MT := Lib.hid M6
            have HT : Hid (s.waits.length ≤ j + 1) := Nat.le_succ_of_le hw1
            clear C6 h6 M6 B5

            go_wp2_with fail
            refine (play_blown MT.out.pair).mono ?_
            rintro e _ ⟨rfl, rfl⟩
            go_wp2_with fail
            refine (play_rblown MT.out.pair).mono ?_
            rintro e _ ⟨rfl, rfl⟩
            go_wp2_with fail
            refine (play_waits MT.out.pair).mono ?_
            rintro e _ ⟨rfl, rfl⟩
            go_wp2_with fail
            refine (play_rwaits MT.out.pair).mono ?_
            rintro e _ ⟨rfl, rfl⟩
            go_wp2_with fail
            refine (play_len MT.out.pair).mono ?_
            rintro e _ ⟨rfl, rfl⟩
            go_wp2_with fail
            refine (play_rlen MT.out.pair).mono ?_
            rintro e _ ⟨rfl, rfl⟩
            have t2 := MT.out.c2
            have CL := Lib.hid (leftBytes_yes B tb m k x.xs _ MT.out.twin (hdw.out.bytes.in_.below MT.out.bel) (by omega))
            go_wp2_with fail
            refine CL.out.mono ?_
            rintro e _ ⟨rfl, qd, rfl⟩
            have CB := Lib.hid (((MT.out.below (drewN_below _ qd)).last (j := j) (by omega) (by omega) (by omega) HT.out).mono fun e w' h => show e = .returned (.tuple #[]) ∧ Hid (∃ bs' hs', Stage w.heap.size w w' kb gd gm s bs' hs' ((N + 1) + 1) (j + 1)) from h)
            clear CL t2 MT HT
            go_wp2_with fail
            refine CB.out.mono ?_
            rintro e w9 ⟨rfl, hS⟩
            clear CB
            go_wp2
            go_roundw
            case rel =>
              obtain ⟨bs', hs', hS⟩ := hS.out
              exact ⟨j + 1, gd, gm, s, bs', hs', (N + 1) + 1, by omega, by go_num, rfl, rfl, Lib.hid hS⟩
            case measure => simp [intOf]; omega
          by_cases h5 : kd = 5
          · subst h5
            go_wp2_with fail
            refine (play_sync M.out.pair).mono ?_
            rintro e w4 ⟨rfl, p4, b4⟩
            have M4 := Lib.hid (M.out.act p4 b4)
            clear p4 b4 c0
            go_wp2_with fail
            refine (play_rsync M4.out.pair).mono ?_
            rintro e w5 ⟨rfl, p5, b5⟩
            have MT := Lib.hid (M4.out.act p5 b5)
            have HT := Lib.hid (Nat.le_trans (snext_waits s) (Nat.le_succ_of_le hw1))
            clear p5 b5 M M4

            go_wp2_with fail
            refine (play_blown MT.out.pair).mono ?_
            rintro e _ ⟨rfl, rfl⟩
            go_wp2_with fail
            refine (play_rblown MT.out.pair).mono ?_
            rintro e _ ⟨rfl, rfl⟩
            go_wp2_with fail
            refine (play_waits MT.out.pair).mono ?_
            rintro e _ ⟨rfl, rfl⟩
            go_wp2_with fail
            refine (play_rwaits MT.out.pair).mono ?_
            rintro e _ ⟨rfl, rfl⟩
            go_wp2_with fail
            refine (play_len MT.out.pair).mono ?_
            rintro e _ ⟨rfl, rfl⟩
            go_wp2_with fail
            refine (play_rlen MT.out.pair).mono ?_
            rintro e _ ⟨rfl, rfl⟩
            have t2 := MT.out.c2
            have CL := Lib.hid (leftBytes_yes B tb m k x.xs _ MT.out.twin (hdw.out.bytes.in_.below MT.out.bel) (by omega))
            go_wp2_with fail
            refine CL.out.mono ?_
            rintro e _ ⟨rfl, qd, rfl⟩
            have CB := Lib.hid (((MT.out.below (drewN_below _ qd)).last (j := j) (by omega) (by omega) (by omega) HT.out).mono fun e w' h => show e = .returned (.tuple #[]) ∧ Hid (∃ bs' hs', Stage w.heap.size w w' kb gd gm s.snext bs' hs' (N + 1) (j + 1)) from h)
            clear CL t2 MT HT
            go_wp2_with fail
            refine CB.out.mono ?_
            rintro e w9 ⟨rfl, hS⟩
            clear CB
            go_wp2
            go_roundw
            case rel =>
              obtain ⟨bs', hs', hS⟩ := hS.out
              exact ⟨j + 1, gd, gm, s.snext, bs', hs', N + 1, by omega, by go_num, rfl, rfl, Lib.hid hS⟩
            case measure => simp [intOf]; omega
          by_cases h6 : kd = 6
          · subst h6
            have c5 := M.out.c5
            obtain ⟨F0, G0, T0⟩ := M.out.pair
            obtain ⟨sf, hsf⟩ : ∃ sf, fresh (settle s.sure (kept s.waits x.ks)) = sf := ⟨_, rfl⟩
            have C0 := fail_any K p q x.ks (hdw.out.bools.in_.below M.out.bel) T0.d
            rw [hsf] at C0
            have sfw : sf.waits = [] := by rw [← hsf]; rfl
            have sfb : sf.blown = false := by rw [← hsf]; rfl
            have C0 := Lib.hid C0
            have HS := Lib.hid (And.intro hsf (And.intro sfw sfb))
            clear hsf sfw sfb T0
            go_wp2_with fail
            refine C0.out.mono ?_
            rintro e w4 ⟨gc, rfl, hM4⟩
            have M4 := Lib.hid (M.out.more hM4.2 (L := fun b => w2.heap.size ≤ b ∧ b < w4.heap.size) (fun b h => h))
            have D4 := Lib.hid hM4.1
            have s4 := hM4.2.size
            have S4 := Lib.hid s4
            have C1 : Hid (Calls Tryd.prog 15 #[.pointer (some ⟨gc, 0, none⟩)] w4 fun e w' => e = .returned (.bool false) ∧ w4 = w') := by have := blown_any D4.out; rwa [HS.out.2.2] at this
            have C2 : Hid (Calls Tryd.prog 16 #[.pointer (some ⟨gc, 0, none⟩)] w4 fun e w' => e = .returned (.int .i64 0) ∧ w4 = w') := by have := waits_any D4.out; rwa [HS.out.2.1] at this
            clear hM4 C0 c0 c5 s4
            go_wp2_with fail
            refine C1.out.mono ?_
            rintro e _ ⟨rfl, rfl⟩
            go_wp2_with fail
            refine C2.out.mono ?_
            rintro e _ ⟨rfl, rfl⟩
            clear C1 C2
            go_wp2_with fail
            refine (play_fuse (z := -1) (by omega) M4.out.pair).mono ?_
            rintro e w5 ⟨rfl, p5, b5⟩
            have M5 := Lib.hid (M4.out.act p5 b5)
            have D5 := Lib.hid (D4.out.but b5 (fun y hy o => o.2 (.inr hy)))
            have S5 := Lib.hid (Nat.le_trans S4.out b5.size)
            have M6 := Lib.hid (M5.out.more (below_alloc w5 (Obj.cells #[Value.int IntKind.u8 1] 5)) (L := fun b => b = w5.heap.size) (fun b h => by rw [h, World.size_alloc]; omega))
            have D6 := Lib.hid (D5.out.below (below_alloc w5 (Obj.cells #[Value.int IntKind.u8 1] 5)))
            have CW := Lib.hid (play_write (z := 0) (A := some ⟨w5.heap.size, 0, none⟩) (n := 1) (c := 1) (xs := [1]) M6.out.pair (in_one _) (fun y hy => by simp at hy; omega) (fun _ ad e o => by cases e; exact o.2 (.inr rfl)) (show s.waits.length ≤ 1000000 by omega))
            clear p5 b5 D4 M4 D5 M5
            go_wp2_with fail
            refine CW.out.mono ?_
            rintro e w7 ⟨rfl, p7, b7⟩
            have M7 := Lib.hid (M6.out.act p7 b7)
            have D7 := Lib.hid (D6.out.but b7 (fun y hy o => o.2 (.inl (.inr hy))))
            have S7 : Hid (w2.heap.size ≤ w7.heap.size) := Nat.le_trans S5.out (Nat.le_trans (by rw [World.size_alloc]; omega) b7.size)
            clear p7 b7 D6 M6 CW S5 S4
            go_wp2_with fail
            refine (play_sync M7.out.pair).mono ?_
            rintro e w8 ⟨rfl, p8, b8⟩
            have M8 := Lib.hid (M7.out.act p8 b8)
            have D8 := Lib.hid (D7.out.but b8 (fun y hy o => o.2 (.inl (.inr hy))))
            have S8 : Hid (w2.heap.size ≤ w8.heap.size) := Nat.le_trans S7.out b8.size
            obtain ⟨F8, G8, T8⟩ := M8.out.pair
            have C8 := rfail_any K p q x.ks (hdw.out.bools.in_.below M8.out.bel) T8.m
            rw [HS.out.1] at C8
            have C8 := Lib.hid C8
            have c5 := M8.out.c5
            clear p8 b8 D7 M7 S7 T8
            go_wp2_with fail
            refine C8.out.mono ?_
            rintro e w9 ⟨gm2, rfl, hM9⟩
            have MT := Lib.hid (Mid.failed M.out M8.out D8.out (fun y hy => hy.1) S8.out hM9)
            have HT : Hid (sf.waits.length ≤ j + 1) := by rw [HS.out.2.1]; exact Nat.zero_le _
            clear hM9 D8 M8 S8 C8 c5 M

            go_wp2_with fail
            refine (play_blown MT.out.pair).mono ?_
            rintro e _ ⟨rfl, rfl⟩
            go_wp2_with fail
            refine (play_rblown MT.out.pair).mono ?_
            rintro e _ ⟨rfl, rfl⟩
            go_wp2_with fail
            refine (play_waits MT.out.pair).mono ?_
            rintro e _ ⟨rfl, rfl⟩
            go_wp2_with fail
            refine (play_rwaits MT.out.pair).mono ?_
            rintro e _ ⟨rfl, rfl⟩
            go_wp2_with fail
            refine (play_len MT.out.pair).mono ?_
            rintro e _ ⟨rfl, rfl⟩
            go_wp2_with fail
            refine (play_rlen MT.out.pair).mono ?_
            rintro e _ ⟨rfl, rfl⟩
            have t2 := MT.out.c2
            have CL := Lib.hid (leftBytes_yes B tb m k x.xs _ MT.out.twin (hdw.out.bytes.in_.below MT.out.bel) (by omega))
            go_wp2_with fail
            refine CL.out.mono ?_
            rintro e _ ⟨rfl, qd, rfl⟩
            have CB := Lib.hid (((MT.out.below (drewN_below _ qd)).last (j := j) (by omega) (by omega) (by omega) HT.out).mono fun e w' h => show e = .returned (.tuple #[]) ∧ Hid (∃ bs' hs', Stage w.heap.size w w' kb gc gm2 sf bs' hs' (N + 1) (j + 1)) from h)
            clear CL t2 MT HT
            go_wp2_with fail
            refine CB.out.mono ?_
            rintro e w9 ⟨rfl, hS⟩
            clear CB
            go_wp2
            go_roundw
            case rel =>
              obtain ⟨bs', hs', hS⟩ := hS.out
              exact ⟨j + 1, gc, gm2, sf, bs', hs', N + 1, by omega, by go_num, rfl, rfl, Lib.hid hS⟩
            case measure => simp [intOf]; omega
          by_cases h7 : kd = 7
          · subst h7
            go_upto_region 35 with (fail)

            have PP := Lib.hid M.out.drew
            have c1 := PP.out.c1
            have c2 := PP.out.c2
            have c3 := PP.out.c3
            have c4 := PP.out.c4
            clear c0
            go_region_held3 (fun W' => W'.cell? ⟨xb, 1, none⟩ = some (.int .i64 x.n) ∧ W'.cell? ⟨xb, 2, none⟩ = some (.slice B m k) ∧ W'.cell? ⟨xb, 3, none⟩ = some (.int .i64 x.at_) ∧ W'.cell? ⟨xb, 4, none⟩ = some (.int .u8 (x.by_ : Int))) (first | exact ⟨c1, c2, c3, c4⟩) (first
              | (go_at_call 20; refine (play_turn hdw.out.by_lt PP.out.pair).mono ?_; rintro e w7 ⟨rfl, p7, b7⟩; have PP := Lib.hid (PP.out.act p7 b7); have c1 := PP.out.c1; have c2 := PP.out.c2; have c3 := PP.out.c3; have c4 := PP.out.c4; clear p7 b7)
              | (go_at_call 21; refine (play_rturn hdw.out.by_lt PP.out.pair).mono ?_; rintro e w8 ⟨rfl, p8, b8⟩; have PP := Lib.hid (PP.out.act p8 b8); have c1 := PP.out.c1; have c2 := PP.out.c2; have c3 := PP.out.c3; have c4 := PP.out.c4; clear p8 b8))

            all_goals
              have MT := Lib.hid PP.out
              have HT := Lib.hid (Nat.le_trans (tnext_waits s x.n x.at_ x.by_) (Nat.le_succ_of_le hw1))
              clear M PP
              go_wp2_with fail
              refine (play_blown MT.out.pair).mono ?_
              rintro e _ ⟨rfl, rfl⟩
              go_wp2_with fail
              refine (play_rblown MT.out.pair).mono ?_
              rintro e _ ⟨rfl, rfl⟩
              go_wp2_with fail
              refine (play_waits MT.out.pair).mono ?_
              rintro e _ ⟨rfl, rfl⟩
              go_wp2_with fail
              refine (play_rwaits MT.out.pair).mono ?_
              rintro e _ ⟨rfl, rfl⟩
              go_wp2_with fail
              refine (play_len MT.out.pair).mono ?_
              rintro e _ ⟨rfl, rfl⟩
              go_wp2_with fail
              refine (play_rlen MT.out.pair).mono ?_
              rintro e _ ⟨rfl, rfl⟩
              have t2 := MT.out.c2
              have CL := Lib.hid (leftBytes_yes B tb m k x.xs _ MT.out.twin (hdw.out.bytes.in_.below MT.out.bel) (by omega))
              go_wp2_with fail
              refine CL.out.mono ?_
              rintro e _ ⟨rfl, qd, rfl⟩
              have CB := Lib.hid (((MT.out.below (drewN_below _ qd)).last (j := j) (by omega) (by omega) (by omega) HT.out).mono fun e w' h => show e = .returned (.tuple #[]) ∧ Hid (∃ bs' hs', Stage w.heap.size w w' kb gd gm (s.tnext x.n x.at_ x.by_) bs' hs' (N + 1) (j + 1)) from h)
              clear CL t2 MT HT
              go_wp2_with fail
              refine CB.out.mono ?_
              rintro e w9 ⟨rfl, hS⟩
              clear CB
              go_wp2
              go_roundw
              case rel =>
                obtain ⟨bs', hs', hS⟩ := hS.out
                exact ⟨j + 1, gd, gm, (s.tnext x.n x.at_ x.by_), bs', hs', N + 1, by omega, by go_num, rfl, rfl, Lib.hid hS⟩
              case measure => simp [intOf]; omega
          by_cases h8 : kd = 8
          · subst h8
            go_upto_region 38 with (fail)

            have PP := Lib.hid M.out.drew
            have c1 := PP.out.c1
            have c2 := PP.out.c2
            have c3 := PP.out.c3
            have c4 := PP.out.c4
            clear c0
            go_region_held3 (fun W' => W'.cell? ⟨xb, 1, none⟩ = some (.int .i64 x.n) ∧ W'.cell? ⟨xb, 2, none⟩ = some (.slice B m k) ∧ W'.cell? ⟨xb, 3, none⟩ = some (.int .i64 x.at_) ∧ W'.cell? ⟨xb, 4, none⟩ = some (.int .u8 (x.by_ : Int))) (first | exact ⟨c1, c2, c3, c4⟩) (first
              | (go_at_call 17; refine (play_fuse hdw.out.n_in.2 PP.out.pair).mono ?_; rintro e w7 ⟨rfl, p7, b7⟩; have PP := Lib.hid (PP.out.act p7 b7); have c1 := PP.out.c1; have c2 := PP.out.c2; have c3 := PP.out.c3; have c4 := PP.out.c4; clear p7 b7)
              | (go_at_call 22; refine (play_rfuse hdw.out.n_in.2 PP.out.pair).mono ?_; rintro e w8 ⟨rfl, p8, b8⟩; have PP := Lib.hid (PP.out.act p8 b8); have c1 := PP.out.c1; have c2 := PP.out.c2; have c3 := PP.out.c3; have c4 := PP.out.c4; clear p8 b8))

            all_goals
              have MT := Lib.hid PP.out
              have HT : Hid ((s.fnext x.n).waits.length ≤ j + 1) := Nat.le_succ_of_le hw1
              clear M PP
              go_wp2_with fail
              refine (play_blown MT.out.pair).mono ?_
              rintro e _ ⟨rfl, rfl⟩
              go_wp2_with fail
              refine (play_rblown MT.out.pair).mono ?_
              rintro e _ ⟨rfl, rfl⟩
              go_wp2_with fail
              refine (play_waits MT.out.pair).mono ?_
              rintro e _ ⟨rfl, rfl⟩
              go_wp2_with fail
              refine (play_rwaits MT.out.pair).mono ?_
              rintro e _ ⟨rfl, rfl⟩
              go_wp2_with fail
              refine (play_len MT.out.pair).mono ?_
              rintro e _ ⟨rfl, rfl⟩
              go_wp2_with fail
              refine (play_rlen MT.out.pair).mono ?_
              rintro e _ ⟨rfl, rfl⟩
              have t2 := MT.out.c2
              have CL := Lib.hid (leftBytes_yes B tb m k x.xs _ MT.out.twin (hdw.out.bytes.in_.below MT.out.bel) (by omega))
              go_wp2_with fail
              refine CL.out.mono ?_
              rintro e _ ⟨rfl, qd, rfl⟩
              have CB := Lib.hid (((MT.out.below (drewN_below _ qd)).last (j := j) (by omega) (by omega) (by omega) HT.out).mono fun e w' h => show e = .returned (.tuple #[]) ∧ Hid (∃ bs' hs', Stage w.heap.size w w' kb gd gm (s.fnext x.n) bs' hs' (N + 1) (j + 1)) from h)
              clear CL t2 MT HT
              go_wp2_with fail
              refine CB.out.mono ?_
              rintro e w9 ⟨rfl, hS⟩
              clear CB
              go_wp2
              go_roundw
              case rel =>
                obtain ⟨bs', hs', hS⟩ := hS.out
                exact ⟨j + 1, gd, gm, (s.fnext x.n), bs', hs', N + 1, by omega, by go_num, rfl, rfl, Lib.hid hS⟩
              case measure => simp [intOf]; omega
          have q4 : ((kd : Int) == 4) = false := by simp; omega
          have q5 : ((kd : Int) == 5) = false := by simp; omega
          have q6 : ((kd : Int) == 6) = false := by simp; omega
          have q7 : ((kd : Int) == 7) = false := by simp; omega
          have q8 : ((kd : Int) == 8) = false := by simp; omega
          have HL := Lib.hid (And.intro (Nat.le_trans hw1 (show j ≤ 1000000 by omega)) (And.intro hdw.out.bytes.lt (fun (h0 : 0 < m) => came_low (O := O) hdw.out.bytes rfl h0)))
          go_upto_region 14 with (fail)

          have PP := Lib.hid M.out.drew
          have c1 := PP.out.c1
          have c2 := PP.out.c2
          have c3 := PP.out.c3
          have c4 := PP.out.c4
          clear c0
          go_region_held3 (fun W' => W'.cell? ⟨xb, 1, none⟩ = some (.int .i64 x.n) ∧ W'.cell? ⟨xb, 2, none⟩ = some (.slice B m k) ∧ W'.cell? ⟨xb, 3, none⟩ = some (.int .i64 x.at_) ∧ W'.cell? ⟨xb, 4, none⟩ = some (.int .u8 (x.by_ : Int))) (first | exact ⟨c1, c2, c3, c4⟩) (first
            | (go_at_call 18; refine (play_write PP.out.pair PP.out.twin.in_ HL.out.2.1 (fun _ ad e => by cases e; exact fun o => o.2 PP.out.ot) HL.out.1).mono ?_; rintro e w7 ⟨rfl, p7, b7⟩; have PP := Lib.hid (PP.out.act p7 b7); have c1 := PP.out.c1; have c2 := PP.out.c2; have c3 := PP.out.c3; have c4 := PP.out.c4; clear p7 b7)
            | (go_at_call 23; refine (play_rwrite PP.out.pair (hdw.out.bytes.in_.below PP.out.bel) HL.out.2.1 HL.out.2.2 HL.out.1).mono ?_; rintro e w8 ⟨rfl, p8, b8⟩; have PP := Lib.hid (PP.out.act p8 b8); have c1 := PP.out.c1; have c2 := PP.out.c2; have c3 := PP.out.c3; have c4 := PP.out.c4; clear p8 b8))

          all_goals
            have MT := Lib.hid PP.out
            have HT := Lib.hid (Nat.le_trans (wnext_waits s x.n m x.xs) (Nat.succ_le_succ hw1))
            clear M PP
            go_wp2_with fail
            refine (play_blown MT.out.pair).mono ?_
            rintro e _ ⟨rfl, rfl⟩
            go_wp2_with fail
            refine (play_rblown MT.out.pair).mono ?_
            rintro e _ ⟨rfl, rfl⟩
            go_wp2_with fail
            refine (play_waits MT.out.pair).mono ?_
            rintro e _ ⟨rfl, rfl⟩
            go_wp2_with fail
            refine (play_rwaits MT.out.pair).mono ?_
            rintro e _ ⟨rfl, rfl⟩
            go_wp2_with fail
            refine (play_len MT.out.pair).mono ?_
            rintro e _ ⟨rfl, rfl⟩
            go_wp2_with fail
            refine (play_rlen MT.out.pair).mono ?_
            rintro e _ ⟨rfl, rfl⟩
            have t2 := MT.out.c2
            have CL := Lib.hid (leftBytes_yes B tb m k x.xs _ MT.out.twin (hdw.out.bytes.in_.below MT.out.bel) (by omega))
            go_wp2_with fail
            refine CL.out.mono ?_
            rintro e _ ⟨rfl, qd, rfl⟩
            have CB := Lib.hid (((MT.out.below (drewN_below _ qd)).last (j := j) (by omega) (by omega) (by omega) HT.out).mono fun e w' h => show e = .returned (.tuple #[]) ∧ Hid (∃ bs' hs', Stage w.heap.size w w' kb gd gm (s.wnext x.n m x.xs) bs' hs' (N + 1) (j + 1)) from h)
            clear CL t2 MT HT
            go_wp2_with fail
            refine CB.out.mono ?_
            rintro e w9 ⟨rfl, hS⟩
            clear CB
            go_wp2
            go_roundw
            case rel =>
              obtain ⟨bs', hs', hS⟩ := hS.out
              exact ⟨j + 1, gd, gm, (s.wnext x.n m x.xs), bs', hs', N + 1, by omega, by go_num, rfl, rfl, Lib.hid hS⟩
            case measure => simp [intOf]; omega
        · obtain rfl : j = n := by omega
          have hji : decide ((j : Int) < (j : Int)) = false := by simp
          have HE := Lib.hid hrel.out
          clear hrel
          obtain ⟨S, hS0⟩ : ∃ S, s.sure.length = S := ⟨_, rfl⟩
          have hS := Lib.hid hS0
          clear hS0
          go_wp2
          go_loopw [19] (fun i wr => ∃ l : Nat, l ≤ 40 ∧ i = .int .i64 (l : Int) ∧ Hid (Stage w.heap.size w wr kb gd gm s bs hs N j)) (fun i _ => 40 - (intOf i).toNat)
          case atStart => exact ⟨0, Nat.zero_le _, rfl, HE⟩
          case round =>
            clear HE
            obtain ⟨l, hl, rfl, hrel⟩ := hrel
            have CL := play_rlen hrel.out.pair
            rw [hS.out] at CL
            have CL := Lib.hid CL
            have CA := Lib.hid (apart_bytes kb N w.heap.size bs hs _ hrel.out.book)
            by_cases hlS : l < S
            · have f1 : (l : Int) < (S : Int) := by omega
              by_cases hl4 : l < 40
              · have f2 : (l : Int) < 40 := by omega
                go_wp2_with fail
                refine CL.out.mono ?_
                rintro e _ ⟨rfl, rfl⟩
                clear CL CA
                go_wp2_with fail
                refine (play_read hrel.out.pair).mono ?_
                rintro e w4 ⟨A4, n4, k4, rfl, e4, l4, i4, o4, b4⟩
                have M4 := Lib.hid (hrel.out.below b4)
                have I4 := Lib.hid i4
                have E4 := Lib.hid (And.intro e4 l4)
                clear b4 o4 i4 e4 l4
                go_wp2_with fail
                refine (play_rread M4.out.pair).mono ?_
                rintro e w5 ⟨A5, n5, k5, rfl, e5, i5, b5⟩
                have en : n5 = n4 := by rw [e5, ← E4.out.1]
                subst en
                have C5 := Lib.hid (sameBytes_yes A4 A5 n5 k4 k5 _ w5 (I4.out.below b5) i5 (by have := E4.out.2; omega))
                have M5 := Lib.hid (M4.out.below b5)
                clear M4 e5 i5 b5 I4 E4
                go_wp2_with fail
                refine C5.out.mono ?_
                rintro e _ ⟨rfl, q5, rfl⟩
                have M6 := Lib.hid (M5.out.below (drewN_below _ q5))
                clear C5 M5
                go_wp2
                go_roundw
                case rel => exact ⟨l + 1, by omega, by go_num, M6⟩
                case measure => simp [intOf]; omega
              · have f2 : decide ((l : Int) < 40) = false := by simp; omega
                go_wp2_with fail
                refine CL.out.mono ?_
                rintro e _ ⟨rfl, rfl⟩
                clear CL
                go_wp2_with fail
                refine CA.out.mono ?_
                rintro e w8 ⟨rfl, b8⟩
                have B8 := Lib.hid (hrel.out.bel.trans b8)
                clear b8 CA
                go_wp2
                go_ret
                exact ⟨rfl, B8.out⟩
            · have f1 : decide ((l : Int) < (S : Int)) = false := by simp; omega
              go_wp2_with fail
              refine CL.out.mono ?_
              rintro e _ ⟨rfl, rfl⟩
              clear CL
              go_wp2_with fail
              refine CA.out.mono ?_
              rintro e w8 ⟨rfl, b8⟩
              have B8 := Lib.hid (hrel.out.bel.trans b8)
              clear b8 CA
              go_wp2
              go_ret
              exact ⟨rfl, B8.out⟩
    · have HB := fun w => Lib.hid (new_no w z hz)
      have HB2 := fun w => Lib.hid (rnew_no w z hz)
      clear hz h
      go_enter Tryd.func3, Tryd.ntmps3
      go_wp2_with fail
      refine HG.out.mono ?_
      rintro e w1 ⟨rfl, b1⟩
      rw [decide_eq_false hg]
      have B1 := Lib.hid b1
      clear b1 HG
      go_wp2_with fail
      refine (HB w1).out.mono ?_
      rintro e w2 ⟨rfl, rfl⟩
      go_wp2_with fail
      refine (HB2 w1).out.mono ?_
      rintro e w2 ⟨rfl, rfl⟩
      go_wp2
      go_ret
      exact ⟨rfl, B1.out⟩

end Go.Proofs.YtcdlocbonjgcgaaDoor
