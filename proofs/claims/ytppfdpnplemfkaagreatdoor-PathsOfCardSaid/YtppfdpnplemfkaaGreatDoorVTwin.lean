/-
  TwinSums: a copy in memory of its own, a mark behind it. LeftSums: it is still that copy.
-/
import Derived.Test.YtppfdpnplemfkaaGreatDoorVSApp
import Derived.Deep.QuietTactic
import Derived.BigQuiet
namespace Go.Proofs.YtppfdpnplemfkaaGreatDoor
open Go.RowKit

def markS : List Nat := 77 :: List.replicate 31 0
theorem markS_length : markS.length = 32 := rfl
theorem sv_mark : sv markS = .agg #[.int .u8 77, .int .u8 0, .int .u8 0, .int .u8 0, .int .u8 0, .int .u8 0, .int .u8 0, .int .u8 0, .int .u8 0, .int .u8 0, .int .u8 0, .int .u8 0, .int .u8 0, .int .u8 0, .int .u8 0, .int .u8 0, .int .u8 0, .int .u8 0, .int .u8 0, .int .u8 0, .int .u8 0, .int .u8 0, .int .u8 0, .int .u8 0, .int .u8 0, .int .u8 0, .int .u8 0, .int .u8 0, .int .u8 0, .int .u8 0, .int .u8 0, .int .u8 0] := rfl

theorem mark_eql (W : World) : (binOp .eql 24 (sv markS) (.agg #[.int .u8 77, .int .u8 0, .int .u8 0, .int .u8 0, .int .u8 0, .int .u8 0, .int .u8 0, .int .u8 0, .int .u8 0, .int .u8 0, .int .u8 0, .int .u8 0, .int .u8 0, .int .u8 0, .int .u8 0, .int .u8 0, .int .u8 0, .int .u8 0, .int .u8 0, .int .u8 0, .int .u8 0, .int .u8 0, .int .u8 0, .int .u8 0, .int .u8 0, .int .u8 0, .int .u8 0, .int .u8 0, .int .u8 0, .int .u8 0, .int .u8 0, .int .u8 0])).run Tryz.prog W = .ok (.bool true) W := by
  have := run_eql_sum markS markS markS_length markS_length W
  rw [decide_eq_true rfl] at this
  exact this
theorem mark_guard (x y : Operand) (W : World) : (eqGuard .eql 24 x y (sv markS) (.agg #[.int .u8 77, .int .u8 0, .int .u8 0, .int .u8 0, .int .u8 0, .int .u8 0, .int .u8 0, .int .u8 0, .int .u8 0, .int .u8 0, .int .u8 0, .int .u8 0, .int .u8 0, .int .u8 0, .int .u8 0, .int .u8 0, .int .u8 0, .int .u8 0, .int .u8 0, .int .u8 0, .int .u8 0, .int .u8 0, .int .u8 0, .int .u8 0, .int .u8 0, .int .u8 0, .int .u8 0, .int .u8 0, .int .u8 0, .int .u8 0, .int .u8 0, .int .u8 0])).run Tryz.prog W = .ok () W := run_guard_eql x y markS markS W

/-- '.slice (some ad) n c' is a copy of ys, the mark behind it. -/
structure TwinS (w : World) (ad : Addr) (n c : Nat) (ys : List Nat) : Prop where
  whole : InS w (some ad) (n + 1) (ys ++ markS)
  len : ys.length = 32 * n
  cap : n + 1 ≤ c
theorem TwinS.below {w w' : World} {ad : Addr} {n c : Nat} {ys : List Nat} (h : TwinS w ad n c ys) (hb : Below w.heap.size w w') : TwinS w' ad n c ys := ⟨h.whole.below hb, h.len, h.cap⟩
theorem TwinS.in_ {w : World} {ad : Addr} {n c : Nat} {ys : List Nat} (h : TwinS w ad n c ys) : InS w (some ad) n ys := by
  have := h.whole.take (show n ≤ n + 1 by omega)
  rwa [List.take_left' h.len] at this
theorem TwinS.last {w : World} {ad : Addr} {n c : Nat} {ys : List Nat} (h : TwinS w ad n c ys) : At w (ad.add (n * 32)) markS := by
  obtain ⟨ad', e, hl, hat⟩ := h.whole.at_ (show n < n + 1 by omega)
  cases e
  have hn : nth (ys ++ markS) n = markS := by rw [nth, ← h.len, List.drop_left', List.take_of_length_le (by rw [markS_length]; omega)]; rfl
  rwa [hn] at hat

theorem run_take_cap {ad : Addr} {n c k : Nat} (hc : k ≤ c) (W : World) :
    (Instr.slice 22 (.slice (some ad) n c) none (some (.int .i64 (k : Int))) none).run Tryz.prog W = .ok (.slice (some ad) k c) W := by
  obtain ⟨i0, hi, hz0, hz1, hz2⟩ := info_parts infoSum
  have he : Tryz.prog.elem 22 = 24 := by kernel_rfl
  rw [run_slice_h W 22 (some ad) n c (by rw [he]; exact Tryz.underlying22) .i64 (k : Int) (by omega) (by omega), he]
  simp [sizeOf, typeInfo, hi, hz1, sliced, add_zero']

theorem one_flat (X : List Nat) : [X].flatten = X := by simp
theorem own_some {w : World} {base n c : Nat} {e : TypeId} {A : Option Addr} {xs : List Value} (h : w.ownsRow base e 32 (.slice A n c) n xs) (hn : 0 < n) : ∃ ad, A = some ad := by
  rcases h.2 with ⟨e1, h0⟩ | ⟨g, cap, cur, e1, _⟩
  · omega
  · cases e1
    exact ⟨_, rfl⟩
theorem new_one (W : World) (X : List Nat) (hl : X.length = 32) : InS (W.alloc (.cells (bvs X).toArray 24)) (some ⟨W.heap.size, 0, none⟩) 1 X := ⟨by rw [hl], (In.new' W X 24).rd⟩

/-- Without its last sum a list of the call's own is one, too. -/
theorem own_init {w : World} {base n c : Nat} {A : Option Addr} {ys zs : List Nat} (hl : ys.length = 32 * n) (h : w.ownsRow base 24 32 (.slice A (n + 1) c) (n + 1) (bvs (ys ++ zs))) :
    w.ownsRow base 24 32 (.slice A n c) n (bvs ys) := by
  refine ⟨by rw [bvs_length, hl]; omega, ?_⟩
  rcases h.2 with ⟨_, h0⟩ | ⟨g, cap, cur, e1, hb, hg, hn, hm, hs, hx⟩
  · omega
  · cases e1
    refine .inr ⟨g, _, cur, rfl, hb, hg, by omega, hm, hs, ?_⟩
    have := congrArg (List.take (n * 32)) hx
    rw [List.take_take, Nat.min_eq_left (by omega)] at this
    rw [bvs_append, List.take_left' (by rw [bvs_length, hl]; omega)] at this
    exact this

set_option maxRecDepth 100000 in
set_option maxHeartbeats 4000000 in
theorem twinSums_own (A : Option Addr) (n c : Nat) (ys : List Nat) (w : World) (hin : InS w A n ys) (hn : n ≤ 1000000) :
    Calls Tryz.prog 4 #[.slice A n c] w fun e w' => ∃ ad c', e = .returned (.slice (some ad) n c') ∧ TwinS w' ad n c' ys ∧ Below w.heap.size w w' ∧ w'.ownsRow w.heap.size 24 32 (.slice (some ad) n c') n (bvs ys) := by
  obtain ⟨i0, hi, hz0, hz1, hz2⟩ := info_parts infoSum
  have hm : n + 1 ≤ maxLen := by unfold maxLen; omega
  have HI := Lib.hid hin
  have hml := markS_length
  clear hin
  go_enter Tryz.func4, Tryz.ntmps4
  go_wp2_with (at_make; refine wpList_make_own _ rfl _ _ 22 rfl w.heap.size 24 i0 _ 32 Tryz.underlying22 hi hz0 hz1 _ _ _ (n + 1) rfl rfl (by omega) (by rw [hz2]; omega) hm (Nat.le_refl _) ?_; intro w1 hown1 hgrow1)
  have hb1 : Below w.heap.size w w1 := (Below.refl _ w).grown hgrow1 (Nat.le_refl _) (fun k hk => by cases hk)
  have HO1 := Lib.hid (And.intro hown1 hb1)
  clear hown1 hb1 hgrow1 hm hi hz0 hz1 hz2
  go_loopw [3, 4] (fun t i wr => ∃ (j : Nat) (A' : Option Addr) (c' : Nat), j ≤ n ∧ i = .int .i64 (j : Int) ∧ t = .slice A' j c' ∧ wr.ownsRow w.heap.size 24 32 (.slice A' j c') j (bvs (ys.take (32 * j))) ∧ Below w.heap.size w wr) (fun _ i _ => n - (intOf i).toNat)
  case atStart => exact ⟨0, _, n + 1, Nat.zero_le _, rfl, rfl, HO1.out.1, HO1.out.2⟩
  case round =>
    clear HO1
    obtain ⟨j, A', c', hj, rfl, rfl, how, hbw⟩ := hrel
    have HO := Lib.hid (And.intro how hbw)
    clear how hbw
    by_cases hlt : j < n
    · obtain ⟨ad, rfl, hlq, hat⟩ := (HI.out.below HO.out.2).at_ hlt
      obtain ⟨X, hX⟩ : ∃ X, nth ys j = X := ⟨_, rfl⟩
      rw [hX] at hlq hat
      have HX := Lib.hid hX
      have HAt := Lib.hid hat
      have hi : (j : Int) < (n : Int) := by omega
      have OW := Lib.hid (own_on HO.out.1 (below_alloc wr (.cells (bvs X).toArray 24)))
      have BW := Lib.hid (HO.out.2.alloc HO.out.2.size (.cells (bvs X).toArray 24))
      clear hX hat
      go_wp2_with (first
        | refine wpList_load_sum rfl (.tmp 18) rfl (ad.add (j * 32)) rfl X hlq HAt.out ?_
        | (refine wpList_step fun K hK => ?_; rw [if_pos (by rfl)]; refine wp_sums (K := K) _ [X] 1 rfl rfl (by simp <;> rfl) (by intro x hx; simp at hx; rw [hx]; exact hlq) (by omega) (by omega) ?_; rw [one_flat]; refine hK _ _ ?_; clear hK K)
        | (refine wpList_step fun K hK => ?_; refine step_sapp (K := K) (by rfl) _ _ (by rfl) w.heap.size A' j c' (ys.take (32 * j)) (by rfl) OW.out (some ⟨wr.heap.size, 0, none⟩) 1 1 X (by rfl) (new_one wr X hlq) (fun e => by cases e) (by omega) BW.out.size ?_; intro A3 c3 W3 ow3 nx3; have HN := Lib.hid (And.intro ow3 (nx3.below OW.out BW.out (Nat.le_refl _) BW.out.size)); clear ow3 nx3; refine hK _ _ ?_; clear hK K))
      go_roundw
      case rel =>
        refine ⟨j + 1, A3, c3, by omega, by go_num, rfl, ?_, HN.out.2⟩
        rw [take_nth, HX.out]
        exact HN.out.1
      case measure => simp [intOf]; omega
    · obtain rfl : j = n := by omega
      have OW := Lib.hid (own_on HO.out.1 (below_alloc wr (.cells (bvs markS).toArray 24)))
      have BW := Lib.hid (HO.out.2.alloc HO.out.2.size (.cells (bvs markS).toArray 24))
      have hall : ys.take (32 * j) = ys := List.take_of_length_le (by rw [HI.out.len]; omega)
      rw [hall] at OW
      have HL := Lib.hid HI.out.len
      clear hall
      go_wp2_with (first
        | (refine wpList_step fun K hK => ?_; rw [if_pos (by rfl)]; refine wp_sums (K := K) _ [markS] 1 rfl rfl (by simp <;> rfl) (by intro x hx; simp at hx; rw [hx]; exact hml) (by omega) (by omega) ?_; rw [one_flat]; refine hK _ _ ?_; clear hK K)
        | (refine wpList_step fun K hK => ?_; refine step_sapp (K := K) (by rfl) _ _ (by rfl) w.heap.size A' j c' ys (by rfl) OW.out (some ⟨wr.heap.size, 0, none⟩) 1 1 markS (by rfl) (new_one wr markS hml) (fun e => by cases e) (by omega) BW.out.size ?_; intro A3 c3 W3 ow3 nx3; obtain ⟨ad3, hA3⟩ := own_some ow3 (by omega); subst hA3; have hsl := run_take_cap (ad := ad3) (n := j + 1) (c := c3) (k := j) (by have := own_cap ow3; omega); have HN := Lib.hid (And.intro ow3 (nx3.below OW.out BW.out (Nat.le_refl _) BW.out.size)); clear ow3 nx3; refine hK _ _ ?_; clear hK K))
      go_ret
      exact ⟨ad3, c3, rfl, ⟨InS.of_own HN.out.1, HL.out, own_cap HN.out.1⟩, HN.out.2, own_init (HL.out) HN.out.1⟩

theorem twinSums_any (A : Option Addr) (n c : Nat) (ys : List Nat) (w : World) (hin : InS w A n ys) (hn : n ≤ 1000000) :
    Calls Tryz.prog 4 #[.slice A n c] w fun e w' => ∃ ad c', e = .returned (.slice (some ad) n c') ∧ TwinS w' ad n c' ys ∧ Below w.heap.size w w' :=
  (twinSums_own A n c ys w hin hn).mono fun _ _ ⟨ad, c', he, ht, hb, _⟩ => ⟨ad, c', he, ht, hb⟩

set_option maxRecDepth 100000 in
set_option maxHeartbeats 4000000 in
theorem leftSums_yes (A : Option Addr) (ad1 : Addr) (n c1 c : Nat) (ys : List Nat) (w : World) (ht : TwinS w ad1 n c1 ys) (hin2 : InS w A n ys) (hn : n ≤ 1000000) :
    Calls Tryz.prog 10 #[.slice (some ad1) n c1, .slice A n c] w fun e w' => e = .returned (.bool true) ∧ Below w.heap.size w w' := by
  have dn : ((n : Int) != (n : Int)) = false := by simp
  have hcap := ht.cap
  have d2 : decide ((c1 : Int) ≤ (n : Int)) = false := by simp; omega
  have d3 : decide (c1 ≤ n) = false := by simp; omega
  have HT := Lib.hid ht
  have HI := Lib.hid hin2
  have hml := markS_length
  have hsl := run_take_cap (ad := ad1) (n := n) (c := c1) (k := n + 1) hcap
  have ec : ((n + 1 : Nat) : Int) = (n : Int) + 1 := by omega
  rw [ec] at hsl
  clear ht hin2 ec
  go_enter Tryz.func10, Tryz.ntmps10
  go_wp2
  go_loopw [5] (fun i wr => ∃ j : Nat, j ≤ n ∧ i = .int .i64 (j : Int) ∧ ∃ q, wr = w.drewN q) (fun i _ => n - (intOf i).toNat)
  case atStart => exact ⟨0, Nat.zero_le _, rfl, 0, rfl⟩
  case round =>
    obtain ⟨j, hj, rfl, q, rfl⟩ := hrel
    by_cases hlt : j < n
    · obtain ⟨ad, e1, hl, hat⟩ := HT.out.in_.at_ hlt
      cases e1
      obtain ⟨ad2, rfl, _, hat2⟩ := HI.out.at_ hlt
      have HAt := Lib.hid (And.intro hat hat2)
      clear hat hat2
      have i1 : (j : Int) < (n : Int) := by omega
      go_wp2
      refine wp_region_quiet_lit (by kernel_rfl) (by kernel_rfl) ?_
      iterate 3 quiet_step (fail)
      refine wpQuiet_step (fun K hK => ?_)
      refine quiet_load_sum rfl (.tmp 27) rfl (ad1.add (j * 32)) rfl (nth ys j) hl (fun W hW => by obtain ⟨m, rfl⟩ := hW; exact HAt.out.1) ?_
      go_simp
      refine hK _ ?_
      clear hK K
      iterate 3 quiet_step (fail)
      refine wpQuiet_step (fun K hK => ?_)
      refine quiet_load_sum rfl (.tmp 31) rfl (ad2.add (j * 32)) rfl (nth ys j) hl (fun W hW => by obtain ⟨m, rfl⟩ := hW; exact HAt.out.2) ?_
      go_simp
      refine hK _ ?_
      clear hK K
      have hne := run_neq_sum (nth ys j) (nth ys j) hl hl
      simp only [decide_true, Bool.not_true] at hne
      have hgd := fun x y => run_guard_neq x y (nth ys j) (nth ys j)
      quiet_step (fail)
      refine wpQuiet_nil ?_
      intro _ hw'
      obtain ⟨nq, hw''⟩ := hw'
      subst hw''
      rw [World.drewN_drewN]
      clear hne hgd
      go_wp2
      go_roundw
      case rel =>
        exact ⟨j + 1, by omega, by go_num, q + nq, rfl⟩
      case measure => simp [intOf]; omega
    · obtain rfl : j = n := by omega
      have HL : Hid (At (w.drewN q) (ad1.add (j * 32)) markS) := Lib.hid HT.out.last
      have q1 := mark_eql
      have q2 := mark_guard
      have b2 : Below w.heap.size w ((w.drewN q).alloc (.cells (bvs markS).toArray 24)) := by
        have b0 : Below w.heap.size w (w.drewN q) := ⟨rfl, rfl, rfl, Nat.le_refl _, fun _ _ => rfl⟩
        exact b0.alloc (Nat.le_refl _) _
      have f2 := BArr.new (w.drewN q) 24 markS
      obtain ⟨w2, hw2⟩ : ∃ w2, w2 = (w.drewN q).alloc (.cells (bvs markS).toArray 24) := ⟨_, rfl⟩
      rw [← hw2] at b2 f2
      have H2 := Lib.hid (And.intro f2.at_ (And.intro b2 hw2))
      clear b2 f2 hw2
      go_upto_region 9 with (first | with_reducible refine wpList_load_sum rfl (.tmp 41) rfl (ad1.add (j * 32)) rfl markS hml HL.out ?_ | ((with_reducible refine wpList_store_new (w.drewN q) _ ?_ rfl (.tmp 6) (.tmp 42) rfl rfl markS hml rfl ?_); · simp))
      rw [← H2.out.2.2]
      go_wp2_with (first | refine wpList_load_sum rfl (.tmp 6) rfl ⟨(w.drewN q).heap.size, 0, none⟩ rfl markS hml H2.out.1 ?_)
      go_ret
      exact ⟨rfl, H2.out.2.1⟩

end Go.Proofs.YtppfdpnplemfkaaGreatDoor
