/-
  FramesTurned: with one bit another one they begin with no frame of that record.
-/
import Derived.Test.YtfniddnfkciblaaDoorFAlive
import Derived.Test.YtfniddnfkciblaaDoorLRow
import Derived.Test.YtfniddnfkciblaaDoorLSameBytes
import Derived.Test.YtfniddnfkciblaaDoorLSameNo
import Derived.Test.YtfniddnfkciblaaDoorSumMine
namespace Go.Proofs.YtfniddnfkciblaaDoor
open Go.RowKit

theorem turned_not {num k y x : Nat} {b : List Nat} (hb : ∀ x ∈ b, x < 256) (hy : y < 256) (hx : (frameL num b)[k]? = some x) (hne : y ≠ x) (hc : cutL ((frameL num b).set k y) = none) (hn : numOf ((frameL num b).set k y) = num)
    (hr : recOf ((frameL num b).set k y) = b) : False := by
  have hl : ∀ z ∈ (frameL num b).set k y, z < 256 := fun z hz => by
    rcases List.mem_or_eq_of_mem_set hz with h1 | rfl
    · exact frameL_lt num b hb z h1
    · exact hy
  obtain ⟨h1, h2, h3, h4⟩ := cutL_again _ hl hc
  rw [hn, hr] at h1
  rw [hr] at h4
  rw [← h4, List.take_of_length_le (by rw [List.length_set, frameL_length]; omega)] at h1
  have hk := (List.getElem?_eq_some_iff.1 hx).1
  have e : ((frameL num b).set k y)[k]? = some y := by rw [List.getElem?_set_self hk]
  rw [← h1, hx] at e
  injection e with e
  exact hne e.symm
theorem turn_xor (x s : Nat) (hx : x < 256) (hs : s < 8) : ∃ y, (x ^^^ 2 ^ s) = y ∧ y < 256 ∧ y ≠ x := by
  refine ⟨_, rfl, ?_, ?_⟩
  · exact Nat.xor_lt_two_pow (n := 8) hx (by have : 2 ^ s < 2 ^ 8 := Nat.pow_lt_pow_right (by omega) hs; exact this)
  · intro e
    have h1 : x ^^^ (x ^^^ 2 ^ s) = x ^^^ x := by rw [e]
    rw [← Nat.xor_assoc, Nat.xor_self, Nat.zero_xor] at h1
    have : 0 < 2 ^ s := Nat.two_pow_pos s
    omega

set_option maxRecDepth 100000 in
set_option maxHeartbeats 2000000 in
theorem framesTurned_law (w : World) (E : Errs) (hE : Laid w E) {num : Nat} (_ : num < 18446744073709551616) {A : Option Addr} {n c : Nat} {xs : List Nat} (hx : Came w A n c xs) {p q : Nat} (hp : p < 65536) (hq : q < 65536) :
    Calls Tryd.prog 6 #[.int .u64 (num : Int), .slice A n c, .agg #[.int .u16 (p : Int), .int .u16 (q : Int)]] w fun e W' => e = .returned (.bool true) ∧ Below w.heap.size w W' := by
  have HE := Lib.hid hE
  have HX := Lib.hid hx
  clear hE hx
  have hw1 := below_alloc w (.cells #[.int .u16 (p : Int), .int .u16 (q : Int)] 40)
  have hrow := World.alloc_heap_new w (.cells #[.int .u16 (p : Int), .int .u16 (q : Int)] 40)
  by_cases hn : 256 < n
  · have C1 := Lib.hid (fun W => put_great num n c A W hn)
    go_enter Tryd.func6, Tryd.ntmps6
    go_wp2_with fail
    obtain ⟨w1, hw⟩ : ∃ w1, w.alloc (.cells #[.int .u16 (p : Int), .int .u16 (q : Int)] 40) = w1 := ⟨_, rfl⟩
    rw [hw] at hw1 ⊢
    have B1 := Lib.hid hw1
    clear hw hrow hw1
    refine (C1.out _).mono ?_
    rintro e w2 ⟨rfl, rfl⟩
    go_wp2_with fail
    refine (alive_any E _ (HE.out.below B1.out)).mono ?_
    rintro e w3 ⟨rfl, hb3⟩
    have B3 := Lib.hid (below_next B1.out (Nat.le_refl _) hb3)
    clear hb3
    go_wp2_with fail
    go_ret
    exact ⟨rfl, B3.out⟩
  · have hn2 : n ≤ 256 := by omega
    have C1 := Lib.hid (fun (W : World) (hb : Below w.heap.size w W) => put_frame num n c A xs W hn2 (HX.out.in_.below hb) HX.out.lt (fun e => by have := HX.out.nil e; have := HX.out.cap; omega) HX.out.cap)
    unfold PutPost at C1
    have hfl := frameL_length num xs
    rw [HX.out.in_.len] at hfl
    have hs1 := secs_pos n
    have hs5 := secs_le n hn2
    obtain ⟨L, hL⟩ : ∃ L, 64 * secs n = L := ⟨_, rfl⟩
    rw [hL] at C1 hfl
    have hL1 : 0 < L := by omega
    have hL2 : L ≤ 320 := by omega
    clear hL hs1 hs5
    have HFL := Lib.hid hfl
    clear hfl
    go_enter Tryd.func6, Tryd.ntmps6
    go_wp2_with fail
    obtain ⟨w1, hw⟩ : ∃ w1, w.alloc (.cells #[.int .u16 (p : Int), .int .u16 (q : Int)] 40) = w1 := ⟨_, rfl⟩
    rw [hw] at hw1 hrow ⊢
    have B1 := Lib.hid hw1
    clear hw
    obtain ⟨T, hT⟩ : ∃ T, w.heap.size = T := ⟨_, rfl⟩
    rw [hT] at hrow ⊢
    have HT := Lib.hid (And.intro hT hrow)
    refine (C1.out _ B1.out).mono ?_
    rintro e w2 ⟨A2, c2, rfl, ho2, hb2⟩
    obtain ⟨g, rfl, hg, hm⟩ := mine_of ho2 hL1
    have hrow2 : w2.heap[T]? = some (.cells #[.int .u16 (p : Int), .int .u16 (q : Int)] 40 (0, 0)) := (hb2.block T (Array.getElem?_eq_some_iff.1 hrow).1).trans hrow
    have a0 : w2.cell? ⟨T, 0, none⟩ = some (.int .u16 (p : Int)) := by rw [cell_of_row _ T 0 _ _ _ hrow2]; rfl
    have a1 : w2.cell? ⟨T, 1, none⟩ = some (.int .u16 (q : Int)) := by rw [cell_of_row _ T 1 _ _ _ hrow2]; rfl
    have hgw : Hid (w.heap.size ≤ g) := Nat.le_trans B1.out.size hg
    have B2 := Lib.hid (below_next B1.out (Nat.le_refl _) hb2)
    obtain ⟨k, hk⟩ : ∃ k, p % L = k := ⟨_, rfl⟩
    have hkL : k < L := by rw [← hk]; exact Nat.mod_lt _ hL1
    have hkt : Int.tmod (p : Int) (L : Int) = (k : Int) := by rw [Int.tmod_eq_emod_of_nonneg (by omega), ← hk]; simp
    have hki : (k : Int) < (L : Int) := by omega
    obtain ⟨s, hs⟩ : ∃ s, q % 8 = s := ⟨_, rfl⟩
    have hs8 : s < 8 := by omega
    have hst : Int.tmod (q : Int) 8 = (s : Int) := by rw [Int.tmod_eq_emod_of_nonneg (by omega), ← hs]; simp
    have hsi : (s : Int) ≤ 8 := by omega
    obtain ⟨x, hxk⟩ : ∃ x, (frameL num xs)[k]? = some x := ⟨_, List.getElem?_eq_getElem (by rw [HFL.out]; exact hkL)⟩
    have hx256 : x < 256 := frameL_lt num xs HX.out.lt x (List.mem_of_getElem? hxk)
    obtain ⟨y, hy, hy256, hyx⟩ := turn_xor x s hx256 hs8
    have hc := hm.cell hxk
    have hf := hm.free k
    have hp2 : (2 : Nat) ^ s < 256 := by
      have : (2 : Nat) ^ s < 2 ^ 8 := Nat.pow_lt_pow_right (by omega) hs8
      exact this
    have hxor : bits .xor .u8 (x : Int) ((2 ^ s : Nat) : Int) = (y : Int) := by rw [u8_xor_nat x _ hx256 hp2, hy]
    have HM := Lib.hid (And.intro (hm.set k y) (And.intro hxk (And.intro hy256 hyx)))
    clear hy hk hs hg hT hrow hw1 hb2 ho2 hrow2 hm hxk hyx
    go_wp2_with fail
    go_region
    have e1 : bits BinOp.xor IntKind.u8 (x : Int) ((2 : Int) ^ s % 256) = (y : Int) := by
      have h2 : (2 : Int) ^ s = ((2 ^ s : Nat) : Int) := by simp
      have h3 : ((2 ^ s : Nat) : Int) % 256 = ((2 ^ s : Nat) : Int) := Int.emod_eq_of_lt (Int.natCast_nonneg _) (Int.ofNat_lt.2 hp2)
      rw [h2, h3]
      exact hxor
    rw [e1]
    have hm3 : Mine ((w2.setCell ⟨g, k, none⟩ (.int .u8 (y : Int))).drew) g L c2 ((frameL num xs).set k y) := ⟨HM.out.1.len, HM.out.1.cap, HM.out.1.row⟩
    have hb3 : Below w.heap.size w ((w2.setCell ⟨g, k, none⟩ (.int .u8 (y : Int))).drew) := (B2.out.setCell hgw.out _).drew
    obtain ⟨w3, hw3⟩ : ∃ w3, (w2.setCell ⟨g, k, none⟩ (.int .u8 (y : Int))).drew = w3 := ⟨_, rfl⟩
    rw [hw3] at hm3 hb3 ⊢
    clear hw3 e1 hxor hp2 hc hf a0 a1 hst hkt
    have hys : ∀ z ∈ (frameL num xs).set k y, z < 256 := fun z hz => by
      rcases List.mem_or_eq_of_mem_set hz with h1 | rfl
      · exact frameL_lt num xs HX.out.lt z h1
      · exact HM.out.2.2.1
    have C2 := Lib.hid (get_frame E (some ⟨g, 0, none⟩) L c2 _ w3 (HE.out.below hb3) hm3.in_ hys (fun e => by cases e) hm3.cap (by omega))
    have B3 := Lib.hid hb3
    have HTN := Lib.hid (fun h1 h2 h3 => turned_not (num := num) (k := k) (y := y) (b := xs) HX.out.lt HM.out.2.2.1 HM.out.2.1 HM.out.2.2.2 h1 h2 h3)
    have HYS := Lib.hid hys
    clear hm3 hb3 hys
    obtain ⟨Z, hZ⟩ : ∃ Z, (frameL num xs).set k y = Z := ⟨_, rfl⟩
    rw [hZ] at C2 HTN HYS
    clear hZ HM HFL
    go_wp2_with fail
    refine C2.out.mono ?_
    rintro e w4 ⟨hb4, ⟨b, hcut, rfl⟩ | ⟨hcut, A4, c4, rfl, ho4⟩⟩
    · have hbn : ((b.no : Int) != 0) = true := by cases b <;> rfl
      obtain ⟨nb, hnb⟩ : ∃ nb, b.no = nb := ⟨_, rfl⟩
      rw [hnb] at hbn ⊢
      have B4 := Lib.hid (below_next B3.out (Nat.le_refl _) hb4)
      clear hnb hcut hb4
      go_wp2_with fail
      refine (alive_any E _ (HE.out.below B4.out)).mono ?_
      rintro e w5 ⟨rfl, hb5⟩
      have B5 := Lib.hid (below_next B4.out (Nat.le_refl _) hb5)
      clear hb5
      go_wp2_with fail
      go_ret
      exact ⟨rfl, B5.out⟩
    · have B4 := Lib.hid (below_next B3.out (Nat.le_refl _) hb4)
      have H4 := Lib.hid (And.intro hcut (And.intro (In.of_own ho4) (recOf_lt HYS.out)))
      have hc256 : cntOf Z ≤ 256 := (cutL_again Z HYS.out hcut).2.1
      clear hcut ho4 hb4
      obtain ⟨nu, hnu⟩ : ∃ nu, numOf Z = nu := ⟨_, rfl⟩
      obtain ⟨m, hm⟩ : ∃ m, cntOf Z = m := ⟨_, rfl⟩
      obtain ⟨qq, hqq⟩ : ∃ qq, secs m = qq := ⟨_, rfl⟩
      rw [hm] at H4 hc256
      rw [hnu, hm, hqq]
      have HNU := Lib.hid hnu
      clear hnu hm hqq
      by_cases hne : nu = num
      · have dn : ((nu : Int) != (num : Int)) = false := by simp [hne]
        have HNE := Lib.hid hne
        clear hne
        have hrec : recOf Z ≠ xs := fun e => HTN.out H4.out.1 (HNU.out.trans HNE.out) e
        have HR := Lib.hid hrec
        clear hrec
        go_wp2_with fail
        refine (alive_any E _ (HE.out.below B4.out)).mono ?_
        rintro e w5 ⟨rfl, hb5⟩
        have B5 := Lib.hid (below_next B4.out (Nat.le_refl _) hb5)
        have I5 := Lib.hid (H4.out.2.1.below hb5)
        have J5 := Lib.hid (HX.out.in_.below B5.out)
        clear hb5
        go_wp2_with fail
        refine (looseN (sameBytes_no _ _ m n _ _ _ _ _ I5.out J5.out (by omega) HR.out)).mono ?_
        rintro e w6 ⟨rfl, hb6⟩
        have B6 := Lib.hid (below_next B5.out (Nat.le_refl _) hb6)
        clear hb6
        go_wp2_with fail
        go_ret
        exact ⟨rfl, B6.out⟩
      · have dn : ((nu : Int) != (num : Int)) = true := by simp; omega
        clear hne
        go_wp2_with fail
        refine (alive_any E _ (HE.out.below B4.out)).mono ?_
        rintro e w5 ⟨rfl, hb5⟩
        have B5 := Lib.hid (below_next B4.out (Nat.le_refl _) hb5)
        clear hb5
        go_wp2_with fail
        go_ret
        exact ⟨rfl, B5.out⟩

end Go.Proofs.YtfniddnfkciblaaDoor
