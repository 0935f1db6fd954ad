/-
  FramesAgain: of bytes of which a record is got its frame is their beginning.
-/
import Derived.Test.YtfniddnfkciblaaDoorFAlive
import Derived.Test.YtfniddnfkciblaaDoorLRow
import Derived.Test.YtfniddnfkciblaaDoorLSameBytes
namespace Go.Proofs.YtfniddnfkciblaaDoor
open Go.RowKit

set_option maxRecDepth 100000 in
set_option maxHeartbeats 2000000 in
theorem framesAgain_law (w : World) (E : Errs) (hE : Laid w E) {A : Option Addr} {n c : Nat} {xs : List Nat} (hx : Came w A n c xs) :
    Calls Tryd.prog 4 #[.slice A n c] w fun e W' => e = .returned (.bool true) ∧ Below w.heap.size w W' := by
  have HE := Lib.hid hE
  have HX := Lib.hid hx
  clear hE hx
  by_cases hn : 3000 < n
  · have hni : (3000 : Int) < (n : Int) := by omega
    go_enter Tryd.func4, Tryd.ntmps4
    go_wp2_with fail
    refine (alive_any E _ HE.out).mono ?_
    rintro e w1 ⟨rfl, hb1⟩
    go_wp2_with fail
    go_ret
    exact ⟨rfl, hb1⟩
  · have hni : ¬ (3000 : Int) < (n : Int) := by omega
    have C1 := Lib.hid (get_frame E A n c xs w HE.out HX.out.in_ HX.out.lt (fun e => by have := HX.out.nil e; have := HX.out.cap; omega) HX.out.cap (by omega))
    go_enter Tryd.func4, Tryd.ntmps4
    go_wp2_with fail
    refine C1.out.mono ?_
    rintro e w1 ⟨hb1, ⟨b, hcut, rfl⟩ | ⟨hcut, A1, c1, rfl, ho1⟩⟩
    · have HB1 := Lib.hid hb1
      clear hb1 hcut
      have hbn : b.no = 4 ∨ b.no = 5 ∨ b.no = 6 := by cases b <;> simp [Bad.no]
      obtain ⟨nb, hnb⟩ : ∃ nb, b.no = nb := ⟨_, rfl⟩
      rw [hnb] at hbn ⊢
      clear hnb
      rcases hbn with rfl | rfl | rfl
      · go_wp2_with fail
        refine (alive_any E _ (HE.out.below HB1.out)).mono ?_
        rintro e w2 ⟨rfl, hb2⟩
        have B2 := Lib.hid (below_next HB1.out (Nat.le_refl _) hb2)
        clear hb2
        go_wp2_with fail
        go_ret
        exact ⟨rfl, B2.out⟩
      · go_wp2_with fail
        refine (alive_any E _ (HE.out.below HB1.out)).mono ?_
        rintro e w2 ⟨rfl, hb2⟩
        have B2 := Lib.hid (below_next HB1.out (Nat.le_refl _) hb2)
        clear hb2
        go_wp2_with fail
        go_ret
        exact ⟨rfl, B2.out⟩
      · go_wp2_with fail
        refine (alive_any E _ (HE.out.below HB1.out)).mono ?_
        rintro e w2 ⟨rfl, hb2⟩
        have B2 := Lib.hid (below_next HB1.out (Nat.le_refl _) hb2)
        clear hb2
        go_wp2_with fail
        go_ret
        exact ⟨rfl, B2.out⟩
    · obtain ⟨hag, hc256, hl64, hrl⟩ := cutL_again xs HX.out.lt hcut
      have HB1 := Lib.hid hb1
      have C2 := Lib.hid (put_frame (numOf xs) (cntOf xs) c1 A1 (recOf xs) w1 hc256 (In.of_own ho1) (recOf_lt HX.out.lt) (fun e => by have := own_nil ho1 e; have := own_cap ho1; omega) (own_cap ho1))
      have hln : 64 * secs (cntOf xs) ≤ n := by rw [← HX.out.in_.len]; exact hl64
      unfold PutPost at C2
      rw [hag] at C2
      obtain ⟨nu, hnu⟩ : ∃ nu, numOf xs = nu := ⟨_, rfl⟩
      obtain ⟨m, hm⟩ : ∃ m, cntOf xs = m := ⟨_, rfl⟩
      rw [hnu, hm] at C2 ⊢
      rw [hm] at hln
      obtain ⟨q, hq⟩ : ∃ q, secs m = q := ⟨_, rfl⟩
      rw [hq] at C2 hln ⊢
      obtain ⟨L, hL⟩ : ∃ L, 64 * q = L := ⟨_, rfl⟩
      rw [hL] at C2 hln
      have hLi : 64 * (q : Int) = (L : Int) := by omega
      have hq2 : q ≤ 1000000 := by omega
      clear hb1 ho1 hag hc256 hl64 hrl hnu hm hq hL hcut C1
      go_wp2_with fail
      refine C2.out.mono ?_
      rintro e w2 ⟨A2, c2, rfl, ho2, hb2⟩
      have HO2 := Lib.hid (And.intro (In.of_own ho2) (below_next HB1.out (Nat.le_refl _) hb2))
      have hcap2 : L ≤ c2 := own_cap ho2
      clear ho2 hb2
      go_wp2_with fail
      refine (alive_any E _ (HE.out.below HO2.out.2)).mono ?_
      rintro e w3 ⟨rfl, hb3⟩
      have B3 := Lib.hid (below_next HO2.out.2 (Nat.le_refl _) hb3)
      have I3 := Lib.hid (HO2.out.1.below hb3)
      have J3 := Lib.hid ((HX.out.in_.below B3.out).take hln)
      have hcn := HX.out.cap
      clear hb3
      go_wp2_with fail
      refine (looseN (sameBytes_yes _ _ L _ _ _ _ I3.out J3.out (by omega))).mono ?_
      rintro e w4 ⟨rfl, hb4⟩
      have B4 := Lib.hid (below_next B3.out (Nat.le_refl _) hb4)
      clear hb4
      go_wp2_with fail
      go_ret
      exact ⟨rfl, B4.out⟩

end Go.Proofs.YtfniddnfkciblaaDoor
