/-
  MacsBlocks: the sum of any parts by any key is that of its blocks and the parts.
-/
import Derived.Test.YtoojlpbfldnkpaaDoorMacRefOf
import Derived.Test.YtoojlpbfldnkpaaDoorLTwins
namespace Go.Proofs.YtoojlpbfldnkpaaDoor
open Go.RowKit

set_option maxRecDepth 100000 in
set_option maxHeartbeats 1000000 in
theorem blocks_long1 (A Ao : Option Addr) (n c no co : Nat) (w : World) (h : 5000 < n ∨ 40 < no) :
    Calls Tryd.prog 4 #[.slice A n c, .slice Ao no co] w fun e w' => e = .returned (.bool true) ∧ Below w.heap.size w w' := by
  by_cases h1 : 5000 < n
  · have hi : (5000 : Int) < (n : Int) := by omega
    go_enter Tryd.func4, Tryd.ntmps4
    go_wp2
    go_ret
    exact ⟨rfl, Below.refl _ _⟩
  · have h2 : 40 < no := by omega
    have hi : decide ((5000 : Int) < (n : Int)) = false := by simp; omega
    have hj : (40 : Int) < (no : Int) := by omega
    go_enter Tryd.func4, Tryd.ntmps4
    go_wp2
    go_ret
    exact ⟨rfl, Below.refl _ _⟩

set_option maxRecDepth 100000 in
set_option maxHeartbeats 2000000 in
theorem blocks_short (A Ao : Option Addr) (n c no co : Nat) (xs : List Nat) (rows : List (List Nat)) (w : World) (hx : Came w A n c xs) (hr : CameRows w Ao no rows) (hk : Knows w) (hs : Starts w) (hn : n ≤ 5000) (hno : no ≤ 40) :
    Calls Tryd.prog 4 #[.slice A n c, .slice Ao no co] w fun e w' => e = .returned (.bool true) ∧ Below w.heap.size w w' := by
  have C1 := Lib.hid (listsSize_any Ao no co rows w hr (by omega))
  have hi : decide ((5000 : Int) < (n : Int)) = false := by simp; omega
  have hj : decide ((40 : Int) < (no : Int)) = false := by simp; omega
  have HX := Lib.hid (And.intro hx hr)
  clear hx hr
  go_enter Tryd.func4, Tryd.ntmps4
  go_wp2_with fail
  refine C1.out.mono ?_
  rintro e w' ⟨R, rfl, hR, rfl⟩
  clear C1
  by_cases hR2 : R ≤ 15000
  · have htot : tot rows ≤ 15000 := by have := hR hR2; omega
    have hRi : decide ((15000 : Int) < (R : Int)) = false := by simp; omega
    clear hR
    have C2 := Lib.hid (twinBytes_any A n c xs w HX.out.1.in_ (by omega))
    go_wp2_with fail
    refine C2.out.mono ?_
    rintro e w1 ⟨rfl, ht1, hb1⟩
    have C3 := Lib.hid (twinLists_any Ao no co rows w1 (HX.out.2.below hb1) (by omega) (by omega))
    have H1 := Lib.hid (And.intro ht1 hb1)
    clear C2 ht1 hb1
    go_wp2_with fail
    refine C3.out.mono ?_
    rintro e w2 ⟨rfl, ht2, hb2⟩
    have b2 := below_on H1.out.2 (Nat.le_refl _) hb2
    have hl := HX.out.2.len
    have hrl : ∀ ys ∈ rows, (∀ x ∈ ys, x < 256) ∧ ys.length ≤ 140737488355328 := fun ys hy => by
      obtain ⟨i, hi⟩ := List.mem_iff_getElem?.1 hy
      obtain ⟨_, _, _, _, _, _, h1, h2⟩ := HX.out.2.row i ys hi
      exact ⟨h1.lt, by rw [h1.in_.len]; exact h2⟩
    have cr2 := ht2.rows hrl
    rw [hl] at cr2
    have ck2 : Came w2 (some ⟨w.heap.size, 0, none⟩) n (n + 1) xs := ⟨(H1.out.1.below hb2).in_, HX.out.1.lt, (fun h => by cases h), Nat.le_succ _⟩
    have C4 := Lib.hid (macOf_any (some ⟨w.heap.size, 0, none⟩) n (n + 1) xs (some ⟨w1.heap.size, 0, none⟩) no (no + 1) rows w2 ck2 cr2 (hk.below b2) (hs.below b2) (by omega) (by omega) (by omega))
    obtain ⟨M, hM⟩ : ∃ M, mac xs rows.flatten = M := ⟨_, rfl⟩
    have hMl : M.length = 32 := by rw [← hM]; exact mac_length _ _
    rw [hM] at C4
    have H2 := Lib.hid (And.intro ht2 (And.intro b2 (And.intro (H1.out.1.below hb2) hM)))
    clear C3 ht2 hb2 b2 hl hrl cr2 ck2 hM
    go_wp2_with fail
    refine C4.out.mono ?_
    rintro e w3 ⟨rfl, hb3⟩
    go_upto_region 6 with ((with_reducible refine wpList_store_new w3 _ ?_ rfl (.tmp 7) (.tmp 27) rfl rfl M hMl rfl ?_); · simp)
    obtain ⟨w4, hw4⟩ : ∃ w4, w4 = w3.alloc (.cells (bvs M).toArray 54) := ⟨_, rfl⟩
    obtain ⟨g, hg⟩ : ∃ g, w3.heap.size = g := ⟨_, rfl⟩
    have hat : At w4 ⟨g, 0, none⟩ M := by rw [hw4, ← hg]; exact (BArr.new w3 54 M).at_
    have hb4 : Below w2.heap.size w2 w4 := by rw [hw4]; exact below_on hb3 (Nat.le_refl _) (below_alloc w3 _)
    rw [← hw4, hg]
    have b4 := below_on H2.out.2.1 (Nat.le_refl _) hb4
    have H4 := Lib.hid (And.intro hat (And.intro b4 (And.intro (H2.out.1.below hb4) (H2.out.2.2.1.below hb4))))
    clear hw4 hg hb3 hat hb4 b4 C4
    have CR := Lib.hid (fun (W : World) (hW : Below w4.heap.size w4 W) => refMac_any A n c xs Ao no co rows W (HX.out.1.below (below_on H4.out.2.1 (Nat.le_refl _) hW)) (HX.out.2.below (below_on H4.out.2.1 (Nat.le_refl _) hW)) (by omega) (by omega) (by omega))
    rw [H2.out.2.2.2] at CR
    have CL := Lib.hid (fun (W : World) (hW : Below w4.heap.size w4 W) => leftBytes_yes A w.heap.size n c xs W (H4.out.2.2.2.below hW) ((HX.out.1.below (below_on H4.out.2.1 (Nat.le_refl _) hW)).in_) (by omega))
    have CT := Lib.hid (fun (W : World) (hW : Below w4.heap.size w4 W) => leftLists_yes Ao w1.heap.size no co rows W (H4.out.2.2.1.below hW) (HX.out.2.below (below_on H4.out.2.1 (Nat.le_refl _) hW)) (by omega) (by omega))
    have q1 := run_eql_sum M M hMl hMl
    rw [decide_eq_true rfl] at q1
    have q2 := run_guard_eql
    go_wp2
    refine wp_region_quiet (C := fun w' => Below w4.heap.size w4 w') (by kernel_rfl) (by kernel_rfl) ((Below.refl _ _).drew) ?_
    refine wpQuiet_step (fun K hK => ?_)
    refine quiet_load_sum rfl (.tmp 7) rfl ⟨g, 0, none⟩ rfl M hMl (fun W hC => H4.out.1.below hC) (hK _ ?_)
    clear hK K
    iterate 2 (refine wpQuiet_step (fun K hK => ?_); go_simp; refine ⟨_, fun _ _ => rfl, hK _ ?_⟩; clear hK K)
    refine wpQuiet_step (fun K hK => ?_)
    go_simp
    refine ⟨sv M, fun W hC => (CR.out W hC).mono fun e w'' ⟨he, hb'⟩ => ⟨he, below_on hC (Nat.le_refl _) hb'⟩, hK _ ?_⟩
    clear hK K
    iterate 4 (refine wpQuiet_step (fun K hK => ?_); go_simp; refine ⟨_, fun _ _ => rfl, hK _ ?_⟩; clear hK K)
    refine wpQuiet_step (fun K hK => ?_)
    go_simp
    refine ⟨.bool true, fun W hC => (CL.out W hC).mono fun e w'' ⟨he, q, hq⟩ => ⟨he, ?_⟩, hK _ ?_⟩
    · rw [hq]; exact ⟨hC.os, hC.tape, hC.output, hC.size, hC.block⟩
    clear hK K
    iterate 4 (refine wpQuiet_step (fun K hK => ?_); go_simp; refine ⟨_, fun _ _ => rfl, hK _ ?_⟩; clear hK K)
    refine wpQuiet_step (fun K hK => ?_)
    go_simp
    refine ⟨.bool true, fun W hC => (CT.out W hC).mono fun e w'' ⟨he, q, hq⟩ => ⟨he, ?_⟩, hK _ ?_⟩
    · rw [hq]; exact ⟨hC.os, hC.tape, hC.output, hC.size, hC.block⟩
    clear hK K
    repeat (refine wpQuiet_step (fun K hK => ?_); go_simp; refine ⟨_, fun _ _ => rfl, hK _ ?_⟩; clear hK K)
    refine wpQuiet_nil ?_
    intro w8 hb8
    go_wp2
    go_ret
    exact ⟨rfl, below_on H4.out.2.1 (Nat.le_refl _) hb8⟩
  · have hRi : (15000 : Int) < (R : Int) := by omega
    clear hR
    go_wp2
    go_ret
    exact ⟨rfl, Below.refl _ _⟩

theorem macsBlocks_law (w : World) (hk : Knows w) (hs : Starts w) {A Ao : Option Addr} {n c no co : Nat} {xs : List Nat} {rows : List (List Nat)} (hx : Came w A n c xs) (hr : CameRows w Ao no rows) :
    Calls Tryd.prog 4 #[.slice A n c, .slice Ao no co] w fun e w' => e = .returned (.bool true) ∧ Below w.heap.size w w' := by
  by_cases h : 5000 < n ∨ 40 < no
  · exact blocks_long1 A Ao n c no co w h
  · exact blocks_short A Ao n c no co xs rows w hx hr hk hs (by omega) (by omega)

end Go.Proofs.YtoojlpbfldnkpaaDoor
