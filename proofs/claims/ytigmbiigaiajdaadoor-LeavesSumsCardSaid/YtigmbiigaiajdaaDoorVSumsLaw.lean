/-
  almonerlaw08.LeavesSums, on bytes and two sums that came in.
-/
import Derived.Test.YtigmbiigaiajdaaDoorVTools
import Derived.Test.YtigmbiigaiajdaaDoorLApp2
namespace Go.Proofs.YtigmbiigaiajdaaDoor
open Go.RowKit

/-- '[]byte{x}' is the call's own. -/
theorem own_one (W : World) (x base : Nat) (z : Int) (hz : z = (x : Int)) (hb : base ≤ W.heap.size) : (W.alloc (.cells #[.int .u8 z] 5)).ownsRow base 5 1 (.slice (some ⟨W.heap.size, 0, none⟩) 1 1) 1 (bvs [x]) := by
  subst hz
  exact ⟨rfl, .inr ⟨W.heap.size, 1, #[.int .u8 (x : Int)], rfl, hb, World.alloc_heap_new W _, Nat.le_refl _, by unfold maxLen; omega, rfl, rfl⟩⟩

set_option maxRecDepth 100000 in
set_option maxHeartbeats 4000000 in
theorem sums_else (w : World) (hk : Knows w) (hs : Starts w) (A : Option Addr) (n c : Nat) (l r : List Nat) (h : 20000 < n) :
    Calls Tryd.prog 4 #[.slice A n c, sv l, sv r] w fun e w' => e = .returned (.bool true) ∧ Below w.heap.size w w' := by
  have b1 : Below w.heap.size w ((w.alloc (.cells (bvs l).toArray 24)).alloc (.cells (bvs r).toArray 24)) := (below_alloc w _).alloc (by simp) _
  obtain ⟨w1, hw1⟩ : ∃ w1, w1 = (w.alloc (.cells (bvs l).toArray 24)).alloc (.cells (bvs r).toArray 24) := ⟨_, rfl⟩
  rw [← hw1] at b1
  have HW := Lib.hid (And.intro b1 hw1)
  have C := Lib.hid (alive_any w1 (hk.below b1) (hs.below b1))
  have hi : decide ((20000 : Int) < (n : Int)) = true := by simp; omega
  clear b1 hw1
  unfold sv
  go_enter Tryd.func4, Tryd.ntmps4
  go_upto_region 1 with fail
  rw [← HW.out.2]
  go_wp2_with fail
  refine C.out.mono ?_
  rintro e w2 ⟨rfl, hb⟩
  go_wp2_with fail
  go_ret
  exact ⟨rfl, below_on HW.out.1 (Nat.le_refl _) hb⟩

set_option maxRecDepth 100000 in
set_option maxHeartbeats 4000000 in
theorem sums_some (w : World) (hk : Knows w) (hs : Starts w) (A : Option Addr) (n c : Nat) (xs l r : List Nat) (hc : Came w A n c xs) (hl : l.length = 32) (hr : r.length = 32) (ll : ∀ x ∈ l, x < 256) (lr : ∀ x ∈ r, x < 256) (h : n ≤ 20000) :
    Calls Tryd.prog 4 #[.slice A n c, sv l, sv r] w fun e w' => e = .returned (.bool true) ∧ Below w.heap.size w w' := by
  have b1 : Below w.heap.size w ((w.alloc (.cells (bvs l).toArray 24)).alloc (.cells (bvs r).toArray 24)) := (below_alloc w _).alloc (by simp) _
  have f0 := (BArr.new w 24 l).alloc (.cells (bvs r).toArray 24)
  have f1 := BArr.new (w.alloc (.cells (bvs l).toArray 24)) 24 r
  rw [World.size_alloc] at f1
  obtain ⟨w1, hw1⟩ : ∃ w1, w1 = (w.alloc (.cells (bvs l).toArray 24)).alloc (.cells (bvs r).toArray 24) := ⟨_, rfl⟩
  rw [← hw1] at b1 f0 f1
  have iL : In w1 (some ⟨w.heap.size, 0, none⟩) 32 l := ⟨hl, fun j x hx => ⟨_, rfl, f0.at_ j x hx⟩⟩
  have iR : In w1 (some ⟨w.heap.size + 1, 0, none⟩) 32 r := ⟨hr, fun j x hx => ⟨_, rfl, f1.at_ j x hx⟩⟩
  have HW := Lib.hid (And.intro b1 hw1)
  have HI := Lib.hid (And.intro iL (And.intro iR (And.intro f0 f1)))
  have HC := Lib.hid (And.intro hc (And.intro (And.intro hl hr) (And.intro ll lr)))
  have hi : decide ((20000 : Int) < (n : Int)) = false := by simp; omega
  have hsl := run_arr_all Tryd.underlying24
  have hbase := Nat.le_refl w1.heap.size
  clear b1 hw1 f0 f1 iL iR hc hl hr ll lr
  unfold sv
  go_enter Tryd.func4, Tryd.ntmps4
  go_upto_region 1 with fail
  rw [← HW.out.2]
  go_wp2_with fail
  refine wp_region_held_drew (S := fun W => Below w1.heap.size w1 W) (by kernel_rfl) ((Below.refl _ _).drew) (fun hS0 => ?_)
  change wpAnyH _ _ _ _ _ _ _ _ w1.drew
  refine' wpAnyH_take (i := 1) (oi := _) (v := _) ?hir1 (by kernel_rfl) ?hfr1 ?hrr1 ?hQr1 ?hyr1 hS0 ?restr1
  case hir1 => (simp only [List.getElem?_toArray, List.getElem?_cons_zero, List.getElem?_cons_succ]; rfl)
  case hfr1 => kernel_rfl
  case hrr1 => kernel_rfl
  case hQr1 => exact fun _ _ _ h => h
  case hyr1 => refine Or.inl ⟨by rfl, ?_⟩; intro W hSw; go_simp; try with_reducible rfl
  try simp only [Act.put, List.setIfInBounds_toArray, List.set_cons_zero, List.set_cons_succ]
  refine' wpAnyH_take (i := 3) (oi := _) (v := _) ?hir3 (by kernel_rfl) ?hfr3 ?hrr3 ?hQr3 ?hyr3 hS0 ?restr3
  case hir3 => (simp only [List.getElem?_toArray, List.getElem?_cons_zero, List.getElem?_cons_succ]; rfl)
  case hfr3 => kernel_rfl
  case hrr3 => kernel_rfl
  case hQr3 => exact fun _ _ _ h => h
  case hyr3 => refine Or.inl ⟨by rfl, ?_⟩; intro W hSw; go_simp; try with_reducible rfl
  try simp only [Act.put, List.setIfInBounds_toArray, List.set_cons_zero, List.set_cons_succ]
  refine wpAnyH_ready (rs := [0]) (by kernel_rfl) (by simp) ?_
  refine' AllReadyH.cons (o := _) ?hir0 (fun K hK => ?_) AllReadyH.nil
  case hir0 => (simp only [List.getElem?_toArray, List.getElem?_cons_zero]; rfl)
  go_simp
  have ow0 := own_one w1.drew 1 w1.heap.size 1 rfl (Nat.le_refl _)
  have hB1 := Below.alloc hS0 (Below.size hS0) (.cells #[.int .u8 1] 5)
  refine hK.out _ _ hB1 (fun _ => ?_)
  clear hK K
  try simp only [Act.put, List.setIfInBounds_toArray, List.set_cons_zero, List.set_cons_succ]
  refine wpAnyH_ready (rs := [2]) (by kernel_rfl) (by simp) ?_
  refine' AllReadyH.cons (o := _) ?hir2 (fun K hK => ?_) AllReadyH.nil
  case hir2 => (simp only [List.getElem?_toArray, List.getElem?_cons_zero, List.getElem?_cons_succ]; rfl)
  refine step_app (by rfl) _ _ (by rfl) w1.heap.size _ 1 1 [1] (by rfl) ow0 (some ⟨w.heap.size, 0, none⟩) 32 32 l (by rfl) (HI.out.1.below hB1) (fun e => by cases e) (by omega) (Below.size hB1) ?_
  intro A2 c2 W2 ow2 hb2
  have hB2 : Below w1.heap.size w1 W2 := Below.trans hB1 hb2
  refine hK.out _ _ hB2 (fun _ => ?_)
  clear hK K ow0
  try simp only [Act.put, List.setIfInBounds_toArray, List.set_cons_zero, List.set_cons_succ]
  refine wpAnyH_ready (rs := [4]) (by kernel_rfl) (by simp) ?_
  refine' AllReadyH.cons (o := _) ?hir4 (fun K hK => ?_) AllReadyH.nil
  case hir4 => (simp only [List.getElem?_toArray, List.getElem?_cons_zero, List.getElem?_cons_succ]; rfl)
  refine step_app (by rfl) _ _ (by rfl) w1.heap.size A2 33 c2 ([1] ++ l) (by rfl) ow2 (some ⟨w.heap.size + 1, 0, none⟩) 32 32 r (by rfl) (HI.out.2.1.below hB2) (fun e => by cases e) (by omega) (Below.size hB2) ?_
  intro A3 c3 W3 ow3 hb3
  have hB3 : Below w1.heap.size w1 W3 := Below.trans hB2 hb3
  refine hK.out _ _ hB3 (fun _ => ?_)
  clear hK K ow2
  try simp only [Act.put, List.setIfInBounds_toArray, List.set_cons_zero, List.set_cons_succ]
  refine' wpAnyH_take (i := 5) (oi := _) (v := _) ?hir5 (by kernel_rfl) ?hfr5 ?hrr5 ?hQr5 ?hyr5 hB3 ?restr5
  case hir5 => (simp only [List.getElem?_toArray, List.getElem?_cons_zero, List.getElem?_cons_succ]; rfl)
  case hfr5 => kernel_rfl
  case hrr5 => kernel_rfl
  case hQr5 => exact fun _ _ _ h => h
  case hyr5 => refine Or.inl ⟨by rfl, ?_⟩; intro W hSw; go_simp; try with_reducible rfl
  try simp only [Act.put, List.setIfInBounds_toArray, List.set_cons_zero, List.set_cons_succ]
  refine wpAnyH_done (by kernel_rfl) ?_ _
  have ix := In.of_own ow3
  have cx := own_cap ow3
  obtain ⟨ad3, hA3⟩ : ∃ ad, A3 = some ad := by obtain ⟨ad, _, e, _⟩ := ix.at_ (show 0 < 33 + 32 by omega); exact ⟨ad, e⟩
  subst hA3
  have hlx : ∀ x ∈ [1] ++ l ++ r, x < 256 := by
    intro x hx
    rcases List.mem_append.1 hx with h1 | h1
    · rcases List.mem_append.1 h1 with h2 | h2
      · simp at h2; omega
      · exact HC.out.2.2.1 x h2
    · exact HC.out.2.2.2 x h1
  have b3 := below_on HW.out.1 (Nat.le_refl _) hB3
  have HX := Lib.hid (And.intro ix (And.intro cx hlx))
  have H3 := Lib.hid (And.intro b3 (And.intro (HI.out.2.2.1.below hB3) (HI.out.2.2.2.below hB3)))
  have CA := Lib.hid (alive_any W3 (hk.below b3) (hs.below b3))
  clear ix cx hlx b3 hB3 hB2 hb3 hb2 ow3 hB1 hS0 HI hsl HW
  have hlN := nodeL_length l r
  have hlL := leafL_length xs
  obtain ⟨M, hM⟩ : ∃ M, leafL xs = M := ⟨_, rfl⟩
  obtain ⟨R, hR⟩ : ∃ R, nodeL l r = R := ⟨_, rfl⟩
  have hM2 : sha ([0] ++ xs) = M := by rw [← hM]; rfl
  have hR2 : sha ([1] ++ l ++ r) = R := by rw [← hR, nodeL, List.append_assoc]; rfl
  rw [hM] at hlL
  rw [hR] at hlN
  have q1 := run_eql_sum M M hlL hlL
  rw [decide_eq_true rfl] at q1
  have q3 := run_eql_sum R R hlN hlN
  rw [decide_eq_true rfl] at q3
  have q2 := run_guard_eql
  have HS := Lib.hid (And.intro hM (And.intro hM2 (And.intro hR hR2)))
  clear hM hM2 hR hR2 hlL hlN
  go_wp2_with fail
  refine CA.out.mono ?_
  rintro e W4 ⟨rfl, hb4⟩
  have B4 := Lib.hid (below_on H3.out.1 (Nat.le_refl _) hb4)
  have C4 := Lib.hid (leaf_any A n c xs W4 (HC.out.1.below B4.out) (hk.below B4.out) (hs.below B4.out) (by omega))
  rw [HS.out.1] at C4
  have D4 := Lib.hid (And.intro (HX.out.1.below hb4) (And.intro (H3.out.2.1.below hb4) (H3.out.2.2.below hb4)))
  clear CA hb4
  go_wp2_with fail
  refine C4.out.mono ?_
  rintro e W5 ⟨rfl, hb5⟩
  have B5 := Lib.hid (below_on B4.out (Nat.le_refl _) hb5)
  have D5 := Lib.hid (And.intro (D4.out.1.below hb5) (And.intro (D4.out.2.1.below hb5) (D4.out.2.2.below hb5)))
  have o5 := Lib.hid (own_one W5 0 W5.heap.size 0 rfl (Nat.le_refl _))
  have b6 := below_alloc W5 (.cells #[.int .u8 0] 5)
  have s6 := World.size_alloc W5 (.cells #[.int .u8 0] 5)
  obtain ⟨W6, hW6⟩ : ∃ W6, W6 = W5.alloc (.cells #[.int .u8 0] 5) := ⟨_, rfl⟩
  rw [← hW6] at o5 b6 s6
  have B6 := Lib.hid (below_on B5.out (Nat.le_refl _) b6)
  have D6 := Lib.hid (And.intro (D5.out.1.below b6) (And.intro (D5.out.2.1.below b6) (D5.out.2.2.below b6)))
  have I6 := Lib.hid (HC.out.1.below B6.out)
  have S6 := Lib.hid s6
  have B56 := Lib.hid b6
  have HW6 := Lib.hid hW6
  clear C4 hb5 b6 s6 hW6 B4 D4
  go_wp2_with (rw [← HW6.out]; refine wpList_step fun K hK => ?_; refine step_app_at (K := K) (by rfl) _ _ (by rfl) W5.heap.size _ 1 1 [0] (by rfl) o5.out A n c xs (by rfl) I6.out.in_ I6.out.nil (by omega) (by have := S6.out; omega) ?_; intro A7 c7 W7 ow7 nx7; refine hK _ _ ?_; clear hK K)
  have b57 := nx7.below o5.out B56.out (Nat.le_refl _) B56.out.size
  have B7 := Lib.hid (below_on B5.out (Nat.le_refl _) b57)
  have D7 := Lib.hid (And.intro (D5.out.1.below b57) (And.intro (D5.out.2.1.below b57) (D5.out.2.2.below b57)))
  have C7 := Lib.hid (of_any A7 (1 + n) c7 ([0] ++ xs) W7 (In.of_own ow7) (by intro x hx; rcases List.mem_append.1 hx with h1 | h1; · simp at h1; omega
                                                                              · exact HC.out.1.lt x h1) (own_cap ow7) (hk.below B7.out) (hs.below B7.out) (by omega))
  rw [HS.out.2.1] at C7
  clear b57 nx7 ow7 o5 B56 D5 B5 B6 D6 I6 S6 HW6
  refine C7.out.mono ?_
  rintro e W8 ⟨rfl, hb8⟩
  have B8 := Lib.hid (below_on B7.out (Nat.le_refl _) hb8)
  have D8 := Lib.hid (And.intro (D7.out.1.below hb8) (And.intro (D7.out.2.1.below hb8) (D7.out.2.2.below hb8)))
  have C8 := Lib.hid (node_any l r W8 HC.out.2.1.1 HC.out.2.1.2 HC.out.2.2.1 HC.out.2.2.2 (hk.below B8.out) (hs.below B8.out))
  rw [HS.out.2.2.1] at C8
  have HLN := Lib.hid HC.out.2.1
  clear hb8 C7 D7 B7
  go_wp2_with (first | refine wpList_load_sum_g (by rfl) (.tmp 4) (by rfl) ⟨w.heap.size, 0, none⟩ (by rfl) l HLN.out.1 D8.out.2.1.at_ ?_ | refine wpList_load_sum_g (by rfl) (.tmp 5) (by rfl) ⟨w.heap.size + 1, 0, none⟩ (by rfl) r HLN.out.2 D8.out.2.2.at_ ?_)
  refine C8.out.mono ?_
  rintro e W9 ⟨rfl, hb9⟩
  have B9 := Lib.hid (below_on B8.out (Nat.le_refl _) hb9)
  have C9 := Lib.hid (of_any (some ad3) (33 + 32) c3 ([1] ++ l ++ r) W9 (D8.out.1.below hb9) HX.out.2.2 HX.out.2.1 (hk.below B9.out) (hs.below B9.out) (by omega))
  rw [HS.out.2.2.2] at C9
  clear hb9 C8 D8 B8
  go_wp2_with fail
  refine C9.out.mono ?_
  rintro e W10 ⟨rfl, hb10⟩
  go_wp2_with fail
  go_ret
  exact ⟨rfl, below_on B9.out (Nat.le_refl _) hb10⟩

theorem leavesSums_law (w : World) (hk : Knows w) (hs : Starts w) {A : Option Addr} {n c : Nat} {xs l r : List Nat} (hc : Came w A n c xs) (hl : l.length = 32) (ll : ∀ x ∈ l, x < 256) (hr : r.length = 32) (lr : ∀ x ∈ r, x < 256) :
    Calls Tryd.prog 4 #[.slice A n c, sv l, sv r] w fun e w' => e = .returned (.bool true) ∧ Below w.heap.size w w' := by
  by_cases h : 20000 < n
  · exact sums_else w hk hs A n c l r h
  · exact sums_some w hk hs A n c xs l r hc hl hr ll lr (by omega)

end Go.Proofs.YtigmbiigaiajdaaDoor
