/-
  Several texts in one: CIsLaw, LArrArg, LListSum, CArg.
-/
import Derived.Test.YtcekfnngnjpeeaaDoorCcIs2
import Derived.Test.YtcekfnngnjpeeaaDoorKMiss
import Derived.Test.YtcekfnngnjpeeaaDoorLPre
import Derived.ProofKit
import Derived.OpenShut
import Derived.Test.YtcekfnngnjpeeaaDoorLRows
/-
  almonerlaw13.ClashesIs.
-/
namespace Go.Proofs.YtcekfnngnjpeeaaDoor
open Go.RowKit

theorem isC_symm (xs ys : List Nat) : isC ys xs = isC xs ys := by
  unfold isC
  rw [show decide (ys = xs) = decide (xs = ys) from decide_eq_decide.2 ⟨Eq.symm, Eq.symm⟩, show decide (sha ys = sha xs) = decide (sha xs = sha ys) from decide_eq_decide.2 ⟨Eq.symm, Eq.symm⟩]

section
variable {w : World} {A B : Option Addr} {n m c d : Nat} {xs ys : List Nat}

set_option maxRecDepth 100000 in
set_option maxHeartbeats 8000000 in
theorem cis_law_any (hA : Came w A n c xs) (hB : Came w B m d ys) (hn : n ≤ 140737488355328) (hm : m ≤ 140737488355328) (hk : Knows w) (hks : Starts w) :
    Calls Tryd.prog 3 #[clv A n c B m d] w fun e w' => e = .returned (.bool true) ∧ Below w.heap.size w w' := by
  obtain ⟨g, hg⟩ : ∃ g, w.heap.size = g := ⟨_, rfl⟩
  have c1 := Cells.new w 24 #[.slice A n c, .slice B m d]
  have b1 := below_alloc w (.cells #[.slice A n c, .slice B m d] 24)
  obtain ⟨w1, hw1⟩ : ∃ x, x = w.alloc (.cells #[.slice A n c, .slice B m d] 24) := ⟨_, rfl⟩
  rw [← hw1] at c1 b1
  have HG := Lib.hid hg
  have HW := Lib.hid hw1
  have HB := Lib.hid b1
  have CA := Lib.hid (fun (W : World) (hW : Below w.heap.size w W) => calive_on hk hks hW)
  rw [hg] at c1
  have x0 := c1.cell 0 (v := .slice A n c) rfl
  have x1 := c1.cell 1 (v := .slice B m d) rfl
  by_cases hsz : n + m ≤ 20000
  · have CI := Lib.hid (is_any (w := w1) (hA.below b1) (hB.below b1) (by omega) (by omega) (hk.below b1) (hks.below b1))
    have HC := Lib.hid c1
    have HKS := Lib.hid (And.intro hA (And.intro hB (And.intro hk hks)))
    have hi : ¬ ((20000 : Int) < (n : Int) + (m : Int)) := by omega
    rw [hg]
    clear hw1 b1 hg c1 hk hks hA hB
    unfold clv at CI ⊢
    go_enter Tryd.func3, Tryd.ntmps3
    go_upto_region 1 with fail
    rw [← HW.out]
    rw [HG.out]
    go_upto_region 3 with fail
    go_wp2_with fail
    refine CI.out.mono ?_
    rintro e w2 ⟨rfl, hb2⟩
    have HB2 := Lib.hid (below_on HB.out (Nat.le_refl _) hb2)
    have HC2 := Lib.hid (HC.out.below hb2)
    clear CI hb2 x0 x1 hi
    go_upto_region 4 with fail
    have HC0 := Lib.hid (fun (W : World) (hW : Below w2.heap.size w2 W) => show W.cell? ⟨g, 0, none⟩ = some (.slice A n c) from (HC2.out.below hW).cell 0 rfl)
    have HC1 := Lib.hid (fun (W : World) (hW : Below w2.heap.size w2 W) => show W.cell? ⟨g, 1, none⟩ = some (.slice B m d) from (HC2.out.below hW).cell 1 rfl)
    have CS := Lib.hid (fun (W : World) (hW : Below w2.heap.size w2 W) => show Calls Tryd.prog 10 #[.slice A n c, .slice B m d] W fun e w' => e = .returned (.bool (decide (xs = ys))) ∧ Below W.heap.size W w' from
      (sameBytes_any A B n m c d xs ys W ((HKS.out.1.below (below_on HB2.out (Nat.le_refl _) hW)).in_) ((HKS.out.2.1.below (below_on HB2.out (Nat.le_refl _) hW)).in_) (by omega)).mono fun e w' ⟨he, q, hq⟩ => ⟨he, by rw [hq]; exact ⟨rfl, rfl, rfl, Nat.le_refl _, fun _ _ => rfl⟩⟩)
    obtain ⟨s, hs0⟩ : ∃ s, sha xs = s := ⟨_, rfl⟩
    obtain ⟨t, ht0⟩ : ∃ t, sha ys = t := ⟨_, rfl⟩
    have sl : s.length = 32 := by rw [← hs0]; exact sha_length _
    have tl : t.length = 32 := by rw [← ht0]; exact sha_length _
    have CX := Lib.hid (fun (W : World) (hW : Below w2.heap.size w2 W) => show Calls Tryd.prog 11 #[.slice A n c] W fun e w' => e = .returned (sv s) ∧ Below W.heap.size W w' from by
      have hb := below_on HB2.out (Nat.le_refl _) hW
      rw [← hs0]; exact of_any A n c xs W (HKS.out.1.below hb).in_ HKS.out.1.lt HKS.out.1.cap (HKS.out.2.2.1.below hb) (HKS.out.2.2.2.below hb) (by omega))
    have CY := Lib.hid (fun (W : World) (hW : Below w2.heap.size w2 W) => show Calls Tryd.prog 11 #[.slice B m d] W fun e w' => e = .returned (sv t) ∧ Below W.heap.size W w' from by
      have hb := below_on HB2.out (Nat.le_refl _) hW
      rw [← ht0]; exact of_any B m d ys W (HKS.out.2.1.below hb).in_ HKS.out.2.1.lt HKS.out.2.1.cap (HKS.out.2.2.1.below hb) (HKS.out.2.2.2.below hb) (by omega))
    have hB : isC xs ys = (!decide (xs = ys) && decide (s = t)) := by rw [← hs0, ← ht0]; rfl
    have CZ := Lib.hid (fun (W : World) (hW : Below w2.heap.size w2 W) => show Calls Tryd.prog 9 #[.agg #[.slice B m d, .slice A n c]] W fun e w' => e = .returned (.bool (!decide (xs = ys) && decide (s = t))) ∧ Below W.heap.size W w' from by
      have hb := below_on HB2.out (Nat.le_refl _) hW
      rw [← hB, ← isC_symm]; exact is_any (HKS.out.2.1.below hb) (HKS.out.1.below hb) (by omega) (by omega) (HKS.out.2.2.1.below hb) (HKS.out.2.2.2.below hb))
    have n1 := run_eql_sum s t sl tl
    have n2 := run_guard_eql
    have CL := Lib.hid (fun (W : World) (hW : Below w2.heap.size w2 W) => CA.out W (below_on HB2.out (Nat.le_refl _) hW))
    rw [hB]
    obtain ⟨b, hb⟩ : ∃ b, decide (xs = ys) = b := ⟨_, rfl⟩
    obtain ⟨b2, hb2⟩ : ∃ b, decide (s = t) = b := ⟨_, rfl⟩
    rw [hb] at CS CZ ⊢
    rw [hb2] at n1 CZ ⊢
    clear hB hs0 ht0 hb hb2
    have e1 : ∀ (x : Bool) (W : World), (binOp .eql 4 (.bool x) (.bool x)).run Tryd.prog W = .ok (.bool true) W := fun x W => by simp [go_sem]
    cases b with
    | false =>
      cases b2 with
      | false =>
        have hSa1 : Below w2.heap.size w2 w2.drew := (Below.refl _ _).drew
        refine wp_region_held_drew (S := fun W => Below w2.heap.size w2 W) (by kernel_rfl) (hSa1) (fun _ => ?_)
        change wpAnyH _ _ _ _ _ _ _ _ w2.drew
        generalize w2.drew = Wa2 at hSa1 ⊢
        refine wpAnyH_ready (rs := [0]) (by kernel_rfl) (by simp) ?_
        refine' (AllReadyH.cons (o := _) ?hia3 (fun K hK => ?_) AllReadyH.nil)
        case hia3 => (simp only [List.getElem?_toArray, List.getElem?_cons_zero]; rfl)
        go_simp
        go_at_call 8
        refine (CL.out Wa2 hSa1).mono ?_
        rintro e Wa6 ⟨rfl, hba4⟩
        have hBa5 := below_on hSa1 (Nat.le_refl _) hba4
        refine hK.out _ _ (hBa5) (fun _ => ?_)
        clear hK K
        try simp only [Act.put, List.setIfInBounds_toArray, List.set_cons_zero, List.set_cons_succ]
        refine' wpAnyH_take (i := 1) (oi := _) (v := _) ?hia7 (by kernel_rfl) ?hfa7 ?hra7 ?hQa7 ?hya7 (hBa5) ?resta7
        case hia7 => (simp only [List.getElem?_toArray, List.getElem?_cons_zero, List.getElem?_cons_succ]; rfl)
        case hfa7 => kernel_rfl
        case hra7 => kernel_rfl
        case hQa7 => exact fun _ _ _ h => h
        case hya7 => refine Or.inl ⟨by rfl, ?_⟩; intro W hSw; go_simp; try with_reducible rfl
        try simp only [Act.put, List.setIfInBounds_toArray, List.set_cons_zero, List.set_cons_succ]
        refine' wpAnyH_take (i := 2) (oi := _) (v := _) ?hia8 (by kernel_rfl) ?hfa8 ?hra8 ?hQa8 ?hya8 (hBa5) ?resta8
        case hia8 => (simp only [List.getElem?_toArray, List.getElem?_cons_zero, List.getElem?_cons_succ]; rfl)
        case hfa8 => kernel_rfl
        case hra8 => kernel_rfl
        case hQa8 => exact fun _ _ _ h => h
        case hya8 => refine Or.inl ⟨by rfl, ?_⟩; intro W hSw; go_simp; try with_reducible rfl
        try simp only [Act.put, List.setIfInBounds_toArray, List.set_cons_zero, List.set_cons_succ]
        refine' wpAnyH_take (i := 3) (oi := _) (v := _) ?hia9 (by kernel_rfl) ?hfa9 ?hra9 ?hQa9 ?hya9 (hBa5) ?resta9
        case hia9 => (simp only [List.getElem?_toArray, List.getElem?_cons_zero, List.getElem?_cons_succ]; rfl)
        case hfa9 => kernel_rfl
        case hra9 => kernel_rfl
        case hQa9 => exact fun _ _ _ h => h
        case hya9 => refine Or.inl ⟨by rfl, ?_⟩; intro W hSw; go_simp; try with_reducible rfl
        try simp only [Act.put, List.setIfInBounds_toArray, List.set_cons_zero, List.set_cons_succ]
        refine' wpAnyH_take (i := 4) (oi := _) (v := _) ?hia10 (by kernel_rfl) ?hfa10 ?hra10 ?hQa10 ?hya10 (hBa5) ?resta10
        case hia10 => (simp only [List.getElem?_toArray, List.getElem?_cons_zero, List.getElem?_cons_succ]; rfl)
        case hfa10 => kernel_rfl
        case hra10 => kernel_rfl
        case hQa10 => exact fun _ _ _ h => h
        case hya10 => refine Or.inl ⟨by rfl, ?_⟩; intro W hSw; have hcc := HC0.out W hSw; go_simp; try with_reducible rfl
        try simp only [Act.put, List.setIfInBounds_toArray, List.set_cons_zero, List.set_cons_succ]
        refine' wpAnyH_take (i := 5) (oi := _) (v := _) ?hia11 (by kernel_rfl) ?hfa11 ?hra11 ?hQa11 ?hya11 (hBa5) ?resta11
        case hia11 => (simp only [List.getElem?_toArray, List.getElem?_cons_zero, List.getElem?_cons_succ]; rfl)
        case hfa11 => kernel_rfl
        case hra11 => kernel_rfl
        case hQa11 => exact fun _ _ _ h => h
        case hya11 => refine Or.inl ⟨by rfl, ?_⟩; intro W hSw; go_simp; try with_reducible rfl
        try simp only [Act.put, List.setIfInBounds_toArray, List.set_cons_zero, List.set_cons_succ]
        refine' wpAnyH_take (i := 6) (oi := _) (v := _) ?hia12 (by kernel_rfl) ?hfa12 ?hra12 ?hQa12 ?hya12 (hBa5) ?resta12
        case hia12 => (simp only [List.getElem?_toArray, List.getElem?_cons_zero, List.getElem?_cons_succ]; rfl)
        case hfa12 => kernel_rfl
        case hra12 => kernel_rfl
        case hQa12 => exact fun _ _ _ h => h
        case hya12 => refine Or.inl ⟨by rfl, ?_⟩; intro W hSw; have hcc := HC1.out W hSw; go_simp; try with_reducible rfl
        try simp only [Act.put, List.setIfInBounds_toArray, List.set_cons_zero, List.set_cons_succ]
        refine wpAnyH_ready (rs := [7]) (by kernel_rfl) (by simp) ?_
        refine' (AllReadyH.cons (o := _) ?hia13 (fun K hK => ?_) AllReadyH.nil)
        case hia13 => (simp only [List.getElem?_toArray, List.getElem?_cons_zero, List.getElem?_cons_succ]; rfl)
        go_simp
        go_at_call 10
        refine (CS.out Wa6 hBa5).mono ?_
        rintro e Wa16 ⟨rfl, hba14⟩
        have hBa15 := below_on hBa5 (Nat.le_refl _) hba14
        refine hK.out _ _ (hBa15) (fun _ => ?_)
        clear hK K
        try simp only [Act.put, List.setIfInBounds_toArray, List.set_cons_zero, List.set_cons_succ]
        refine' wpAnyH_take (i := 8) (oi := _) (v := _) ?hia17 (by kernel_rfl) ?hfa17 ?hra17 ?hQa17 ?hya17 (hBa15) ?resta17
        case hia17 => (simp only [List.getElem?_toArray, List.getElem?_cons_zero, List.getElem?_cons_succ]; rfl)
        case hfa17 => kernel_rfl
        case hra17 => kernel_rfl
        case hQa17 => exact fun _ _ _ h => h
        case hya17 => refine Or.inl ⟨by rfl, ?_⟩; intro W hSw; go_simp; try with_reducible rfl
        try simp only [Act.put, List.setIfInBounds_toArray, List.set_cons_zero, List.set_cons_succ]
        refine' wpAnyH_take (i := 9) (oi := _) (v := _) ?hia18 (by kernel_rfl) ?hfa18 ?hra18 ?hQa18 ?hya18 (hBa15) ?resta18
        case hia18 => (simp only [List.getElem?_toArray, List.getElem?_cons_zero, List.getElem?_cons_succ]; rfl)
        case hfa18 => kernel_rfl
        case hra18 => kernel_rfl
        case hQa18 => exact fun _ _ _ h => h
        case hya18 => refine Or.inl ⟨by rfl, ?_⟩; intro W hSw; go_simp; try with_reducible rfl
        try simp only [Act.put, List.setIfInBounds_toArray, List.set_cons_zero, List.set_cons_succ]
        refine' wpAnyH_take (i := 10) (oi := _) (v := _) ?hia19 (by kernel_rfl) ?hfa19 ?hra19 ?hQa19 ?hya19 (hBa15) ?resta19
        case hia19 => (simp only [List.getElem?_toArray, List.getElem?_cons_zero, List.getElem?_cons_succ]; rfl)
        case hfa19 => kernel_rfl
        case hra19 => kernel_rfl
        case hQa19 => exact fun _ _ _ h => h
        case hya19 => refine Or.inl ⟨by rfl, ?_⟩; intro W hSw; go_simp; try with_reducible rfl
        try simp only [Act.put, List.setIfInBounds_toArray, List.set_cons_zero, List.set_cons_succ]
        refine' wpAnyH_take (i := 11) (oi := _) (v := _) ?hia20 (by kernel_rfl) ?hfa20 ?hra20 ?hQa20 ?hya20 (hBa15) ?resta20
        case hia20 => (simp only [List.getElem?_toArray, List.getElem?_cons_zero, List.getElem?_cons_succ]; rfl)
        case hfa20 => kernel_rfl
        case hra20 => kernel_rfl
        case hQa20 => exact fun _ _ _ h => h
        case hya20 => refine Or.inl ⟨by rfl, ?_⟩; intro W hSw; have hcc := HC0.out W hSw; go_simp; try with_reducible rfl
        try simp only [Act.put, List.setIfInBounds_toArray, List.set_cons_zero, List.set_cons_succ]
        refine' wpAnyH_take (i := 13) (oi := _) (v := _) ?hia21 (by kernel_rfl) ?hfa21 ?hra21 ?hQa21 ?hya21 (hBa15) ?resta21
        case hia21 => (simp only [List.getElem?_toArray, List.getElem?_cons_zero, List.getElem?_cons_succ]; rfl)
        case hfa21 => kernel_rfl
        case hra21 => kernel_rfl
        case hQa21 => exact fun _ _ _ h => h
        case hya21 => refine Or.inl ⟨by rfl, ?_⟩; intro W hSw; go_simp; try with_reducible rfl
        try simp only [Act.put, List.setIfInBounds_toArray, List.set_cons_zero, List.set_cons_succ]
        refine' wpAnyH_take (i := 14) (oi := _) (v := _) ?hia22 (by kernel_rfl) ?hfa22 ?hra22 ?hQa22 ?hya22 (hBa15) ?resta22
        case hia22 => (simp only [List.getElem?_toArray, List.getElem?_cons_zero, List.getElem?_cons_succ]; rfl)
        case hfa22 => kernel_rfl
        case hra22 => kernel_rfl
        case hQa22 => exact fun _ _ _ h => h
        case hya22 => refine Or.inl ⟨by rfl, ?_⟩; intro W hSw; have hcc := HC1.out W hSw; go_simp; try with_reducible rfl
        try simp only [Act.put, List.setIfInBounds_toArray, List.set_cons_zero, List.set_cons_succ]
        refine wpAnyH_ready (rs := [12]) (by kernel_rfl) (by simp) ?_
        refine' (AllReadyH.cons (o := _) ?hia23 (fun K hK => ?_) AllReadyH.nil)
        case hia23 => (simp only [List.getElem?_toArray, List.getElem?_cons_zero, List.getElem?_cons_succ]; rfl)
        go_simp
        go_at_call 11
        refine (CX.out Wa16 hBa15).mono ?_
        rintro e Wa26 ⟨rfl, hba24⟩
        have hBa25 := below_on hBa15 (Nat.le_refl _) hba24
        refine hK.out _ _ (hBa25) (fun _ => ?_)
        clear hK K
        try simp only [Act.put, List.setIfInBounds_toArray, List.set_cons_zero, List.set_cons_succ]
        refine wpAnyH_ready (rs := [15]) (by kernel_rfl) (by simp) ?_
        refine' (AllReadyH.cons (o := _) ?hia27 (fun K hK => ?_) AllReadyH.nil)
        case hia27 => (simp only [List.getElem?_toArray, List.getElem?_cons_zero, List.getElem?_cons_succ]; rfl)
        go_simp
        go_at_call 11
        refine (CY.out Wa26 hBa25).mono ?_
        rintro e Wa30 ⟨rfl, hba28⟩
        have hBa29 := below_on hBa25 (Nat.le_refl _) hba28
        refine hK.out _ _ (hBa29) (fun _ => ?_)
        clear hK K
        try simp only [Act.put, List.setIfInBounds_toArray, List.set_cons_zero, List.set_cons_succ]
        refine' wpAnyH_take (i := 16) (oi := _) (v := _) ?hia31 (by kernel_rfl) ?hfa31 ?hra31 ?hQa31 ?hya31 (hBa29) ?resta31
        case hia31 => (simp only [List.getElem?_toArray, List.getElem?_cons_zero, List.getElem?_cons_succ]; rfl)
        case hfa31 => kernel_rfl
        case hra31 => kernel_rfl
        case hQa31 => exact fun _ _ _ h => h
        case hya31 => refine Or.inl ⟨by rfl, ?_⟩; intro W hSw; go_simp; try with_reducible rfl
        try simp only [Act.put, List.setIfInBounds_toArray, List.set_cons_zero, List.set_cons_succ]
        refine' wpAnyH_take (i := 17) (oi := _) (v := _) ?hia32 (by kernel_rfl) ?hfa32 ?hra32 ?hQa32 ?hya32 (hBa29) ?resta32
        case hia32 => (simp only [List.getElem?_toArray, List.getElem?_cons_zero, List.getElem?_cons_succ]; rfl)
        case hfa32 => kernel_rfl
        case hra32 => kernel_rfl
        case hQa32 => exact fun _ _ _ h => h
        case hya32 => refine Or.inl ⟨by rfl, ?_⟩; intro W hSw; go_simp; try with_reducible rfl
        try simp only [Act.put, List.setIfInBounds_toArray, List.set_cons_zero, List.set_cons_succ]
        refine' wpAnyH_take (i := 18) (oi := _) (v := _) ?hia33 (by kernel_rfl) ?hfa33 ?hra33 ?hQa33 ?hya33 (hBa29) ?resta33
        case hia33 => (simp only [List.getElem?_toArray, List.getElem?_cons_zero, List.getElem?_cons_succ]; rfl)
        case hfa33 => kernel_rfl
        case hra33 => kernel_rfl
        case hQa33 => exact fun _ _ _ h => h
        case hya33 => refine Or.inl ⟨by rfl, ?_⟩; intro W hSw; go_simp; try with_reducible rfl
        try simp only [Act.put, List.setIfInBounds_toArray, List.set_cons_zero, List.set_cons_succ]
        refine' wpAnyH_take (i := 19) (oi := _) (v := _) ?hia34 (by kernel_rfl) ?hfa34 ?hra34 ?hQa34 ?hya34 (hBa29) ?resta34
        case hia34 => (simp only [List.getElem?_toArray, List.getElem?_cons_zero, List.getElem?_cons_succ]; rfl)
        case hfa34 => kernel_rfl
        case hra34 => kernel_rfl
        case hQa34 => exact fun _ _ _ h => h
        case hya34 => refine Or.inl ⟨by rfl, ?_⟩; intro W hSw; go_simp; try with_reducible rfl
        try simp only [Act.put, List.setIfInBounds_toArray, List.set_cons_zero, List.set_cons_succ]
        refine' wpAnyH_take (i := 20) (oi := _) (v := _) ?hia35 (by kernel_rfl) ?hfa35 ?hra35 ?hQa35 ?hya35 (hBa29) ?resta35
        case hia35 => (simp only [List.getElem?_toArray, List.getElem?_cons_zero, List.getElem?_cons_succ]; rfl)
        case hfa35 => kernel_rfl
        case hra35 => kernel_rfl
        case hQa35 => exact fun _ _ _ h => h
        case hya35 => refine Or.inl ⟨by rfl, ?_⟩; intro W hSw; go_simp; try with_reducible rfl
        try simp only [Act.put, List.setIfInBounds_toArray, List.set_cons_zero, List.set_cons_succ]
        refine' wpAnyH_take (i := 21) (oi := _) (v := _) ?hia36 (by kernel_rfl) ?hfa36 ?hra36 ?hQa36 ?hya36 (hBa29) ?resta36
        case hia36 => (simp only [List.getElem?_toArray, List.getElem?_cons_zero, List.getElem?_cons_succ]; rfl)
        case hfa36 => kernel_rfl
        case hra36 => kernel_rfl
        case hQa36 => exact fun _ _ _ h => h
        case hya36 => refine Or.inl ⟨by rfl, ?_⟩; intro W hSw; go_simp; try with_reducible rfl
        try simp only [Act.put, List.setIfInBounds_toArray, List.set_cons_zero, List.set_cons_succ]
        refine' wpAnyH_take (i := 22) (oi := _) (v := _) ?hia37 (by kernel_rfl) ?hfa37 ?hra37 ?hQa37 ?hya37 (hBa29) ?resta37
        case hia37 => (simp only [List.getElem?_toArray, List.getElem?_cons_zero, List.getElem?_cons_succ]; rfl)
        case hfa37 => kernel_rfl
        case hra37 => kernel_rfl
        case hQa37 => exact fun _ _ _ h => h
        case hya37 => refine Or.inl ⟨by rfl, ?_⟩; intro W hSw; go_simp; try with_reducible rfl
        try simp only [Act.put, List.setIfInBounds_toArray, List.set_cons_zero, List.set_cons_succ]
        refine' wpAnyH_take (i := 23) (oi := _) (v := _) ?hia38 (by kernel_rfl) ?hfa38 ?hra38 ?hQa38 ?hya38 (hBa29) ?resta38
        case hia38 => (simp only [List.getElem?_toArray, List.getElem?_cons_zero, List.getElem?_cons_succ]; rfl)
        case hfa38 => kernel_rfl
        case hra38 => kernel_rfl
        case hQa38 => exact fun _ _ _ h => h
        case hya38 => refine Or.inl ⟨by rfl, ?_⟩; intro W hSw; have hcc := HC1.out W hSw; go_simp; try with_reducible rfl
        try simp only [Act.put, List.setIfInBounds_toArray, List.set_cons_zero, List.set_cons_succ]
        refine' wpAnyH_take (i := 24) (oi := _) (v := _) ?hia39 (by kernel_rfl) ?hfa39 ?hra39 ?hQa39 ?hya39 (hBa29) ?resta39
        case hia39 => (simp only [List.getElem?_toArray, List.getElem?_cons_zero, List.getElem?_cons_succ]; rfl)
        case hfa39 => kernel_rfl
        case hra39 => kernel_rfl
        case hQa39 => exact fun _ _ _ h => h
        case hya39 => refine Or.inl ⟨by rfl, ?_⟩; intro W hSw; go_simp; try with_reducible rfl
        try simp only [Act.put, List.setIfInBounds_toArray, List.set_cons_zero, List.set_cons_succ]
        refine' wpAnyH_take (i := 25) (oi := _) (v := _) ?hia40 (by kernel_rfl) ?hfa40 ?hra40 ?hQa40 ?hya40 (hBa29) ?resta40
        case hia40 => (simp only [List.getElem?_toArray, List.getElem?_cons_zero, List.getElem?_cons_succ]; rfl)
        case hfa40 => kernel_rfl
        case hra40 => kernel_rfl
        case hQa40 => exact fun _ _ _ h => h
        case hya40 => refine Or.inl ⟨by rfl, ?_⟩; intro W hSw; have hcc := HC0.out W hSw; go_simp; try with_reducible rfl
        try simp only [Act.put, List.setIfInBounds_toArray, List.set_cons_zero, List.set_cons_succ]
        refine' wpAnyH_take (i := 26) (oi := _) (v := _) ?hia41 (by kernel_rfl) ?hfa41 ?hra41 ?hQa41 ?hya41 (hBa29) ?resta41
        case hia41 => (simp only [List.getElem?_toArray, List.getElem?_cons_zero, List.getElem?_cons_succ]; rfl)
        case hfa41 => kernel_rfl
        case hra41 => kernel_rfl
        case hQa41 => exact fun _ _ _ h => h
        case hya41 => refine Or.inl ⟨by rfl, ?_⟩; intro W hSw; go_simp; try with_reducible rfl
        try simp only [Act.put, List.setIfInBounds_toArray, List.set_cons_zero, List.set_cons_succ]
        refine wpAnyH_ready (rs := [27]) (by kernel_rfl) (by simp) ?_
        refine' (AllReadyH.cons (o := _) ?hia42 (fun K hK => ?_) AllReadyH.nil)
        case hia42 => (simp only [List.getElem?_toArray, List.getElem?_cons_zero, List.getElem?_cons_succ]; rfl)
        go_simp
        go_at_call 9
        refine (CZ.out Wa30 hBa29).mono ?_
        rintro e Wa45 ⟨rfl, hba43⟩
        have hBa44 := below_on hBa29 (Nat.le_refl _) hba43
        refine hK.out _ _ (hBa44) (fun _ => ?_)
        clear hK K
        try simp only [Act.put, List.setIfInBounds_toArray, List.set_cons_zero, List.set_cons_succ]
        refine' wpAnyH_take (i := 28) (oi := _) (v := _) ?hia46 (by kernel_rfl) ?hfa46 ?hra46 ?hQa46 ?hya46 (hBa44) ?resta46
        case hia46 => (simp only [List.getElem?_toArray, List.getElem?_cons_zero, List.getElem?_cons_succ]; rfl)
        case hfa46 => kernel_rfl
        case hra46 => kernel_rfl
        case hQa46 => exact fun _ _ _ h => h
        case hya46 => refine Or.inl ⟨by rfl, ?_⟩; intro W hSw; go_simp; try with_reducible rfl
        try simp only [Act.put, List.setIfInBounds_toArray, List.set_cons_zero, List.set_cons_succ]
        refine' wpAnyH_take (i := 29) (oi := _) (v := _) ?hia47 (by kernel_rfl) ?hfa47 ?hra47 ?hQa47 ?hya47 (hBa44) ?resta47
        case hia47 => (simp only [List.getElem?_toArray, List.getElem?_cons_zero, List.getElem?_cons_succ]; rfl)
        case hfa47 => kernel_rfl
        case hra47 => kernel_rfl
        case hQa47 => exact fun _ _ _ h => h
        case hya47 => refine Or.inl ⟨by rfl, ?_⟩; intro W hSw; go_simp; try with_reducible rfl
        try simp only [Act.put, List.setIfInBounds_toArray, List.set_cons_zero, List.set_cons_succ]
        refine' wpAnyH_take (i := 30) (oi := _) (v := _) ?hia48 (by kernel_rfl) ?hfa48 ?hra48 ?hQa48 ?hya48 (hBa44) ?resta48
        case hia48 => (simp only [List.getElem?_toArray, List.getElem?_cons_zero, List.getElem?_cons_succ]; rfl)
        case hfa48 => kernel_rfl
        case hra48 => kernel_rfl
        case hQa48 => exact fun _ _ _ h => h
        case hya48 => refine Or.inl ⟨by rfl, ?_⟩; intro W hSw; go_simp; try with_reducible rfl
        try simp only [Act.put, List.setIfInBounds_toArray, List.set_cons_zero, List.set_cons_succ]
        refine wpAnyH_done (by kernel_rfl) ?_ _
        go_wp2_with fail
        go_ret
        exact ⟨rfl, by rw [← HG.out]; exact below_on HB2.out (Nat.le_refl _) hBa44⟩
      | true =>
        have hSb1 : Below w2.heap.size w2 w2.drew := (Below.refl _ _).drew
        refine wp_region_held_drew (S := fun W => Below w2.heap.size w2 W) (by kernel_rfl) (hSb1) (fun _ => ?_)
        change wpAnyH _ _ _ _ _ _ _ _ w2.drew
        generalize w2.drew = Wb2 at hSb1 ⊢
        refine wpAnyH_ready (rs := [0]) (by kernel_rfl) (by simp) ?_
        refine' (AllReadyH.cons (o := _) ?hib3 (fun K hK => ?_) AllReadyH.nil)
        case hib3 => (simp only [List.getElem?_toArray, List.getElem?_cons_zero]; rfl)
        go_simp
        go_at_call 8
        refine (CL.out Wb2 hSb1).mono ?_
        rintro e Wb6 ⟨rfl, hbb4⟩
        have hBb5 := below_on hSb1 (Nat.le_refl _) hbb4
        refine hK.out _ _ (hBb5) (fun _ => ?_)
        clear hK K
        try simp only [Act.put, List.setIfInBounds_toArray, List.set_cons_zero, List.set_cons_succ]
        refine' wpAnyH_take (i := 1) (oi := _) (v := _) ?hib7 (by kernel_rfl) ?hfb7 ?hrb7 ?hQb7 ?hyb7 (hBb5) ?restb7
        case hib7 => (simp only [List.getElem?_toArray, List.getElem?_cons_zero, List.getElem?_cons_succ]; rfl)
        case hfb7 => kernel_rfl
        case hrb7 => kernel_rfl
        case hQb7 => exact fun _ _ _ h => h
        case hyb7 => refine Or.inl ⟨by rfl, ?_⟩; intro W hSw; go_simp; try with_reducible rfl
        try simp only [Act.put, List.setIfInBounds_toArray, List.set_cons_zero, List.set_cons_succ]
        refine' wpAnyH_take (i := 2) (oi := _) (v := _) ?hib8 (by kernel_rfl) ?hfb8 ?hrb8 ?hQb8 ?hyb8 (hBb5) ?restb8
        case hib8 => (simp only [List.getElem?_toArray, List.getElem?_cons_zero, List.getElem?_cons_succ]; rfl)
        case hfb8 => kernel_rfl
        case hrb8 => kernel_rfl
        case hQb8 => exact fun _ _ _ h => h
        case hyb8 => refine Or.inl ⟨by rfl, ?_⟩; intro W hSw; go_simp; try with_reducible rfl
        try simp only [Act.put, List.setIfInBounds_toArray, List.set_cons_zero, List.set_cons_succ]
        refine' wpAnyH_take (i := 3) (oi := _) (v := _) ?hib9 (by kernel_rfl) ?hfb9 ?hrb9 ?hQb9 ?hyb9 (hBb5) ?restb9
        case hib9 => (simp only [List.getElem?_toArray, List.getElem?_cons_zero, List.getElem?_cons_succ]; rfl)
        case hfb9 => kernel_rfl
        case hrb9 => kernel_rfl
        case hQb9 => exact fun _ _ _ h => h
        case hyb9 => refine Or.inl ⟨by rfl, ?_⟩; intro W hSw; go_simp; try with_reducible rfl
        try simp only [Act.put, List.setIfInBounds_toArray, List.set_cons_zero, List.set_cons_succ]
        refine' wpAnyH_take (i := 4) (oi := _) (v := _) ?hib10 (by kernel_rfl) ?hfb10 ?hrb10 ?hQb10 ?hyb10 (hBb5) ?restb10
        case hib10 => (simp only [List.getElem?_toArray, List.getElem?_cons_zero, List.getElem?_cons_succ]; rfl)
        case hfb10 => kernel_rfl
        case hrb10 => kernel_rfl
        case hQb10 => exact fun _ _ _ h => h
        case hyb10 => refine Or.inl ⟨by rfl, ?_⟩; intro W hSw; have hcc := HC0.out W hSw; go_simp; try with_reducible rfl
        try simp only [Act.put, List.setIfInBounds_toArray, List.set_cons_zero, List.set_cons_succ]
        refine' wpAnyH_take (i := 5) (oi := _) (v := _) ?hib11 (by kernel_rfl) ?hfb11 ?hrb11 ?hQb11 ?hyb11 (hBb5) ?restb11
        case hib11 => (simp only [List.getElem?_toArray, List.getElem?_cons_zero, List.getElem?_cons_succ]; rfl)
        case hfb11 => kernel_rfl
        case hrb11 => kernel_rfl
        case hQb11 => exact fun _ _ _ h => h
        case hyb11 => refine Or.inl ⟨by rfl, ?_⟩; intro W hSw; go_simp; try with_reducible rfl
        try simp only [Act.put, List.setIfInBounds_toArray, List.set_cons_zero, List.set_cons_succ]
        refine' wpAnyH_take (i := 6) (oi := _) (v := _) ?hib12 (by kernel_rfl) ?hfb12 ?hrb12 ?hQb12 ?hyb12 (hBb5) ?restb12
        case hib12 => (simp only [List.getElem?_toArray, List.getElem?_cons_zero, List.getElem?_cons_succ]; rfl)
        case hfb12 => kernel_rfl
        case hrb12 => kernel_rfl
        case hQb12 => exact fun _ _ _ h => h
        case hyb12 => refine Or.inl ⟨by rfl, ?_⟩; intro W hSw; have hcc := HC1.out W hSw; go_simp; try with_reducible rfl
        try simp only [Act.put, List.setIfInBounds_toArray, List.set_cons_zero, List.set_cons_succ]
        refine wpAnyH_ready (rs := [7]) (by kernel_rfl) (by simp) ?_
        refine' (AllReadyH.cons (o := _) ?hib13 (fun K hK => ?_) AllReadyH.nil)
        case hib13 => (simp only [List.getElem?_toArray, List.getElem?_cons_zero, List.getElem?_cons_succ]; rfl)
        go_simp
        go_at_call 10
        refine (CS.out Wb6 hBb5).mono ?_
        rintro e Wb16 ⟨rfl, hbb14⟩
        have hBb15 := below_on hBb5 (Nat.le_refl _) hbb14
        refine hK.out _ _ (hBb15) (fun _ => ?_)
        clear hK K
        try simp only [Act.put, List.setIfInBounds_toArray, List.set_cons_zero, List.set_cons_succ]
        refine' wpAnyH_take (i := 8) (oi := _) (v := _) ?hib17 (by kernel_rfl) ?hfb17 ?hrb17 ?hQb17 ?hyb17 (hBb15) ?restb17
        case hib17 => (simp only [List.getElem?_toArray, List.getElem?_cons_zero, List.getElem?_cons_succ]; rfl)
        case hfb17 => kernel_rfl
        case hrb17 => kernel_rfl
        case hQb17 => exact fun _ _ _ h => h
        case hyb17 => refine Or.inl ⟨by rfl, ?_⟩; intro W hSw; go_simp; try with_reducible rfl
        try simp only [Act.put, List.setIfInBounds_toArray, List.set_cons_zero, List.set_cons_succ]
        refine' wpAnyH_take (i := 9) (oi := _) (v := _) ?hib18 (by kernel_rfl) ?hfb18 ?hrb18 ?hQb18 ?hyb18 (hBb15) ?restb18
        case hib18 => (simp only [List.getElem?_toArray, List.getElem?_cons_zero, List.getElem?_cons_succ]; rfl)
        case hfb18 => kernel_rfl
        case hrb18 => kernel_rfl
        case hQb18 => exact fun _ _ _ h => h
        case hyb18 => refine Or.inl ⟨by rfl, ?_⟩; intro W hSw; go_simp; try with_reducible rfl
        try simp only [Act.put, List.setIfInBounds_toArray, List.set_cons_zero, List.set_cons_succ]
        refine' wpAnyH_take (i := 10) (oi := _) (v := _) ?hib19 (by kernel_rfl) ?hfb19 ?hrb19 ?hQb19 ?hyb19 (hBb15) ?restb19
        case hib19 => (simp only [List.getElem?_toArray, List.getElem?_cons_zero, List.getElem?_cons_succ]; rfl)
        case hfb19 => kernel_rfl
        case hrb19 => kernel_rfl
        case hQb19 => exact fun _ _ _ h => h
        case hyb19 => refine Or.inl ⟨by rfl, ?_⟩; intro W hSw; go_simp; try with_reducible rfl
        try simp only [Act.put, List.setIfInBounds_toArray, List.set_cons_zero, List.set_cons_succ]
        refine' wpAnyH_take (i := 11) (oi := _) (v := _) ?hib20 (by kernel_rfl) ?hfb20 ?hrb20 ?hQb20 ?hyb20 (hBb15) ?restb20
        case hib20 => (simp only [List.getElem?_toArray, List.getElem?_cons_zero, List.getElem?_cons_succ]; rfl)
        case hfb20 => kernel_rfl
        case hrb20 => kernel_rfl
        case hQb20 => exact fun _ _ _ h => h
        case hyb20 => refine Or.inl ⟨by rfl, ?_⟩; intro W hSw; have hcc := HC0.out W hSw; go_simp; try with_reducible rfl
        try simp only [Act.put, List.setIfInBounds_toArray, List.set_cons_zero, List.set_cons_succ]
        refine' wpAnyH_take (i := 13) (oi := _) (v := _) ?hib21 (by kernel_rfl) ?hfb21 ?hrb21 ?hQb21 ?hyb21 (hBb15) ?restb21
        case hib21 => (simp only [List.getElem?_toArray, List.getElem?_cons_zero, List.getElem?_cons_succ]; rfl)
        case hfb21 => kernel_rfl
        case hrb21 => kernel_rfl
        case hQb21 => exact fun _ _ _ h => h
        case hyb21 => refine Or.inl ⟨by rfl, ?_⟩; intro W hSw; go_simp; try with_reducible rfl
        try simp only [Act.put, List.setIfInBounds_toArray, List.set_cons_zero, List.set_cons_succ]
        refine' wpAnyH_take (i := 14) (oi := _) (v := _) ?hib22 (by kernel_rfl) ?hfb22 ?hrb22 ?hQb22 ?hyb22 (hBb15) ?restb22
        case hib22 => (simp only [List.getElem?_toArray, List.getElem?_cons_zero, List.getElem?_cons_succ]; rfl)
        case hfb22 => kernel_rfl
        case hrb22 => kernel_rfl
        case hQb22 => exact fun _ _ _ h => h
        case hyb22 => refine Or.inl ⟨by rfl, ?_⟩; intro W hSw; have hcc := HC1.out W hSw; go_simp; try with_reducible rfl
        try simp only [Act.put, List.setIfInBounds_toArray, List.set_cons_zero, List.set_cons_succ]
        refine wpAnyH_ready (rs := [12]) (by kernel_rfl) (by simp) ?_
        refine' (AllReadyH.cons (o := _) ?hib23 (fun K hK => ?_) AllReadyH.nil)
        case hib23 => (simp only [List.getElem?_toArray, List.getElem?_cons_zero, List.getElem?_cons_succ]; rfl)
        go_simp
        go_at_call 11
        refine (CX.out Wb16 hBb15).mono ?_
        rintro e Wb26 ⟨rfl, hbb24⟩
        have hBb25 := below_on hBb15 (Nat.le_refl _) hbb24
        refine hK.out _ _ (hBb25) (fun _ => ?_)
        clear hK K
        try simp only [Act.put, List.setIfInBounds_toArray, List.set_cons_zero, List.set_cons_succ]
        refine wpAnyH_ready (rs := [15]) (by kernel_rfl) (by simp) ?_
        refine' (AllReadyH.cons (o := _) ?hib27 (fun K hK => ?_) AllReadyH.nil)
        case hib27 => (simp only [List.getElem?_toArray, List.getElem?_cons_zero, List.getElem?_cons_succ]; rfl)
        go_simp
        go_at_call 11
        refine (CY.out Wb26 hBb25).mono ?_
        rintro e Wb30 ⟨rfl, hbb28⟩
        have hBb29 := below_on hBb25 (Nat.le_refl _) hbb28
        refine hK.out _ _ (hBb29) (fun _ => ?_)
        clear hK K
        try simp only [Act.put, List.setIfInBounds_toArray, List.set_cons_zero, List.set_cons_succ]
        refine' wpAnyH_take (i := 16) (oi := _) (v := _) ?hib31 (by kernel_rfl) ?hfb31 ?hrb31 ?hQb31 ?hyb31 (hBb29) ?restb31
        case hib31 => (simp only [List.getElem?_toArray, List.getElem?_cons_zero, List.getElem?_cons_succ]; rfl)
        case hfb31 => kernel_rfl
        case hrb31 => kernel_rfl
        case hQb31 => exact fun _ _ _ h => h
        case hyb31 => refine Or.inl ⟨by rfl, ?_⟩; intro W hSw; go_simp; try with_reducible rfl
        try simp only [Act.put, List.setIfInBounds_toArray, List.set_cons_zero, List.set_cons_succ]
        refine' wpAnyH_take (i := 17) (oi := _) (v := _) ?hib32 (by kernel_rfl) ?hfb32 ?hrb32 ?hQb32 ?hyb32 (hBb29) ?restb32
        case hib32 => (simp only [List.getElem?_toArray, List.getElem?_cons_zero, List.getElem?_cons_succ]; rfl)
        case hfb32 => kernel_rfl
        case hrb32 => kernel_rfl
        case hQb32 => exact fun _ _ _ h => h
        case hyb32 => refine Or.inl ⟨by rfl, ?_⟩; intro W hSw; go_simp; try with_reducible rfl
        try simp only [Act.put, List.setIfInBounds_toArray, List.set_cons_zero, List.set_cons_succ]
        refine' wpAnyH_take (i := 18) (oi := _) (v := _) ?hib33 (by kernel_rfl) ?hfb33 ?hrb33 ?hQb33 ?hyb33 (hBb29) ?restb33
        case hib33 => (simp only [List.getElem?_toArray, List.getElem?_cons_zero, List.getElem?_cons_succ]; rfl)
        case hfb33 => kernel_rfl
        case hrb33 => kernel_rfl
        case hQb33 => exact fun _ _ _ h => h
        case hyb33 => refine Or.inl ⟨by rfl, ?_⟩; intro W hSw; go_simp; try with_reducible rfl
        try simp only [Act.put, List.setIfInBounds_toArray, List.set_cons_zero, List.set_cons_succ]
        refine' wpAnyH_take (i := 19) (oi := _) (v := _) ?hib34 (by kernel_rfl) ?hfb34 ?hrb34 ?hQb34 ?hyb34 (hBb29) ?restb34
        case hib34 => (simp only [List.getElem?_toArray, List.getElem?_cons_zero, List.getElem?_cons_succ]; rfl)
        case hfb34 => kernel_rfl
        case hrb34 => kernel_rfl
        case hQb34 => exact fun _ _ _ h => h
        case hyb34 => refine Or.inl ⟨by rfl, ?_⟩; intro W hSw; go_simp; try with_reducible rfl
        try simp only [Act.put, List.setIfInBounds_toArray, List.set_cons_zero, List.set_cons_succ]
        refine' wpAnyH_take (i := 20) (oi := _) (v := _) ?hib35 (by kernel_rfl) ?hfb35 ?hrb35 ?hQb35 ?hyb35 (hBb29) ?restb35
        case hib35 => (simp only [List.getElem?_toArray, List.getElem?_cons_zero, List.getElem?_cons_succ]; rfl)
        case hfb35 => kernel_rfl
        case hrb35 => kernel_rfl
        case hQb35 => exact fun _ _ _ h => h
        case hyb35 => refine Or.inl ⟨by rfl, ?_⟩; intro W hSw; go_simp; try with_reducible rfl
        try simp only [Act.put, List.setIfInBounds_toArray, List.set_cons_zero, List.set_cons_succ]
        refine' wpAnyH_take (i := 21) (oi := _) (v := _) ?hib36 (by kernel_rfl) ?hfb36 ?hrb36 ?hQb36 ?hyb36 (hBb29) ?restb36
        case hib36 => (simp only [List.getElem?_toArray, List.getElem?_cons_zero, List.getElem?_cons_succ]; rfl)
        case hfb36 => kernel_rfl
        case hrb36 => kernel_rfl
        case hQb36 => exact fun _ _ _ h => h
        case hyb36 => refine Or.inl ⟨by rfl, ?_⟩; intro W hSw; go_simp; try with_reducible rfl
        try simp only [Act.put, List.setIfInBounds_toArray, List.set_cons_zero, List.set_cons_succ]
        refine' wpAnyH_take (i := 22) (oi := _) (v := _) ?hib37 (by kernel_rfl) ?hfb37 ?hrb37 ?hQb37 ?hyb37 (hBb29) ?restb37
        case hib37 => (simp only [List.getElem?_toArray, List.getElem?_cons_zero, List.getElem?_cons_succ]; rfl)
        case hfb37 => kernel_rfl
        case hrb37 => kernel_rfl
        case hQb37 => exact fun _ _ _ h => h
        case hyb37 => refine Or.inl ⟨by rfl, ?_⟩; intro W hSw; go_simp; try with_reducible rfl
        try simp only [Act.put, List.setIfInBounds_toArray, List.set_cons_zero, List.set_cons_succ]
        refine' wpAnyH_take (i := 23) (oi := _) (v := _) ?hib38 (by kernel_rfl) ?hfb38 ?hrb38 ?hQb38 ?hyb38 (hBb29) ?restb38
        case hib38 => (simp only [List.getElem?_toArray, List.getElem?_cons_zero, List.getElem?_cons_succ]; rfl)
        case hfb38 => kernel_rfl
        case hrb38 => kernel_rfl
        case hQb38 => exact fun _ _ _ h => h
        case hyb38 => refine Or.inl ⟨by rfl, ?_⟩; intro W hSw; have hcc := HC1.out W hSw; go_simp; try with_reducible rfl
        try simp only [Act.put, List.setIfInBounds_toArray, List.set_cons_zero, List.set_cons_succ]
        refine' wpAnyH_take (i := 24) (oi := _) (v := _) ?hib39 (by kernel_rfl) ?hfb39 ?hrb39 ?hQb39 ?hyb39 (hBb29) ?restb39
        case hib39 => (simp only [List.getElem?_toArray, List.getElem?_cons_zero, List.getElem?_cons_succ]; rfl)
        case hfb39 => kernel_rfl
        case hrb39 => kernel_rfl
        case hQb39 => exact fun _ _ _ h => h
        case hyb39 => refine Or.inl ⟨by rfl, ?_⟩; intro W hSw; go_simp; try with_reducible rfl
        try simp only [Act.put, List.setIfInBounds_toArray, List.set_cons_zero, List.set_cons_succ]
        refine' wpAnyH_take (i := 25) (oi := _) (v := _) ?hib40 (by kernel_rfl) ?hfb40 ?hrb40 ?hQb40 ?hyb40 (hBb29) ?restb40
        case hib40 => (simp only [List.getElem?_toArray, List.getElem?_cons_zero, List.getElem?_cons_succ]; rfl)
        case hfb40 => kernel_rfl
        case hrb40 => kernel_rfl
        case hQb40 => exact fun _ _ _ h => h
        case hyb40 => refine Or.inl ⟨by rfl, ?_⟩; intro W hSw; have hcc := HC0.out W hSw; go_simp; try with_reducible rfl
        try simp only [Act.put, List.setIfInBounds_toArray, List.set_cons_zero, List.set_cons_succ]
        refine' wpAnyH_take (i := 26) (oi := _) (v := _) ?hib41 (by kernel_rfl) ?hfb41 ?hrb41 ?hQb41 ?hyb41 (hBb29) ?restb41
        case hib41 => (simp only [List.getElem?_toArray, List.getElem?_cons_zero, List.getElem?_cons_succ]; rfl)
        case hfb41 => kernel_rfl
        case hrb41 => kernel_rfl
        case hQb41 => exact fun _ _ _ h => h
        case hyb41 => refine Or.inl ⟨by rfl, ?_⟩; intro W hSw; go_simp; try with_reducible rfl
        try simp only [Act.put, List.setIfInBounds_toArray, List.set_cons_zero, List.set_cons_succ]
        refine wpAnyH_ready (rs := [27]) (by kernel_rfl) (by simp) ?_
        refine' (AllReadyH.cons (o := _) ?hib42 (fun K hK => ?_) AllReadyH.nil)
        case hib42 => (simp only [List.getElem?_toArray, List.getElem?_cons_zero, List.getElem?_cons_succ]; rfl)
        go_simp
        go_at_call 9
        refine (CZ.out Wb30 hBb29).mono ?_
        rintro e Wb45 ⟨rfl, hbb43⟩
        have hBb44 := below_on hBb29 (Nat.le_refl _) hbb43
        refine hK.out _ _ (hBb44) (fun _ => ?_)
        clear hK K
        try simp only [Act.put, List.setIfInBounds_toArray, List.set_cons_zero, List.set_cons_succ]
        refine' wpAnyH_take (i := 28) (oi := _) (v := _) ?hib46 (by kernel_rfl) ?hfb46 ?hrb46 ?hQb46 ?hyb46 (hBb44) ?restb46
        case hib46 => (simp only [List.getElem?_toArray, List.getElem?_cons_zero, List.getElem?_cons_succ]; rfl)
        case hfb46 => kernel_rfl
        case hrb46 => kernel_rfl
        case hQb46 => exact fun _ _ _ h => h
        case hyb46 => refine Or.inl ⟨by rfl, ?_⟩; intro W hSw; go_simp; try with_reducible rfl
        try simp only [Act.put, List.setIfInBounds_toArray, List.set_cons_zero, List.set_cons_succ]
        refine' wpAnyH_take (i := 29) (oi := _) (v := _) ?hib47 (by kernel_rfl) ?hfb47 ?hrb47 ?hQb47 ?hyb47 (hBb44) ?restb47
        case hib47 => (simp only [List.getElem?_toArray, List.getElem?_cons_zero, List.getElem?_cons_succ]; rfl)
        case hfb47 => kernel_rfl
        case hrb47 => kernel_rfl
        case hQb47 => exact fun _ _ _ h => h
        case hyb47 => refine Or.inl ⟨by rfl, ?_⟩; intro W hSw; go_simp; try with_reducible rfl
        try simp only [Act.put, List.setIfInBounds_toArray, List.set_cons_zero, List.set_cons_succ]
        refine' wpAnyH_take (i := 30) (oi := _) (v := _) ?hib48 (by kernel_rfl) ?hfb48 ?hrb48 ?hQb48 ?hyb48 (hBb44) ?restb48
        case hib48 => (simp only [List.getElem?_toArray, List.getElem?_cons_zero, List.getElem?_cons_succ]; rfl)
        case hfb48 => kernel_rfl
        case hrb48 => kernel_rfl
        case hQb48 => exact fun _ _ _ h => h
        case hyb48 => refine Or.inl ⟨by rfl, ?_⟩; intro W hSw; go_simp; try with_reducible rfl
        try simp only [Act.put, List.setIfInBounds_toArray, List.set_cons_zero, List.set_cons_succ]
        refine wpAnyH_done (by kernel_rfl) ?_ _
        go_wp2_with fail
        go_ret
        exact ⟨rfl, by rw [← HG.out]; exact below_on HB2.out (Nat.le_refl _) hBb44⟩
    | true =>
      have hSc1 : Below w2.heap.size w2 w2.drew := (Below.refl _ _).drew
      refine wp_region_held_drew (S := fun W => Below w2.heap.size w2 W) (by kernel_rfl) (hSc1) (fun _ => ?_)
      change wpAnyH _ _ _ _ _ _ _ _ w2.drew
      generalize w2.drew = Wc2 at hSc1 ⊢
      refine wpAnyH_ready (rs := [0]) (by kernel_rfl) (by simp) ?_
      refine' (AllReadyH.cons (o := _) ?hic3 (fun K hK => ?_) AllReadyH.nil)
      case hic3 => (simp only [List.getElem?_toArray, List.getElem?_cons_zero]; rfl)
      go_simp
      go_at_call 8
      refine (CL.out Wc2 hSc1).mono ?_
      rintro e Wc6 ⟨rfl, hbc4⟩
      have hBc5 := below_on hSc1 (Nat.le_refl _) hbc4
      refine hK.out _ _ (hBc5) (fun _ => ?_)
      clear hK K
      try simp only [Act.put, List.setIfInBounds_toArray, List.set_cons_zero, List.set_cons_succ]
      refine' wpAnyH_take (i := 1) (oi := _) (v := _) ?hic7 (by kernel_rfl) ?hfc7 ?hrc7 ?hQc7 ?hyc7 (hBc5) ?restc7
      case hic7 => (simp only [List.getElem?_toArray, List.getElem?_cons_zero, List.getElem?_cons_succ]; rfl)
      case hfc7 => kernel_rfl
      case hrc7 => kernel_rfl
      case hQc7 => exact fun _ _ _ h => h
      case hyc7 => refine Or.inl ⟨by rfl, ?_⟩; intro W hSw; go_simp; try with_reducible rfl
      try simp only [Act.put, List.setIfInBounds_toArray, List.set_cons_zero, List.set_cons_succ]
      refine' wpAnyH_take (i := 2) (oi := _) (v := _) ?hic8 (by kernel_rfl) ?hfc8 ?hrc8 ?hQc8 ?hyc8 (hBc5) ?restc8
      case hic8 => (simp only [List.getElem?_toArray, List.getElem?_cons_zero, List.getElem?_cons_succ]; rfl)
      case hfc8 => kernel_rfl
      case hrc8 => kernel_rfl
      case hQc8 => exact fun _ _ _ h => h
      case hyc8 => refine Or.inl ⟨by rfl, ?_⟩; intro W hSw; go_simp; try with_reducible rfl
      try simp only [Act.put, List.setIfInBounds_toArray, List.set_cons_zero, List.set_cons_succ]
      refine' wpAnyH_take (i := 3) (oi := _) (v := _) ?hic9 (by kernel_rfl) ?hfc9 ?hrc9 ?hQc9 ?hyc9 (hBc5) ?restc9
      case hic9 => (simp only [List.getElem?_toArray, List.getElem?_cons_zero, List.getElem?_cons_succ]; rfl)
      case hfc9 => kernel_rfl
      case hrc9 => kernel_rfl
      case hQc9 => exact fun _ _ _ h => h
      case hyc9 => refine Or.inl ⟨by rfl, ?_⟩; intro W hSw; go_simp; try with_reducible rfl
      try simp only [Act.put, List.setIfInBounds_toArray, List.set_cons_zero, List.set_cons_succ]
      refine' wpAnyH_take (i := 4) (oi := _) (v := _) ?hic10 (by kernel_rfl) ?hfc10 ?hrc10 ?hQc10 ?hyc10 (hBc5) ?restc10
      case hic10 => (simp only [List.getElem?_toArray, List.getElem?_cons_zero, List.getElem?_cons_succ]; rfl)
      case hfc10 => kernel_rfl
      case hrc10 => kernel_rfl
      case hQc10 => exact fun _ _ _ h => h
      case hyc10 => refine Or.inl ⟨by rfl, ?_⟩; intro W hSw; have hcc := HC0.out W hSw; go_simp; try with_reducible rfl
      try simp only [Act.put, List.setIfInBounds_toArray, List.set_cons_zero, List.set_cons_succ]
      refine' wpAnyH_take (i := 5) (oi := _) (v := _) ?hic11 (by kernel_rfl) ?hfc11 ?hrc11 ?hQc11 ?hyc11 (hBc5) ?restc11
      case hic11 => (simp only [List.getElem?_toArray, List.getElem?_cons_zero, List.getElem?_cons_succ]; rfl)
      case hfc11 => kernel_rfl
      case hrc11 => kernel_rfl
      case hQc11 => exact fun _ _ _ h => h
      case hyc11 => refine Or.inl ⟨by rfl, ?_⟩; intro W hSw; go_simp; try with_reducible rfl
      try simp only [Act.put, List.setIfInBounds_toArray, List.set_cons_zero, List.set_cons_succ]
      refine' wpAnyH_take (i := 6) (oi := _) (v := _) ?hic12 (by kernel_rfl) ?hfc12 ?hrc12 ?hQc12 ?hyc12 (hBc5) ?restc12
      case hic12 => (simp only [List.getElem?_toArray, List.getElem?_cons_zero, List.getElem?_cons_succ]; rfl)
      case hfc12 => kernel_rfl
      case hrc12 => kernel_rfl
      case hQc12 => exact fun _ _ _ h => h
      case hyc12 => refine Or.inl ⟨by rfl, ?_⟩; intro W hSw; have hcc := HC1.out W hSw; go_simp; try with_reducible rfl
      try simp only [Act.put, List.setIfInBounds_toArray, List.set_cons_zero, List.set_cons_succ]
      refine wpAnyH_ready (rs := [7]) (by kernel_rfl) (by simp) ?_
      refine' (AllReadyH.cons (o := _) ?hic13 (fun K hK => ?_) AllReadyH.nil)
      case hic13 => (simp only [List.getElem?_toArray, List.getElem?_cons_zero, List.getElem?_cons_succ]; rfl)
      go_simp
      go_at_call 10
      refine (CS.out Wc6 hBc5).mono ?_
      rintro e Wc16 ⟨rfl, hbc14⟩
      have hBc15 := below_on hBc5 (Nat.le_refl _) hbc14
      refine hK.out _ _ (hBc15) (fun _ => ?_)
      clear hK K
      try simp only [Act.put, List.setIfInBounds_toArray, List.set_cons_zero, List.set_cons_succ]
      refine' wpAnyH_take (i := 8) (oi := _) (v := _) ?hic17 (by kernel_rfl) ?hfc17 ?hrc17 ?hQc17 ?hyc17 (hBc15) ?restc17
      case hic17 => (simp only [List.getElem?_toArray, List.getElem?_cons_zero, List.getElem?_cons_succ]; rfl)
      case hfc17 => kernel_rfl
      case hrc17 => kernel_rfl
      case hQc17 => exact fun _ _ _ h => h
      case hyc17 => refine Or.inl ⟨by rfl, ?_⟩; intro W hSw; go_simp; try with_reducible rfl
      try simp only [Act.put, List.setIfInBounds_toArray, List.set_cons_zero, List.set_cons_succ]
      refine' wpAnyH_take (i := 9) (oi := _) (v := _) ?hic18 (by kernel_rfl) ?hfc18 ?hrc18 ?hQc18 ?hyc18 (hBc15) ?restc18
      case hic18 => (simp only [List.getElem?_toArray, List.getElem?_cons_zero, List.getElem?_cons_succ]; rfl)
      case hfc18 => kernel_rfl
      case hrc18 => kernel_rfl
      case hQc18 => exact fun _ _ _ h => h
      case hyc18 => refine Or.inl ⟨by rfl, ?_⟩; intro W hSw; go_simp; try with_reducible rfl
      try simp only [Act.put, List.setIfInBounds_toArray, List.set_cons_zero, List.set_cons_succ]
      refine' wpAnyH_take (i := 10) (oi := _) (v := undef) ?hic19 (by kernel_rfl) ?hfc19 ?hrc19 ?hQc19 ?hyc19 (hBc15) ?restc19
      case hic19 => (simp only [List.getElem?_toArray, List.getElem?_cons_zero, List.getElem?_cons_succ]; rfl)
      case hfc19 => kernel_rfl
      case hrc19 => kernel_rfl
      case hQc19 => exact fun _ _ _ h => h
      case hyc19 => exact Or.inr ⟨by rfl, rfl⟩
      try simp only [Act.put, List.setIfInBounds_toArray, List.set_cons_zero, List.set_cons_succ]
      refine' wpAnyH_take (i := 11) (oi := _) (v := undef) ?hic20 (by kernel_rfl) ?hfc20 ?hrc20 ?hQc20 ?hyc20 (hBc15) ?restc20
      case hic20 => (simp only [List.getElem?_toArray, List.getElem?_cons_zero, List.getElem?_cons_succ]; rfl)
      case hfc20 => kernel_rfl
      case hrc20 => kernel_rfl
      case hQc20 => exact fun _ _ _ h => h
      case hyc20 => exact Or.inr ⟨by rfl, rfl⟩
      try simp only [Act.put, List.setIfInBounds_toArray, List.set_cons_zero, List.set_cons_succ]
      refine' wpAnyH_take (i := 12) (oi := _) (v := undef) ?hic21 (by kernel_rfl) ?hfc21 ?hrc21 ?hQc21 ?hyc21 (hBc15) ?restc21
      case hic21 => (simp only [List.getElem?_toArray, List.getElem?_cons_zero, List.getElem?_cons_succ]; rfl)
      case hfc21 => kernel_rfl
      case hrc21 => kernel_rfl
      case hQc21 => exact fun _ _ _ h => h
      case hyc21 => exact Or.inr ⟨by rfl, rfl⟩
      try simp only [Act.put, List.setIfInBounds_toArray, List.set_cons_zero, List.set_cons_succ]
      refine' wpAnyH_take (i := 13) (oi := _) (v := undef) ?hic22 (by kernel_rfl) ?hfc22 ?hrc22 ?hQc22 ?hyc22 (hBc15) ?restc22
      case hic22 => (simp only [List.getElem?_toArray, List.getElem?_cons_zero, List.getElem?_cons_succ]; rfl)
      case hfc22 => kernel_rfl
      case hrc22 => kernel_rfl
      case hQc22 => exact fun _ _ _ h => h
      case hyc22 => exact Or.inr ⟨by rfl, rfl⟩
      try simp only [Act.put, List.setIfInBounds_toArray, List.set_cons_zero, List.set_cons_succ]
      refine' wpAnyH_take (i := 14) (oi := _) (v := undef) ?hic23 (by kernel_rfl) ?hfc23 ?hrc23 ?hQc23 ?hyc23 (hBc15) ?restc23
      case hic23 => (simp only [List.getElem?_toArray, List.getElem?_cons_zero, List.getElem?_cons_succ]; rfl)
      case hfc23 => kernel_rfl
      case hrc23 => kernel_rfl
      case hQc23 => exact fun _ _ _ h => h
      case hyc23 => exact Or.inr ⟨by rfl, rfl⟩
      try simp only [Act.put, List.setIfInBounds_toArray, List.set_cons_zero, List.set_cons_succ]
      refine' wpAnyH_take (i := 15) (oi := _) (v := undef) ?hic24 (by kernel_rfl) ?hfc24 ?hrc24 ?hQc24 ?hyc24 (hBc15) ?restc24
      case hic24 => (simp only [List.getElem?_toArray, List.getElem?_cons_zero, List.getElem?_cons_succ]; rfl)
      case hfc24 => kernel_rfl
      case hrc24 => kernel_rfl
      case hQc24 => exact fun _ _ _ h => h
      case hyc24 => exact Or.inr ⟨by rfl, rfl⟩
      try simp only [Act.put, List.setIfInBounds_toArray, List.set_cons_zero, List.set_cons_succ]
      refine' wpAnyH_take (i := 16) (oi := _) (v := undef) ?hic25 (by kernel_rfl) ?hfc25 ?hrc25 ?hQc25 ?hyc25 (hBc15) ?restc25
      case hic25 => (simp only [List.getElem?_toArray, List.getElem?_cons_zero, List.getElem?_cons_succ]; rfl)
      case hfc25 => kernel_rfl
      case hrc25 => kernel_rfl
      case hQc25 => exact fun _ _ _ h => h
      case hyc25 => exact Or.inr ⟨by rfl, rfl⟩
      try simp only [Act.put, List.setIfInBounds_toArray, List.set_cons_zero, List.set_cons_succ]
      refine' wpAnyH_take (i := 17) (oi := _) (v := _) ?hic26 (by kernel_rfl) ?hfc26 ?hrc26 ?hQc26 ?hyc26 (hBc15) ?restc26
      case hic26 => (simp only [List.getElem?_toArray, List.getElem?_cons_zero, List.getElem?_cons_succ]; rfl)
      case hfc26 => kernel_rfl
      case hrc26 => kernel_rfl
      case hQc26 => exact fun _ _ _ h => h
      case hyc26 => refine Or.inl ⟨by rfl, ?_⟩; intro W hSw; go_simp; try with_reducible rfl
      try simp only [Act.put, List.setIfInBounds_toArray, List.set_cons_zero, List.set_cons_succ]
      refine' wpAnyH_take (i := 18) (oi := _) (v := _) ?hic27 (by kernel_rfl) ?hfc27 ?hrc27 ?hQc27 ?hyc27 (hBc15) ?restc27
      case hic27 => (simp only [List.getElem?_toArray, List.getElem?_cons_zero, List.getElem?_cons_succ]; rfl)
      case hfc27 => kernel_rfl
      case hrc27 => kernel_rfl
      case hQc27 => exact fun _ _ _ h => h
      case hyc27 => refine Or.inl ⟨by rfl, ?_⟩; intro W hSw; go_simp; try with_reducible rfl
      try simp only [Act.put, List.setIfInBounds_toArray, List.set_cons_zero, List.set_cons_succ]
      refine' wpAnyH_take (i := 19) (oi := _) (v := _) ?hic28 (by kernel_rfl) ?hfc28 ?hrc28 ?hQc28 ?hyc28 (hBc15) ?restc28
      case hic28 => (simp only [List.getElem?_toArray, List.getElem?_cons_zero, List.getElem?_cons_succ]; rfl)
      case hfc28 => kernel_rfl
      case hrc28 => kernel_rfl
      case hQc28 => exact fun _ _ _ h => h
      case hyc28 => refine Or.inl ⟨by rfl, ?_⟩; intro W hSw; go_simp; try with_reducible rfl
      try simp only [Act.put, List.setIfInBounds_toArray, List.set_cons_zero, List.set_cons_succ]
      refine' wpAnyH_take (i := 20) (oi := _) (v := _) ?hic29 (by kernel_rfl) ?hfc29 ?hrc29 ?hQc29 ?hyc29 (hBc15) ?restc29
      case hic29 => (simp only [List.getElem?_toArray, List.getElem?_cons_zero, List.getElem?_cons_succ]; rfl)
      case hfc29 => kernel_rfl
      case hrc29 => kernel_rfl
      case hQc29 => exact fun _ _ _ h => h
      case hyc29 => refine Or.inl ⟨by rfl, ?_⟩; intro W hSw; go_simp; try with_reducible rfl
      try simp only [Act.put, List.setIfInBounds_toArray, List.set_cons_zero, List.set_cons_succ]
      refine' wpAnyH_take (i := 21) (oi := _) (v := _) ?hic30 (by kernel_rfl) ?hfc30 ?hrc30 ?hQc30 ?hyc30 (hBc15) ?restc30
      case hic30 => (simp only [List.getElem?_toArray, List.getElem?_cons_zero, List.getElem?_cons_succ]; rfl)
      case hfc30 => kernel_rfl
      case hrc30 => kernel_rfl
      case hQc30 => exact fun _ _ _ h => h
      case hyc30 => refine Or.inl ⟨by rfl, ?_⟩; intro W hSw; go_simp; try with_reducible rfl
      try simp only [Act.put, List.setIfInBounds_toArray, List.set_cons_zero, List.set_cons_succ]
      refine' wpAnyH_take (i := 22) (oi := _) (v := _) ?hic31 (by kernel_rfl) ?hfc31 ?hrc31 ?hQc31 ?hyc31 (hBc15) ?restc31
      case hic31 => (simp only [List.getElem?_toArray, List.getElem?_cons_zero, List.getElem?_cons_succ]; rfl)
      case hfc31 => kernel_rfl
      case hrc31 => kernel_rfl
      case hQc31 => exact fun _ _ _ h => h
      case hyc31 => refine Or.inl ⟨by rfl, ?_⟩; intro W hSw; go_simp; try with_reducible rfl
      try simp only [Act.put, List.setIfInBounds_toArray, List.set_cons_zero, List.set_cons_succ]
      refine' wpAnyH_take (i := 23) (oi := _) (v := _) ?hic32 (by kernel_rfl) ?hfc32 ?hrc32 ?hQc32 ?hyc32 (hBc15) ?restc32
      case hic32 => (simp only [List.getElem?_toArray, List.getElem?_cons_zero, List.getElem?_cons_succ]; rfl)
      case hfc32 => kernel_rfl
      case hrc32 => kernel_rfl
      case hQc32 => exact fun _ _ _ h => h
      case hyc32 => refine Or.inl ⟨by rfl, ?_⟩; intro W hSw; have hcc := HC1.out W hSw; go_simp; try with_reducible rfl
      try simp only [Act.put, List.setIfInBounds_toArray, List.set_cons_zero, List.set_cons_succ]
      refine' wpAnyH_take (i := 24) (oi := _) (v := _) ?hic33 (by kernel_rfl) ?hfc33 ?hrc33 ?hQc33 ?hyc33 (hBc15) ?restc33
      case hic33 => (simp only [List.getElem?_toArray, List.getElem?_cons_zero, List.getElem?_cons_succ]; rfl)
      case hfc33 => kernel_rfl
      case hrc33 => kernel_rfl
      case hQc33 => exact fun _ _ _ h => h
      case hyc33 => refine Or.inl ⟨by rfl, ?_⟩; intro W hSw; go_simp; try with_reducible rfl
      try simp only [Act.put, List.setIfInBounds_toArray, List.set_cons_zero, List.set_cons_succ]
      refine' wpAnyH_take (i := 25) (oi := _) (v := _) ?hic34 (by kernel_rfl) ?hfc34 ?hrc34 ?hQc34 ?hyc34 (hBc15) ?restc34
      case hic34 => (simp only [List.getElem?_toArray, List.getElem?_cons_zero, List.getElem?_cons_succ]; rfl)
      case hfc34 => kernel_rfl
      case hrc34 => kernel_rfl
      case hQc34 => exact fun _ _ _ h => h
      case hyc34 => refine Or.inl ⟨by rfl, ?_⟩; intro W hSw; have hcc := HC0.out W hSw; go_simp; try with_reducible rfl
      try simp only [Act.put, List.setIfInBounds_toArray, List.set_cons_zero, List.set_cons_succ]
      refine' wpAnyH_take (i := 26) (oi := _) (v := _) ?hic35 (by kernel_rfl) ?hfc35 ?hrc35 ?hQc35 ?hyc35 (hBc15) ?restc35
      case hic35 => (simp only [List.getElem?_toArray, List.getElem?_cons_zero, List.getElem?_cons_succ]; rfl)
      case hfc35 => kernel_rfl
      case hrc35 => kernel_rfl
      case hQc35 => exact fun _ _ _ h => h
      case hyc35 => refine Or.inl ⟨by rfl, ?_⟩; intro W hSw; go_simp; try with_reducible rfl
      try simp only [Act.put, List.setIfInBounds_toArray, List.set_cons_zero, List.set_cons_succ]
      refine wpAnyH_ready (rs := [27]) (by kernel_rfl) (by simp) ?_
      refine' (AllReadyH.cons (o := _) ?hic36 (fun K hK => ?_) AllReadyH.nil)
      case hic36 => (simp only [List.getElem?_toArray, List.getElem?_cons_zero, List.getElem?_cons_succ]; rfl)
      go_simp
      go_at_call 9
      refine (CZ.out Wc16 hBc15).mono ?_
      rintro e Wc39 ⟨rfl, hbc37⟩
      have hBc38 := below_on hBc15 (Nat.le_refl _) hbc37
      refine hK.out _ _ (hBc38) (fun _ => ?_)
      clear hK K
      try simp only [Act.put, List.setIfInBounds_toArray, List.set_cons_zero, List.set_cons_succ]
      refine' wpAnyH_take (i := 28) (oi := _) (v := _) ?hic40 (by kernel_rfl) ?hfc40 ?hrc40 ?hQc40 ?hyc40 (hBc38) ?restc40
      case hic40 => (simp only [List.getElem?_toArray, List.getElem?_cons_zero, List.getElem?_cons_succ]; rfl)
      case hfc40 => kernel_rfl
      case hrc40 => kernel_rfl
      case hQc40 => exact fun _ _ _ h => h
      case hyc40 => refine Or.inl ⟨by rfl, ?_⟩; intro W hSw; go_simp; try with_reducible rfl
      try simp only [Act.put, List.setIfInBounds_toArray, List.set_cons_zero, List.set_cons_succ]
      refine' wpAnyH_take (i := 29) (oi := _) (v := _) ?hic41 (by kernel_rfl) ?hfc41 ?hrc41 ?hQc41 ?hyc41 (hBc38) ?restc41
      case hic41 => (simp only [List.getElem?_toArray, List.getElem?_cons_zero, List.getElem?_cons_succ]; rfl)
      case hfc41 => kernel_rfl
      case hrc41 => kernel_rfl
      case hQc41 => exact fun _ _ _ h => h
      case hyc41 => refine Or.inl ⟨by rfl, ?_⟩; intro W hSw; go_simp; try with_reducible rfl
      try simp only [Act.put, List.setIfInBounds_toArray, List.set_cons_zero, List.set_cons_succ]
      refine' wpAnyH_take (i := 30) (oi := _) (v := _) ?hic42 (by kernel_rfl) ?hfc42 ?hrc42 ?hQc42 ?hyc42 (hBc38) ?restc42
      case hic42 => (simp only [List.getElem?_toArray, List.getElem?_cons_zero, List.getElem?_cons_succ]; rfl)
      case hfc42 => kernel_rfl
      case hrc42 => kernel_rfl
      case hQc42 => exact fun _ _ _ h => h
      case hyc42 => refine Or.inl ⟨by rfl, ?_⟩; intro W hSw; go_simp; try with_reducible rfl
      try simp only [Act.put, List.setIfInBounds_toArray, List.set_cons_zero, List.set_cons_succ]
      refine wpAnyH_done (by kernel_rfl) ?_ _
      go_wp2_with fail
      go_ret
      exact ⟨rfl, by rw [← HG.out]; exact below_on HB2.out (Nat.le_refl _) hBc38⟩
  · have hi : (20000 : Int) < (n : Int) + (m : Int) := by omega
    have CA1 := Lib.hid (CA.out w1 b1)
    have hlm : (n : Int) + (m : Int) ≤ 281474976710656 := by omega
    rw [hg]
    clear hw1 b1 hg c1 hk hks hA hB CA
    unfold clv
    go_enter Tryd.func3, Tryd.ntmps3
    go_upto_region 1 with fail
    rw [← HW.out]
    rw [HG.out]
    go_wp2_with fail
    refine CA1.out.mono ?_
    rintro e w2 ⟨rfl, hb2⟩
    have HB2 := Lib.hid (below_on HB.out (Nat.le_refl _) hb2)
    clear hb2
    go_wp2_with fail
    go_ret
    exact ⟨rfl, by rw [← HG.out]; exact HB2.out⟩
end

theorem clashesIs_law (w : World) (hk : Knows w) (hks : Starts w) (E : Addr) (_ : Miss w E) {A B : Option Addr} {n m c d : Nat} {xs ys : List Nat} (hA : Came w A n c xs) (hB : Came w B m d ys) (hn : n ≤ 140737488355328) (hm : m ≤ 140737488355328) :
    Calls Tryd.prog 3 #[clv A n c B m d] w fun e w' => e = .returned (.bool true) ∧ Below w.heap.size w w' := cis_law_any hA hB hn hm hk hks

end Go.Proofs.YtcekfnngnjpeeaaDoor

/-
  An argument that is an array of bytes.
-/
namespace Go.Proofs.YtcekfnngnjpeeaaDoor
open Go.ChangeShapes Go.WideShapes Go.ChangeAt Go.RowKit

/-- A value as a byte. -/
def byteOf : Value → Nat
  | .int _ z => z.toNat
  | _ => 0

theorem came_arr {H : Type} {enc : TypeId × Value → H} {P : Program} {W : World} {base b0 n : Nat} {spare : Nat → Bool} {held : Bool} {r : Reach} {t e : TypeId} {v : Value} {d : DataW H} {ps : List MemPlace}
    (ht : P.underlying t = some (.array n e)) (he : P.underlying e = some (.int .u8)) (hc : P.cellsOf e = 1) (hct : P.cellsOf t = n)
    (hval : Value.okWide P W r b0 t v) (hd : DataW.Trod enc P W base spare held t v d ps) : ∃ xs : List Nat, v = .agg (bvs xs).toArray ∧ xs.length = n ∧ ∀ x ∈ xs, x < 256 := by
  simp only [Value.okWide, ht] at hval
  obtain ⟨cs, rfl, hsz, _⟩ := hval
  rw [hct] at hsz
  obtain ⟨fuel, hf⟩ := hd
  obtain ⟨xs, m, rfl, _, _, hlen, hp⟩ := DataW.trod_array ht hf
  have hx : ∀ i, i < n → ∃ z : Nat, z < 256 ∧ cs.toList[i]? = some (bv z) := fun i hi => by
    have h1 := hp i hi
    rw [List.getElem?_eq_getElem (by omega)] at h1
    obtain ⟨z, hz, _, hw⟩ := DataW.trod_int he h1
    rw [hc, Nat.mul_one] at hz
    have hb := bounds_u8 hw
    obtain ⟨z, rfl⟩ := Int.eq_ofNat_of_zero_le hb.1
    refine ⟨z, by omega, ?_⟩
    have : (List.take 1 (List.drop i cs.toList))[0]? = some (.int .u8 (z : Int)) := by simp only [Value.cells] at hz; rw [hz]; rfl
    rw [List.getElem?_take, if_pos (by omega), List.getElem?_drop, Nat.add_zero] at this
    exact this
  have hl : cs.toList.length = n := by simpa using hsz
  refine ⟨cs.toList.map byteOf, ?_, by rw [List.length_map, hl], fun x hxm => ?_⟩
  · congr 1
    apply Array.ext'
    rw [List.toList_toArray]
    apply List.ext_getElem?
    intro i
    rw [bvs_get, List.getElem?_map]
    by_cases hi : i < n
    · obtain ⟨z, _, hz⟩ := hx i hi
      rw [hz]; rfl
    · rw [List.getElem?_eq_none (by omega)]; rfl
  · obtain ⟨v, hv, rfl⟩ := List.mem_map.1 hxm
    obtain ⟨i, hi⟩ := List.mem_iff_getElem?.1 hv
    obtain ⟨z, hz, hz2⟩ := hx i (by rw [← hl]; exact (List.getElem?_eq_some_iff.1 hi).1)
    rw [hi] at hz2
    cases hz2
    exact hz

end Go.Proofs.YtcekfnngnjpeeaaDoor

/-
  The parts of a struct that came in: a sum, a number of 64 bits, a list of sums.
-/
namespace Go.Proofs.YtcekfnngnjpeeaaDoor
open Go.ChangeShapes Go.WideShapes Go.ChangeAt Go.RowKit Go.Deep

theorem list_sum {H : Type} {enc : TypeId × Value → H} {w : World} {base : Nat} {sp : Nat → Bool} {held : Bool} {fuel : Nat} {cs : List Value} {x : DataW H × List MemPlace}
    (h : DataW.trod enc Tryd.prog w base sp held fuel 29 cs = some x) : ∃ xs, cs = bvs xs ∧ xs.length = 32 ∧ ∀ x ∈ xs, x < 256 := by
  obtain ⟨hl, hx⟩ := cells_sum h
  refine ⟨cs.map byteOf, ?_, by rw [List.length_map, hl], fun x hxm => ?_⟩
  · apply List.ext_getElem?
    intro i
    rw [bvs_get, List.getElem?_map]
    by_cases hi : i < 32
    · obtain ⟨z, _, hz⟩ := hx i hi
      rw [hz]; rfl
    · rw [List.getElem?_eq_none (by omega)]; rfl
  · obtain ⟨v, hv, rfl⟩ := List.mem_map.1 hxm
    obtain ⟨i, hi⟩ := List.mem_iff_getElem?.1 hv
    obtain ⟨z, hz, hz2⟩ := hx i (by rw [← hl]; exact (List.getElem?_eq_some_iff.1 hi).1)
    rw [hi] at hz2
    cases hz2
    exact hz

theorem cellsS64 : Tryd.prog.cellsOf 43 = 1 := by kernel_rfl
theorem cellsSpath : Tryd.prog.cellsOf 33 = 1 := by kernel_rfl

theorem one_of (l : List Value) (h : l.length = 1) : ∃ a, l = [a] := by
  match l, h with
  | [a], _ => exact ⟨a, rfl⟩

theorem u64_one {H : Type} {enc : TypeId × Value → H} {W : World} {base fuel : Nat} {sp : Nat → Bool} {held : Bool} {l : List Value} {x : DataW H × List MemPlace} (h : DataW.trod enc Tryd.prog W base sp held fuel 43 l = some x) :
    ∃ q : Nat, l = [.int .u64 (q : Int)] ∧ q < 18446744073709551616 := by
  obtain ⟨z, ez, _, hw⟩ := DataW.trod_int Tryd.underlying43 h
  have hb := bounds_u64 hw
  obtain ⟨q, rfl⟩ := Int.eq_ofNat_of_zero_le hb.1
  exact ⟨q, ez, by omega⟩

end Go.Proofs.YtcekfnngnjpeeaaDoor

/-
  Arguments of type api.Clash.
-/
namespace Go.Proofs.YtcekfnngnjpeeaaDoor
open Go.ChangeShapes Go.WideShapes Go.ChangeAt Go.RowKit Go.Deep

/-- A slice of bytes that lies in a struct. -/
theorem bytes_one {H : Type} {enc : TypeId × Value → H} {w : World} {held : Bool} {fuel : Nat} {u : Value} {x : DataW H × List MemPlace} (h : DataW.trod enc Tryd.prog w 0 (fun _ => true) held fuel 22 [u] = some x)
    (hw : ∀ n ∈ x.1.weights Tryd.prog 22, n ≤ reachBytes) : ∃ A m c xs, u = .slice A m c ∧ Came w A m c xs ∧ m ≤ 140737488355328 := by
  rcases open_ints Tryd.underlying22 Tryd.underlying5 (by kernel_rfl) h with ⟨hcs, _⟩ | ⟨a, len, cap, zs, hcs, _, hl, hm, hz, hx, hcell, hwz⟩
  · simp at hcs
    subst hcs
    exact ⟨none, 0, 0, [], rfl, ⟨In.none_ _ _, (by intro x hx; cases hx), fun _ => rfl, Nat.le_refl _⟩, by omega⟩
  · simp at hcs
    subst hcs
    obtain ⟨xs, hxs⟩ := came_of (w := w) (a := some a) (len := len) (cap := cap) (zs := zs) (.inr ⟨_, rfl, hl, by simpa using hz, hcell, hwz⟩)
    have hz' : zs.length = cap := by simpa using hz
    have h1 := hw cap (by
      rw [hx, DataW.weights, Tryd.underlying22]
      refine List.mem_cons.2 (.inl ?_)
      rw [bytesByte, Nat.mul_one]
      simp [lits]
      omega)
    have := reachBytes_lt
    exact ⟨_, _, _, xs, rfl, hxs, by omega⟩

theorem cellsClash : Tryd.prog.cellsOf 24 = 2 := by kernel_rfl
theorem cellsBytes1 : Tryd.prog.cellsOf 22 = 1 := by kernel_rfl

set_option maxRecDepth 100000 in
theorem came_clash {H : Type} {enc : TypeId × Value → H} {W : World} {b0 : Nat} {held : Bool} {r : Reach} {v : Value} {d : DataW H} {ps : List MemPlace}
    (hval : Value.okWide Tryd.prog W r b0 24 v) (hd : DataW.Trod enc Tryd.prog W 0 (fun _ => true) held 24 v d ps) (hw : ∀ n ∈ d.weights Tryd.prog 24, n ≤ reachBytes) :
    ∃ A n c xs B m e ys, v = clv A n c B m e ∧ Came W A n c xs ∧ Came W B m e ys ∧ n ≤ 140737488355328 ∧ m ≤ 140737488355328 := by
  simp only [Value.okWide, Tryd.underlying24] at hval
  obtain ⟨cs, rfl, hsz, _⟩ := hval
  rw [cellsClash] at hsz
  obtain ⟨fuel, hf⟩ := hd
  obtain ⟨xs, n, _, hx0, hl, hlen, hx⟩ := DataW.trod_struct Tryd.underlying24 hf
  match xs, hlen with
  | [y0, y1], _ =>
    obtain ⟨l⟩ := cs
    have hln : l.length = 2 := by simpa using hsz
    match l, hln with
    | [u0, u1], _ =>
      have h0 := hx 0 _ rfl
      have h1 := hx 1 _ rfl
      have g0 : DataW.trod enc Tryd.prog W 0 (fun _ => true) held n 22 (([u0, u1].drop 0).take (Tryd.prog.cellsOf 22)) = some y0 := h0
      rw [cellsBytes1] at g0
      have g1 : DataW.trod enc Tryd.prog W 0 (fun _ => true) held n 22 (([u0, u1].drop 1).take (Tryd.prog.cellsOf 22)) = some y1 := h1
      rw [cellsBytes1] at g1
      have hd0 : d = .agg [y0.1, y1.1] := by
        have := congrArg Prod.fst hx0
        simpa using this
      subst hd0
      simp only [DataW.weights, Tryd.underlying24] at hw
      obtain ⟨A, m, c, xs, rfl, k0, l0⟩ := bytes_one g0 (fun n hn => hw n (DataW.weights_mem_each (ts := [22, 22]) (j := 0) rfl rfl n hn))
      obtain ⟨B, m', c', ys, rfl, k1, l1⟩ := bytes_one g1 (fun n hn => hw n (DataW.weights_mem_each (ts := [22, 22]) (j := 1) rfl rfl n hn))
      exact ⟨A, m, c, xs, B, m', c', ys, rfl, k0, k1, l0, l1⟩

end Go.Proofs.YtcekfnngnjpeeaaDoor
