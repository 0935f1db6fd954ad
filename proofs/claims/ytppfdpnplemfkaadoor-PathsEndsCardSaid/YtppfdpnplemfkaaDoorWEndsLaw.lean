/-
  almonerlaw10.PathsEnds.
-/
import Derived.Test.YtppfdpnplemfkaaDoorWAlive
import Derived.Test.YtppfdpnplemfkaaDoorWSaid
namespace Go.Proofs.YtppfdpnplemfkaaDoor
open Go.RowKit

section
variable {w : World} {leaf root ys : List Nat} {at_ size n c : Nat} {A : Option Addr}

set_option maxRecDepth 100000 in
set_option maxHeartbeats 4000000 in
theorem ends_tt (hk : Knows w) (hs : Starts w) (hl : leaf.length = 32) (hb : ∀ x ∈ leaf, x < 256) (h1 : at_ < 18446744073709551616) (h2 : size < 18446744073709551616) (cm : CameS w A n c ys) (hr : root.length = 32) (hn : n ≤ 200) (hz : ((n : Int) == 0) = true) (hq : decide (leaf = root) = true) :
    Calls Tryd.prog 4 #[.agg (saidL leaf at_ size A n c root).toArray] w fun e w' => e = .returned (.bool true) ∧ Below w.heap.size w w' := by
  obtain ⟨w1, hw1⟩ : ∃ w1, w1 = w.alloc (.cells (saidL leaf at_ size A n c root).toArray 34) := ⟨_, rfl⟩
  have s1 : SaidAt w1 w.heap.size leaf at_ size A n c root := by rw [hw1]; exact said_new w hl
  have b1 : Below w.heap.size w w1 := by rw [hw1]; exact below_alloc _ _
  obtain ⟨S, hS⟩ : ∃ S, (saidL leaf at_ size A n c root).toArray = S := ⟨_, rfl⟩
  rw [hS] at hw1 ⊢
  clear hS
  obtain ⟨M, hmax, hM, hM2⟩ : ∃ M : Nat, max (at_ : Int) (size : Int) = (M : Int) ∧ size ≤ M ∧ M < 18446744073709551616 := ⟨max at_ size, by omega, by omega, by omega⟩
  have CA := Lib.hid (fun (W : World) (hW : Below w1.heap.size w1 W) => later (v' := .bool true) hW rfl (walive_any W (hk.below (below_on b1 (Nat.le_refl _) hW)) (hs.below (below_on b1 (Nat.le_refl _) hW))))
  have CF := Lib.hid (fun (W : World) (hW : Below w1.heap.size w1 W) => later hW rfl (check_far (w := W) (n := n) (c := c) (A := A) (leaf := leaf) (root := root) hM))
  have CE : ∀ W : World, Below w1.heap.size w1 W → Calls Tryd.prog 9 #[sv leaf, .int .u64 0, .int .u64 1, .slice A n c, sv root] W fun e w' => e = .returned (.bool true) ∧ Below w1.heap.size w1 w' := fun W hW => by
    refine later hW ?_ (check_any (at_ := 0) (size := 1) (cm.in_.below (below_on b1 (Nat.le_refl _) hW)) cm.lt cm.cap (by omega) hl hb hr (by omega) (hk.below (below_on b1 (Nat.le_refl _) hW)) (hs.below (below_on b1 (Nat.le_refl _) hW)))
    unfold inTree
    rw [dep_one (by omega), leadF_one _ _ (by omega), hq]
    have : n = 0 := by simpa using hz
    simp [this]
  have HCE := Lib.hid CE
  have KS := Lib.hid (fun (W : World) (hW : Below w1.heap.size w1 W) => s1.below hW)
  obtain ⟨b, hb0⟩ : ∃ b, w.heap.size = b := ⟨_, rfl⟩
  rw [hb0] at s1 b1 KS
  have c2 := s1.at_
  have c3 := s1.size
  have c4 := s1.path
  have HW := Lib.hid hw1
  have HB1 := Lib.hid (And.intro b1 hb0)
  have BL := Lib.hid (fun (W : World) (hW : Below w1.heap.size w1 W) => show Below b w W from below_on b1 (by rw [← hb0]; exact Nat.le_refl _) hW)
  have hni : ¬ (200 : Int) < (n : Int) := by omega
  have q1 := run_eql_sum leaf root hl hr
  rw [hq] at q1
  have q2 := run_guard_eql
  clear hw1 s1 b1 hM hM2 CE hn cm h1 h2 hk hs hb
  go_enter Tryd.func4, Tryd.ntmps4
  go_upto_region 1 with fail
  rw [← HW.out]
  go_upto_region 4 with fail
  refine wp_region_held_drew (S := fun W => Below w1.heap.size w1 W) (by kernel_rfl) ((Below.refl _ _).drew) (fun hT0 => ?_)
  change wpAnyH _ _ _ _ _ _ _ _ w1.drew
  refine wpAnyH_ready (rs := [0]) (by kernel_rfl) (by simp) ?_
  refine' AllReadyH.cons (o := _) ?hir0 (fun K hK => ?_) AllReadyH.nil
  case hir0 => (simp only [List.getElem?_toArray, List.getElem?_cons_zero]; rfl)
  go_simp
  go_at_call 6
  refine (CA.out _ hT0).mono ?_
  rintro e Wr2 ⟨rfl, hBr1⟩
  refine hK.out _ _ hBr1 (fun _ => ?_)
  clear hK K
  try simp only [Act.put, List.setIfInBounds_toArray, List.set_cons_zero, List.set_cons_succ]
  refine' wpAnyH_take (i := 1) (oi := _) (v := _) ?hir1 (by kernel_rfl) ?hfr1 ?hrr1 ?hQr1 ?hyr1 hBr1 ?restr1
  case hir1 => (simp only [List.getElem?_toArray, List.getElem?_cons_zero, List.getElem?_cons_succ]; rfl)
  case hfr1 => kernel_rfl
  case hrr1 => kernel_rfl
  case hQr1 => exact fun _ _ _ h => h
  case hyr1 => refine Or.inl ⟨by rfl, ?_⟩; intro W hSw; go_simp; try with_reducible rfl
  try simp only [Act.put, List.setIfInBounds_toArray, List.set_cons_zero, List.set_cons_succ]
  refine' wpAnyH_take (i := 2) (oi := _) (v := _) ?hir2 (by kernel_rfl) ?hfr2 ?hrr2 ?hQr2 ?hyr2 hBr1 ?restr2
  case hir2 => (simp only [List.getElem?_toArray, List.getElem?_cons_zero, List.getElem?_cons_succ]; rfl)
  case hfr2 => kernel_rfl
  case hrr2 => kernel_rfl
  case hQr2 => exact fun _ _ _ h => h
  case hyr2 => refine Or.inl ⟨by rfl, ?_⟩; intro W hSw; go_simp; try with_reducible rfl
  try simp only [Act.put, List.setIfInBounds_toArray, List.set_cons_zero, List.set_cons_succ]
  refine' wpAnyH_take (i := 3) (oi := _) (v := sv (leaf)) ?hir3 (by kernel_rfl) ?hfr3 ?hrr3 ?hQr3 ?hyr3 hBr1 ?restr3
  case hir3 => (simp only [List.getElem?_toArray, List.getElem?_cons_zero, List.getElem?_cons_succ]; rfl)
  case hfr3 => kernel_rfl
  case hrr3 => kernel_rfl
  case hQr3 => exact fun _ _ _ h => h
  case hyr3 => refine yields_sum ?_ (.tmp 16) rfl ⟨b, 0, none⟩ rfl leaf hl (fun W hSw => (KS.out W hSw).leaf); rfl
  try simp only [Act.put, List.setIfInBounds_toArray, List.set_cons_zero, List.set_cons_succ]
  refine' wpAnyH_take (i := 4) (oi := _) (v := _) ?hir4 (by kernel_rfl) ?hfr4 ?hrr4 ?hQr4 ?hyr4 hBr1 ?restr4
  case hir4 => (simp only [List.getElem?_toArray, List.getElem?_cons_zero, List.getElem?_cons_succ]; rfl)
  case hfr4 => kernel_rfl
  case hrr4 => kernel_rfl
  case hQr4 => exact fun _ _ _ h => h
  case hyr4 => refine Or.inl ⟨by rfl, ?_⟩; intro W hSw; go_simp; try with_reducible rfl
  try simp only [Act.put, List.setIfInBounds_toArray, List.set_cons_zero, List.set_cons_succ]
  refine' wpAnyH_take (i := 5) (oi := _) (v := _) ?hir5 (by kernel_rfl) ?hfr5 ?hrr5 ?hQr5 ?hyr5 hBr1 ?restr5
  case hir5 => (simp only [List.getElem?_toArray, List.getElem?_cons_zero, List.getElem?_cons_succ]; rfl)
  case hfr5 => kernel_rfl
  case hrr5 => kernel_rfl
  case hQr5 => exact fun _ _ _ h => h
  case hyr5 => refine Or.inl ⟨by rfl, ?_⟩; intro W hSw; go_simp; try with_reducible rfl
  try simp only [Act.put, List.setIfInBounds_toArray, List.set_cons_zero, List.set_cons_succ]
  refine' wpAnyH_take (i := 6) (oi := _) (v := _) ?hir6 (by kernel_rfl) ?hfr6 ?hrr6 ?hQr6 ?hyr6 hBr1 ?restr6
  case hir6 => (simp only [List.getElem?_toArray, List.getElem?_cons_zero, List.getElem?_cons_succ]; rfl)
  case hfr6 => kernel_rfl
  case hrr6 => kernel_rfl
  case hQr6 => exact fun _ _ _ h => h
  case hyr6 => refine Or.inl ⟨by rfl, ?_⟩; intro W hSw; have hcc := (KS.out W hSw).size; go_simp; try with_reducible rfl
  try simp only [Act.put, List.setIfInBounds_toArray, List.set_cons_zero, List.set_cons_succ]
  refine' wpAnyH_take (i := 7) (oi := _) (v := _) ?hir7 (by kernel_rfl) ?hfr7 ?hrr7 ?hQr7 ?hyr7 hBr1 ?restr7
  case hir7 => (simp only [List.getElem?_toArray, List.getElem?_cons_zero, List.getElem?_cons_succ]; rfl)
  case hfr7 => kernel_rfl
  case hrr7 => kernel_rfl
  case hQr7 => exact fun _ _ _ h => h
  case hyr7 => refine Or.inl ⟨by rfl, ?_⟩; intro W hSw; go_simp; try with_reducible rfl
  try simp only [Act.put, List.setIfInBounds_toArray, List.set_cons_zero, List.set_cons_succ]
  refine' wpAnyH_take (i := 8) (oi := _) (v := _) ?hir8 (by kernel_rfl) ?hfr8 ?hrr8 ?hQr8 ?hyr8 hBr1 ?restr8
  case hir8 => (simp only [List.getElem?_toArray, List.getElem?_cons_zero, List.getElem?_cons_succ]; rfl)
  case hfr8 => kernel_rfl
  case hrr8 => kernel_rfl
  case hQr8 => exact fun _ _ _ h => h
  case hyr8 => refine Or.inl ⟨by rfl, ?_⟩; intro W hSw; have hcc := (KS.out W hSw).path; go_simp; try with_reducible rfl
  try simp only [Act.put, List.setIfInBounds_toArray, List.set_cons_zero, List.set_cons_succ]
  refine' wpAnyH_take (i := 9) (oi := _) (v := _) ?hir9 (by kernel_rfl) ?hfr9 ?hrr9 ?hQr9 ?hyr9 hBr1 ?restr9
  case hir9 => (simp only [List.getElem?_toArray, List.getElem?_cons_zero, List.getElem?_cons_succ]; rfl)
  case hfr9 => kernel_rfl
  case hrr9 => kernel_rfl
  case hQr9 => exact fun _ _ _ h => h
  case hyr9 => refine Or.inl ⟨by rfl, ?_⟩; intro W hSw; go_simp; try with_reducible rfl
  try simp only [Act.put, List.setIfInBounds_toArray, List.set_cons_zero, List.set_cons_succ]
  refine' wpAnyH_take (i := 10) (oi := _) (v := sv (root)) ?hir10 (by kernel_rfl) ?hfr10 ?hrr10 ?hQr10 ?hyr10 hBr1 ?restr10
  case hir10 => (simp only [List.getElem?_toArray, List.getElem?_cons_zero, List.getElem?_cons_succ]; rfl)
  case hfr10 => kernel_rfl
  case hrr10 => kernel_rfl
  case hQr10 => exact fun _ _ _ h => h
  case hyr10 => refine yields_sum ?_ (.tmp 23) rfl ⟨b, 35, none⟩ rfl root hr (fun W hSw => (KS.out W hSw).root); rfl
  try simp only [Act.put, List.setIfInBounds_toArray, List.set_cons_zero, List.set_cons_succ]
  refine wpAnyH_ready (rs := [11]) (by kernel_rfl) (by simp) ?_
  refine' AllReadyH.cons (o := _) ?hir11 (fun K hK => ?_) AllReadyH.nil
  case hir11 => (simp only [List.getElem?_toArray, List.getElem?_cons_zero, List.getElem?_cons_succ]; rfl)
  go_simp
  go_at_call 9
  refine (CF.out _ hBr1).mono ?_
  rintro e Wr4 ⟨rfl, hBr3⟩
  refine hK.out _ _ hBr3 (fun _ => ?_)
  clear hK K
  try simp only [Act.put, List.setIfInBounds_toArray, List.set_cons_zero, List.set_cons_succ]
  refine' wpAnyH_take (i := 12) (oi := _) (v := _) ?hir12 (by kernel_rfl) ?hfr12 ?hrr12 ?hQr12 ?hyr12 hBr3 ?restr12
  case hir12 => (simp only [List.getElem?_toArray, List.getElem?_cons_zero, List.getElem?_cons_succ]; rfl)
  case hfr12 => kernel_rfl
  case hrr12 => kernel_rfl
  case hQr12 => exact fun _ _ _ h => h
  case hyr12 => refine Or.inl ⟨by rfl, ?_⟩; intro W hSw; go_simp; try with_reducible rfl
  try simp only [Act.put, List.setIfInBounds_toArray, List.set_cons_zero, List.set_cons_succ]
  refine' wpAnyH_take (i := 13) (oi := _) (v := _) ?hir13 (by kernel_rfl) ?hfr13 ?hrr13 ?hQr13 ?hyr13 hBr3 ?restr13
  case hir13 => (simp only [List.getElem?_toArray, List.getElem?_cons_zero, List.getElem?_cons_succ]; rfl)
  case hfr13 => kernel_rfl
  case hrr13 => kernel_rfl
  case hQr13 => exact fun _ _ _ h => h
  case hyr13 => refine Or.inl ⟨by rfl, ?_⟩; intro W hSw; go_simp; try with_reducible rfl
  try simp only [Act.put, List.setIfInBounds_toArray, List.set_cons_zero, List.set_cons_succ]
  refine' wpAnyH_take (i := 14) (oi := _) (v := _) ?hir14 (by kernel_rfl) ?hfr14 ?hrr14 ?hQr14 ?hyr14 hBr3 ?restr14
  case hir14 => (simp only [List.getElem?_toArray, List.getElem?_cons_zero, List.getElem?_cons_succ]; rfl)
  case hfr14 => kernel_rfl
  case hrr14 => kernel_rfl
  case hQr14 => exact fun _ _ _ h => h
  case hyr14 => refine Or.inl ⟨by rfl, ?_⟩; intro W hSw; go_simp; try with_reducible rfl
  try simp only [Act.put, List.setIfInBounds_toArray, List.set_cons_zero, List.set_cons_succ]
  refine' wpAnyH_take (i := 15) (oi := _) (v := _) ?hir15 (by kernel_rfl) ?hfr15 ?hrr15 ?hQr15 ?hyr15 hBr3 ?restr15
  case hir15 => (simp only [List.getElem?_toArray, List.getElem?_cons_zero, List.getElem?_cons_succ]; rfl)
  case hfr15 => kernel_rfl
  case hrr15 => kernel_rfl
  case hQr15 => exact fun _ _ _ h => h
  case hyr15 => refine Or.inl ⟨by rfl, ?_⟩; intro W hSw; go_simp; try with_reducible rfl
  try simp only [Act.put, List.setIfInBounds_toArray, List.set_cons_zero, List.set_cons_succ]
  refine' wpAnyH_take (i := 16) (oi := _) (v := sv (leaf)) ?hir16 (by kernel_rfl) ?hfr16 ?hrr16 ?hQr16 ?hyr16 hBr3 ?restr16
  case hir16 => (simp only [List.getElem?_toArray, List.getElem?_cons_zero, List.getElem?_cons_succ]; rfl)
  case hfr16 => kernel_rfl
  case hrr16 => kernel_rfl
  case hQr16 => exact fun _ _ _ h => h
  case hyr16 => refine yields_sum ?_ (.tmp 29) rfl ⟨b, 0, none⟩ rfl leaf hl (fun W hSw => (KS.out W hSw).leaf); rfl
  try simp only [Act.put, List.setIfInBounds_toArray, List.set_cons_zero, List.set_cons_succ]
  refine' wpAnyH_take (i := 17) (oi := _) (v := _) ?hir17 (by kernel_rfl) ?hfr17 ?hrr17 ?hQr17 ?hyr17 hBr3 ?restr17
  case hir17 => (simp only [List.getElem?_toArray, List.getElem?_cons_zero, List.getElem?_cons_succ]; rfl)
  case hfr17 => kernel_rfl
  case hrr17 => kernel_rfl
  case hQr17 => exact fun _ _ _ h => h
  case hyr17 => refine Or.inl ⟨by rfl, ?_⟩; intro W hSw; go_simp; try with_reducible rfl
  try simp only [Act.put, List.setIfInBounds_toArray, List.set_cons_zero, List.set_cons_succ]
  refine' wpAnyH_take (i := 18) (oi := _) (v := _) ?hir18 (by kernel_rfl) ?hfr18 ?hrr18 ?hQr18 ?hyr18 hBr3 ?restr18
  case hir18 => (simp only [List.getElem?_toArray, List.getElem?_cons_zero, List.getElem?_cons_succ]; rfl)
  case hfr18 => kernel_rfl
  case hrr18 => kernel_rfl
  case hQr18 => exact fun _ _ _ h => h
  case hyr18 => refine Or.inl ⟨by rfl, ?_⟩; intro W hSw; have hcc := (KS.out W hSw).path; go_simp; try with_reducible rfl
  try simp only [Act.put, List.setIfInBounds_toArray, List.set_cons_zero, List.set_cons_succ]
  refine' wpAnyH_take (i := 19) (oi := _) (v := _) ?hir19 (by kernel_rfl) ?hfr19 ?hrr19 ?hQr19 ?hyr19 hBr3 ?restr19
  case hir19 => (simp only [List.getElem?_toArray, List.getElem?_cons_zero, List.getElem?_cons_succ]; rfl)
  case hfr19 => kernel_rfl
  case hrr19 => kernel_rfl
  case hQr19 => exact fun _ _ _ h => h
  case hyr19 => refine Or.inl ⟨by rfl, ?_⟩; intro W hSw; go_simp; try with_reducible rfl
  try simp only [Act.put, List.setIfInBounds_toArray, List.set_cons_zero, List.set_cons_succ]
  refine' wpAnyH_take (i := 20) (oi := _) (v := sv (root)) ?hir20 (by kernel_rfl) ?hfr20 ?hrr20 ?hQr20 ?hyr20 hBr3 ?restr20
  case hir20 => (simp only [List.getElem?_toArray, List.getElem?_cons_zero, List.getElem?_cons_succ]; rfl)
  case hfr20 => kernel_rfl
  case hrr20 => kernel_rfl
  case hQr20 => exact fun _ _ _ h => h
  case hyr20 => refine yields_sum ?_ (.tmp 33) rfl ⟨b, 35, none⟩ rfl root hr (fun W hSw => (KS.out W hSw).root); rfl
  try simp only [Act.put, List.setIfInBounds_toArray, List.set_cons_zero, List.set_cons_succ]
  refine' wpAnyH_take (i := 22) (oi := _) (v := _) ?hir22 (by kernel_rfl) ?hfr22 ?hrr22 ?hQr22 ?hyr22 hBr3 ?restr22
  case hir22 => (simp only [List.getElem?_toArray, List.getElem?_cons_zero, List.getElem?_cons_succ]; rfl)
  case hfr22 => kernel_rfl
  case hrr22 => kernel_rfl
  case hQr22 => exact fun _ _ _ h => h
  case hyr22 => refine Or.inl ⟨by rfl, ?_⟩; intro W hSw; go_simp; try with_reducible rfl
  try simp only [Act.put, List.setIfInBounds_toArray, List.set_cons_zero, List.set_cons_succ]
  refine' wpAnyH_take (i := 23) (oi := _) (v := _) ?hir23 (by kernel_rfl) ?hfr23 ?hrr23 ?hQr23 ?hyr23 hBr3 ?restr23
  case hir23 => (simp only [List.getElem?_toArray, List.getElem?_cons_zero, List.getElem?_cons_succ]; rfl)
  case hfr23 => kernel_rfl
  case hrr23 => kernel_rfl
  case hQr23 => exact fun _ _ _ h => h
  case hyr23 => refine Or.inl ⟨by rfl, ?_⟩; intro W hSw; have hcc := (KS.out W hSw).path; go_simp; try with_reducible rfl
  try simp only [Act.put, List.setIfInBounds_toArray, List.set_cons_zero, List.set_cons_succ]
  refine' wpAnyH_take (i := 24) (oi := _) (v := _) ?hir24 (by kernel_rfl) ?hfr24 ?hrr24 ?hQr24 ?hyr24 hBr3 ?restr24
  case hir24 => (simp only [List.getElem?_toArray, List.getElem?_cons_zero, List.getElem?_cons_succ]; rfl)
  case hfr24 => kernel_rfl
  case hrr24 => kernel_rfl
  case hQr24 => exact fun _ _ _ h => h
  case hyr24 => refine Or.inl ⟨by rfl, ?_⟩; intro W hSw; go_simp; try with_reducible rfl
  try simp only [Act.put, List.setIfInBounds_toArray, List.set_cons_zero, List.set_cons_succ]
  refine' wpAnyH_take (i := 25) (oi := _) (v := _) ?hir25 (by kernel_rfl) ?hfr25 ?hrr25 ?hQr25 ?hyr25 hBr3 ?restr25
  case hir25 => (simp only [List.getElem?_toArray, List.getElem?_cons_zero, List.getElem?_cons_succ]; rfl)
  case hfr25 => kernel_rfl
  case hrr25 => kernel_rfl
  case hQr25 => exact fun _ _ _ h => h
  case hyr25 => refine Or.inl ⟨by rfl, ?_⟩; intro W hSw; go_simp; try with_reducible rfl
  try simp only [Act.put, List.setIfInBounds_toArray, List.set_cons_zero, List.set_cons_succ]
  refine wpAnyH_ready (rs := [21]) (by kernel_rfl) (by simp) ?_
  refine' AllReadyH.cons (o := _) ?hir21 (fun K hK => ?_) AllReadyH.nil
  case hir21 => (simp only [List.getElem?_toArray, List.getElem?_cons_zero, List.getElem?_cons_succ]; rfl)
  go_simp
  go_at_call 9
  refine (HCE.out _ hBr3).mono ?_
  rintro e Wr6 ⟨rfl, hBr5⟩
  refine hK.out _ _ hBr5 (fun _ => ?_)
  clear hK K
  try simp only [Act.put, List.setIfInBounds_toArray, List.set_cons_zero, List.set_cons_succ]
  refine' wpAnyH_take (i := 26) (oi := _) (v := _) ?hir26 (by kernel_rfl) ?hfr26 ?hrr26 ?hQr26 ?hyr26 hBr5 ?restr26
  case hir26 => (simp only [List.getElem?_toArray, List.getElem?_cons_zero, List.getElem?_cons_succ]; rfl)
  case hfr26 => kernel_rfl
  case hrr26 => kernel_rfl
  case hQr26 => exact fun _ _ _ h => h
  case hyr26 => refine Or.inl ⟨by rfl, ?_⟩; intro W hSw; go_simp; try with_reducible rfl
  try simp only [Act.put, List.setIfInBounds_toArray, List.set_cons_zero, List.set_cons_succ]
  refine' wpAnyH_take (i := 27) (oi := _) (v := _) ?hir27 (by kernel_rfl) ?hfr27 ?hrr27 ?hQr27 ?hyr27 hBr5 ?restr27
  case hir27 => (simp only [List.getElem?_toArray, List.getElem?_cons_zero, List.getElem?_cons_succ]; rfl)
  case hfr27 => kernel_rfl
  case hrr27 => kernel_rfl
  case hQr27 => exact fun _ _ _ h => h
  case hyr27 => refine Or.inl ⟨by rfl, ?_⟩; intro W hSw; go_simp; try with_reducible rfl
  try simp only [Act.put, List.setIfInBounds_toArray, List.set_cons_zero, List.set_cons_succ]
  refine' wpAnyH_take (i := 28) (oi := _) (v := sv (leaf)) ?hir28 (by kernel_rfl) ?hfr28 ?hrr28 ?hQr28 ?hyr28 hBr5 ?restr28
  case hir28 => (simp only [List.getElem?_toArray, List.getElem?_cons_zero, List.getElem?_cons_succ]; rfl)
  case hfr28 => kernel_rfl
  case hrr28 => kernel_rfl
  case hQr28 => exact fun _ _ _ h => h
  case hyr28 => refine yields_sum ?_ (.tmp 41) rfl ⟨b, 0, none⟩ rfl leaf hl (fun W hSw => (KS.out W hSw).leaf); rfl
  try simp only [Act.put, List.setIfInBounds_toArray, List.set_cons_zero, List.set_cons_succ]
  refine' wpAnyH_take (i := 29) (oi := _) (v := _) ?hir29 (by kernel_rfl) ?hfr29 ?hrr29 ?hQr29 ?hyr29 hBr5 ?restr29
  case hir29 => (simp only [List.getElem?_toArray, List.getElem?_cons_zero, List.getElem?_cons_succ]; rfl)
  case hfr29 => kernel_rfl
  case hrr29 => kernel_rfl
  case hQr29 => exact fun _ _ _ h => h
  case hyr29 => refine Or.inl ⟨by rfl, ?_⟩; intro W hSw; go_simp; try with_reducible rfl
  try simp only [Act.put, List.setIfInBounds_toArray, List.set_cons_zero, List.set_cons_succ]
  refine' wpAnyH_take (i := 30) (oi := _) (v := sv (root)) ?hir30 (by kernel_rfl) ?hfr30 ?hrr30 ?hQr30 ?hyr30 hBr5 ?restr30
  case hir30 => (simp only [List.getElem?_toArray, List.getElem?_cons_zero, List.getElem?_cons_succ]; rfl)
  case hfr30 => kernel_rfl
  case hrr30 => kernel_rfl
  case hQr30 => exact fun _ _ _ h => h
  case hyr30 => refine yields_sum ?_ (.tmp 43) rfl ⟨b, 35, none⟩ rfl root hr (fun W hSw => (KS.out W hSw).root); rfl
  try simp only [Act.put, List.setIfInBounds_toArray, List.set_cons_zero, List.set_cons_succ]
  refine' wpAnyH_take (i := 31) (oi := _) (v := _) ?hir31 (by kernel_rfl) ?hfr31 ?hrr31 ?hQr31 ?hyr31 hBr5 ?restr31
  case hir31 => (simp only [List.getElem?_toArray, List.getElem?_cons_zero, List.getElem?_cons_succ]; rfl)
  case hfr31 => kernel_rfl
  case hrr31 => kernel_rfl
  case hQr31 => exact fun _ _ _ h => h
  case hyr31 => refine Or.inl ⟨by rfl, ?_⟩; intro W hSw; go_simp; try with_reducible rfl
  try simp only [Act.put, List.setIfInBounds_toArray, List.set_cons_zero, List.set_cons_succ]
  refine' wpAnyH_take (i := 32) (oi := _) (v := _) ?hir32 (by kernel_rfl) ?hfr32 ?hrr32 ?hQr32 ?hyr32 hBr5 ?restr32
  case hir32 => (simp only [List.getElem?_toArray, List.getElem?_cons_zero, List.getElem?_cons_succ]; rfl)
  case hfr32 => kernel_rfl
  case hrr32 => kernel_rfl
  case hQr32 => exact fun _ _ _ h => h
  case hyr32 => refine Or.inl ⟨by rfl, ?_⟩; intro W hSw; go_simp; try with_reducible rfl
  try simp only [Act.put, List.setIfInBounds_toArray, List.set_cons_zero, List.set_cons_succ]
  refine' wpAnyH_take (i := 33) (oi := _) (v := _) ?hir33 (by kernel_rfl) ?hfr33 ?hrr33 ?hQr33 ?hyr33 hBr5 ?restr33
  case hir33 => (simp only [List.getElem?_toArray, List.getElem?_cons_zero, List.getElem?_cons_succ]; rfl)
  case hfr33 => kernel_rfl
  case hrr33 => kernel_rfl
  case hQr33 => exact fun _ _ _ h => h
  case hyr33 => refine Or.inl ⟨by rfl, ?_⟩; intro W hSw; go_simp; try with_reducible rfl
  try simp only [Act.put, List.setIfInBounds_toArray, List.set_cons_zero, List.set_cons_succ]
  refine' wpAnyH_take (i := 34) (oi := _) (v := _) ?hir34 (by kernel_rfl) ?hfr34 ?hrr34 ?hQr34 ?hyr34 hBr5 ?restr34
  case hir34 => (simp only [List.getElem?_toArray, List.getElem?_cons_zero, List.getElem?_cons_succ]; rfl)
  case hfr34 => kernel_rfl
  case hrr34 => kernel_rfl
  case hQr34 => exact fun _ _ _ h => h
  case hyr34 => refine Or.inl ⟨by rfl, ?_⟩; intro W hSw; go_simp; try with_reducible rfl
  try simp only [Act.put, List.setIfInBounds_toArray, List.set_cons_zero, List.set_cons_succ]
  refine' wpAnyH_take (i := 35) (oi := _) (v := _) ?hir35 (by kernel_rfl) ?hfr35 ?hrr35 ?hQr35 ?hyr35 hBr5 ?restr35
  case hir35 => (simp only [List.getElem?_toArray, List.getElem?_cons_zero, List.getElem?_cons_succ]; rfl)
  case hfr35 => kernel_rfl
  case hrr35 => kernel_rfl
  case hQr35 => exact fun _ _ _ h => h
  case hyr35 => refine Or.inl ⟨by rfl, ?_⟩; intro W hSw; go_simp; try with_reducible rfl
  try simp only [Act.put, List.setIfInBounds_toArray, List.set_cons_zero, List.set_cons_succ]
  refine wpAnyH_done (by kernel_rfl) ?_ _
  go_wp2
  go_ret
  exact ⟨rfl, BL.out _ hBr5⟩
  
set_option maxRecDepth 100000 in
set_option maxHeartbeats 4000000 in
theorem ends_tf (hk : Knows w) (hs : Starts w) (hl : leaf.length = 32) (hb : ∀ x ∈ leaf, x < 256) (h1 : at_ < 18446744073709551616) (h2 : size < 18446744073709551616) (cm : CameS w A n c ys) (hr : root.length = 32) (hn : n ≤ 200) (hz : ((n : Int) == 0) = true) (hq : decide (leaf = root) = false) :
    Calls Tryd.prog 4 #[.agg (saidL leaf at_ size A n c root).toArray] w fun e w' => e = .returned (.bool true) ∧ Below w.heap.size w w' := by
  obtain ⟨w1, hw1⟩ : ∃ w1, w1 = w.alloc (.cells (saidL leaf at_ size A n c root).toArray 34) := ⟨_, rfl⟩
  have s1 : SaidAt w1 w.heap.size leaf at_ size A n c root := by rw [hw1]; exact said_new w hl
  have b1 : Below w.heap.size w w1 := by rw [hw1]; exact below_alloc _ _
  obtain ⟨S, hS⟩ : ∃ S, (saidL leaf at_ size A n c root).toArray = S := ⟨_, rfl⟩
  rw [hS] at hw1 ⊢
  clear hS
  obtain ⟨M, hmax, hM, hM2⟩ : ∃ M : Nat, max (at_ : Int) (size : Int) = (M : Int) ∧ size ≤ M ∧ M < 18446744073709551616 := ⟨max at_ size, by omega, by omega, by omega⟩
  have CA := Lib.hid (fun (W : World) (hW : Below w1.heap.size w1 W) => later (v' := .bool true) hW rfl (walive_any W (hk.below (below_on b1 (Nat.le_refl _) hW)) (hs.below (below_on b1 (Nat.le_refl _) hW))))
  have CF := Lib.hid (fun (W : World) (hW : Below w1.heap.size w1 W) => later hW rfl (check_far (w := W) (n := n) (c := c) (A := A) (leaf := leaf) (root := root) hM))
  have CE : ∀ W : World, Below w1.heap.size w1 W → Calls Tryd.prog 9 #[sv leaf, .int .u64 0, .int .u64 1, .slice A n c, sv root] W fun e w' => e = .returned (.bool false) ∧ Below w1.heap.size w1 w' := fun W hW => by
    refine later hW ?_ (check_any (at_ := 0) (size := 1) (cm.in_.below (below_on b1 (Nat.le_refl _) hW)) cm.lt cm.cap (by omega) hl hb hr (by omega) (hk.below (below_on b1 (Nat.le_refl _) hW)) (hs.below (below_on b1 (Nat.le_refl _) hW)))
    unfold inTree
    rw [dep_one (by omega), leadF_one _ _ (by omega), hq]
    have : n = 0 := by simpa using hz
    simp [this]
  have HCE := Lib.hid CE
  have KS := Lib.hid (fun (W : World) (hW : Below w1.heap.size w1 W) => s1.below hW)
  obtain ⟨b, hb0⟩ : ∃ b, w.heap.size = b := ⟨_, rfl⟩
  rw [hb0] at s1 b1 KS
  have c2 := s1.at_
  have c3 := s1.size
  have c4 := s1.path
  have HW := Lib.hid hw1
  have HB1 := Lib.hid (And.intro b1 hb0)
  have BL := Lib.hid (fun (W : World) (hW : Below w1.heap.size w1 W) => show Below b w W from below_on b1 (by rw [← hb0]; exact Nat.le_refl _) hW)
  have hni : ¬ (200 : Int) < (n : Int) := by omega
  have q1 := run_eql_sum leaf root hl hr
  rw [hq] at q1
  have q2 := run_guard_eql
  clear hw1 s1 b1 hM hM2 CE hn cm h1 h2 hk hs hb
  go_enter Tryd.func4, Tryd.ntmps4
  go_upto_region 1 with fail
  rw [← HW.out]
  go_upto_region 4 with fail
  refine wp_region_held_drew (S := fun W => Below w1.heap.size w1 W) (by kernel_rfl) ((Below.refl _ _).drew) (fun hT0 => ?_)
  change wpAnyH _ _ _ _ _ _ _ _ w1.drew
  refine wpAnyH_ready (rs := [0]) (by kernel_rfl) (by simp) ?_
  refine' AllReadyH.cons (o := _) ?hir0 (fun K hK => ?_) AllReadyH.nil
  case hir0 => (simp only [List.getElem?_toArray, List.getElem?_cons_zero]; rfl)
  go_simp
  go_at_call 6
  refine (CA.out _ hT0).mono ?_
  rintro e Wr2 ⟨rfl, hBr1⟩
  refine hK.out _ _ hBr1 (fun _ => ?_)
  clear hK K
  try simp only [Act.put, List.setIfInBounds_toArray, List.set_cons_zero, List.set_cons_succ]
  refine' wpAnyH_take (i := 1) (oi := _) (v := _) ?hir1 (by kernel_rfl) ?hfr1 ?hrr1 ?hQr1 ?hyr1 hBr1 ?restr1
  case hir1 => (simp only [List.getElem?_toArray, List.getElem?_cons_zero, List.getElem?_cons_succ]; rfl)
  case hfr1 => kernel_rfl
  case hrr1 => kernel_rfl
  case hQr1 => exact fun _ _ _ h => h
  case hyr1 => refine Or.inl ⟨by rfl, ?_⟩; intro W hSw; go_simp; try with_reducible rfl
  try simp only [Act.put, List.setIfInBounds_toArray, List.set_cons_zero, List.set_cons_succ]
  refine' wpAnyH_take (i := 2) (oi := _) (v := _) ?hir2 (by kernel_rfl) ?hfr2 ?hrr2 ?hQr2 ?hyr2 hBr1 ?restr2
  case hir2 => (simp only [List.getElem?_toArray, List.getElem?_cons_zero, List.getElem?_cons_succ]; rfl)
  case hfr2 => kernel_rfl
  case hrr2 => kernel_rfl
  case hQr2 => exact fun _ _ _ h => h
  case hyr2 => refine Or.inl ⟨by rfl, ?_⟩; intro W hSw; go_simp; try with_reducible rfl
  try simp only [Act.put, List.setIfInBounds_toArray, List.set_cons_zero, List.set_cons_succ]
  refine' wpAnyH_take (i := 3) (oi := _) (v := sv (leaf)) ?hir3 (by kernel_rfl) ?hfr3 ?hrr3 ?hQr3 ?hyr3 hBr1 ?restr3
  case hir3 => (simp only [List.getElem?_toArray, List.getElem?_cons_zero, List.getElem?_cons_succ]; rfl)
  case hfr3 => kernel_rfl
  case hrr3 => kernel_rfl
  case hQr3 => exact fun _ _ _ h => h
  case hyr3 => refine yields_sum ?_ (.tmp 16) rfl ⟨b, 0, none⟩ rfl leaf hl (fun W hSw => (KS.out W hSw).leaf); rfl
  try simp only [Act.put, List.setIfInBounds_toArray, List.set_cons_zero, List.set_cons_succ]
  refine' wpAnyH_take (i := 4) (oi := _) (v := _) ?hir4 (by kernel_rfl) ?hfr4 ?hrr4 ?hQr4 ?hyr4 hBr1 ?restr4
  case hir4 => (simp only [List.getElem?_toArray, List.getElem?_cons_zero, List.getElem?_cons_succ]; rfl)
  case hfr4 => kernel_rfl
  case hrr4 => kernel_rfl
  case hQr4 => exact fun _ _ _ h => h
  case hyr4 => refine Or.inl ⟨by rfl, ?_⟩; intro W hSw; go_simp; try with_reducible rfl
  try simp only [Act.put, List.setIfInBounds_toArray, List.set_cons_zero, List.set_cons_succ]
  refine' wpAnyH_take (i := 5) (oi := _) (v := _) ?hir5 (by kernel_rfl) ?hfr5 ?hrr5 ?hQr5 ?hyr5 hBr1 ?restr5
  case hir5 => (simp only [List.getElem?_toArray, List.getElem?_cons_zero, List.getElem?_cons_succ]; rfl)
  case hfr5 => kernel_rfl
  case hrr5 => kernel_rfl
  case hQr5 => exact fun _ _ _ h => h
  case hyr5 => refine Or.inl ⟨by rfl, ?_⟩; intro W hSw; go_simp; try with_reducible rfl
  try simp only [Act.put, List.setIfInBounds_toArray, List.set_cons_zero, List.set_cons_succ]
  refine' wpAnyH_take (i := 6) (oi := _) (v := _) ?hir6 (by kernel_rfl) ?hfr6 ?hrr6 ?hQr6 ?hyr6 hBr1 ?restr6
  case hir6 => (simp only [List.getElem?_toArray, List.getElem?_cons_zero, List.getElem?_cons_succ]; rfl)
  case hfr6 => kernel_rfl
  case hrr6 => kernel_rfl
  case hQr6 => exact fun _ _ _ h => h
  case hyr6 => refine Or.inl ⟨by rfl, ?_⟩; intro W hSw; have hcc := (KS.out W hSw).size; go_simp; try with_reducible rfl
  try simp only [Act.put, List.setIfInBounds_toArray, List.set_cons_zero, List.set_cons_succ]
  refine' wpAnyH_take (i := 7) (oi := _) (v := _) ?hir7 (by kernel_rfl) ?hfr7 ?hrr7 ?hQr7 ?hyr7 hBr1 ?restr7
  case hir7 => (simp only [List.getElem?_toArray, List.getElem?_cons_zero, List.getElem?_cons_succ]; rfl)
  case hfr7 => kernel_rfl
  case hrr7 => kernel_rfl
  case hQr7 => exact fun _ _ _ h => h
  case hyr7 => refine Or.inl ⟨by rfl, ?_⟩; intro W hSw; go_simp; try with_reducible rfl
  try simp only [Act.put, List.setIfInBounds_toArray, List.set_cons_zero, List.set_cons_succ]
  refine' wpAnyH_take (i := 8) (oi := _) (v := _) ?hir8 (by kernel_rfl) ?hfr8 ?hrr8 ?hQr8 ?hyr8 hBr1 ?restr8
  case hir8 => (simp only [List.getElem?_toArray, List.getElem?_cons_zero, List.getElem?_cons_succ]; rfl)
  case hfr8 => kernel_rfl
  case hrr8 => kernel_rfl
  case hQr8 => exact fun _ _ _ h => h
  case hyr8 => refine Or.inl ⟨by rfl, ?_⟩; intro W hSw; have hcc := (KS.out W hSw).path; go_simp; try with_reducible rfl
  try simp only [Act.put, List.setIfInBounds_toArray, List.set_cons_zero, List.set_cons_succ]
  refine' wpAnyH_take (i := 9) (oi := _) (v := _) ?hir9 (by kernel_rfl) ?hfr9 ?hrr9 ?hQr9 ?hyr9 hBr1 ?restr9
  case hir9 => (simp only [List.getElem?_toArray, List.getElem?_cons_zero, List.getElem?_cons_succ]; rfl)
  case hfr9 => kernel_rfl
  case hrr9 => kernel_rfl
  case hQr9 => exact fun _ _ _ h => h
  case hyr9 => refine Or.inl ⟨by rfl, ?_⟩; intro W hSw; go_simp; try with_reducible rfl
  try simp only [Act.put, List.setIfInBounds_toArray, List.set_cons_zero, List.set_cons_succ]
  refine' wpAnyH_take (i := 10) (oi := _) (v := sv (root)) ?hir10 (by kernel_rfl) ?hfr10 ?hrr10 ?hQr10 ?hyr10 hBr1 ?restr10
  case hir10 => (simp only [List.getElem?_toArray, List.getElem?_cons_zero, List.getElem?_cons_succ]; rfl)
  case hfr10 => kernel_rfl
  case hrr10 => kernel_rfl
  case hQr10 => exact fun _ _ _ h => h
  case hyr10 => refine yields_sum ?_ (.tmp 23) rfl ⟨b, 35, none⟩ rfl root hr (fun W hSw => (KS.out W hSw).root); rfl
  try simp only [Act.put, List.setIfInBounds_toArray, List.set_cons_zero, List.set_cons_succ]
  refine wpAnyH_ready (rs := [11]) (by kernel_rfl) (by simp) ?_
  refine' AllReadyH.cons (o := _) ?hir11 (fun K hK => ?_) AllReadyH.nil
  case hir11 => (simp only [List.getElem?_toArray, List.getElem?_cons_zero, List.getElem?_cons_succ]; rfl)
  go_simp
  go_at_call 9
  refine (CF.out _ hBr1).mono ?_
  rintro e Wr4 ⟨rfl, hBr3⟩
  refine hK.out _ _ hBr3 (fun _ => ?_)
  clear hK K
  try simp only [Act.put, List.setIfInBounds_toArray, List.set_cons_zero, List.set_cons_succ]
  refine' wpAnyH_take (i := 12) (oi := _) (v := _) ?hir12 (by kernel_rfl) ?hfr12 ?hrr12 ?hQr12 ?hyr12 hBr3 ?restr12
  case hir12 => (simp only [List.getElem?_toArray, List.getElem?_cons_zero, List.getElem?_cons_succ]; rfl)
  case hfr12 => kernel_rfl
  case hrr12 => kernel_rfl
  case hQr12 => exact fun _ _ _ h => h
  case hyr12 => refine Or.inl ⟨by rfl, ?_⟩; intro W hSw; go_simp; try with_reducible rfl
  try simp only [Act.put, List.setIfInBounds_toArray, List.set_cons_zero, List.set_cons_succ]
  refine' wpAnyH_take (i := 13) (oi := _) (v := _) ?hir13 (by kernel_rfl) ?hfr13 ?hrr13 ?hQr13 ?hyr13 hBr3 ?restr13
  case hir13 => (simp only [List.getElem?_toArray, List.getElem?_cons_zero, List.getElem?_cons_succ]; rfl)
  case hfr13 => kernel_rfl
  case hrr13 => kernel_rfl
  case hQr13 => exact fun _ _ _ h => h
  case hyr13 => refine Or.inl ⟨by rfl, ?_⟩; intro W hSw; go_simp; try with_reducible rfl
  try simp only [Act.put, List.setIfInBounds_toArray, List.set_cons_zero, List.set_cons_succ]
  refine' wpAnyH_take (i := 14) (oi := _) (v := _) ?hir14 (by kernel_rfl) ?hfr14 ?hrr14 ?hQr14 ?hyr14 hBr3 ?restr14
  case hir14 => (simp only [List.getElem?_toArray, List.getElem?_cons_zero, List.getElem?_cons_succ]; rfl)
  case hfr14 => kernel_rfl
  case hrr14 => kernel_rfl
  case hQr14 => exact fun _ _ _ h => h
  case hyr14 => refine Or.inl ⟨by rfl, ?_⟩; intro W hSw; go_simp; try with_reducible rfl
  try simp only [Act.put, List.setIfInBounds_toArray, List.set_cons_zero, List.set_cons_succ]
  refine' wpAnyH_take (i := 15) (oi := _) (v := _) ?hir15 (by kernel_rfl) ?hfr15 ?hrr15 ?hQr15 ?hyr15 hBr3 ?restr15
  case hir15 => (simp only [List.getElem?_toArray, List.getElem?_cons_zero, List.getElem?_cons_succ]; rfl)
  case hfr15 => kernel_rfl
  case hrr15 => kernel_rfl
  case hQr15 => exact fun _ _ _ h => h
  case hyr15 => refine Or.inl ⟨by rfl, ?_⟩; intro W hSw; go_simp; try with_reducible rfl
  try simp only [Act.put, List.setIfInBounds_toArray, List.set_cons_zero, List.set_cons_succ]
  refine' wpAnyH_take (i := 16) (oi := _) (v := sv (leaf)) ?hir16 (by kernel_rfl) ?hfr16 ?hrr16 ?hQr16 ?hyr16 hBr3 ?restr16
  case hir16 => (simp only [List.getElem?_toArray, List.getElem?_cons_zero, List.getElem?_cons_succ]; rfl)
  case hfr16 => kernel_rfl
  case hrr16 => kernel_rfl
  case hQr16 => exact fun _ _ _ h => h
  case hyr16 => refine yields_sum ?_ (.tmp 29) rfl ⟨b, 0, none⟩ rfl leaf hl (fun W hSw => (KS.out W hSw).leaf); rfl
  try simp only [Act.put, List.setIfInBounds_toArray, List.set_cons_zero, List.set_cons_succ]
  refine' wpAnyH_take (i := 17) (oi := _) (v := _) ?hir17 (by kernel_rfl) ?hfr17 ?hrr17 ?hQr17 ?hyr17 hBr3 ?restr17
  case hir17 => (simp only [List.getElem?_toArray, List.getElem?_cons_zero, List.getElem?_cons_succ]; rfl)
  case hfr17 => kernel_rfl
  case hrr17 => kernel_rfl
  case hQr17 => exact fun _ _ _ h => h
  case hyr17 => refine Or.inl ⟨by rfl, ?_⟩; intro W hSw; go_simp; try with_reducible rfl
  try simp only [Act.put, List.setIfInBounds_toArray, List.set_cons_zero, List.set_cons_succ]
  refine' wpAnyH_take (i := 18) (oi := _) (v := _) ?hir18 (by kernel_rfl) ?hfr18 ?hrr18 ?hQr18 ?hyr18 hBr3 ?restr18
  case hir18 => (simp only [List.getElem?_toArray, List.getElem?_cons_zero, List.getElem?_cons_succ]; rfl)
  case hfr18 => kernel_rfl
  case hrr18 => kernel_rfl
  case hQr18 => exact fun _ _ _ h => h
  case hyr18 => refine Or.inl ⟨by rfl, ?_⟩; intro W hSw; have hcc := (KS.out W hSw).path; go_simp; try with_reducible rfl
  try simp only [Act.put, List.setIfInBounds_toArray, List.set_cons_zero, List.set_cons_succ]
  refine' wpAnyH_take (i := 19) (oi := _) (v := _) ?hir19 (by kernel_rfl) ?hfr19 ?hrr19 ?hQr19 ?hyr19 hBr3 ?restr19
  case hir19 => (simp only [List.getElem?_toArray, List.getElem?_cons_zero, List.getElem?_cons_succ]; rfl)
  case hfr19 => kernel_rfl
  case hrr19 => kernel_rfl
  case hQr19 => exact fun _ _ _ h => h
  case hyr19 => refine Or.inl ⟨by rfl, ?_⟩; intro W hSw; go_simp; try with_reducible rfl
  try simp only [Act.put, List.setIfInBounds_toArray, List.set_cons_zero, List.set_cons_succ]
  refine' wpAnyH_take (i := 20) (oi := _) (v := sv (root)) ?hir20 (by kernel_rfl) ?hfr20 ?hrr20 ?hQr20 ?hyr20 hBr3 ?restr20
  case hir20 => (simp only [List.getElem?_toArray, List.getElem?_cons_zero, List.getElem?_cons_succ]; rfl)
  case hfr20 => kernel_rfl
  case hrr20 => kernel_rfl
  case hQr20 => exact fun _ _ _ h => h
  case hyr20 => refine yields_sum ?_ (.tmp 33) rfl ⟨b, 35, none⟩ rfl root hr (fun W hSw => (KS.out W hSw).root); rfl
  try simp only [Act.put, List.setIfInBounds_toArray, List.set_cons_zero, List.set_cons_succ]
  refine' wpAnyH_take (i := 22) (oi := _) (v := _) ?hir22 (by kernel_rfl) ?hfr22 ?hrr22 ?hQr22 ?hyr22 hBr3 ?restr22
  case hir22 => (simp only [List.getElem?_toArray, List.getElem?_cons_zero, List.getElem?_cons_succ]; rfl)
  case hfr22 => kernel_rfl
  case hrr22 => kernel_rfl
  case hQr22 => exact fun _ _ _ h => h
  case hyr22 => refine Or.inl ⟨by rfl, ?_⟩; intro W hSw; go_simp; try with_reducible rfl
  try simp only [Act.put, List.setIfInBounds_toArray, List.set_cons_zero, List.set_cons_succ]
  refine' wpAnyH_take (i := 23) (oi := _) (v := _) ?hir23 (by kernel_rfl) ?hfr23 ?hrr23 ?hQr23 ?hyr23 hBr3 ?restr23
  case hir23 => (simp only [List.getElem?_toArray, List.getElem?_cons_zero, List.getElem?_cons_succ]; rfl)
  case hfr23 => kernel_rfl
  case hrr23 => kernel_rfl
  case hQr23 => exact fun _ _ _ h => h
  case hyr23 => refine Or.inl ⟨by rfl, ?_⟩; intro W hSw; have hcc := (KS.out W hSw).path; go_simp; try with_reducible rfl
  try simp only [Act.put, List.setIfInBounds_toArray, List.set_cons_zero, List.set_cons_succ]
  refine' wpAnyH_take (i := 24) (oi := _) (v := _) ?hir24 (by kernel_rfl) ?hfr24 ?hrr24 ?hQr24 ?hyr24 hBr3 ?restr24
  case hir24 => (simp only [List.getElem?_toArray, List.getElem?_cons_zero, List.getElem?_cons_succ]; rfl)
  case hfr24 => kernel_rfl
  case hrr24 => kernel_rfl
  case hQr24 => exact fun _ _ _ h => h
  case hyr24 => refine Or.inl ⟨by rfl, ?_⟩; intro W hSw; go_simp; try with_reducible rfl
  try simp only [Act.put, List.setIfInBounds_toArray, List.set_cons_zero, List.set_cons_succ]
  refine' wpAnyH_take (i := 25) (oi := _) (v := _) ?hir25 (by kernel_rfl) ?hfr25 ?hrr25 ?hQr25 ?hyr25 hBr3 ?restr25
  case hir25 => (simp only [List.getElem?_toArray, List.getElem?_cons_zero, List.getElem?_cons_succ]; rfl)
  case hfr25 => kernel_rfl
  case hrr25 => kernel_rfl
  case hQr25 => exact fun _ _ _ h => h
  case hyr25 => refine Or.inl ⟨by rfl, ?_⟩; intro W hSw; go_simp; try with_reducible rfl
  try simp only [Act.put, List.setIfInBounds_toArray, List.set_cons_zero, List.set_cons_succ]
  refine wpAnyH_ready (rs := [21]) (by kernel_rfl) (by simp) ?_
  refine' AllReadyH.cons (o := _) ?hir21 (fun K hK => ?_) AllReadyH.nil
  case hir21 => (simp only [List.getElem?_toArray, List.getElem?_cons_zero, List.getElem?_cons_succ]; rfl)
  go_simp
  go_at_call 9
  refine (HCE.out _ hBr3).mono ?_
  rintro e Wr6 ⟨rfl, hBr5⟩
  refine hK.out _ _ hBr5 (fun _ => ?_)
  clear hK K
  try simp only [Act.put, List.setIfInBounds_toArray, List.set_cons_zero, List.set_cons_succ]
  refine' wpAnyH_take (i := 26) (oi := _) (v := _) ?hir26 (by kernel_rfl) ?hfr26 ?hrr26 ?hQr26 ?hyr26 hBr5 ?restr26
  case hir26 => (simp only [List.getElem?_toArray, List.getElem?_cons_zero, List.getElem?_cons_succ]; rfl)
  case hfr26 => kernel_rfl
  case hrr26 => kernel_rfl
  case hQr26 => exact fun _ _ _ h => h
  case hyr26 => refine Or.inl ⟨by rfl, ?_⟩; intro W hSw; go_simp; try with_reducible rfl
  try simp only [Act.put, List.setIfInBounds_toArray, List.set_cons_zero, List.set_cons_succ]
  refine' wpAnyH_take (i := 27) (oi := _) (v := _) ?hir27 (by kernel_rfl) ?hfr27 ?hrr27 ?hQr27 ?hyr27 hBr5 ?restr27
  case hir27 => (simp only [List.getElem?_toArray, List.getElem?_cons_zero, List.getElem?_cons_succ]; rfl)
  case hfr27 => kernel_rfl
  case hrr27 => kernel_rfl
  case hQr27 => exact fun _ _ _ h => h
  case hyr27 => refine Or.inl ⟨by rfl, ?_⟩; intro W hSw; go_simp; try with_reducible rfl
  try simp only [Act.put, List.setIfInBounds_toArray, List.set_cons_zero, List.set_cons_succ]
  refine' wpAnyH_take (i := 28) (oi := _) (v := sv (leaf)) ?hir28 (by kernel_rfl) ?hfr28 ?hrr28 ?hQr28 ?hyr28 hBr5 ?restr28
  case hir28 => (simp only [List.getElem?_toArray, List.getElem?_cons_zero, List.getElem?_cons_succ]; rfl)
  case hfr28 => kernel_rfl
  case hrr28 => kernel_rfl
  case hQr28 => exact fun _ _ _ h => h
  case hyr28 => refine yields_sum ?_ (.tmp 41) rfl ⟨b, 0, none⟩ rfl leaf hl (fun W hSw => (KS.out W hSw).leaf); rfl
  try simp only [Act.put, List.setIfInBounds_toArray, List.set_cons_zero, List.set_cons_succ]
  refine' wpAnyH_take (i := 29) (oi := _) (v := _) ?hir29 (by kernel_rfl) ?hfr29 ?hrr29 ?hQr29 ?hyr29 hBr5 ?restr29
  case hir29 => (simp only [List.getElem?_toArray, List.getElem?_cons_zero, List.getElem?_cons_succ]; rfl)
  case hfr29 => kernel_rfl
  case hrr29 => kernel_rfl
  case hQr29 => exact fun _ _ _ h => h
  case hyr29 => refine Or.inl ⟨by rfl, ?_⟩; intro W hSw; go_simp; try with_reducible rfl
  try simp only [Act.put, List.setIfInBounds_toArray, List.set_cons_zero, List.set_cons_succ]
  refine' wpAnyH_take (i := 30) (oi := _) (v := sv (root)) ?hir30 (by kernel_rfl) ?hfr30 ?hrr30 ?hQr30 ?hyr30 hBr5 ?restr30
  case hir30 => (simp only [List.getElem?_toArray, List.getElem?_cons_zero, List.getElem?_cons_succ]; rfl)
  case hfr30 => kernel_rfl
  case hrr30 => kernel_rfl
  case hQr30 => exact fun _ _ _ h => h
  case hyr30 => refine yields_sum ?_ (.tmp 43) rfl ⟨b, 35, none⟩ rfl root hr (fun W hSw => (KS.out W hSw).root); rfl
  try simp only [Act.put, List.setIfInBounds_toArray, List.set_cons_zero, List.set_cons_succ]
  refine' wpAnyH_take (i := 31) (oi := _) (v := _) ?hir31 (by kernel_rfl) ?hfr31 ?hrr31 ?hQr31 ?hyr31 hBr5 ?restr31
  case hir31 => (simp only [List.getElem?_toArray, List.getElem?_cons_zero, List.getElem?_cons_succ]; rfl)
  case hfr31 => kernel_rfl
  case hrr31 => kernel_rfl
  case hQr31 => exact fun _ _ _ h => h
  case hyr31 => refine Or.inl ⟨by rfl, ?_⟩; intro W hSw; go_simp; try with_reducible rfl
  try simp only [Act.put, List.setIfInBounds_toArray, List.set_cons_zero, List.set_cons_succ]
  refine' wpAnyH_take (i := 32) (oi := _) (v := _) ?hir32 (by kernel_rfl) ?hfr32 ?hrr32 ?hQr32 ?hyr32 hBr5 ?restr32
  case hir32 => (simp only [List.getElem?_toArray, List.getElem?_cons_zero, List.getElem?_cons_succ]; rfl)
  case hfr32 => kernel_rfl
  case hrr32 => kernel_rfl
  case hQr32 => exact fun _ _ _ h => h
  case hyr32 => refine Or.inl ⟨by rfl, ?_⟩; intro W hSw; go_simp; try with_reducible rfl
  try simp only [Act.put, List.setIfInBounds_toArray, List.set_cons_zero, List.set_cons_succ]
  refine' wpAnyH_take (i := 33) (oi := _) (v := _) ?hir33 (by kernel_rfl) ?hfr33 ?hrr33 ?hQr33 ?hyr33 hBr5 ?restr33
  case hir33 => (simp only [List.getElem?_toArray, List.getElem?_cons_zero, List.getElem?_cons_succ]; rfl)
  case hfr33 => kernel_rfl
  case hrr33 => kernel_rfl
  case hQr33 => exact fun _ _ _ h => h
  case hyr33 => refine Or.inl ⟨by rfl, ?_⟩; intro W hSw; go_simp; try with_reducible rfl
  try simp only [Act.put, List.setIfInBounds_toArray, List.set_cons_zero, List.set_cons_succ]
  refine' wpAnyH_take (i := 34) (oi := _) (v := _) ?hir34 (by kernel_rfl) ?hfr34 ?hrr34 ?hQr34 ?hyr34 hBr5 ?restr34
  case hir34 => (simp only [List.getElem?_toArray, List.getElem?_cons_zero, List.getElem?_cons_succ]; rfl)
  case hfr34 => kernel_rfl
  case hrr34 => kernel_rfl
  case hQr34 => exact fun _ _ _ h => h
  case hyr34 => refine Or.inl ⟨by rfl, ?_⟩; intro W hSw; go_simp; try with_reducible rfl
  try simp only [Act.put, List.setIfInBounds_toArray, List.set_cons_zero, List.set_cons_succ]
  refine' wpAnyH_take (i := 35) (oi := _) (v := _) ?hir35 (by kernel_rfl) ?hfr35 ?hrr35 ?hQr35 ?hyr35 hBr5 ?restr35
  case hir35 => (simp only [List.getElem?_toArray, List.getElem?_cons_zero, List.getElem?_cons_succ]; rfl)
  case hfr35 => kernel_rfl
  case hrr35 => kernel_rfl
  case hQr35 => exact fun _ _ _ h => h
  case hyr35 => refine Or.inl ⟨by rfl, ?_⟩; intro W hSw; go_simp; try with_reducible rfl
  try simp only [Act.put, List.setIfInBounds_toArray, List.set_cons_zero, List.set_cons_succ]
  refine wpAnyH_done (by kernel_rfl) ?_ _
  go_wp2
  go_ret
  exact ⟨rfl, BL.out _ hBr5⟩
  
set_option maxRecDepth 100000 in
set_option maxHeartbeats 4000000 in
theorem ends_f (hk : Knows w) (hs : Starts w) (hl : leaf.length = 32) (hb : ∀ x ∈ leaf, x < 256) (h1 : at_ < 18446744073709551616) (h2 : size < 18446744073709551616) (cm : CameS w A n c ys) (hr : root.length = 32) (hn : n ≤ 200) (hz : ((n : Int) == 0) = false) :
    Calls Tryd.prog 4 #[.agg (saidL leaf at_ size A n c root).toArray] w fun e w' => e = .returned (.bool true) ∧ Below w.heap.size w w' := by
  obtain ⟨w1, hw1⟩ : ∃ w1, w1 = w.alloc (.cells (saidL leaf at_ size A n c root).toArray 34) := ⟨_, rfl⟩
  have s1 : SaidAt w1 w.heap.size leaf at_ size A n c root := by rw [hw1]; exact said_new w hl
  have b1 : Below w.heap.size w w1 := by rw [hw1]; exact below_alloc _ _
  obtain ⟨S, hS⟩ : ∃ S, (saidL leaf at_ size A n c root).toArray = S := ⟨_, rfl⟩
  rw [hS] at hw1 ⊢
  clear hS
  obtain ⟨M, hmax, hM, hM2⟩ : ∃ M : Nat, max (at_ : Int) (size : Int) = (M : Int) ∧ size ≤ M ∧ M < 18446744073709551616 := ⟨max at_ size, by omega, by omega, by omega⟩
  have CA := Lib.hid (fun (W : World) (hW : Below w1.heap.size w1 W) => later (v' := .bool true) hW rfl (walive_any W (hk.below (below_on b1 (Nat.le_refl _) hW)) (hs.below (below_on b1 (Nat.le_refl _) hW))))
  have CF := Lib.hid (fun (W : World) (hW : Below w1.heap.size w1 W) => later hW rfl (check_far (w := W) (n := n) (c := c) (A := A) (leaf := leaf) (root := root) hM))
  have CE : ∀ W : World, Below w1.heap.size w1 W → Calls Tryd.prog 9 #[sv leaf, .int .u64 0, .int .u64 1, .slice A n c, sv root] W fun e w' => e = .returned (.bool false) ∧ Below w1.heap.size w1 w' := fun W hW => by
    refine later hW ?_ (check_any (at_ := 0) (size := 1) (cm.in_.below (below_on b1 (Nat.le_refl _) hW)) cm.lt cm.cap (by omega) hl hb hr (by omega) (hk.below (below_on b1 (Nat.le_refl _) hW)) (hs.below (below_on b1 (Nat.le_refl _) hW)))
    unfold inTree
    rw [dep_one (by omega), leadF_one _ _ (by omega)]
    have : ¬ 0 = n := by intro e; rw [← e] at hz; simp at hz
    simp [this]
  have HCE := Lib.hid CE
  have KS := Lib.hid (fun (W : World) (hW : Below w1.heap.size w1 W) => s1.below hW)
  obtain ⟨b, hb0⟩ : ∃ b, w.heap.size = b := ⟨_, rfl⟩
  rw [hb0] at s1 b1 KS
  have c2 := s1.at_
  have c3 := s1.size
  have c4 := s1.path
  have HW := Lib.hid hw1
  have HB1 := Lib.hid (And.intro b1 hb0)
  have BL := Lib.hid (fun (W : World) (hW : Below w1.heap.size w1 W) => show Below b w W from below_on b1 (by rw [← hb0]; exact Nat.le_refl _) hW)
  have hni : ¬ (200 : Int) < (n : Int) := by omega
  clear hw1 s1 b1 hM hM2 CE hn cm h1 h2 hk hs hb
  go_enter Tryd.func4, Tryd.ntmps4
  go_upto_region 1 with fail
  rw [← HW.out]
  go_upto_region 4 with fail
  refine wp_region_held_drew (S := fun W => Below w1.heap.size w1 W) (by kernel_rfl) ((Below.refl _ _).drew) (fun hT0 => ?_)
  change wpAnyH _ _ _ _ _ _ _ _ w1.drew
  refine wpAnyH_ready (rs := [0]) (by kernel_rfl) (by simp) ?_
  refine' AllReadyH.cons (o := _) ?hir0 (fun K hK => ?_) AllReadyH.nil
  case hir0 => (simp only [List.getElem?_toArray, List.getElem?_cons_zero]; rfl)
  go_simp
  go_at_call 6
  refine (CA.out _ hT0).mono ?_
  rintro e Wr2 ⟨rfl, hBr1⟩
  refine hK.out _ _ hBr1 (fun _ => ?_)
  clear hK K
  try simp only [Act.put, List.setIfInBounds_toArray, List.set_cons_zero, List.set_cons_succ]
  refine' wpAnyH_take (i := 1) (oi := _) (v := _) ?hir1 (by kernel_rfl) ?hfr1 ?hrr1 ?hQr1 ?hyr1 hBr1 ?restr1
  case hir1 => (simp only [List.getElem?_toArray, List.getElem?_cons_zero, List.getElem?_cons_succ]; rfl)
  case hfr1 => kernel_rfl
  case hrr1 => kernel_rfl
  case hQr1 => exact fun _ _ _ h => h
  case hyr1 => refine Or.inl ⟨by rfl, ?_⟩; intro W hSw; go_simp; try with_reducible rfl
  try simp only [Act.put, List.setIfInBounds_toArray, List.set_cons_zero, List.set_cons_succ]
  refine' wpAnyH_take (i := 2) (oi := _) (v := _) ?hir2 (by kernel_rfl) ?hfr2 ?hrr2 ?hQr2 ?hyr2 hBr1 ?restr2
  case hir2 => (simp only [List.getElem?_toArray, List.getElem?_cons_zero, List.getElem?_cons_succ]; rfl)
  case hfr2 => kernel_rfl
  case hrr2 => kernel_rfl
  case hQr2 => exact fun _ _ _ h => h
  case hyr2 => refine Or.inl ⟨by rfl, ?_⟩; intro W hSw; go_simp; try with_reducible rfl
  try simp only [Act.put, List.setIfInBounds_toArray, List.set_cons_zero, List.set_cons_succ]
  refine' wpAnyH_take (i := 3) (oi := _) (v := sv (leaf)) ?hir3 (by kernel_rfl) ?hfr3 ?hrr3 ?hQr3 ?hyr3 hBr1 ?restr3
  case hir3 => (simp only [List.getElem?_toArray, List.getElem?_cons_zero, List.getElem?_cons_succ]; rfl)
  case hfr3 => kernel_rfl
  case hrr3 => kernel_rfl
  case hQr3 => exact fun _ _ _ h => h
  case hyr3 => refine yields_sum ?_ (.tmp 16) rfl ⟨b, 0, none⟩ rfl leaf hl (fun W hSw => (KS.out W hSw).leaf); rfl
  try simp only [Act.put, List.setIfInBounds_toArray, List.set_cons_zero, List.set_cons_succ]
  refine' wpAnyH_take (i := 4) (oi := _) (v := _) ?hir4 (by kernel_rfl) ?hfr4 ?hrr4 ?hQr4 ?hyr4 hBr1 ?restr4
  case hir4 => (simp only [List.getElem?_toArray, List.getElem?_cons_zero, List.getElem?_cons_succ]; rfl)
  case hfr4 => kernel_rfl
  case hrr4 => kernel_rfl
  case hQr4 => exact fun _ _ _ h => h
  case hyr4 => refine Or.inl ⟨by rfl, ?_⟩; intro W hSw; go_simp; try with_reducible rfl
  try simp only [Act.put, List.setIfInBounds_toArray, List.set_cons_zero, List.set_cons_succ]
  refine' wpAnyH_take (i := 5) (oi := _) (v := _) ?hir5 (by kernel_rfl) ?hfr5 ?hrr5 ?hQr5 ?hyr5 hBr1 ?restr5
  case hir5 => (simp only [List.getElem?_toArray, List.getElem?_cons_zero, List.getElem?_cons_succ]; rfl)
  case hfr5 => kernel_rfl
  case hrr5 => kernel_rfl
  case hQr5 => exact fun _ _ _ h => h
  case hyr5 => refine Or.inl ⟨by rfl, ?_⟩; intro W hSw; go_simp; try with_reducible rfl
  try simp only [Act.put, List.setIfInBounds_toArray, List.set_cons_zero, List.set_cons_succ]
  refine' wpAnyH_take (i := 6) (oi := _) (v := _) ?hir6 (by kernel_rfl) ?hfr6 ?hrr6 ?hQr6 ?hyr6 hBr1 ?restr6
  case hir6 => (simp only [List.getElem?_toArray, List.getElem?_cons_zero, List.getElem?_cons_succ]; rfl)
  case hfr6 => kernel_rfl
  case hrr6 => kernel_rfl
  case hQr6 => exact fun _ _ _ h => h
  case hyr6 => refine Or.inl ⟨by rfl, ?_⟩; intro W hSw; have hcc := (KS.out W hSw).size; go_simp; try with_reducible rfl
  try simp only [Act.put, List.setIfInBounds_toArray, List.set_cons_zero, List.set_cons_succ]
  refine' wpAnyH_take (i := 7) (oi := _) (v := _) ?hir7 (by kernel_rfl) ?hfr7 ?hrr7 ?hQr7 ?hyr7 hBr1 ?restr7
  case hir7 => (simp only [List.getElem?_toArray, List.getElem?_cons_zero, List.getElem?_cons_succ]; rfl)
  case hfr7 => kernel_rfl
  case hrr7 => kernel_rfl
  case hQr7 => exact fun _ _ _ h => h
  case hyr7 => refine Or.inl ⟨by rfl, ?_⟩; intro W hSw; go_simp; try with_reducible rfl
  try simp only [Act.put, List.setIfInBounds_toArray, List.set_cons_zero, List.set_cons_succ]
  refine' wpAnyH_take (i := 8) (oi := _) (v := _) ?hir8 (by kernel_rfl) ?hfr8 ?hrr8 ?hQr8 ?hyr8 hBr1 ?restr8
  case hir8 => (simp only [List.getElem?_toArray, List.getElem?_cons_zero, List.getElem?_cons_succ]; rfl)
  case hfr8 => kernel_rfl
  case hrr8 => kernel_rfl
  case hQr8 => exact fun _ _ _ h => h
  case hyr8 => refine Or.inl ⟨by rfl, ?_⟩; intro W hSw; have hcc := (KS.out W hSw).path; go_simp; try with_reducible rfl
  try simp only [Act.put, List.setIfInBounds_toArray, List.set_cons_zero, List.set_cons_succ]
  refine' wpAnyH_take (i := 9) (oi := _) (v := _) ?hir9 (by kernel_rfl) ?hfr9 ?hrr9 ?hQr9 ?hyr9 hBr1 ?restr9
  case hir9 => (simp only [List.getElem?_toArray, List.getElem?_cons_zero, List.getElem?_cons_succ]; rfl)
  case hfr9 => kernel_rfl
  case hrr9 => kernel_rfl
  case hQr9 => exact fun _ _ _ h => h
  case hyr9 => refine Or.inl ⟨by rfl, ?_⟩; intro W hSw; go_simp; try with_reducible rfl
  try simp only [Act.put, List.setIfInBounds_toArray, List.set_cons_zero, List.set_cons_succ]
  refine' wpAnyH_take (i := 10) (oi := _) (v := sv (root)) ?hir10 (by kernel_rfl) ?hfr10 ?hrr10 ?hQr10 ?hyr10 hBr1 ?restr10
  case hir10 => (simp only [List.getElem?_toArray, List.getElem?_cons_zero, List.getElem?_cons_succ]; rfl)
  case hfr10 => kernel_rfl
  case hrr10 => kernel_rfl
  case hQr10 => exact fun _ _ _ h => h
  case hyr10 => refine yields_sum ?_ (.tmp 23) rfl ⟨b, 35, none⟩ rfl root hr (fun W hSw => (KS.out W hSw).root); rfl
  try simp only [Act.put, List.setIfInBounds_toArray, List.set_cons_zero, List.set_cons_succ]
  refine wpAnyH_ready (rs := [11]) (by kernel_rfl) (by simp) ?_
  refine' AllReadyH.cons (o := _) ?hir11 (fun K hK => ?_) AllReadyH.nil
  case hir11 => (simp only [List.getElem?_toArray, List.getElem?_cons_zero, List.getElem?_cons_succ]; rfl)
  go_simp
  go_at_call 9
  refine (CF.out _ hBr1).mono ?_
  rintro e Wr4 ⟨rfl, hBr3⟩
  refine hK.out _ _ hBr3 (fun _ => ?_)
  clear hK K
  try simp only [Act.put, List.setIfInBounds_toArray, List.set_cons_zero, List.set_cons_succ]
  refine' wpAnyH_take (i := 12) (oi := _) (v := _) ?hir12 (by kernel_rfl) ?hfr12 ?hrr12 ?hQr12 ?hyr12 hBr3 ?restr12
  case hir12 => (simp only [List.getElem?_toArray, List.getElem?_cons_zero, List.getElem?_cons_succ]; rfl)
  case hfr12 => kernel_rfl
  case hrr12 => kernel_rfl
  case hQr12 => exact fun _ _ _ h => h
  case hyr12 => refine Or.inl ⟨by rfl, ?_⟩; intro W hSw; go_simp; try with_reducible rfl
  try simp only [Act.put, List.setIfInBounds_toArray, List.set_cons_zero, List.set_cons_succ]
  refine' wpAnyH_take (i := 13) (oi := _) (v := _) ?hir13 (by kernel_rfl) ?hfr13 ?hrr13 ?hQr13 ?hyr13 hBr3 ?restr13
  case hir13 => (simp only [List.getElem?_toArray, List.getElem?_cons_zero, List.getElem?_cons_succ]; rfl)
  case hfr13 => kernel_rfl
  case hrr13 => kernel_rfl
  case hQr13 => exact fun _ _ _ h => h
  case hyr13 => refine Or.inl ⟨by rfl, ?_⟩; intro W hSw; go_simp; try with_reducible rfl
  try simp only [Act.put, List.setIfInBounds_toArray, List.set_cons_zero, List.set_cons_succ]
  refine' wpAnyH_take (i := 14) (oi := _) (v := _) ?hir14 (by kernel_rfl) ?hfr14 ?hrr14 ?hQr14 ?hyr14 hBr3 ?restr14
  case hir14 => (simp only [List.getElem?_toArray, List.getElem?_cons_zero, List.getElem?_cons_succ]; rfl)
  case hfr14 => kernel_rfl
  case hrr14 => kernel_rfl
  case hQr14 => exact fun _ _ _ h => h
  case hyr14 => refine Or.inl ⟨by rfl, ?_⟩; intro W hSw; go_simp; try with_reducible rfl
  try simp only [Act.put, List.setIfInBounds_toArray, List.set_cons_zero, List.set_cons_succ]
  refine' wpAnyH_take (i := 15) (oi := _) (v := _) ?hir15 (by kernel_rfl) ?hfr15 ?hrr15 ?hQr15 ?hyr15 hBr3 ?restr15
  case hir15 => (simp only [List.getElem?_toArray, List.getElem?_cons_zero, List.getElem?_cons_succ]; rfl)
  case hfr15 => kernel_rfl
  case hrr15 => kernel_rfl
  case hQr15 => exact fun _ _ _ h => h
  case hyr15 => refine Or.inl ⟨by rfl, ?_⟩; intro W hSw; go_simp; try with_reducible rfl
  try simp only [Act.put, List.setIfInBounds_toArray, List.set_cons_zero, List.set_cons_succ]
  refine' wpAnyH_take (i := 16) (oi := _) (v := sv (leaf)) ?hir16 (by kernel_rfl) ?hfr16 ?hrr16 ?hQr16 ?hyr16 hBr3 ?restr16
  case hir16 => (simp only [List.getElem?_toArray, List.getElem?_cons_zero, List.getElem?_cons_succ]; rfl)
  case hfr16 => kernel_rfl
  case hrr16 => kernel_rfl
  case hQr16 => exact fun _ _ _ h => h
  case hyr16 => refine yields_sum ?_ (.tmp 29) rfl ⟨b, 0, none⟩ rfl leaf hl (fun W hSw => (KS.out W hSw).leaf); rfl
  try simp only [Act.put, List.setIfInBounds_toArray, List.set_cons_zero, List.set_cons_succ]
  refine' wpAnyH_take (i := 17) (oi := _) (v := _) ?hir17 (by kernel_rfl) ?hfr17 ?hrr17 ?hQr17 ?hyr17 hBr3 ?restr17
  case hir17 => (simp only [List.getElem?_toArray, List.getElem?_cons_zero, List.getElem?_cons_succ]; rfl)
  case hfr17 => kernel_rfl
  case hrr17 => kernel_rfl
  case hQr17 => exact fun _ _ _ h => h
  case hyr17 => refine Or.inl ⟨by rfl, ?_⟩; intro W hSw; go_simp; try with_reducible rfl
  try simp only [Act.put, List.setIfInBounds_toArray, List.set_cons_zero, List.set_cons_succ]
  refine' wpAnyH_take (i := 18) (oi := _) (v := _) ?hir18 (by kernel_rfl) ?hfr18 ?hrr18 ?hQr18 ?hyr18 hBr3 ?restr18
  case hir18 => (simp only [List.getElem?_toArray, List.getElem?_cons_zero, List.getElem?_cons_succ]; rfl)
  case hfr18 => kernel_rfl
  case hrr18 => kernel_rfl
  case hQr18 => exact fun _ _ _ h => h
  case hyr18 => refine Or.inl ⟨by rfl, ?_⟩; intro W hSw; have hcc := (KS.out W hSw).path; go_simp; try with_reducible rfl
  try simp only [Act.put, List.setIfInBounds_toArray, List.set_cons_zero, List.set_cons_succ]
  refine' wpAnyH_take (i := 19) (oi := _) (v := _) ?hir19 (by kernel_rfl) ?hfr19 ?hrr19 ?hQr19 ?hyr19 hBr3 ?restr19
  case hir19 => (simp only [List.getElem?_toArray, List.getElem?_cons_zero, List.getElem?_cons_succ]; rfl)
  case hfr19 => kernel_rfl
  case hrr19 => kernel_rfl
  case hQr19 => exact fun _ _ _ h => h
  case hyr19 => refine Or.inl ⟨by rfl, ?_⟩; intro W hSw; go_simp; try with_reducible rfl
  try simp only [Act.put, List.setIfInBounds_toArray, List.set_cons_zero, List.set_cons_succ]
  refine' wpAnyH_take (i := 20) (oi := _) (v := sv (root)) ?hir20 (by kernel_rfl) ?hfr20 ?hrr20 ?hQr20 ?hyr20 hBr3 ?restr20
  case hir20 => (simp only [List.getElem?_toArray, List.getElem?_cons_zero, List.getElem?_cons_succ]; rfl)
  case hfr20 => kernel_rfl
  case hrr20 => kernel_rfl
  case hQr20 => exact fun _ _ _ h => h
  case hyr20 => refine yields_sum ?_ (.tmp 33) rfl ⟨b, 35, none⟩ rfl root hr (fun W hSw => (KS.out W hSw).root); rfl
  try simp only [Act.put, List.setIfInBounds_toArray, List.set_cons_zero, List.set_cons_succ]
  refine' wpAnyH_take (i := 22) (oi := _) (v := _) ?hir22 (by kernel_rfl) ?hfr22 ?hrr22 ?hQr22 ?hyr22 hBr3 ?restr22
  case hir22 => (simp only [List.getElem?_toArray, List.getElem?_cons_zero, List.getElem?_cons_succ]; rfl)
  case hfr22 => kernel_rfl
  case hrr22 => kernel_rfl
  case hQr22 => exact fun _ _ _ h => h
  case hyr22 => refine Or.inl ⟨by rfl, ?_⟩; intro W hSw; go_simp; try with_reducible rfl
  try simp only [Act.put, List.setIfInBounds_toArray, List.set_cons_zero, List.set_cons_succ]
  refine' wpAnyH_take (i := 23) (oi := _) (v := _) ?hir23 (by kernel_rfl) ?hfr23 ?hrr23 ?hQr23 ?hyr23 hBr3 ?restr23
  case hir23 => (simp only [List.getElem?_toArray, List.getElem?_cons_zero, List.getElem?_cons_succ]; rfl)
  case hfr23 => kernel_rfl
  case hrr23 => kernel_rfl
  case hQr23 => exact fun _ _ _ h => h
  case hyr23 => refine Or.inl ⟨by rfl, ?_⟩; intro W hSw; have hcc := (KS.out W hSw).path; go_simp; try with_reducible rfl
  try simp only [Act.put, List.setIfInBounds_toArray, List.set_cons_zero, List.set_cons_succ]
  refine' wpAnyH_take (i := 24) (oi := _) (v := _) ?hir24 (by kernel_rfl) ?hfr24 ?hrr24 ?hQr24 ?hyr24 hBr3 ?restr24
  case hir24 => (simp only [List.getElem?_toArray, List.getElem?_cons_zero, List.getElem?_cons_succ]; rfl)
  case hfr24 => kernel_rfl
  case hrr24 => kernel_rfl
  case hQr24 => exact fun _ _ _ h => h
  case hyr24 => refine Or.inl ⟨by rfl, ?_⟩; intro W hSw; go_simp; try with_reducible rfl
  try simp only [Act.put, List.setIfInBounds_toArray, List.set_cons_zero, List.set_cons_succ]
  refine' wpAnyH_take (i := 25) (oi := _) (v := _) ?hir25 (by kernel_rfl) ?hfr25 ?hrr25 ?hQr25 ?hyr25 hBr3 ?restr25
  case hir25 => (simp only [List.getElem?_toArray, List.getElem?_cons_zero, List.getElem?_cons_succ]; rfl)
  case hfr25 => kernel_rfl
  case hrr25 => kernel_rfl
  case hQr25 => exact fun _ _ _ h => h
  case hyr25 => refine Or.inl ⟨by rfl, ?_⟩; intro W hSw; go_simp; try with_reducible rfl
  try simp only [Act.put, List.setIfInBounds_toArray, List.set_cons_zero, List.set_cons_succ]
  refine wpAnyH_ready (rs := [21]) (by kernel_rfl) (by simp) ?_
  refine' AllReadyH.cons (o := _) ?hir21 (fun K hK => ?_) AllReadyH.nil
  case hir21 => (simp only [List.getElem?_toArray, List.getElem?_cons_zero, List.getElem?_cons_succ]; rfl)
  go_simp
  go_at_call 9
  refine (HCE.out _ hBr3).mono ?_
  rintro e Wr6 ⟨rfl, hBr5⟩
  refine hK.out _ _ hBr5 (fun _ => ?_)
  clear hK K
  try simp only [Act.put, List.setIfInBounds_toArray, List.set_cons_zero, List.set_cons_succ]
  refine' wpAnyH_take (i := 26) (oi := _) (v := _) ?hir26 (by kernel_rfl) ?hfr26 ?hrr26 ?hQr26 ?hyr26 hBr5 ?restr26
  case hir26 => (simp only [List.getElem?_toArray, List.getElem?_cons_zero, List.getElem?_cons_succ]; rfl)
  case hfr26 => kernel_rfl
  case hrr26 => kernel_rfl
  case hQr26 => exact fun _ _ _ h => h
  case hyr26 => refine Or.inl ⟨by rfl, ?_⟩; intro W hSw; go_simp; try with_reducible rfl
  try simp only [Act.put, List.setIfInBounds_toArray, List.set_cons_zero, List.set_cons_succ]
  refine' wpAnyH_take (i := 27) (oi := _) (v := undef) ?hir27 (by kernel_rfl) ?hfr27 ?hrr27 ?hQr27 ?hyr27 hBr5 ?restr27
  case hir27 => (simp only [List.getElem?_toArray, List.getElem?_cons_zero, List.getElem?_cons_succ]; rfl)
  case hfr27 => kernel_rfl
  case hrr27 => kernel_rfl
  case hQr27 => exact fun _ _ _ h => h
  case hyr27 => exact Or.inr ⟨by rfl, rfl⟩
  try simp only [Act.put, List.setIfInBounds_toArray, List.set_cons_zero, List.set_cons_succ]
  refine' wpAnyH_take (i := 28) (oi := _) (v := undef) ?hir28 (by kernel_rfl) ?hfr28 ?hrr28 ?hQr28 ?hyr28 hBr5 ?restr28
  case hir28 => (simp only [List.getElem?_toArray, List.getElem?_cons_zero, List.getElem?_cons_succ]; rfl)
  case hfr28 => kernel_rfl
  case hrr28 => kernel_rfl
  case hQr28 => exact fun _ _ _ h => h
  case hyr28 => exact Or.inr ⟨by rfl, rfl⟩
  try simp only [Act.put, List.setIfInBounds_toArray, List.set_cons_zero, List.set_cons_succ]
  refine' wpAnyH_take (i := 29) (oi := _) (v := undef) ?hir29 (by kernel_rfl) ?hfr29 ?hrr29 ?hQr29 ?hyr29 hBr5 ?restr29
  case hir29 => (simp only [List.getElem?_toArray, List.getElem?_cons_zero, List.getElem?_cons_succ]; rfl)
  case hfr29 => kernel_rfl
  case hrr29 => kernel_rfl
  case hQr29 => exact fun _ _ _ h => h
  case hyr29 => exact Or.inr ⟨by rfl, rfl⟩
  try simp only [Act.put, List.setIfInBounds_toArray, List.set_cons_zero, List.set_cons_succ]
  refine' wpAnyH_take (i := 30) (oi := _) (v := undef) ?hir30 (by kernel_rfl) ?hfr30 ?hrr30 ?hQr30 ?hyr30 hBr5 ?restr30
  case hir30 => (simp only [List.getElem?_toArray, List.getElem?_cons_zero, List.getElem?_cons_succ]; rfl)
  case hfr30 => kernel_rfl
  case hrr30 => kernel_rfl
  case hQr30 => exact fun _ _ _ h => h
  case hyr30 => exact Or.inr ⟨by rfl, rfl⟩
  try simp only [Act.put, List.setIfInBounds_toArray, List.set_cons_zero, List.set_cons_succ]
  refine' wpAnyH_take (i := 31) (oi := _) (v := undef) ?hir31 (by kernel_rfl) ?hfr31 ?hrr31 ?hQr31 ?hyr31 hBr5 ?restr31
  case hir31 => (simp only [List.getElem?_toArray, List.getElem?_cons_zero, List.getElem?_cons_succ]; rfl)
  case hfr31 => kernel_rfl
  case hrr31 => kernel_rfl
  case hQr31 => exact fun _ _ _ h => h
  case hyr31 => exact Or.inr ⟨by rfl, rfl⟩
  try simp only [Act.put, List.setIfInBounds_toArray, List.set_cons_zero, List.set_cons_succ]
  refine' wpAnyH_take (i := 32) (oi := _) (v := _) ?hir32 (by kernel_rfl) ?hfr32 ?hrr32 ?hQr32 ?hyr32 hBr5 ?restr32
  case hir32 => (simp only [List.getElem?_toArray, List.getElem?_cons_zero, List.getElem?_cons_succ]; rfl)
  case hfr32 => kernel_rfl
  case hrr32 => kernel_rfl
  case hQr32 => exact fun _ _ _ h => h
  case hyr32 => refine Or.inl ⟨by rfl, ?_⟩; intro W hSw; go_simp; try with_reducible rfl
  try simp only [Act.put, List.setIfInBounds_toArray, List.set_cons_zero, List.set_cons_succ]
  refine' wpAnyH_take (i := 33) (oi := _) (v := _) ?hir33 (by kernel_rfl) ?hfr33 ?hrr33 ?hQr33 ?hyr33 hBr5 ?restr33
  case hir33 => (simp only [List.getElem?_toArray, List.getElem?_cons_zero, List.getElem?_cons_succ]; rfl)
  case hfr33 => kernel_rfl
  case hrr33 => kernel_rfl
  case hQr33 => exact fun _ _ _ h => h
  case hyr33 => refine Or.inl ⟨by rfl, ?_⟩; intro W hSw; go_simp; try with_reducible rfl
  try simp only [Act.put, List.setIfInBounds_toArray, List.set_cons_zero, List.set_cons_succ]
  refine' wpAnyH_take (i := 34) (oi := _) (v := _) ?hir34 (by kernel_rfl) ?hfr34 ?hrr34 ?hQr34 ?hyr34 hBr5 ?restr34
  case hir34 => (simp only [List.getElem?_toArray, List.getElem?_cons_zero, List.getElem?_cons_succ]; rfl)
  case hfr34 => kernel_rfl
  case hrr34 => kernel_rfl
  case hQr34 => exact fun _ _ _ h => h
  case hyr34 => refine Or.inl ⟨by rfl, ?_⟩; intro W hSw; go_simp; try with_reducible rfl
  try simp only [Act.put, List.setIfInBounds_toArray, List.set_cons_zero, List.set_cons_succ]
  refine' wpAnyH_take (i := 35) (oi := _) (v := _) ?hir35 (by kernel_rfl) ?hfr35 ?hrr35 ?hQr35 ?hyr35 hBr5 ?restr35
  case hir35 => (simp only [List.getElem?_toArray, List.getElem?_cons_zero, List.getElem?_cons_succ]; rfl)
  case hfr35 => kernel_rfl
  case hrr35 => kernel_rfl
  case hQr35 => exact fun _ _ _ h => h
  case hyr35 => refine Or.inl ⟨by rfl, ?_⟩; intro W hSw; go_simp; try with_reducible rfl
  try simp only [Act.put, List.setIfInBounds_toArray, List.set_cons_zero, List.set_cons_succ]
  refine wpAnyH_done (by kernel_rfl) ?_ _
  go_wp2
  go_ret
  exact ⟨rfl, BL.out _ hBr5⟩
  
set_option maxRecDepth 100000 in
set_option maxHeartbeats 4000000 in
theorem ends_long (hk : Knows w) (hs : Starts w) (hl : leaf.length = 32) (hn : 200 < n) :
    Calls Tryd.prog 4 #[.agg (saidL leaf at_ size A n c root).toArray] w fun e w' => e = .returned (.bool true) ∧ Below w.heap.size w w' := by
  obtain ⟨w1, hw1⟩ : ∃ w1, w1 = w.alloc (.cells (saidL leaf at_ size A n c root).toArray 34) := ⟨_, rfl⟩
  have s1 : SaidAt w1 w.heap.size leaf at_ size A n c root := by rw [hw1]; exact said_new w hl
  have b1 : Below w.heap.size w w1 := by rw [hw1]; exact below_alloc _ _
  obtain ⟨S, hS⟩ : ∃ S, (saidL leaf at_ size A n c root).toArray = S := ⟨_, rfl⟩
  rw [hS] at hw1 ⊢
  clear hS
  have CA := Lib.hid (walive_any w1 (hk.below b1) (hs.below b1))
  have HBO := Lib.hid b1
  obtain ⟨b, hb0⟩ : ∃ b, w.heap.size = b := ⟨_, rfl⟩
  rw [hb0] at s1 b1
  have c4 := s1.path
  have HW := Lib.hid hw1
  have HB1 := Lib.hid (And.intro b1 hb0)
  have hni : (200 : Int) < (n : Int) := by omega
  clear hw1 s1 b1 hk hs hn hl
  go_enter Tryd.func4, Tryd.ntmps4
  go_upto_region 1 with fail
  rw [← HW.out]
  go_wp2_with fail
  refine CA.out.mono ?_
  rintro e w2 ⟨rfl, hb2⟩
  go_wp2_with fail
  go_ret
  exact ⟨rfl, below_on HBO.out (Nat.le_refl _) hb2⟩

theorem pathsEnds_law (w : World) (hk : Knows w) (hs : Starts w) {leaf root ys : List Nat} {at_ size n c : Nat} {A : Option Addr} (hl : leaf.length = 32) (hb : ∀ x ∈ leaf, x < 256) (h1 : at_ < 18446744073709551616) (h2 : size < 18446744073709551616) (cm : CameS w A n c ys) (hr : root.length = 32) (_ : ∀ x ∈ root, x < 256) :
    Calls Tryd.prog 4 #[.agg (saidL leaf at_ size A n c root).toArray] w fun e w' => e = .returned (.bool true) ∧ Below w.heap.size w w' := by
  by_cases hn : 200 < n
  · exact ends_long hk hs hl hn
  · cases hz : ((n : Int) == 0) with
    | false => exact ends_f hk hs hl hb h1 h2 cm hr (by omega) hz
    | true =>
      cases hq : decide (leaf = root) with
      | true => exact ends_tt hk hs hl hb h1 h2 cm hr (by omega) hz hq
      | false => exact ends_tf hk hs hl hb h1 h2 cm hr (by omega) hz hq
end
end Go.Proofs.YtppfdpnplemfkaaDoor
