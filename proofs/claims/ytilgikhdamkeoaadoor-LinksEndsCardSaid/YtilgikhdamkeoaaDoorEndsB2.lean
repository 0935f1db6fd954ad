/-
  Several texts in one: KEndsLaw, KLaid.
-/
import Derived.Test.YtilgikhdamkeoaaDoorEndsB1
import Derived.Test.YtilgikhdamkeoaaDoorKMiss
import Derived.Test.YtilgikhdamkeoaaDoorShaLaid
import Derived.LaidSub
import Derived.Stop.LaidErr
import Derived.Stop.LaidTwo
/-
  almonerlaw11.LinksEnds.
-/
namespace Go.Proofs.YtilgikhdamkeoaaDoor
open Go.RowKit

section
variable {w : World} {a b ys : List Nat} {from_ size n c : Nat} {A : Option Addr} {E : Addr}

theorem begins_self (hz : ¬ size = 0) (ys a b : List Nat) (n : Nat) : begins ys a b n size size = (decide (n = 0) && decide (a = b)) := by
  unfold begins
  rw [ldep_all (.inr rfl), linkF_all _ _ (.inr rfl), decide_eq_true (show 1 ≤ size ∧ size ≤ size from ⟨by omega, Nat.le_refl _⟩)]
  by_cases h : n = 0
  · subst h; simp
  · have : ¬ 0 = n := by omega
    simp [h, this]

set_option maxRecDepth 100000 in
set_option maxHeartbeats 4000000 in
theorem klends_lz (hk : Knows w) (hs : Starts w) (hm : Miss w E) (_ : from_ < 18446744073709551616) (_ : size < 18446744073709551616) (hl : a.length = 32) (_ : ∀ x ∈ a, x < 256) (hbl : b.length = 32) (_ : CameS w A n c ys) (hn : n ≤ 200) (hgt : ¬ (size : Int) < (from_ : Int)) (hz : size = 0) :
    Calls Tryd.prog 5 #[.agg (saidK from_ size a b A n c).toArray] w fun e w' => e = .returned (.bool true) ∧ Below w.heap.size w w' := by
  obtain ⟨w1, hw1⟩ : ∃ w1, w1 = w.alloc (.cells (saidK from_ size a b A n c).toArray 36) := ⟨_, rfl⟩
  have s1 : SaidKAt w1 w.heap.size from_ size a b A n c := by rw [hw1]; exact saidK_new w hl hbl
  have b1 : Below w.heap.size w w1 := by rw [hw1]; exact below_alloc _ _
  obtain ⟨S, hS⟩ : ∃ S, (saidK from_ size a b A n c).toArray = S := ⟨_, rfl⟩
  rw [hS] at hw1 ⊢
  clear hS
  have CA := Lib.hid (fun (W : World) (hW : Below w1.heap.size w1 W) => later (v' := .bool true) hW rfl (kalive_any W E (hk.below (below_on b1 (Nat.le_refl _) hW)) (hs.below (below_on b1 (Nat.le_refl _) hW)) (hm.below (below_on b1 (Nat.le_refl _) hW))))
  have C0 := Lib.hid (fun (W : World) (hW : Below w1.heap.size w1 W) => show Calls Tryd.prog 10 #[.int .u64 0, .int .u64 (size : Int), sv a, sv b, .slice A n c] W fun e w' => e = .returned (.bool false) ∧ Below w1.heap.size w1 w' from later hW rfl (kcheck_far (w := W) (n := n) (c := c) (A := A) (a := a) (b := b) (from_ := 0) (size := size) (by omega)))
  have z0 : ((size : Int) == 0) = true := by simp; omega
  have KS := Lib.hid (fun (W : World) (hW : Below w1.heap.size w1 W) => s1.below hW)
  obtain ⟨g, hg0⟩ : ∃ g, w.heap.size = g := ⟨_, rfl⟩
  rw [hg0] at s1 b1 KS
  have c4 := s1.link
  have c0 := s1.from_
  have c1 := s1.size
  have O0 := Lib.hid s1.old
  have N0 := Lib.hid s1.new
  have HW := Lib.hid hw1
  have BL := Lib.hid (fun (W : World) (hW : Below w1.heap.size w1 W) => show Below g w W from below_on b1 (by rw [← hg0]; exact Nat.le_refl _) hW)
  have HG := Lib.hid hg0
  have hni : ¬ (200 : Int) < (n : Int) := by omega
  clear hw1 s1 b1 hn hk hs hm hz hg0
  go_enter Tryd.func5, Tryd.ntmps5
  go_upto_region 1 with fail
  rw [← HW.out, HG.out]
  go_upto_region 5 with fail
  refine wp_region_held_drew (S := fun W => Below w1.heap.size w1 W) (by kernel_rfl) ((Below.refl _ _).drew) (fun hT0 => ?_)
  change wpAnyH _ _ _ _ _ _ _ _ w1.drew
  refine wpAnyH_ready (rs := [0]) (by kernel_rfl) (by simp) ?_
  refine' AllReadyH.cons (o := _) ?hir0 (fun K hK => ?_) AllReadyH.nil
  case hir0 => (simp only [List.getElem?_toArray, List.getElem?_cons_zero]; rfl)
  go_simp
  go_at_call 7
  refine (CA.out _ hT0).mono ?_
  rintro e Wr2 ⟨rfl, hBr1⟩
  refine hK.out _ _ hBr1 (fun _ => ?_)
  clear hK K
  try simp only [Act.put, List.setIfInBounds_toArray, List.set_cons_zero, List.set_cons_succ]
  refine' wpAnyH_take (i := 1) (oi := _) (v := _) ?hir1 (by kernel_rfl) ?hfr1 ?hrr1 ?hQr1 ?hyr1 hBr1 ?restr1
  case hir1 => (simp only [List.getElem?_toArray, List.getElem?_cons_zero, List.getElem?_cons_succ]; rfl)
  case hfr1 => kernel_rfl
  case hrr1 => kernel_rfl
  case hQr1 => exact fun _ _ _ h => h
  case hyr1 => refine Or.inl ⟨by rfl, ?_⟩; intro W hSw; go_simp; try with_reducible rfl
  try simp only [Act.put, List.setIfInBounds_toArray, List.set_cons_zero, List.set_cons_succ]
  refine' wpAnyH_take (i := 2) (oi := _) (v := _) ?hir2 (by kernel_rfl) ?hfr2 ?hrr2 ?hQr2 ?hyr2 hBr1 ?restr2
  case hir2 => (simp only [List.getElem?_toArray, List.getElem?_cons_zero, List.getElem?_cons_succ]; rfl)
  case hfr2 => kernel_rfl
  case hrr2 => kernel_rfl
  case hQr2 => exact fun _ _ _ h => h
  case hyr2 => refine Or.inl ⟨by rfl, ?_⟩; intro W hSw; go_simp; try with_reducible rfl
  try simp only [Act.put, List.setIfInBounds_toArray, List.set_cons_zero, List.set_cons_succ]
  refine' wpAnyH_take (i := 3) (oi := _) (v := _) ?hir3 (by kernel_rfl) ?hfr3 ?hrr3 ?hQr3 ?hyr3 hBr1 ?restr3
  case hir3 => (simp only [List.getElem?_toArray, List.getElem?_cons_zero, List.getElem?_cons_succ]; rfl)
  case hfr3 => kernel_rfl
  case hrr3 => kernel_rfl
  case hQr3 => exact fun _ _ _ h => h
  case hyr3 => refine Or.inl ⟨by rfl, ?_⟩; intro W hSw; have hcc := (KS.out W hSw).size; go_simp; try with_reducible rfl
  try simp only [Act.put, List.setIfInBounds_toArray, List.set_cons_zero, List.set_cons_succ]
  refine' wpAnyH_take (i := 4) (oi := _) (v := _) ?hir4 (by kernel_rfl) ?hfr4 ?hrr4 ?hQr4 ?hyr4 hBr1 ?restr4
  case hir4 => (simp only [List.getElem?_toArray, List.getElem?_cons_zero, List.getElem?_cons_succ]; rfl)
  case hfr4 => kernel_rfl
  case hrr4 => kernel_rfl
  case hQr4 => exact fun _ _ _ h => h
  case hyr4 => refine Or.inl ⟨by rfl, ?_⟩; intro W hSw; go_simp; try with_reducible rfl
  try simp only [Act.put, List.setIfInBounds_toArray, List.set_cons_zero, List.set_cons_succ]
  refine' wpAnyH_take (i := 5) (oi := _) (v := sv (a)) ?hir5 (by kernel_rfl) ?hfr5 ?hrr5 ?hQr5 ?hyr5 hBr1 ?restr5
  case hir5 => (simp only [List.getElem?_toArray, List.getElem?_cons_zero, List.getElem?_cons_succ]; rfl)
  case hfr5 => kernel_rfl
  case hrr5 => kernel_rfl
  case hQr5 => exact fun _ _ _ h => h
  case hyr5 => refine yields_sum ?_ (.tmp 30) rfl ⟨g, 2, none⟩ rfl a hl (fun W hSw => (KS.out W hSw).old); rfl
  try simp only [Act.put, List.setIfInBounds_toArray, List.set_cons_zero, List.set_cons_succ]
  refine' wpAnyH_take (i := 6) (oi := _) (v := _) ?hir6 (by kernel_rfl) ?hfr6 ?hrr6 ?hQr6 ?hyr6 hBr1 ?restr6
  case hir6 => (simp only [List.getElem?_toArray, List.getElem?_cons_zero, List.getElem?_cons_succ]; rfl)
  case hfr6 => kernel_rfl
  case hrr6 => kernel_rfl
  case hQr6 => exact fun _ _ _ h => h
  case hyr6 => refine Or.inl ⟨by rfl, ?_⟩; intro W hSw; go_simp; try with_reducible rfl
  try simp only [Act.put, List.setIfInBounds_toArray, List.set_cons_zero, List.set_cons_succ]
  refine' wpAnyH_take (i := 7) (oi := _) (v := sv (b)) ?hir7 (by kernel_rfl) ?hfr7 ?hrr7 ?hQr7 ?hyr7 hBr1 ?restr7
  case hir7 => (simp only [List.getElem?_toArray, List.getElem?_cons_zero, List.getElem?_cons_succ]; rfl)
  case hfr7 => kernel_rfl
  case hrr7 => kernel_rfl
  case hQr7 => exact fun _ _ _ h => h
  case hyr7 => refine yields_sum ?_ (.tmp 32) rfl ⟨g, 34, none⟩ rfl b hbl (fun W hSw => (KS.out W hSw).new); rfl
  try simp only [Act.put, List.setIfInBounds_toArray, List.set_cons_zero, List.set_cons_succ]
  refine' wpAnyH_take (i := 8) (oi := _) (v := _) ?hir8 (by kernel_rfl) ?hfr8 ?hrr8 ?hQr8 ?hyr8 hBr1 ?restr8
  case hir8 => (simp only [List.getElem?_toArray, List.getElem?_cons_zero, List.getElem?_cons_succ]; rfl)
  case hfr8 => kernel_rfl
  case hrr8 => kernel_rfl
  case hQr8 => exact fun _ _ _ h => h
  case hyr8 => refine Or.inl ⟨by rfl, ?_⟩; intro W hSw; go_simp; try with_reducible rfl
  try simp only [Act.put, List.setIfInBounds_toArray, List.set_cons_zero, List.set_cons_succ]
  refine' wpAnyH_take (i := 9) (oi := _) (v := _) ?hir9 (by kernel_rfl) ?hfr9 ?hrr9 ?hQr9 ?hyr9 hBr1 ?restr9
  case hir9 => (simp only [List.getElem?_toArray, List.getElem?_cons_zero, List.getElem?_cons_succ]; rfl)
  case hfr9 => kernel_rfl
  case hrr9 => kernel_rfl
  case hQr9 => exact fun _ _ _ h => h
  case hyr9 => refine Or.inl ⟨by rfl, ?_⟩; intro W hSw; have hcc := (KS.out W hSw).link; go_simp; try with_reducible rfl
  try simp only [Act.put, List.setIfInBounds_toArray, List.set_cons_zero, List.set_cons_succ]
  refine wpAnyH_ready (rs := [10]) (by kernel_rfl) (by simp) ?_
  refine' AllReadyH.cons (o := _) ?hir10 (fun K hK => ?_) AllReadyH.nil
  case hir10 => (simp only [List.getElem?_toArray, List.getElem?_cons_zero, List.getElem?_cons_succ]; rfl)
  go_simp
  go_at_call 10
  refine (C0.out _ hBr1).mono ?_
  rintro e Wr4 ⟨rfl, hBr3⟩
  refine hK.out _ _ hBr3 (fun _ => ?_)
  clear hK K
  try simp only [Act.put, List.setIfInBounds_toArray, List.set_cons_zero, List.set_cons_succ]
  refine' wpAnyH_take (i := 11) (oi := _) (v := _) ?hir11 (by kernel_rfl) ?hfr11 ?hrr11 ?hQr11 ?hyr11 hBr3 ?restr11
  case hir11 => (simp only [List.getElem?_toArray, List.getElem?_cons_zero, List.getElem?_cons_succ]; rfl)
  case hfr11 => kernel_rfl
  case hrr11 => kernel_rfl
  case hQr11 => exact fun _ _ _ h => h
  case hyr11 => refine Or.inl ⟨by rfl, ?_⟩; intro W hSw; go_simp; try with_reducible rfl
  try simp only [Act.put, List.setIfInBounds_toArray, List.set_cons_zero, List.set_cons_succ]
  refine' wpAnyH_take (i := 12) (oi := _) (v := _) ?hir12 (by kernel_rfl) ?hfr12 ?hrr12 ?hQr12 ?hyr12 hBr3 ?restr12
  case hir12 => (simp only [List.getElem?_toArray, List.getElem?_cons_zero, List.getElem?_cons_succ]; rfl)
  case hfr12 => kernel_rfl
  case hrr12 => kernel_rfl
  case hQr12 => exact fun _ _ _ h => h
  case hyr12 => refine Or.inl ⟨by rfl, ?_⟩; intro W hSw; go_simp; try with_reducible rfl
  try simp only [Act.put, List.setIfInBounds_toArray, List.set_cons_zero, List.set_cons_succ]
  refine' wpAnyH_take (i := 13) (oi := _) (v := _) ?hir13 (by kernel_rfl) ?hfr13 ?hrr13 ?hQr13 ?hyr13 hBr3 ?restr13
  case hir13 => (simp only [List.getElem?_toArray, List.getElem?_cons_zero, List.getElem?_cons_succ]; rfl)
  case hfr13 => kernel_rfl
  case hrr13 => kernel_rfl
  case hQr13 => exact fun _ _ _ h => h
  case hyr13 => refine Or.inl ⟨by rfl, ?_⟩; intro W hSw; go_simp; try with_reducible rfl
  try simp only [Act.put, List.setIfInBounds_toArray, List.set_cons_zero, List.set_cons_succ]
  refine' wpAnyH_take (i := 14) (oi := _) (v := _) ?hir14 (by kernel_rfl) ?hfr14 ?hrr14 ?hQr14 ?hyr14 hBr3 ?restr14
  case hir14 => (simp only [List.getElem?_toArray, List.getElem?_cons_zero, List.getElem?_cons_succ]; rfl)
  case hfr14 => kernel_rfl
  case hrr14 => kernel_rfl
  case hQr14 => exact fun _ _ _ h => h
  case hyr14 => refine Or.inl ⟨by rfl, ?_⟩; intro W hSw; go_simp; try with_reducible rfl
  try simp only [Act.put, List.setIfInBounds_toArray, List.set_cons_zero, List.set_cons_succ]
  refine' wpAnyH_take (i := 15) (oi := _) (v := _) ?hir15 (by kernel_rfl) ?hfr15 ?hrr15 ?hQr15 ?hyr15 hBr3 ?restr15
  case hir15 => (simp only [List.getElem?_toArray, List.getElem?_cons_zero, List.getElem?_cons_succ]; rfl)
  case hfr15 => kernel_rfl
  case hrr15 => kernel_rfl
  case hQr15 => exact fun _ _ _ h => h
  case hyr15 => refine Or.inl ⟨by rfl, ?_⟩; intro W hSw; have hcc := (KS.out W hSw).size; go_simp; try with_reducible rfl
  try simp only [Act.put, List.setIfInBounds_toArray, List.set_cons_zero, List.set_cons_succ]
  refine' wpAnyH_take (i := 16) (oi := _) (v := _) ?hir16 (by kernel_rfl) ?hfr16 ?hrr16 ?hQr16 ?hyr16 hBr3 ?restr16
  case hir16 => (simp only [List.getElem?_toArray, List.getElem?_cons_zero, List.getElem?_cons_succ]; rfl)
  case hfr16 => kernel_rfl
  case hrr16 => kernel_rfl
  case hQr16 => exact fun _ _ _ h => h
  case hyr16 => refine Or.inl ⟨by rfl, ?_⟩; intro W hSw; go_simp; try with_reducible rfl
  try simp only [Act.put, List.setIfInBounds_toArray, List.set_cons_zero, List.set_cons_succ]
  refine' wpAnyH_take (i := 17) (oi := _) (v := _) ?hir17 (by kernel_rfl) ?hfr17 ?hrr17 ?hQr17 ?hyr17 hBr3 ?restr17
  case hir17 => (simp only [List.getElem?_toArray, List.getElem?_cons_zero, List.getElem?_cons_succ]; rfl)
  case hfr17 => kernel_rfl
  case hrr17 => kernel_rfl
  case hQr17 => exact fun _ _ _ h => h
  case hyr17 => refine Or.inl ⟨by rfl, ?_⟩; intro W hSw; go_simp; try with_reducible rfl
  try simp only [Act.put, List.setIfInBounds_toArray, List.set_cons_zero, List.set_cons_succ]
  refine' wpAnyH_take (i := 18) (oi := _) (v := undef) ?hir18 (by kernel_rfl) ?hfr18 ?hrr18 ?hQr18 ?hyr18 hBr3 ?restr18
  case hir18 => (simp only [List.getElem?_toArray, List.getElem?_cons_zero, List.getElem?_cons_succ]; rfl)
  case hfr18 => kernel_rfl
  case hrr18 => kernel_rfl
  case hQr18 => exact fun _ _ _ h => h
  case hyr18 => exact Or.inr ⟨by rfl, rfl⟩
  try simp only [Act.put, List.setIfInBounds_toArray, List.set_cons_zero, List.set_cons_succ]
  refine' wpAnyH_take (i := 19) (oi := _) (v := undef) ?hir19 (by kernel_rfl) ?hfr19 ?hrr19 ?hQr19 ?hyr19 hBr3 ?restr19
  case hir19 => (simp only [List.getElem?_toArray, List.getElem?_cons_zero, List.getElem?_cons_succ]; rfl)
  case hfr19 => kernel_rfl
  case hrr19 => kernel_rfl
  case hQr19 => exact fun _ _ _ h => h
  case hyr19 => exact Or.inr ⟨by rfl, rfl⟩
  try simp only [Act.put, List.setIfInBounds_toArray, List.set_cons_zero, List.set_cons_succ]
  refine' wpAnyH_take (i := 20) (oi := _) (v := undef) ?hir20 (by kernel_rfl) ?hfr20 ?hrr20 ?hQr20 ?hyr20 hBr3 ?restr20
  case hir20 => (simp only [List.getElem?_toArray, List.getElem?_cons_zero, List.getElem?_cons_succ]; rfl)
  case hfr20 => kernel_rfl
  case hrr20 => kernel_rfl
  case hQr20 => exact fun _ _ _ h => h
  case hyr20 => exact Or.inr ⟨by rfl, rfl⟩
  try simp only [Act.put, List.setIfInBounds_toArray, List.set_cons_zero, List.set_cons_succ]
  refine' wpAnyH_take (i := 21) (oi := _) (v := undef) ?hir21 (by kernel_rfl) ?hfr21 ?hrr21 ?hQr21 ?hyr21 hBr3 ?restr21
  case hir21 => (simp only [List.getElem?_toArray, List.getElem?_cons_zero, List.getElem?_cons_succ]; rfl)
  case hfr21 => kernel_rfl
  case hrr21 => kernel_rfl
  case hQr21 => exact fun _ _ _ h => h
  case hyr21 => exact Or.inr ⟨by rfl, rfl⟩
  try simp only [Act.put, List.setIfInBounds_toArray, List.set_cons_zero, List.set_cons_succ]
  refine' wpAnyH_take (i := 22) (oi := _) (v := undef) ?hir22 (by kernel_rfl) ?hfr22 ?hrr22 ?hQr22 ?hyr22 hBr3 ?restr22
  case hir22 => (simp only [List.getElem?_toArray, List.getElem?_cons_zero, List.getElem?_cons_succ]; rfl)
  case hfr22 => kernel_rfl
  case hrr22 => kernel_rfl
  case hQr22 => exact fun _ _ _ h => h
  case hyr22 => exact Or.inr ⟨by rfl, rfl⟩
  try simp only [Act.put, List.setIfInBounds_toArray, List.set_cons_zero, List.set_cons_succ]
  refine' wpAnyH_take (i := 23) (oi := _) (v := undef) ?hir23 (by kernel_rfl) ?hfr23 ?hrr23 ?hQr23 ?hyr23 hBr3 ?restr23
  case hir23 => (simp only [List.getElem?_toArray, List.getElem?_cons_zero, List.getElem?_cons_succ]; rfl)
  case hfr23 => kernel_rfl
  case hrr23 => kernel_rfl
  case hQr23 => exact fun _ _ _ h => h
  case hyr23 => exact Or.inr ⟨by rfl, rfl⟩
  try simp only [Act.put, List.setIfInBounds_toArray, List.set_cons_zero, List.set_cons_succ]
  refine' wpAnyH_take (i := 24) (oi := _) (v := undef) ?hir24 (by kernel_rfl) ?hfr24 ?hrr24 ?hQr24 ?hyr24 hBr3 ?restr24
  case hir24 => (simp only [List.getElem?_toArray, List.getElem?_cons_zero, List.getElem?_cons_succ]; rfl)
  case hfr24 => kernel_rfl
  case hrr24 => kernel_rfl
  case hQr24 => exact fun _ _ _ h => h
  case hyr24 => exact Or.inr ⟨by rfl, rfl⟩
  try simp only [Act.put, List.setIfInBounds_toArray, List.set_cons_zero, List.set_cons_succ]
  refine' wpAnyH_take (i := 25) (oi := _) (v := undef) ?hir25 (by kernel_rfl) ?hfr25 ?hrr25 ?hQr25 ?hyr25 hBr3 ?restr25
  case hir25 => (simp only [List.getElem?_toArray, List.getElem?_cons_zero, List.getElem?_cons_succ]; rfl)
  case hfr25 => kernel_rfl
  case hrr25 => kernel_rfl
  case hQr25 => exact fun _ _ _ h => h
  case hyr25 => exact Or.inr ⟨by rfl, rfl⟩
  try simp only [Act.put, List.setIfInBounds_toArray, List.set_cons_zero, List.set_cons_succ]
  refine' wpAnyH_take (i := 26) (oi := _) (v := undef) ?hir26 (by kernel_rfl) ?hfr26 ?hrr26 ?hQr26 ?hyr26 hBr3 ?restr26
  case hir26 => (simp only [List.getElem?_toArray, List.getElem?_cons_zero, List.getElem?_cons_succ]; rfl)
  case hfr26 => kernel_rfl
  case hrr26 => kernel_rfl
  case hQr26 => exact fun _ _ _ h => h
  case hyr26 => exact Or.inr ⟨by rfl, rfl⟩
  try simp only [Act.put, List.setIfInBounds_toArray, List.set_cons_zero, List.set_cons_succ]
  refine' wpAnyH_take (i := 27) (oi := _) (v := undef) ?hir27 (by kernel_rfl) ?hfr27 ?hrr27 ?hQr27 ?hyr27 hBr3 ?restr27
  case hir27 => (simp only [List.getElem?_toArray, List.getElem?_cons_zero, List.getElem?_cons_succ]; rfl)
  case hfr27 => kernel_rfl
  case hrr27 => kernel_rfl
  case hQr27 => exact fun _ _ _ h => h
  case hyr27 => exact Or.inr ⟨by rfl, rfl⟩
  try simp only [Act.put, List.setIfInBounds_toArray, List.set_cons_zero, List.set_cons_succ]
  refine' wpAnyH_take (i := 28) (oi := _) (v := undef) ?hir28 (by kernel_rfl) ?hfr28 ?hrr28 ?hQr28 ?hyr28 hBr3 ?restr28
  case hir28 => (simp only [List.getElem?_toArray, List.getElem?_cons_zero, List.getElem?_cons_succ]; rfl)
  case hfr28 => kernel_rfl
  case hrr28 => kernel_rfl
  case hQr28 => exact fun _ _ _ h => h
  case hyr28 => exact Or.inr ⟨by rfl, rfl⟩
  try simp only [Act.put, List.setIfInBounds_toArray, List.set_cons_zero, List.set_cons_succ]
  refine' wpAnyH_take (i := 29) (oi := _) (v := undef) ?hir29 (by kernel_rfl) ?hfr29 ?hrr29 ?hQr29 ?hyr29 hBr3 ?restr29
  case hir29 => (simp only [List.getElem?_toArray, List.getElem?_cons_zero, List.getElem?_cons_succ]; rfl)
  case hfr29 => kernel_rfl
  case hrr29 => kernel_rfl
  case hQr29 => exact fun _ _ _ h => h
  case hyr29 => exact Or.inr ⟨by rfl, rfl⟩
  try simp only [Act.put, List.setIfInBounds_toArray, List.set_cons_zero, List.set_cons_succ]
  refine' wpAnyH_take (i := 30) (oi := _) (v := undef) ?hir30 (by kernel_rfl) ?hfr30 ?hrr30 ?hQr30 ?hyr30 hBr3 ?restr30
  case hir30 => (simp only [List.getElem?_toArray, List.getElem?_cons_zero, List.getElem?_cons_succ]; rfl)
  case hfr30 => kernel_rfl
  case hrr30 => kernel_rfl
  case hQr30 => exact fun _ _ _ h => h
  case hyr30 => exact Or.inr ⟨by rfl, rfl⟩
  try simp only [Act.put, List.setIfInBounds_toArray, List.set_cons_zero, List.set_cons_succ]
  refine' wpAnyH_take (i := 31) (oi := _) (v := undef) ?hir31 (by kernel_rfl) ?hfr31 ?hrr31 ?hQr31 ?hyr31 hBr3 ?restr31
  case hir31 => (simp only [List.getElem?_toArray, List.getElem?_cons_zero, List.getElem?_cons_succ]; rfl)
  case hfr31 => kernel_rfl
  case hrr31 => kernel_rfl
  case hQr31 => exact fun _ _ _ h => h
  case hyr31 => exact Or.inr ⟨by rfl, rfl⟩
  try simp only [Act.put, List.setIfInBounds_toArray, List.set_cons_zero, List.set_cons_succ]
  refine' wpAnyH_take (i := 32) (oi := _) (v := undef) ?hir32 (by kernel_rfl) ?hfr32 ?hrr32 ?hQr32 ?hyr32 hBr3 ?restr32
  case hir32 => (simp only [List.getElem?_toArray, List.getElem?_cons_zero, List.getElem?_cons_succ]; rfl)
  case hfr32 => kernel_rfl
  case hrr32 => kernel_rfl
  case hQr32 => exact fun _ _ _ h => h
  case hyr32 => exact Or.inr ⟨by rfl, rfl⟩
  try simp only [Act.put, List.setIfInBounds_toArray, List.set_cons_zero, List.set_cons_succ]
  refine' wpAnyH_take (i := 33) (oi := _) (v := undef) ?hir33 (by kernel_rfl) ?hfr33 ?hrr33 ?hQr33 ?hyr33 hBr3 ?restr33
  case hir33 => (simp only [List.getElem?_toArray, List.getElem?_cons_zero, List.getElem?_cons_succ]; rfl)
  case hfr33 => kernel_rfl
  case hrr33 => kernel_rfl
  case hQr33 => exact fun _ _ _ h => h
  case hyr33 => exact Or.inr ⟨by rfl, rfl⟩
  try simp only [Act.put, List.setIfInBounds_toArray, List.set_cons_zero, List.set_cons_succ]
  refine' wpAnyH_take (i := 34) (oi := _) (v := undef) ?hir34 (by kernel_rfl) ?hfr34 ?hrr34 ?hQr34 ?hyr34 hBr3 ?restr34
  case hir34 => (simp only [List.getElem?_toArray, List.getElem?_cons_zero, List.getElem?_cons_succ]; rfl)
  case hfr34 => kernel_rfl
  case hrr34 => kernel_rfl
  case hQr34 => exact fun _ _ _ h => h
  case hyr34 => exact Or.inr ⟨by rfl, rfl⟩
  try simp only [Act.put, List.setIfInBounds_toArray, List.set_cons_zero, List.set_cons_succ]
  refine' wpAnyH_take (i := 35) (oi := _) (v := undef) ?hir35 (by kernel_rfl) ?hfr35 ?hrr35 ?hQr35 ?hyr35 hBr3 ?restr35
  case hir35 => (simp only [List.getElem?_toArray, List.getElem?_cons_zero, List.getElem?_cons_succ]; rfl)
  case hfr35 => kernel_rfl
  case hrr35 => kernel_rfl
  case hQr35 => exact fun _ _ _ h => h
  case hyr35 => exact Or.inr ⟨by rfl, rfl⟩
  try simp only [Act.put, List.setIfInBounds_toArray, List.set_cons_zero, List.set_cons_succ]
  refine' wpAnyH_take (i := 36) (oi := _) (v := undef) ?hir36 (by kernel_rfl) ?hfr36 ?hrr36 ?hQr36 ?hyr36 hBr3 ?restr36
  case hir36 => (simp only [List.getElem?_toArray, List.getElem?_cons_zero, List.getElem?_cons_succ]; rfl)
  case hfr36 => kernel_rfl
  case hrr36 => kernel_rfl
  case hQr36 => exact fun _ _ _ h => h
  case hyr36 => exact Or.inr ⟨by rfl, rfl⟩
  try simp only [Act.put, List.setIfInBounds_toArray, List.set_cons_zero, List.set_cons_succ]
  refine' wpAnyH_take (i := 37) (oi := _) (v := undef) ?hir37 (by kernel_rfl) ?hfr37 ?hrr37 ?hQr37 ?hyr37 hBr3 ?restr37
  case hir37 => (simp only [List.getElem?_toArray, List.getElem?_cons_zero, List.getElem?_cons_succ]; rfl)
  case hfr37 => kernel_rfl
  case hrr37 => kernel_rfl
  case hQr37 => exact fun _ _ _ h => h
  case hyr37 => exact Or.inr ⟨by rfl, rfl⟩
  try simp only [Act.put, List.setIfInBounds_toArray, List.set_cons_zero, List.set_cons_succ]
  refine' wpAnyH_take (i := 38) (oi := _) (v := undef) ?hir38 (by kernel_rfl) ?hfr38 ?hrr38 ?hQr38 ?hyr38 hBr3 ?restr38
  case hir38 => (simp only [List.getElem?_toArray, List.getElem?_cons_zero, List.getElem?_cons_succ]; rfl)
  case hfr38 => kernel_rfl
  case hrr38 => kernel_rfl
  case hQr38 => exact fun _ _ _ h => h
  case hyr38 => exact Or.inr ⟨by rfl, rfl⟩
  try simp only [Act.put, List.setIfInBounds_toArray, List.set_cons_zero, List.set_cons_succ]
  refine' wpAnyH_take (i := 39) (oi := _) (v := undef) ?hir39 (by kernel_rfl) ?hfr39 ?hrr39 ?hQr39 ?hyr39 hBr3 ?restr39
  case hir39 => (simp only [List.getElem?_toArray, List.getElem?_cons_zero, List.getElem?_cons_succ]; rfl)
  case hfr39 => kernel_rfl
  case hrr39 => kernel_rfl
  case hQr39 => exact fun _ _ _ h => h
  case hyr39 => exact Or.inr ⟨by rfl, rfl⟩
  try simp only [Act.put, List.setIfInBounds_toArray, List.set_cons_zero, List.set_cons_succ]
  refine' wpAnyH_take (i := 40) (oi := _) (v := undef) ?hir40 (by kernel_rfl) ?hfr40 ?hrr40 ?hQr40 ?hyr40 hBr3 ?restr40
  case hir40 => (simp only [List.getElem?_toArray, List.getElem?_cons_zero, List.getElem?_cons_succ]; rfl)
  case hfr40 => kernel_rfl
  case hrr40 => kernel_rfl
  case hQr40 => exact fun _ _ _ h => h
  case hyr40 => exact Or.inr ⟨by rfl, rfl⟩
  try simp only [Act.put, List.setIfInBounds_toArray, List.set_cons_zero, List.set_cons_succ]
  refine' wpAnyH_take (i := 41) (oi := _) (v := _) ?hir41 (by kernel_rfl) ?hfr41 ?hrr41 ?hQr41 ?hyr41 hBr3 ?restr41
  case hir41 => (simp only [List.getElem?_toArray, List.getElem?_cons_zero, List.getElem?_cons_succ]; rfl)
  case hfr41 => kernel_rfl
  case hrr41 => kernel_rfl
  case hQr41 => exact fun _ _ _ h => h
  case hyr41 => refine Or.inl ⟨by rfl, ?_⟩; intro W hSw; go_simp; try with_reducible rfl
  try simp only [Act.put, List.setIfInBounds_toArray, List.set_cons_zero, List.set_cons_succ]
  refine' wpAnyH_take (i := 42) (oi := _) (v := _) ?hir42 (by kernel_rfl) ?hfr42 ?hrr42 ?hQr42 ?hyr42 hBr3 ?restr42
  case hir42 => (simp only [List.getElem?_toArray, List.getElem?_cons_zero, List.getElem?_cons_succ]; rfl)
  case hfr42 => kernel_rfl
  case hrr42 => kernel_rfl
  case hQr42 => exact fun _ _ _ h => h
  case hyr42 => refine Or.inl ⟨by rfl, ?_⟩; intro W hSw; go_simp; try with_reducible rfl
  try simp only [Act.put, List.setIfInBounds_toArray, List.set_cons_zero, List.set_cons_succ]
  refine' wpAnyH_take (i := 43) (oi := _) (v := _) ?hir43 (by kernel_rfl) ?hfr43 ?hrr43 ?hQr43 ?hyr43 hBr3 ?restr43
  case hir43 => (simp only [List.getElem?_toArray, List.getElem?_cons_zero, List.getElem?_cons_succ]; rfl)
  case hfr43 => kernel_rfl
  case hrr43 => kernel_rfl
  case hQr43 => exact fun _ _ _ h => h
  case hyr43 => refine Or.inl ⟨by rfl, ?_⟩; intro W hSw; go_simp; try with_reducible rfl
  try simp only [Act.put, List.setIfInBounds_toArray, List.set_cons_zero, List.set_cons_succ]
  refine wpAnyH_done (by kernel_rfl) ?_ _
  go_wp2
  go_ret
  exact ⟨rfl, by rw [HG.out]; exact BL.out _ hBr3⟩
  

set_option maxRecDepth 100000 in
set_option maxHeartbeats 4000000 in
theorem klends_lsm (hk : Knows w) (hs : Starts w) (hm : Miss w E) (_ : from_ < 18446744073709551616) (h2 : size < 18446744073709551616) (hl : a.length = 32) (hab : ∀ x ∈ a, x < 256) (hbl : b.length = 32) (cm : CameS w A n c ys) (hn : n ≤ 200) (hgt : ¬ (size : Int) < (from_ : Int)) (hz : ¬ size = 0) (hn0 : ((n : Int) == 0) = false) :
    Calls Tryd.prog 5 #[.agg (saidK from_ size a b A n c).toArray] w fun e w' => e = .returned (.bool true) ∧ Below w.heap.size w w' := by
  obtain ⟨w1, hw1⟩ : ∃ w1, w1 = w.alloc (.cells (saidK from_ size a b A n c).toArray 36) := ⟨_, rfl⟩
  have s1 : SaidKAt w1 w.heap.size from_ size a b A n c := by rw [hw1]; exact saidK_new w hl hbl
  have b1 : Below w.heap.size w w1 := by rw [hw1]; exact below_alloc _ _
  obtain ⟨S, hS⟩ : ∃ S, (saidK from_ size a b A n c).toArray = S := ⟨_, rfl⟩
  rw [hS] at hw1 ⊢
  clear hS
  have CA := Lib.hid (fun (W : World) (hW : Below w1.heap.size w1 W) => later (v' := .bool true) hW rfl (kalive_any W E (hk.below (below_on b1 (Nat.le_refl _) hW)) (hs.below (below_on b1 (Nat.le_refl _) hW)) (hm.below (below_on b1 (Nat.le_refl _) hW))))
  have C0 := Lib.hid (fun (W : World) (hW : Below w1.heap.size w1 W) => show Calls Tryd.prog 10 #[.int .u64 0, .int .u64 (size : Int), sv a, sv b, .slice A n c] W fun e w' => e = .returned (.bool false) ∧ Below w1.heap.size w1 w' from later hW rfl (kcheck_far (w := W) (n := n) (c := c) (A := A) (a := a) (b := b) (from_ := 0) (size := size) (by omega)))
  have CE : ∀ W : World, Below w1.heap.size w1 W → Calls Tryd.prog 10 #[.int .u64 (size : Int), .int .u64 (size : Int), sv a, sv b, .slice A n c] W fun e w' => e = .returned (.bool false) ∧ Below w1.heap.size w1 w' := fun W hW => by
    refine later hW ?_ (kcheck_any (from_ := size) (size := size) (cm.in_.below (below_on b1 (Nat.le_refl _) hW)) cm.lt cm.cap (by omega) hl hab hbl h2 (hk.below (below_on b1 (Nat.le_refl _) hW)) (hs.below (below_on b1 (Nat.le_refl _) hW)) (hm.below (below_on b1 (Nat.le_refl _) hW)))
    have : ¬ n = 0 := by intro e; rw [e] at hn0; simp at hn0
    rw [begins_self hz, decide_eq_false this]; rfl
  have HCE := Lib.hid CE
  have z0 : ((size : Int) == 0) = false := by simp; omega
  have KS := Lib.hid (fun (W : World) (hW : Below w1.heap.size w1 W) => s1.below hW)
  obtain ⟨g, hg0⟩ : ∃ g, w.heap.size = g := ⟨_, rfl⟩
  rw [hg0] at s1 b1 KS
  have c4 := s1.link
  have c0 := s1.from_
  have c1 := s1.size
  have O0 := Lib.hid s1.old
  have N0 := Lib.hid s1.new
  have HW := Lib.hid hw1
  have BL := Lib.hid (fun (W : World) (hW : Below w1.heap.size w1 W) => show Below g w W from below_on b1 (by rw [← hg0]; exact Nat.le_refl _) hW)
  have HG := Lib.hid hg0
  have hni : ¬ (200 : Int) < (n : Int) := by omega
  clear hw1 s1 b1 hn hk hs hm hz hg0 CE cm h2 hab
  go_enter Tryd.func5, Tryd.ntmps5
  go_upto_region 1 with fail
  rw [← HW.out, HG.out]
  go_upto_region 5 with fail
  refine wp_region_held_drew (S := fun W => Below w1.heap.size w1 W) (by kernel_rfl) ((Below.refl _ _).drew) (fun hT0 => ?_)
  change wpAnyH _ _ _ _ _ _ _ _ w1.drew
  refine wpAnyH_ready (rs := [0]) (by kernel_rfl) (by simp) ?_
  refine' AllReadyH.cons (o := _) ?hir0 (fun K hK => ?_) AllReadyH.nil
  case hir0 => (simp only [List.getElem?_toArray, List.getElem?_cons_zero]; rfl)
  go_simp
  go_at_call 7
  refine (CA.out _ hT0).mono ?_
  rintro e Wr2 ⟨rfl, hBr1⟩
  refine hK.out _ _ hBr1 (fun _ => ?_)
  clear hK K
  try simp only [Act.put, List.setIfInBounds_toArray, List.set_cons_zero, List.set_cons_succ]
  refine' wpAnyH_take (i := 1) (oi := _) (v := _) ?hir1 (by kernel_rfl) ?hfr1 ?hrr1 ?hQr1 ?hyr1 hBr1 ?restr1
  case hir1 => (simp only [List.getElem?_toArray, List.getElem?_cons_zero, List.getElem?_cons_succ]; rfl)
  case hfr1 => kernel_rfl
  case hrr1 => kernel_rfl
  case hQr1 => exact fun _ _ _ h => h
  case hyr1 => refine Or.inl ⟨by rfl, ?_⟩; intro W hSw; go_simp; try with_reducible rfl
  try simp only [Act.put, List.setIfInBounds_toArray, List.set_cons_zero, List.set_cons_succ]
  refine' wpAnyH_take (i := 2) (oi := _) (v := _) ?hir2 (by kernel_rfl) ?hfr2 ?hrr2 ?hQr2 ?hyr2 hBr1 ?restr2
  case hir2 => (simp only [List.getElem?_toArray, List.getElem?_cons_zero, List.getElem?_cons_succ]; rfl)
  case hfr2 => kernel_rfl
  case hrr2 => kernel_rfl
  case hQr2 => exact fun _ _ _ h => h
  case hyr2 => refine Or.inl ⟨by rfl, ?_⟩; intro W hSw; go_simp; try with_reducible rfl
  try simp only [Act.put, List.setIfInBounds_toArray, List.set_cons_zero, List.set_cons_succ]
  refine' wpAnyH_take (i := 3) (oi := _) (v := _) ?hir3 (by kernel_rfl) ?hfr3 ?hrr3 ?hQr3 ?hyr3 hBr1 ?restr3
  case hir3 => (simp only [List.getElem?_toArray, List.getElem?_cons_zero, List.getElem?_cons_succ]; rfl)
  case hfr3 => kernel_rfl
  case hrr3 => kernel_rfl
  case hQr3 => exact fun _ _ _ h => h
  case hyr3 => refine Or.inl ⟨by rfl, ?_⟩; intro W hSw; have hcc := (KS.out W hSw).size; go_simp; try with_reducible rfl
  try simp only [Act.put, List.setIfInBounds_toArray, List.set_cons_zero, List.set_cons_succ]
  refine' wpAnyH_take (i := 4) (oi := _) (v := _) ?hir4 (by kernel_rfl) ?hfr4 ?hrr4 ?hQr4 ?hyr4 hBr1 ?restr4
  case hir4 => (simp only [List.getElem?_toArray, List.getElem?_cons_zero, List.getElem?_cons_succ]; rfl)
  case hfr4 => kernel_rfl
  case hrr4 => kernel_rfl
  case hQr4 => exact fun _ _ _ h => h
  case hyr4 => refine Or.inl ⟨by rfl, ?_⟩; intro W hSw; go_simp; try with_reducible rfl
  try simp only [Act.put, List.setIfInBounds_toArray, List.set_cons_zero, List.set_cons_succ]
  refine' wpAnyH_take (i := 5) (oi := _) (v := sv (a)) ?hir5 (by kernel_rfl) ?hfr5 ?hrr5 ?hQr5 ?hyr5 hBr1 ?restr5
  case hir5 => (simp only [List.getElem?_toArray, List.getElem?_cons_zero, List.getElem?_cons_succ]; rfl)
  case hfr5 => kernel_rfl
  case hrr5 => kernel_rfl
  case hQr5 => exact fun _ _ _ h => h
  case hyr5 => refine yields_sum ?_ (.tmp 30) rfl ⟨g, 2, none⟩ rfl a hl (fun W hSw => (KS.out W hSw).old); rfl
  try simp only [Act.put, List.setIfInBounds_toArray, List.set_cons_zero, List.set_cons_succ]
  refine' wpAnyH_take (i := 6) (oi := _) (v := _) ?hir6 (by kernel_rfl) ?hfr6 ?hrr6 ?hQr6 ?hyr6 hBr1 ?restr6
  case hir6 => (simp only [List.getElem?_toArray, List.getElem?_cons_zero, List.getElem?_cons_succ]; rfl)
  case hfr6 => kernel_rfl
  case hrr6 => kernel_rfl
  case hQr6 => exact fun _ _ _ h => h
  case hyr6 => refine Or.inl ⟨by rfl, ?_⟩; intro W hSw; go_simp; try with_reducible rfl
  try simp only [Act.put, List.setIfInBounds_toArray, List.set_cons_zero, List.set_cons_succ]
  refine' wpAnyH_take (i := 7) (oi := _) (v := sv (b)) ?hir7 (by kernel_rfl) ?hfr7 ?hrr7 ?hQr7 ?hyr7 hBr1 ?restr7
  case hir7 => (simp only [List.getElem?_toArray, List.getElem?_cons_zero, List.getElem?_cons_succ]; rfl)
  case hfr7 => kernel_rfl
  case hrr7 => kernel_rfl
  case hQr7 => exact fun _ _ _ h => h
  case hyr7 => refine yields_sum ?_ (.tmp 32) rfl ⟨g, 34, none⟩ rfl b hbl (fun W hSw => (KS.out W hSw).new); rfl
  try simp only [Act.put, List.setIfInBounds_toArray, List.set_cons_zero, List.set_cons_succ]
  refine' wpAnyH_take (i := 8) (oi := _) (v := _) ?hir8 (by kernel_rfl) ?hfr8 ?hrr8 ?hQr8 ?hyr8 hBr1 ?restr8
  case hir8 => (simp only [List.getElem?_toArray, List.getElem?_cons_zero, List.getElem?_cons_succ]; rfl)
  case hfr8 => kernel_rfl
  case hrr8 => kernel_rfl
  case hQr8 => exact fun _ _ _ h => h
  case hyr8 => refine Or.inl ⟨by rfl, ?_⟩; intro W hSw; go_simp; try with_reducible rfl
  try simp only [Act.put, List.setIfInBounds_toArray, List.set_cons_zero, List.set_cons_succ]
  refine' wpAnyH_take (i := 9) (oi := _) (v := _) ?hir9 (by kernel_rfl) ?hfr9 ?hrr9 ?hQr9 ?hyr9 hBr1 ?restr9
  case hir9 => (simp only [List.getElem?_toArray, List.getElem?_cons_zero, List.getElem?_cons_succ]; rfl)
  case hfr9 => kernel_rfl
  case hrr9 => kernel_rfl
  case hQr9 => exact fun _ _ _ h => h
  case hyr9 => refine Or.inl ⟨by rfl, ?_⟩; intro W hSw; have hcc := (KS.out W hSw).link; go_simp; try with_reducible rfl
  try simp only [Act.put, List.setIfInBounds_toArray, List.set_cons_zero, List.set_cons_succ]
  refine wpAnyH_ready (rs := [10]) (by kernel_rfl) (by simp) ?_
  refine' AllReadyH.cons (o := _) ?hir10 (fun K hK => ?_) AllReadyH.nil
  case hir10 => (simp only [List.getElem?_toArray, List.getElem?_cons_zero, List.getElem?_cons_succ]; rfl)
  go_simp
  go_at_call 10
  refine (C0.out _ hBr1).mono ?_
  rintro e Wr4 ⟨rfl, hBr3⟩
  refine hK.out _ _ hBr3 (fun _ => ?_)
  clear hK K
  try simp only [Act.put, List.setIfInBounds_toArray, List.set_cons_zero, List.set_cons_succ]
  refine' wpAnyH_take (i := 11) (oi := _) (v := _) ?hir11 (by kernel_rfl) ?hfr11 ?hrr11 ?hQr11 ?hyr11 hBr3 ?restr11
  case hir11 => (simp only [List.getElem?_toArray, List.getElem?_cons_zero, List.getElem?_cons_succ]; rfl)
  case hfr11 => kernel_rfl
  case hrr11 => kernel_rfl
  case hQr11 => exact fun _ _ _ h => h
  case hyr11 => refine Or.inl ⟨by rfl, ?_⟩; intro W hSw; go_simp; try with_reducible rfl
  try simp only [Act.put, List.setIfInBounds_toArray, List.set_cons_zero, List.set_cons_succ]
  refine' wpAnyH_take (i := 12) (oi := _) (v := _) ?hir12 (by kernel_rfl) ?hfr12 ?hrr12 ?hQr12 ?hyr12 hBr3 ?restr12
  case hir12 => (simp only [List.getElem?_toArray, List.getElem?_cons_zero, List.getElem?_cons_succ]; rfl)
  case hfr12 => kernel_rfl
  case hrr12 => kernel_rfl
  case hQr12 => exact fun _ _ _ h => h
  case hyr12 => refine Or.inl ⟨by rfl, ?_⟩; intro W hSw; go_simp; try with_reducible rfl
  try simp only [Act.put, List.setIfInBounds_toArray, List.set_cons_zero, List.set_cons_succ]
  refine' wpAnyH_take (i := 13) (oi := _) (v := _) ?hir13 (by kernel_rfl) ?hfr13 ?hrr13 ?hQr13 ?hyr13 hBr3 ?restr13
  case hir13 => (simp only [List.getElem?_toArray, List.getElem?_cons_zero, List.getElem?_cons_succ]; rfl)
  case hfr13 => kernel_rfl
  case hrr13 => kernel_rfl
  case hQr13 => exact fun _ _ _ h => h
  case hyr13 => refine Or.inl ⟨by rfl, ?_⟩; intro W hSw; go_simp; try with_reducible rfl
  try simp only [Act.put, List.setIfInBounds_toArray, List.set_cons_zero, List.set_cons_succ]
  refine' wpAnyH_take (i := 14) (oi := _) (v := _) ?hir14 (by kernel_rfl) ?hfr14 ?hrr14 ?hQr14 ?hyr14 hBr3 ?restr14
  case hir14 => (simp only [List.getElem?_toArray, List.getElem?_cons_zero, List.getElem?_cons_succ]; rfl)
  case hfr14 => kernel_rfl
  case hrr14 => kernel_rfl
  case hQr14 => exact fun _ _ _ h => h
  case hyr14 => refine Or.inl ⟨by rfl, ?_⟩; intro W hSw; go_simp; try with_reducible rfl
  try simp only [Act.put, List.setIfInBounds_toArray, List.set_cons_zero, List.set_cons_succ]
  refine' wpAnyH_take (i := 15) (oi := _) (v := _) ?hir15 (by kernel_rfl) ?hfr15 ?hrr15 ?hQr15 ?hyr15 hBr3 ?restr15
  case hir15 => (simp only [List.getElem?_toArray, List.getElem?_cons_zero, List.getElem?_cons_succ]; rfl)
  case hfr15 => kernel_rfl
  case hrr15 => kernel_rfl
  case hQr15 => exact fun _ _ _ h => h
  case hyr15 => refine Or.inl ⟨by rfl, ?_⟩; intro W hSw; have hcc := (KS.out W hSw).size; go_simp; try with_reducible rfl
  try simp only [Act.put, List.setIfInBounds_toArray, List.set_cons_zero, List.set_cons_succ]
  refine' wpAnyH_take (i := 16) (oi := _) (v := _) ?hir16 (by kernel_rfl) ?hfr16 ?hrr16 ?hQr16 ?hyr16 hBr3 ?restr16
  case hir16 => (simp only [List.getElem?_toArray, List.getElem?_cons_zero, List.getElem?_cons_succ]; rfl)
  case hfr16 => kernel_rfl
  case hrr16 => kernel_rfl
  case hQr16 => exact fun _ _ _ h => h
  case hyr16 => refine Or.inl ⟨by rfl, ?_⟩; intro W hSw; go_simp; try with_reducible rfl
  try simp only [Act.put, List.setIfInBounds_toArray, List.set_cons_zero, List.set_cons_succ]
  refine' wpAnyH_take (i := 17) (oi := _) (v := _) ?hir17 (by kernel_rfl) ?hfr17 ?hrr17 ?hQr17 ?hyr17 hBr3 ?restr17
  case hir17 => (simp only [List.getElem?_toArray, List.getElem?_cons_zero, List.getElem?_cons_succ]; rfl)
  case hfr17 => kernel_rfl
  case hrr17 => kernel_rfl
  case hQr17 => exact fun _ _ _ h => h
  case hyr17 => refine Or.inl ⟨by rfl, ?_⟩; intro W hSw; go_simp; try with_reducible rfl
  try simp only [Act.put, List.setIfInBounds_toArray, List.set_cons_zero, List.set_cons_succ]
  refine' wpAnyH_take (i := 18) (oi := _) (v := _) ?hir18 (by kernel_rfl) ?hfr18 ?hrr18 ?hQr18 ?hyr18 hBr3 ?restr18
  case hir18 => (simp only [List.getElem?_toArray, List.getElem?_cons_zero, List.getElem?_cons_succ]; rfl)
  case hfr18 => kernel_rfl
  case hrr18 => kernel_rfl
  case hQr18 => exact fun _ _ _ h => h
  case hyr18 => refine Or.inl ⟨by rfl, ?_⟩; intro W hSw; go_simp; try with_reducible rfl
  try simp only [Act.put, List.setIfInBounds_toArray, List.set_cons_zero, List.set_cons_succ]
  refine' wpAnyH_take (i := 19) (oi := _) (v := _) ?hir19 (by kernel_rfl) ?hfr19 ?hrr19 ?hQr19 ?hyr19 hBr3 ?restr19
  case hir19 => (simp only [List.getElem?_toArray, List.getElem?_cons_zero, List.getElem?_cons_succ]; rfl)
  case hfr19 => kernel_rfl
  case hrr19 => kernel_rfl
  case hQr19 => exact fun _ _ _ h => h
  case hyr19 => refine Or.inl ⟨by rfl, ?_⟩; intro W hSw; have hcc := (KS.out W hSw).size; go_simp; try with_reducible rfl
  try simp only [Act.put, List.setIfInBounds_toArray, List.set_cons_zero, List.set_cons_succ]
  refine' wpAnyH_take (i := 20) (oi := _) (v := _) ?hir20 (by kernel_rfl) ?hfr20 ?hrr20 ?hQr20 ?hyr20 hBr3 ?restr20
  case hir20 => (simp only [List.getElem?_toArray, List.getElem?_cons_zero, List.getElem?_cons_succ]; rfl)
  case hfr20 => kernel_rfl
  case hrr20 => kernel_rfl
  case hQr20 => exact fun _ _ _ h => h
  case hyr20 => refine Or.inl ⟨by rfl, ?_⟩; intro W hSw; go_simp; try with_reducible rfl
  try simp only [Act.put, List.setIfInBounds_toArray, List.set_cons_zero, List.set_cons_succ]
  refine' wpAnyH_take (i := 21) (oi := _) (v := _) ?hir21 (by kernel_rfl) ?hfr21 ?hrr21 ?hQr21 ?hyr21 hBr3 ?restr21
  case hir21 => (simp only [List.getElem?_toArray, List.getElem?_cons_zero, List.getElem?_cons_succ]; rfl)
  case hfr21 => kernel_rfl
  case hrr21 => kernel_rfl
  case hQr21 => exact fun _ _ _ h => h
  case hyr21 => refine Or.inl ⟨by rfl, ?_⟩; intro W hSw; have hcc := (KS.out W hSw).size; go_simp; try with_reducible rfl
  try simp only [Act.put, List.setIfInBounds_toArray, List.set_cons_zero, List.set_cons_succ]
  refine' wpAnyH_take (i := 22) (oi := _) (v := _) ?hir22 (by kernel_rfl) ?hfr22 ?hrr22 ?hQr22 ?hyr22 hBr3 ?restr22
  case hir22 => (simp only [List.getElem?_toArray, List.getElem?_cons_zero, List.getElem?_cons_succ]; rfl)
  case hfr22 => kernel_rfl
  case hrr22 => kernel_rfl
  case hQr22 => exact fun _ _ _ h => h
  case hyr22 => refine Or.inl ⟨by rfl, ?_⟩; intro W hSw; go_simp; try with_reducible rfl
  try simp only [Act.put, List.setIfInBounds_toArray, List.set_cons_zero, List.set_cons_succ]
  refine' wpAnyH_take (i := 23) (oi := _) (v := sv (a)) ?hir23 (by kernel_rfl) ?hfr23 ?hrr23 ?hQr23 ?hyr23 hBr3 ?restr23
  case hir23 => (simp only [List.getElem?_toArray, List.getElem?_cons_zero, List.getElem?_cons_succ]; rfl)
  case hfr23 => kernel_rfl
  case hrr23 => kernel_rfl
  case hQr23 => exact fun _ _ _ h => h
  case hyr23 => refine yields_sum ?_ (.tmp 48) rfl ⟨g, 2, none⟩ rfl a hl (fun W hSw => (KS.out W hSw).old); rfl
  try simp only [Act.put, List.setIfInBounds_toArray, List.set_cons_zero, List.set_cons_succ]
  refine' wpAnyH_take (i := 24) (oi := _) (v := _) ?hir24 (by kernel_rfl) ?hfr24 ?hrr24 ?hQr24 ?hyr24 hBr3 ?restr24
  case hir24 => (simp only [List.getElem?_toArray, List.getElem?_cons_zero, List.getElem?_cons_succ]; rfl)
  case hfr24 => kernel_rfl
  case hrr24 => kernel_rfl
  case hQr24 => exact fun _ _ _ h => h
  case hyr24 => refine Or.inl ⟨by rfl, ?_⟩; intro W hSw; go_simp; try with_reducible rfl
  try simp only [Act.put, List.setIfInBounds_toArray, List.set_cons_zero, List.set_cons_succ]
  refine' wpAnyH_take (i := 25) (oi := _) (v := sv (b)) ?hir25 (by kernel_rfl) ?hfr25 ?hrr25 ?hQr25 ?hyr25 hBr3 ?restr25
  case hir25 => (simp only [List.getElem?_toArray, List.getElem?_cons_zero, List.getElem?_cons_succ]; rfl)
  case hfr25 => kernel_rfl
  case hrr25 => kernel_rfl
  case hQr25 => exact fun _ _ _ h => h
  case hyr25 => refine yields_sum ?_ (.tmp 50) rfl ⟨g, 34, none⟩ rfl b hbl (fun W hSw => (KS.out W hSw).new); rfl
  try simp only [Act.put, List.setIfInBounds_toArray, List.set_cons_zero, List.set_cons_succ]
  refine' wpAnyH_take (i := 26) (oi := _) (v := _) ?hir26 (by kernel_rfl) ?hfr26 ?hrr26 ?hQr26 ?hyr26 hBr3 ?restr26
  case hir26 => (simp only [List.getElem?_toArray, List.getElem?_cons_zero, List.getElem?_cons_succ]; rfl)
  case hfr26 => kernel_rfl
  case hrr26 => kernel_rfl
  case hQr26 => exact fun _ _ _ h => h
  case hyr26 => refine Or.inl ⟨by rfl, ?_⟩; intro W hSw; go_simp; try with_reducible rfl
  try simp only [Act.put, List.setIfInBounds_toArray, List.set_cons_zero, List.set_cons_succ]
  refine' wpAnyH_take (i := 27) (oi := _) (v := _) ?hir27 (by kernel_rfl) ?hfr27 ?hrr27 ?hQr27 ?hyr27 hBr3 ?restr27
  case hir27 => (simp only [List.getElem?_toArray, List.getElem?_cons_zero, List.getElem?_cons_succ]; rfl)
  case hfr27 => kernel_rfl
  case hrr27 => kernel_rfl
  case hQr27 => exact fun _ _ _ h => h
  case hyr27 => refine Or.inl ⟨by rfl, ?_⟩; intro W hSw; have hcc := (KS.out W hSw).link; go_simp; try with_reducible rfl
  try simp only [Act.put, List.setIfInBounds_toArray, List.set_cons_zero, List.set_cons_succ]
  refine' wpAnyH_take (i := 29) (oi := _) (v := _) ?hir29 (by kernel_rfl) ?hfr29 ?hrr29 ?hQr29 ?hyr29 hBr3 ?restr29
  case hir29 => (simp only [List.getElem?_toArray, List.getElem?_cons_zero, List.getElem?_cons_succ]; rfl)
  case hfr29 => kernel_rfl
  case hrr29 => kernel_rfl
  case hQr29 => exact fun _ _ _ h => h
  case hyr29 => refine Or.inl ⟨by rfl, ?_⟩; intro W hSw; go_simp; try with_reducible rfl
  try simp only [Act.put, List.setIfInBounds_toArray, List.set_cons_zero, List.set_cons_succ]
  refine' wpAnyH_take (i := 30) (oi := _) (v := _) ?hir30 (by kernel_rfl) ?hfr30 ?hrr30 ?hQr30 ?hyr30 hBr3 ?restr30
  case hir30 => (simp only [List.getElem?_toArray, List.getElem?_cons_zero, List.getElem?_cons_succ]; rfl)
  case hfr30 => kernel_rfl
  case hrr30 => kernel_rfl
  case hQr30 => exact fun _ _ _ h => h
  case hyr30 => refine Or.inl ⟨by rfl, ?_⟩; intro W hSw; have hcc := (KS.out W hSw).link; go_simp; try with_reducible rfl
  try simp only [Act.put, List.setIfInBounds_toArray, List.set_cons_zero, List.set_cons_succ]
  refine' wpAnyH_take (i := 31) (oi := _) (v := _) ?hir31 (by kernel_rfl) ?hfr31 ?hrr31 ?hQr31 ?hyr31 hBr3 ?restr31
  case hir31 => (simp only [List.getElem?_toArray, List.getElem?_cons_zero, List.getElem?_cons_succ]; rfl)
  case hfr31 => kernel_rfl
  case hrr31 => kernel_rfl
  case hQr31 => exact fun _ _ _ h => h
  case hyr31 => refine Or.inl ⟨by rfl, ?_⟩; intro W hSw; go_simp; try with_reducible rfl
  try simp only [Act.put, List.setIfInBounds_toArray, List.set_cons_zero, List.set_cons_succ]
  refine' wpAnyH_take (i := 32) (oi := _) (v := _) ?hir32 (by kernel_rfl) ?hfr32 ?hrr32 ?hQr32 ?hyr32 hBr3 ?restr32
  case hir32 => (simp only [List.getElem?_toArray, List.getElem?_cons_zero, List.getElem?_cons_succ]; rfl)
  case hfr32 => kernel_rfl
  case hrr32 => kernel_rfl
  case hQr32 => exact fun _ _ _ h => h
  case hyr32 => refine Or.inl ⟨by rfl, ?_⟩; intro W hSw; go_simp; try with_reducible rfl
  try simp only [Act.put, List.setIfInBounds_toArray, List.set_cons_zero, List.set_cons_succ]
  refine wpAnyH_ready (rs := [28]) (by kernel_rfl) (by simp) ?_
  refine' AllReadyH.cons (o := _) ?hir28 (fun K hK => ?_) AllReadyH.nil
  case hir28 => (simp only [List.getElem?_toArray, List.getElem?_cons_zero, List.getElem?_cons_succ]; rfl)
  go_simp
  go_at_call 10
  refine (HCE.out _ hBr3).mono ?_
  rintro e Wr6 ⟨rfl, hBr5⟩
  refine hK.out _ _ hBr5 (fun _ => ?_)
  clear hK K
  try simp only [Act.put, List.setIfInBounds_toArray, List.set_cons_zero, List.set_cons_succ]
  refine' wpAnyH_take (i := 33) (oi := _) (v := _) ?hir33 (by kernel_rfl) ?hfr33 ?hrr33 ?hQr33 ?hyr33 hBr5 ?restr33
  case hir33 => (simp only [List.getElem?_toArray, List.getElem?_cons_zero, List.getElem?_cons_succ]; rfl)
  case hfr33 => kernel_rfl
  case hrr33 => kernel_rfl
  case hQr33 => exact fun _ _ _ h => h
  case hyr33 => refine Or.inl ⟨by rfl, ?_⟩; intro W hSw; go_simp; try with_reducible rfl
  try simp only [Act.put, List.setIfInBounds_toArray, List.set_cons_zero, List.set_cons_succ]
  refine' wpAnyH_take (i := 34) (oi := _) (v := undef) ?hir34 (by kernel_rfl) ?hfr34 ?hrr34 ?hQr34 ?hyr34 hBr5 ?restr34
  case hir34 => (simp only [List.getElem?_toArray, List.getElem?_cons_zero, List.getElem?_cons_succ]; rfl)
  case hfr34 => kernel_rfl
  case hrr34 => kernel_rfl
  case hQr34 => exact fun _ _ _ h => h
  case hyr34 => exact Or.inr ⟨by rfl, rfl⟩
  try simp only [Act.put, List.setIfInBounds_toArray, List.set_cons_zero, List.set_cons_succ]
  refine' wpAnyH_take (i := 35) (oi := _) (v := undef) ?hir35 (by kernel_rfl) ?hfr35 ?hrr35 ?hQr35 ?hyr35 hBr5 ?restr35
  case hir35 => (simp only [List.getElem?_toArray, List.getElem?_cons_zero, List.getElem?_cons_succ]; rfl)
  case hfr35 => kernel_rfl
  case hrr35 => kernel_rfl
  case hQr35 => exact fun _ _ _ h => h
  case hyr35 => exact Or.inr ⟨by rfl, rfl⟩
  try simp only [Act.put, List.setIfInBounds_toArray, List.set_cons_zero, List.set_cons_succ]
  refine' wpAnyH_take (i := 36) (oi := _) (v := undef) ?hir36 (by kernel_rfl) ?hfr36 ?hrr36 ?hQr36 ?hyr36 hBr5 ?restr36
  case hir36 => (simp only [List.getElem?_toArray, List.getElem?_cons_zero, List.getElem?_cons_succ]; rfl)
  case hfr36 => kernel_rfl
  case hrr36 => kernel_rfl
  case hQr36 => exact fun _ _ _ h => h
  case hyr36 => exact Or.inr ⟨by rfl, rfl⟩
  try simp only [Act.put, List.setIfInBounds_toArray, List.set_cons_zero, List.set_cons_succ]
  refine' wpAnyH_take (i := 37) (oi := _) (v := undef) ?hir37 (by kernel_rfl) ?hfr37 ?hrr37 ?hQr37 ?hyr37 hBr5 ?restr37
  case hir37 => (simp only [List.getElem?_toArray, List.getElem?_cons_zero, List.getElem?_cons_succ]; rfl)
  case hfr37 => kernel_rfl
  case hrr37 => kernel_rfl
  case hQr37 => exact fun _ _ _ h => h
  case hyr37 => exact Or.inr ⟨by rfl, rfl⟩
  try simp only [Act.put, List.setIfInBounds_toArray, List.set_cons_zero, List.set_cons_succ]
  refine' wpAnyH_take (i := 38) (oi := _) (v := undef) ?hir38 (by kernel_rfl) ?hfr38 ?hrr38 ?hQr38 ?hyr38 hBr5 ?restr38
  case hir38 => (simp only [List.getElem?_toArray, List.getElem?_cons_zero, List.getElem?_cons_succ]; rfl)
  case hfr38 => kernel_rfl
  case hrr38 => kernel_rfl
  case hQr38 => exact fun _ _ _ h => h
  case hyr38 => exact Or.inr ⟨by rfl, rfl⟩
  try simp only [Act.put, List.setIfInBounds_toArray, List.set_cons_zero, List.set_cons_succ]
  refine' wpAnyH_take (i := 39) (oi := _) (v := _) ?hir39 (by kernel_rfl) ?hfr39 ?hrr39 ?hQr39 ?hyr39 hBr5 ?restr39
  case hir39 => (simp only [List.getElem?_toArray, List.getElem?_cons_zero, List.getElem?_cons_succ]; rfl)
  case hfr39 => kernel_rfl
  case hrr39 => kernel_rfl
  case hQr39 => exact fun _ _ _ h => h
  case hyr39 => refine Or.inl ⟨by rfl, ?_⟩; intro W hSw; go_simp; try with_reducible rfl
  try simp only [Act.put, List.setIfInBounds_toArray, List.set_cons_zero, List.set_cons_succ]
  refine' wpAnyH_take (i := 40) (oi := _) (v := _) ?hir40 (by kernel_rfl) ?hfr40 ?hrr40 ?hQr40 ?hyr40 hBr5 ?restr40
  case hir40 => (simp only [List.getElem?_toArray, List.getElem?_cons_zero, List.getElem?_cons_succ]; rfl)
  case hfr40 => kernel_rfl
  case hrr40 => kernel_rfl
  case hQr40 => exact fun _ _ _ h => h
  case hyr40 => refine Or.inl ⟨by rfl, ?_⟩; intro W hSw; go_simp; try with_reducible rfl
  try simp only [Act.put, List.setIfInBounds_toArray, List.set_cons_zero, List.set_cons_succ]
  refine' wpAnyH_take (i := 41) (oi := _) (v := _) ?hir41 (by kernel_rfl) ?hfr41 ?hrr41 ?hQr41 ?hyr41 hBr5 ?restr41
  case hir41 => (simp only [List.getElem?_toArray, List.getElem?_cons_zero, List.getElem?_cons_succ]; rfl)
  case hfr41 => kernel_rfl
  case hrr41 => kernel_rfl
  case hQr41 => exact fun _ _ _ h => h
  case hyr41 => refine Or.inl ⟨by rfl, ?_⟩; intro W hSw; go_simp; try with_reducible rfl
  try simp only [Act.put, List.setIfInBounds_toArray, List.set_cons_zero, List.set_cons_succ]
  refine' wpAnyH_take (i := 42) (oi := _) (v := _) ?hir42 (by kernel_rfl) ?hfr42 ?hrr42 ?hQr42 ?hyr42 hBr5 ?restr42
  case hir42 => (simp only [List.getElem?_toArray, List.getElem?_cons_zero, List.getElem?_cons_succ]; rfl)
  case hfr42 => kernel_rfl
  case hrr42 => kernel_rfl
  case hQr42 => exact fun _ _ _ h => h
  case hyr42 => refine Or.inl ⟨by rfl, ?_⟩; intro W hSw; go_simp; try with_reducible rfl
  try simp only [Act.put, List.setIfInBounds_toArray, List.set_cons_zero, List.set_cons_succ]
  refine' wpAnyH_take (i := 43) (oi := _) (v := _) ?hir43 (by kernel_rfl) ?hfr43 ?hrr43 ?hQr43 ?hyr43 hBr5 ?restr43
  case hir43 => (simp only [List.getElem?_toArray, List.getElem?_cons_zero, List.getElem?_cons_succ]; rfl)
  case hfr43 => kernel_rfl
  case hrr43 => kernel_rfl
  case hQr43 => exact fun _ _ _ h => h
  case hyr43 => refine Or.inl ⟨by rfl, ?_⟩; intro W hSw; go_simp; try with_reducible rfl
  try simp only [Act.put, List.setIfInBounds_toArray, List.set_cons_zero, List.set_cons_succ]
  refine wpAnyH_done (by kernel_rfl) ?_ _
  go_wp2
  go_ret
  exact ⟨rfl, by rw [HG.out]; exact BL.out _ hBr5⟩
  

set_option maxRecDepth 100000 in
set_option maxHeartbeats 4000000 in
theorem klends_lsne (hk : Knows w) (hs : Starts w) (hm : Miss w E) (_ : from_ < 18446744073709551616) (h2 : size < 18446744073709551616) (hl : a.length = 32) (hab : ∀ x ∈ a, x < 256) (hbl : b.length = 32) (cm : CameS w A n c ys) (hn : n ≤ 200) (hgt : ¬ (size : Int) < (from_ : Int)) (hz : ¬ size = 0) (hn0 : ((n : Int) == 0) = true) (hq : decide (a = b) = true) :
    Calls Tryd.prog 5 #[.agg (saidK from_ size a b A n c).toArray] w fun e w' => e = .returned (.bool true) ∧ Below w.heap.size w w' := by
  obtain ⟨w1, hw1⟩ : ∃ w1, w1 = w.alloc (.cells (saidK from_ size a b A n c).toArray 36) := ⟨_, rfl⟩
  have s1 : SaidKAt w1 w.heap.size from_ size a b A n c := by rw [hw1]; exact saidK_new w hl hbl
  have b1 : Below w.heap.size w w1 := by rw [hw1]; exact below_alloc _ _
  obtain ⟨S, hS⟩ : ∃ S, (saidK from_ size a b A n c).toArray = S := ⟨_, rfl⟩
  rw [hS] at hw1 ⊢
  clear hS
  have CA := Lib.hid (fun (W : World) (hW : Below w1.heap.size w1 W) => later (v' := .bool true) hW rfl (kalive_any W E (hk.below (below_on b1 (Nat.le_refl _) hW)) (hs.below (below_on b1 (Nat.le_refl _) hW)) (hm.below (below_on b1 (Nat.le_refl _) hW))))
  have C0 := Lib.hid (fun (W : World) (hW : Below w1.heap.size w1 W) => show Calls Tryd.prog 10 #[.int .u64 0, .int .u64 (size : Int), sv a, sv b, .slice A n c] W fun e w' => e = .returned (.bool false) ∧ Below w1.heap.size w1 w' from later hW rfl (kcheck_far (w := W) (n := n) (c := c) (A := A) (a := a) (b := b) (from_ := 0) (size := size) (by omega)))
  have CE : ∀ W : World, Below w1.heap.size w1 W → Calls Tryd.prog 10 #[.int .u64 (size : Int), .int .u64 (size : Int), sv a, sv b, .slice A n c] W fun e w' => e = .returned (.bool true) ∧ Below w1.heap.size w1 w' := fun W hW => by
    refine later hW ?_ (kcheck_any (from_ := size) (size := size) (cm.in_.below (below_on b1 (Nat.le_refl _) hW)) cm.lt cm.cap (by omega) hl hab hbl h2 (hk.below (below_on b1 (Nat.le_refl _) hW)) (hs.below (below_on b1 (Nat.le_refl _) hW)) (hm.below (below_on b1 (Nat.le_refl _) hW)))
    have : n = 0 := by simpa using hn0
    rw [begins_self hz, hq, this]; rfl
  have HCE := Lib.hid CE
  have z0 : ((size : Int) == 0) = false := by simp; omega
  have q1 := run_eql_sum a b hl hbl
  rw [hq] at q1
  have q2 := run_guard_eql
  have KS := Lib.hid (fun (W : World) (hW : Below w1.heap.size w1 W) => s1.below hW)
  obtain ⟨g, hg0⟩ : ∃ g, w.heap.size = g := ⟨_, rfl⟩
  rw [hg0] at s1 b1 KS
  have c4 := s1.link
  have c0 := s1.from_
  have c1 := s1.size
  have O0 := Lib.hid s1.old
  have N0 := Lib.hid s1.new
  have HW := Lib.hid hw1
  have BL := Lib.hid (fun (W : World) (hW : Below w1.heap.size w1 W) => show Below g w W from below_on b1 (by rw [← hg0]; exact Nat.le_refl _) hW)
  have HG := Lib.hid hg0
  have hni : ¬ (200 : Int) < (n : Int) := by omega
  clear hw1 s1 b1 hn hk hs hm hz hg0 CE cm h2 hab
  go_enter Tryd.func5, Tryd.ntmps5
  go_upto_region 1 with fail
  rw [← HW.out, HG.out]
  go_upto_region 5 with fail
  refine wp_region_held_drew (S := fun W => Below w1.heap.size w1 W) (by kernel_rfl) ((Below.refl _ _).drew) (fun hT0 => ?_)
  change wpAnyH _ _ _ _ _ _ _ _ w1.drew
  refine wpAnyH_ready (rs := [0]) (by kernel_rfl) (by simp) ?_
  refine' AllReadyH.cons (o := _) ?hir0 (fun K hK => ?_) AllReadyH.nil
  case hir0 => (simp only [List.getElem?_toArray, List.getElem?_cons_zero]; rfl)
  go_simp
  go_at_call 7
  refine (CA.out _ hT0).mono ?_
  rintro e Wr2 ⟨rfl, hBr1⟩
  refine hK.out _ _ hBr1 (fun _ => ?_)
  clear hK K
  try simp only [Act.put, List.setIfInBounds_toArray, List.set_cons_zero, List.set_cons_succ]
  refine' wpAnyH_take (i := 1) (oi := _) (v := _) ?hir1 (by kernel_rfl) ?hfr1 ?hrr1 ?hQr1 ?hyr1 hBr1 ?restr1
  case hir1 => (simp only [List.getElem?_toArray, List.getElem?_cons_zero, List.getElem?_cons_succ]; rfl)
  case hfr1 => kernel_rfl
  case hrr1 => kernel_rfl
  case hQr1 => exact fun _ _ _ h => h
  case hyr1 => refine Or.inl ⟨by rfl, ?_⟩; intro W hSw; go_simp; try with_reducible rfl
  try simp only [Act.put, List.setIfInBounds_toArray, List.set_cons_zero, List.set_cons_succ]
  refine' wpAnyH_take (i := 2) (oi := _) (v := _) ?hir2 (by kernel_rfl) ?hfr2 ?hrr2 ?hQr2 ?hyr2 hBr1 ?restr2
  case hir2 => (simp only [List.getElem?_toArray, List.getElem?_cons_zero, List.getElem?_cons_succ]; rfl)
  case hfr2 => kernel_rfl
  case hrr2 => kernel_rfl
  case hQr2 => exact fun _ _ _ h => h
  case hyr2 => refine Or.inl ⟨by rfl, ?_⟩; intro W hSw; go_simp; try with_reducible rfl
  try simp only [Act.put, List.setIfInBounds_toArray, List.set_cons_zero, List.set_cons_succ]
  refine' wpAnyH_take (i := 3) (oi := _) (v := _) ?hir3 (by kernel_rfl) ?hfr3 ?hrr3 ?hQr3 ?hyr3 hBr1 ?restr3
  case hir3 => (simp only [List.getElem?_toArray, List.getElem?_cons_zero, List.getElem?_cons_succ]; rfl)
  case hfr3 => kernel_rfl
  case hrr3 => kernel_rfl
  case hQr3 => exact fun _ _ _ h => h
  case hyr3 => refine Or.inl ⟨by rfl, ?_⟩; intro W hSw; have hcc := (KS.out W hSw).size; go_simp; try with_reducible rfl
  try simp only [Act.put, List.setIfInBounds_toArray, List.set_cons_zero, List.set_cons_succ]
  refine' wpAnyH_take (i := 4) (oi := _) (v := _) ?hir4 (by kernel_rfl) ?hfr4 ?hrr4 ?hQr4 ?hyr4 hBr1 ?restr4
  case hir4 => (simp only [List.getElem?_toArray, List.getElem?_cons_zero, List.getElem?_cons_succ]; rfl)
  case hfr4 => kernel_rfl
  case hrr4 => kernel_rfl
  case hQr4 => exact fun _ _ _ h => h
  case hyr4 => refine Or.inl ⟨by rfl, ?_⟩; intro W hSw; go_simp; try with_reducible rfl
  try simp only [Act.put, List.setIfInBounds_toArray, List.set_cons_zero, List.set_cons_succ]
  refine' wpAnyH_take (i := 5) (oi := _) (v := sv (a)) ?hir5 (by kernel_rfl) ?hfr5 ?hrr5 ?hQr5 ?hyr5 hBr1 ?restr5
  case hir5 => (simp only [List.getElem?_toArray, List.getElem?_cons_zero, List.getElem?_cons_succ]; rfl)
  case hfr5 => kernel_rfl
  case hrr5 => kernel_rfl
  case hQr5 => exact fun _ _ _ h => h
  case hyr5 => refine yields_sum ?_ (.tmp 30) rfl ⟨g, 2, none⟩ rfl a hl (fun W hSw => (KS.out W hSw).old); rfl
  try simp only [Act.put, List.setIfInBounds_toArray, List.set_cons_zero, List.set_cons_succ]
  refine' wpAnyH_take (i := 6) (oi := _) (v := _) ?hir6 (by kernel_rfl) ?hfr6 ?hrr6 ?hQr6 ?hyr6 hBr1 ?restr6
  case hir6 => (simp only [List.getElem?_toArray, List.getElem?_cons_zero, List.getElem?_cons_succ]; rfl)
  case hfr6 => kernel_rfl
  case hrr6 => kernel_rfl
  case hQr6 => exact fun _ _ _ h => h
  case hyr6 => refine Or.inl ⟨by rfl, ?_⟩; intro W hSw; go_simp; try with_reducible rfl
  try simp only [Act.put, List.setIfInBounds_toArray, List.set_cons_zero, List.set_cons_succ]
  refine' wpAnyH_take (i := 7) (oi := _) (v := sv (b)) ?hir7 (by kernel_rfl) ?hfr7 ?hrr7 ?hQr7 ?hyr7 hBr1 ?restr7
  case hir7 => (simp only [List.getElem?_toArray, List.getElem?_cons_zero, List.getElem?_cons_succ]; rfl)
  case hfr7 => kernel_rfl
  case hrr7 => kernel_rfl
  case hQr7 => exact fun _ _ _ h => h
  case hyr7 => refine yields_sum ?_ (.tmp 32) rfl ⟨g, 34, none⟩ rfl b hbl (fun W hSw => (KS.out W hSw).new); rfl
  try simp only [Act.put, List.setIfInBounds_toArray, List.set_cons_zero, List.set_cons_succ]
  refine' wpAnyH_take (i := 8) (oi := _) (v := _) ?hir8 (by kernel_rfl) ?hfr8 ?hrr8 ?hQr8 ?hyr8 hBr1 ?restr8
  case hir8 => (simp only [List.getElem?_toArray, List.getElem?_cons_zero, List.getElem?_cons_succ]; rfl)
  case hfr8 => kernel_rfl
  case hrr8 => kernel_rfl
  case hQr8 => exact fun _ _ _ h => h
  case hyr8 => refine Or.inl ⟨by rfl, ?_⟩; intro W hSw; go_simp; try with_reducible rfl
  try simp only [Act.put, List.setIfInBounds_toArray, List.set_cons_zero, List.set_cons_succ]
  refine' wpAnyH_take (i := 9) (oi := _) (v := _) ?hir9 (by kernel_rfl) ?hfr9 ?hrr9 ?hQr9 ?hyr9 hBr1 ?restr9
  case hir9 => (simp only [List.getElem?_toArray, List.getElem?_cons_zero, List.getElem?_cons_succ]; rfl)
  case hfr9 => kernel_rfl
  case hrr9 => kernel_rfl
  case hQr9 => exact fun _ _ _ h => h
  case hyr9 => refine Or.inl ⟨by rfl, ?_⟩; intro W hSw; have hcc := (KS.out W hSw).link; go_simp; try with_reducible rfl
  try simp only [Act.put, List.setIfInBounds_toArray, List.set_cons_zero, List.set_cons_succ]
  refine wpAnyH_ready (rs := [10]) (by kernel_rfl) (by simp) ?_
  refine' AllReadyH.cons (o := _) ?hir10 (fun K hK => ?_) AllReadyH.nil
  case hir10 => (simp only [List.getElem?_toArray, List.getElem?_cons_zero, List.getElem?_cons_succ]; rfl)
  go_simp
  go_at_call 10
  refine (C0.out _ hBr1).mono ?_
  rintro e Wr4 ⟨rfl, hBr3⟩
  refine hK.out _ _ hBr3 (fun _ => ?_)
  clear hK K
  try simp only [Act.put, List.setIfInBounds_toArray, List.set_cons_zero, List.set_cons_succ]
  refine' wpAnyH_take (i := 11) (oi := _) (v := _) ?hir11 (by kernel_rfl) ?hfr11 ?hrr11 ?hQr11 ?hyr11 hBr3 ?restr11
  case hir11 => (simp only [List.getElem?_toArray, List.getElem?_cons_zero, List.getElem?_cons_succ]; rfl)
  case hfr11 => kernel_rfl
  case hrr11 => kernel_rfl
  case hQr11 => exact fun _ _ _ h => h
  case hyr11 => refine Or.inl ⟨by rfl, ?_⟩; intro W hSw; go_simp; try with_reducible rfl
  try simp only [Act.put, List.setIfInBounds_toArray, List.set_cons_zero, List.set_cons_succ]
  refine' wpAnyH_take (i := 12) (oi := _) (v := _) ?hir12 (by kernel_rfl) ?hfr12 ?hrr12 ?hQr12 ?hyr12 hBr3 ?restr12
  case hir12 => (simp only [List.getElem?_toArray, List.getElem?_cons_zero, List.getElem?_cons_succ]; rfl)
  case hfr12 => kernel_rfl
  case hrr12 => kernel_rfl
  case hQr12 => exact fun _ _ _ h => h
  case hyr12 => refine Or.inl ⟨by rfl, ?_⟩; intro W hSw; go_simp; try with_reducible rfl
  try simp only [Act.put, List.setIfInBounds_toArray, List.set_cons_zero, List.set_cons_succ]
  refine' wpAnyH_take (i := 13) (oi := _) (v := _) ?hir13 (by kernel_rfl) ?hfr13 ?hrr13 ?hQr13 ?hyr13 hBr3 ?restr13
  case hir13 => (simp only [List.getElem?_toArray, List.getElem?_cons_zero, List.getElem?_cons_succ]; rfl)
  case hfr13 => kernel_rfl
  case hrr13 => kernel_rfl
  case hQr13 => exact fun _ _ _ h => h
  case hyr13 => refine Or.inl ⟨by rfl, ?_⟩; intro W hSw; go_simp; try with_reducible rfl
  try simp only [Act.put, List.setIfInBounds_toArray, List.set_cons_zero, List.set_cons_succ]
  refine' wpAnyH_take (i := 14) (oi := _) (v := _) ?hir14 (by kernel_rfl) ?hfr14 ?hrr14 ?hQr14 ?hyr14 hBr3 ?restr14
  case hir14 => (simp only [List.getElem?_toArray, List.getElem?_cons_zero, List.getElem?_cons_succ]; rfl)
  case hfr14 => kernel_rfl
  case hrr14 => kernel_rfl
  case hQr14 => exact fun _ _ _ h => h
  case hyr14 => refine Or.inl ⟨by rfl, ?_⟩; intro W hSw; go_simp; try with_reducible rfl
  try simp only [Act.put, List.setIfInBounds_toArray, List.set_cons_zero, List.set_cons_succ]
  refine' wpAnyH_take (i := 15) (oi := _) (v := _) ?hir15 (by kernel_rfl) ?hfr15 ?hrr15 ?hQr15 ?hyr15 hBr3 ?restr15
  case hir15 => (simp only [List.getElem?_toArray, List.getElem?_cons_zero, List.getElem?_cons_succ]; rfl)
  case hfr15 => kernel_rfl
  case hrr15 => kernel_rfl
  case hQr15 => exact fun _ _ _ h => h
  case hyr15 => refine Or.inl ⟨by rfl, ?_⟩; intro W hSw; have hcc := (KS.out W hSw).size; go_simp; try with_reducible rfl
  try simp only [Act.put, List.setIfInBounds_toArray, List.set_cons_zero, List.set_cons_succ]
  refine' wpAnyH_take (i := 16) (oi := _) (v := _) ?hir16 (by kernel_rfl) ?hfr16 ?hrr16 ?hQr16 ?hyr16 hBr3 ?restr16
  case hir16 => (simp only [List.getElem?_toArray, List.getElem?_cons_zero, List.getElem?_cons_succ]; rfl)
  case hfr16 => kernel_rfl
  case hrr16 => kernel_rfl
  case hQr16 => exact fun _ _ _ h => h
  case hyr16 => refine Or.inl ⟨by rfl, ?_⟩; intro W hSw; go_simp; try with_reducible rfl
  try simp only [Act.put, List.setIfInBounds_toArray, List.set_cons_zero, List.set_cons_succ]
  refine' wpAnyH_take (i := 17) (oi := _) (v := _) ?hir17 (by kernel_rfl) ?hfr17 ?hrr17 ?hQr17 ?hyr17 hBr3 ?restr17
  case hir17 => (simp only [List.getElem?_toArray, List.getElem?_cons_zero, List.getElem?_cons_succ]; rfl)
  case hfr17 => kernel_rfl
  case hrr17 => kernel_rfl
  case hQr17 => exact fun _ _ _ h => h
  case hyr17 => refine Or.inl ⟨by rfl, ?_⟩; intro W hSw; go_simp; try with_reducible rfl
  try simp only [Act.put, List.setIfInBounds_toArray, List.set_cons_zero, List.set_cons_succ]
  refine' wpAnyH_take (i := 18) (oi := _) (v := _) ?hir18 (by kernel_rfl) ?hfr18 ?hrr18 ?hQr18 ?hyr18 hBr3 ?restr18
  case hir18 => (simp only [List.getElem?_toArray, List.getElem?_cons_zero, List.getElem?_cons_succ]; rfl)
  case hfr18 => kernel_rfl
  case hrr18 => kernel_rfl
  case hQr18 => exact fun _ _ _ h => h
  case hyr18 => refine Or.inl ⟨by rfl, ?_⟩; intro W hSw; go_simp; try with_reducible rfl
  try simp only [Act.put, List.setIfInBounds_toArray, List.set_cons_zero, List.set_cons_succ]
  refine' wpAnyH_take (i := 19) (oi := _) (v := _) ?hir19 (by kernel_rfl) ?hfr19 ?hrr19 ?hQr19 ?hyr19 hBr3 ?restr19
  case hir19 => (simp only [List.getElem?_toArray, List.getElem?_cons_zero, List.getElem?_cons_succ]; rfl)
  case hfr19 => kernel_rfl
  case hrr19 => kernel_rfl
  case hQr19 => exact fun _ _ _ h => h
  case hyr19 => refine Or.inl ⟨by rfl, ?_⟩; intro W hSw; have hcc := (KS.out W hSw).size; go_simp; try with_reducible rfl
  try simp only [Act.put, List.setIfInBounds_toArray, List.set_cons_zero, List.set_cons_succ]
  refine' wpAnyH_take (i := 20) (oi := _) (v := _) ?hir20 (by kernel_rfl) ?hfr20 ?hrr20 ?hQr20 ?hyr20 hBr3 ?restr20
  case hir20 => (simp only [List.getElem?_toArray, List.getElem?_cons_zero, List.getElem?_cons_succ]; rfl)
  case hfr20 => kernel_rfl
  case hrr20 => kernel_rfl
  case hQr20 => exact fun _ _ _ h => h
  case hyr20 => refine Or.inl ⟨by rfl, ?_⟩; intro W hSw; go_simp; try with_reducible rfl
  try simp only [Act.put, List.setIfInBounds_toArray, List.set_cons_zero, List.set_cons_succ]
  refine' wpAnyH_take (i := 21) (oi := _) (v := _) ?hir21 (by kernel_rfl) ?hfr21 ?hrr21 ?hQr21 ?hyr21 hBr3 ?restr21
  case hir21 => (simp only [List.getElem?_toArray, List.getElem?_cons_zero, List.getElem?_cons_succ]; rfl)
  case hfr21 => kernel_rfl
  case hrr21 => kernel_rfl
  case hQr21 => exact fun _ _ _ h => h
  case hyr21 => refine Or.inl ⟨by rfl, ?_⟩; intro W hSw; have hcc := (KS.out W hSw).size; go_simp; try with_reducible rfl
  try simp only [Act.put, List.setIfInBounds_toArray, List.set_cons_zero, List.set_cons_succ]
  refine' wpAnyH_take (i := 22) (oi := _) (v := _) ?hir22 (by kernel_rfl) ?hfr22 ?hrr22 ?hQr22 ?hyr22 hBr3 ?restr22
  case hir22 => (simp only [List.getElem?_toArray, List.getElem?_cons_zero, List.getElem?_cons_succ]; rfl)
  case hfr22 => kernel_rfl
  case hrr22 => kernel_rfl
  case hQr22 => exact fun _ _ _ h => h
  case hyr22 => refine Or.inl ⟨by rfl, ?_⟩; intro W hSw; go_simp; try with_reducible rfl
  try simp only [Act.put, List.setIfInBounds_toArray, List.set_cons_zero, List.set_cons_succ]
  refine' wpAnyH_take (i := 23) (oi := _) (v := sv (a)) ?hir23 (by kernel_rfl) ?hfr23 ?hrr23 ?hQr23 ?hyr23 hBr3 ?restr23
  case hir23 => (simp only [List.getElem?_toArray, List.getElem?_cons_zero, List.getElem?_cons_succ]; rfl)
  case hfr23 => kernel_rfl
  case hrr23 => kernel_rfl
  case hQr23 => exact fun _ _ _ h => h
  case hyr23 => refine yields_sum ?_ (.tmp 48) rfl ⟨g, 2, none⟩ rfl a hl (fun W hSw => (KS.out W hSw).old); rfl
  try simp only [Act.put, List.setIfInBounds_toArray, List.set_cons_zero, List.set_cons_succ]
  refine' wpAnyH_take (i := 24) (oi := _) (v := _) ?hir24 (by kernel_rfl) ?hfr24 ?hrr24 ?hQr24 ?hyr24 hBr3 ?restr24
  case hir24 => (simp only [List.getElem?_toArray, List.getElem?_cons_zero, List.getElem?_cons_succ]; rfl)
  case hfr24 => kernel_rfl
  case hrr24 => kernel_rfl
  case hQr24 => exact fun _ _ _ h => h
  case hyr24 => refine Or.inl ⟨by rfl, ?_⟩; intro W hSw; go_simp; try with_reducible rfl
  try simp only [Act.put, List.setIfInBounds_toArray, List.set_cons_zero, List.set_cons_succ]
  refine' wpAnyH_take (i := 25) (oi := _) (v := sv (b)) ?hir25 (by kernel_rfl) ?hfr25 ?hrr25 ?hQr25 ?hyr25 hBr3 ?restr25
  case hir25 => (simp only [List.getElem?_toArray, List.getElem?_cons_zero, List.getElem?_cons_succ]; rfl)
  case hfr25 => kernel_rfl
  case hrr25 => kernel_rfl
  case hQr25 => exact fun _ _ _ h => h
  case hyr25 => refine yields_sum ?_ (.tmp 50) rfl ⟨g, 34, none⟩ rfl b hbl (fun W hSw => (KS.out W hSw).new); rfl
  try simp only [Act.put, List.setIfInBounds_toArray, List.set_cons_zero, List.set_cons_succ]
  refine' wpAnyH_take (i := 26) (oi := _) (v := _) ?hir26 (by kernel_rfl) ?hfr26 ?hrr26 ?hQr26 ?hyr26 hBr3 ?restr26
  case hir26 => (simp only [List.getElem?_toArray, List.getElem?_cons_zero, List.getElem?_cons_succ]; rfl)
  case hfr26 => kernel_rfl
  case hrr26 => kernel_rfl
  case hQr26 => exact fun _ _ _ h => h
  case hyr26 => refine Or.inl ⟨by rfl, ?_⟩; intro W hSw; go_simp; try with_reducible rfl
  try simp only [Act.put, List.setIfInBounds_toArray, List.set_cons_zero, List.set_cons_succ]
  refine' wpAnyH_take (i := 27) (oi := _) (v := _) ?hir27 (by kernel_rfl) ?hfr27 ?hrr27 ?hQr27 ?hyr27 hBr3 ?restr27
  case hir27 => (simp only [List.getElem?_toArray, List.getElem?_cons_zero, List.getElem?_cons_succ]; rfl)
  case hfr27 => kernel_rfl
  case hrr27 => kernel_rfl
  case hQr27 => exact fun _ _ _ h => h
  case hyr27 => refine Or.inl ⟨by rfl, ?_⟩; intro W hSw; have hcc := (KS.out W hSw).link; go_simp; try with_reducible rfl
  try simp only [Act.put, List.setIfInBounds_toArray, List.set_cons_zero, List.set_cons_succ]
  refine' wpAnyH_take (i := 29) (oi := _) (v := _) ?hir29 (by kernel_rfl) ?hfr29 ?hrr29 ?hQr29 ?hyr29 hBr3 ?restr29
  case hir29 => (simp only [List.getElem?_toArray, List.getElem?_cons_zero, List.getElem?_cons_succ]; rfl)
  case hfr29 => kernel_rfl
  case hrr29 => kernel_rfl
  case hQr29 => exact fun _ _ _ h => h
  case hyr29 => refine Or.inl ⟨by rfl, ?_⟩; intro W hSw; go_simp; try with_reducible rfl
  try simp only [Act.put, List.setIfInBounds_toArray, List.set_cons_zero, List.set_cons_succ]
  refine' wpAnyH_take (i := 30) (oi := _) (v := _) ?hir30 (by kernel_rfl) ?hfr30 ?hrr30 ?hQr30 ?hyr30 hBr3 ?restr30
  case hir30 => (simp only [List.getElem?_toArray, List.getElem?_cons_zero, List.getElem?_cons_succ]; rfl)
  case hfr30 => kernel_rfl
  case hrr30 => kernel_rfl
  case hQr30 => exact fun _ _ _ h => h
  case hyr30 => refine Or.inl ⟨by rfl, ?_⟩; intro W hSw; have hcc := (KS.out W hSw).link; go_simp; try with_reducible rfl
  try simp only [Act.put, List.setIfInBounds_toArray, List.set_cons_zero, List.set_cons_succ]
  refine' wpAnyH_take (i := 31) (oi := _) (v := _) ?hir31 (by kernel_rfl) ?hfr31 ?hrr31 ?hQr31 ?hyr31 hBr3 ?restr31
  case hir31 => (simp only [List.getElem?_toArray, List.getElem?_cons_zero, List.getElem?_cons_succ]; rfl)
  case hfr31 => kernel_rfl
  case hrr31 => kernel_rfl
  case hQr31 => exact fun _ _ _ h => h
  case hyr31 => refine Or.inl ⟨by rfl, ?_⟩; intro W hSw; go_simp; try with_reducible rfl
  try simp only [Act.put, List.setIfInBounds_toArray, List.set_cons_zero, List.set_cons_succ]
  refine' wpAnyH_take (i := 32) (oi := _) (v := _) ?hir32 (by kernel_rfl) ?hfr32 ?hrr32 ?hQr32 ?hyr32 hBr3 ?restr32
  case hir32 => (simp only [List.getElem?_toArray, List.getElem?_cons_zero, List.getElem?_cons_succ]; rfl)
  case hfr32 => kernel_rfl
  case hrr32 => kernel_rfl
  case hQr32 => exact fun _ _ _ h => h
  case hyr32 => refine Or.inl ⟨by rfl, ?_⟩; intro W hSw; go_simp; try with_reducible rfl
  try simp only [Act.put, List.setIfInBounds_toArray, List.set_cons_zero, List.set_cons_succ]
  refine wpAnyH_ready (rs := [28]) (by kernel_rfl) (by simp) ?_
  refine' AllReadyH.cons (o := _) ?hir28 (fun K hK => ?_) AllReadyH.nil
  case hir28 => (simp only [List.getElem?_toArray, List.getElem?_cons_zero, List.getElem?_cons_succ]; rfl)
  go_simp
  go_at_call 10
  refine (HCE.out _ hBr3).mono ?_
  rintro e Wr6 ⟨rfl, hBr5⟩
  refine hK.out _ _ hBr5 (fun _ => ?_)
  clear hK K
  try simp only [Act.put, List.setIfInBounds_toArray, List.set_cons_zero, List.set_cons_succ]
  refine' wpAnyH_take (i := 33) (oi := _) (v := _) ?hir33 (by kernel_rfl) ?hfr33 ?hrr33 ?hQr33 ?hyr33 hBr5 ?restr33
  case hir33 => (simp only [List.getElem?_toArray, List.getElem?_cons_zero, List.getElem?_cons_succ]; rfl)
  case hfr33 => kernel_rfl
  case hrr33 => kernel_rfl
  case hQr33 => exact fun _ _ _ h => h
  case hyr33 => refine Or.inl ⟨by rfl, ?_⟩; intro W hSw; go_simp; try with_reducible rfl
  try simp only [Act.put, List.setIfInBounds_toArray, List.set_cons_zero, List.set_cons_succ]
  refine' wpAnyH_take (i := 34) (oi := _) (v := _) ?hir34 (by kernel_rfl) ?hfr34 ?hrr34 ?hQr34 ?hyr34 hBr5 ?restr34
  case hir34 => (simp only [List.getElem?_toArray, List.getElem?_cons_zero, List.getElem?_cons_succ]; rfl)
  case hfr34 => kernel_rfl
  case hrr34 => kernel_rfl
  case hQr34 => exact fun _ _ _ h => h
  case hyr34 => refine Or.inl ⟨by rfl, ?_⟩; intro W hSw; go_simp; try with_reducible rfl
  try simp only [Act.put, List.setIfInBounds_toArray, List.set_cons_zero, List.set_cons_succ]
  refine' wpAnyH_take (i := 35) (oi := _) (v := sv (a)) ?hir35 (by kernel_rfl) ?hfr35 ?hrr35 ?hQr35 ?hyr35 hBr5 ?restr35
  case hir35 => (simp only [List.getElem?_toArray, List.getElem?_cons_zero, List.getElem?_cons_succ]; rfl)
  case hfr35 => kernel_rfl
  case hrr35 => kernel_rfl
  case hQr35 => exact fun _ _ _ h => h
  case hyr35 => refine yields_sum ?_ (.tmp 60) rfl ⟨g, 2, none⟩ rfl a hl (fun W hSw => (KS.out W hSw).old); rfl
  try simp only [Act.put, List.setIfInBounds_toArray, List.set_cons_zero, List.set_cons_succ]
  refine' wpAnyH_take (i := 36) (oi := _) (v := _) ?hir36 (by kernel_rfl) ?hfr36 ?hrr36 ?hQr36 ?hyr36 hBr5 ?restr36
  case hir36 => (simp only [List.getElem?_toArray, List.getElem?_cons_zero, List.getElem?_cons_succ]; rfl)
  case hfr36 => kernel_rfl
  case hrr36 => kernel_rfl
  case hQr36 => exact fun _ _ _ h => h
  case hyr36 => refine Or.inl ⟨by rfl, ?_⟩; intro W hSw; go_simp; try with_reducible rfl
  try simp only [Act.put, List.setIfInBounds_toArray, List.set_cons_zero, List.set_cons_succ]
  refine' wpAnyH_take (i := 37) (oi := _) (v := sv (b)) ?hir37 (by kernel_rfl) ?hfr37 ?hrr37 ?hQr37 ?hyr37 hBr5 ?restr37
  case hir37 => (simp only [List.getElem?_toArray, List.getElem?_cons_zero, List.getElem?_cons_succ]; rfl)
  case hfr37 => kernel_rfl
  case hrr37 => kernel_rfl
  case hQr37 => exact fun _ _ _ h => h
  case hyr37 => refine yields_sum ?_ (.tmp 62) rfl ⟨g, 34, none⟩ rfl b hbl (fun W hSw => (KS.out W hSw).new); rfl
  try simp only [Act.put, List.setIfInBounds_toArray, List.set_cons_zero, List.set_cons_succ]
  refine' wpAnyH_take (i := 38) (oi := _) (v := _) ?hir38 (by kernel_rfl) ?hfr38 ?hrr38 ?hQr38 ?hyr38 hBr5 ?restr38
  case hir38 => (simp only [List.getElem?_toArray, List.getElem?_cons_zero, List.getElem?_cons_succ]; rfl)
  case hfr38 => kernel_rfl
  case hrr38 => kernel_rfl
  case hQr38 => exact fun _ _ _ h => h
  case hyr38 => refine Or.inl ⟨by rfl, ?_⟩; intro W hSw; go_simp; try with_reducible rfl
  try simp only [Act.put, List.setIfInBounds_toArray, List.set_cons_zero, List.set_cons_succ]
  refine' wpAnyH_take (i := 39) (oi := _) (v := _) ?hir39 (by kernel_rfl) ?hfr39 ?hrr39 ?hQr39 ?hyr39 hBr5 ?restr39
  case hir39 => (simp only [List.getElem?_toArray, List.getElem?_cons_zero, List.getElem?_cons_succ]; rfl)
  case hfr39 => kernel_rfl
  case hrr39 => kernel_rfl
  case hQr39 => exact fun _ _ _ h => h
  case hyr39 => refine Or.inl ⟨by rfl, ?_⟩; intro W hSw; go_simp; try with_reducible rfl
  try simp only [Act.put, List.setIfInBounds_toArray, List.set_cons_zero, List.set_cons_succ]
  refine' wpAnyH_take (i := 40) (oi := _) (v := _) ?hir40 (by kernel_rfl) ?hfr40 ?hrr40 ?hQr40 ?hyr40 hBr5 ?restr40
  case hir40 => (simp only [List.getElem?_toArray, List.getElem?_cons_zero, List.getElem?_cons_succ]; rfl)
  case hfr40 => kernel_rfl
  case hrr40 => kernel_rfl
  case hQr40 => exact fun _ _ _ h => h
  case hyr40 => refine Or.inl ⟨by rfl, ?_⟩; intro W hSw; go_simp; try with_reducible rfl
  try simp only [Act.put, List.setIfInBounds_toArray, List.set_cons_zero, List.set_cons_succ]
  refine' wpAnyH_take (i := 41) (oi := _) (v := _) ?hir41 (by kernel_rfl) ?hfr41 ?hrr41 ?hQr41 ?hyr41 hBr5 ?restr41
  case hir41 => (simp only [List.getElem?_toArray, List.getElem?_cons_zero, List.getElem?_cons_succ]; rfl)
  case hfr41 => kernel_rfl
  case hrr41 => kernel_rfl
  case hQr41 => exact fun _ _ _ h => h
  case hyr41 => refine Or.inl ⟨by rfl, ?_⟩; intro W hSw; go_simp; try with_reducible rfl
  try simp only [Act.put, List.setIfInBounds_toArray, List.set_cons_zero, List.set_cons_succ]
  refine' wpAnyH_take (i := 42) (oi := _) (v := _) ?hir42 (by kernel_rfl) ?hfr42 ?hrr42 ?hQr42 ?hyr42 hBr5 ?restr42
  case hir42 => (simp only [List.getElem?_toArray, List.getElem?_cons_zero, List.getElem?_cons_succ]; rfl)
  case hfr42 => kernel_rfl
  case hrr42 => kernel_rfl
  case hQr42 => exact fun _ _ _ h => h
  case hyr42 => refine Or.inl ⟨by rfl, ?_⟩; intro W hSw; go_simp; try with_reducible rfl
  try simp only [Act.put, List.setIfInBounds_toArray, List.set_cons_zero, List.set_cons_succ]
  refine' wpAnyH_take (i := 43) (oi := _) (v := _) ?hir43 (by kernel_rfl) ?hfr43 ?hrr43 ?hQr43 ?hyr43 hBr5 ?restr43
  case hir43 => (simp only [List.getElem?_toArray, List.getElem?_cons_zero, List.getElem?_cons_succ]; rfl)
  case hfr43 => kernel_rfl
  case hrr43 => kernel_rfl
  case hQr43 => exact fun _ _ _ h => h
  case hyr43 => refine Or.inl ⟨by rfl, ?_⟩; intro W hSw; go_simp; try with_reducible rfl
  try simp only [Act.put, List.setIfInBounds_toArray, List.set_cons_zero, List.set_cons_succ]
  refine wpAnyH_done (by kernel_rfl) ?_ _
  go_wp2
  go_ret
  exact ⟨rfl, by rw [HG.out]; exact BL.out _ hBr5⟩
  

set_option maxRecDepth 100000 in
set_option maxHeartbeats 4000000 in
theorem klends_lsnd (hk : Knows w) (hs : Starts w) (hm : Miss w E) (_ : from_ < 18446744073709551616) (h2 : size < 18446744073709551616) (hl : a.length = 32) (hab : ∀ x ∈ a, x < 256) (hbl : b.length = 32) (cm : CameS w A n c ys) (hn : n ≤ 200) (hgt : ¬ (size : Int) < (from_ : Int)) (hz : ¬ size = 0) (hn0 : ((n : Int) == 0) = true) (hq : decide (a = b) = false) :
    Calls Tryd.prog 5 #[.agg (saidK from_ size a b A n c).toArray] w fun e w' => e = .returned (.bool true) ∧ Below w.heap.size w w' := by
  obtain ⟨w1, hw1⟩ : ∃ w1, w1 = w.alloc (.cells (saidK from_ size a b A n c).toArray 36) := ⟨_, rfl⟩
  have s1 : SaidKAt w1 w.heap.size from_ size a b A n c := by rw [hw1]; exact saidK_new w hl hbl
  have b1 : Below w.heap.size w w1 := by rw [hw1]; exact below_alloc _ _
  obtain ⟨S, hS⟩ : ∃ S, (saidK from_ size a b A n c).toArray = S := ⟨_, rfl⟩
  rw [hS] at hw1 ⊢
  clear hS
  have CA := Lib.hid (fun (W : World) (hW : Below w1.heap.size w1 W) => later (v' := .bool true) hW rfl (kalive_any W E (hk.below (below_on b1 (Nat.le_refl _) hW)) (hs.below (below_on b1 (Nat.le_refl _) hW)) (hm.below (below_on b1 (Nat.le_refl _) hW))))
  have C0 := Lib.hid (fun (W : World) (hW : Below w1.heap.size w1 W) => show Calls Tryd.prog 10 #[.int .u64 0, .int .u64 (size : Int), sv a, sv b, .slice A n c] W fun e w' => e = .returned (.bool false) ∧ Below w1.heap.size w1 w' from later hW rfl (kcheck_far (w := W) (n := n) (c := c) (A := A) (a := a) (b := b) (from_ := 0) (size := size) (by omega)))
  have CE : ∀ W : World, Below w1.heap.size w1 W → Calls Tryd.prog 10 #[.int .u64 (size : Int), .int .u64 (size : Int), sv a, sv b, .slice A n c] W fun e w' => e = .returned (.bool false) ∧ Below w1.heap.size w1 w' := fun W hW => by
    refine later hW ?_ (kcheck_any (from_ := size) (size := size) (cm.in_.below (below_on b1 (Nat.le_refl _) hW)) cm.lt cm.cap (by omega) hl hab hbl h2 (hk.below (below_on b1 (Nat.le_refl _) hW)) (hs.below (below_on b1 (Nat.le_refl _) hW)) (hm.below (below_on b1 (Nat.le_refl _) hW)))
    have : n = 0 := by simpa using hn0
    rw [begins_self hz, hq, this]; rfl
  have HCE := Lib.hid CE
  have z0 : ((size : Int) == 0) = false := by simp; omega
  have q1 := run_eql_sum a b hl hbl
  rw [hq] at q1
  have q2 := run_guard_eql
  have KS := Lib.hid (fun (W : World) (hW : Below w1.heap.size w1 W) => s1.below hW)
  obtain ⟨g, hg0⟩ : ∃ g, w.heap.size = g := ⟨_, rfl⟩
  rw [hg0] at s1 b1 KS
  have c4 := s1.link
  have c0 := s1.from_
  have c1 := s1.size
  have O0 := Lib.hid s1.old
  have N0 := Lib.hid s1.new
  have HW := Lib.hid hw1
  have BL := Lib.hid (fun (W : World) (hW : Below w1.heap.size w1 W) => show Below g w W from below_on b1 (by rw [← hg0]; exact Nat.le_refl _) hW)
  have HG := Lib.hid hg0
  have hni : ¬ (200 : Int) < (n : Int) := by omega
  clear hw1 s1 b1 hn hk hs hm hz hg0 CE cm h2 hab
  go_enter Tryd.func5, Tryd.ntmps5
  go_upto_region 1 with fail
  rw [← HW.out, HG.out]
  go_upto_region 5 with fail
  refine wp_region_held_drew (S := fun W => Below w1.heap.size w1 W) (by kernel_rfl) ((Below.refl _ _).drew) (fun hT0 => ?_)
  change wpAnyH _ _ _ _ _ _ _ _ w1.drew
  refine wpAnyH_ready (rs := [0]) (by kernel_rfl) (by simp) ?_
  refine' AllReadyH.cons (o := _) ?hir0 (fun K hK => ?_) AllReadyH.nil
  case hir0 => (simp only [List.getElem?_toArray, List.getElem?_cons_zero]; rfl)
  go_simp
  go_at_call 7
  refine (CA.out _ hT0).mono ?_
  rintro e Wr2 ⟨rfl, hBr1⟩
  refine hK.out _ _ hBr1 (fun _ => ?_)
  clear hK K
  try simp only [Act.put, List.setIfInBounds_toArray, List.set_cons_zero, List.set_cons_succ]
  refine' wpAnyH_take (i := 1) (oi := _) (v := _) ?hir1 (by kernel_rfl) ?hfr1 ?hrr1 ?hQr1 ?hyr1 hBr1 ?restr1
  case hir1 => (simp only [List.getElem?_toArray, List.getElem?_cons_zero, List.getElem?_cons_succ]; rfl)
  case hfr1 => kernel_rfl
  case hrr1 => kernel_rfl
  case hQr1 => exact fun _ _ _ h => h
  case hyr1 => refine Or.inl ⟨by rfl, ?_⟩; intro W hSw; go_simp; try with_reducible rfl
  try simp only [Act.put, List.setIfInBounds_toArray, List.set_cons_zero, List.set_cons_succ]
  refine' wpAnyH_take (i := 2) (oi := _) (v := _) ?hir2 (by kernel_rfl) ?hfr2 ?hrr2 ?hQr2 ?hyr2 hBr1 ?restr2
  case hir2 => (simp only [List.getElem?_toArray, List.getElem?_cons_zero, List.getElem?_cons_succ]; rfl)
  case hfr2 => kernel_rfl
  case hrr2 => kernel_rfl
  case hQr2 => exact fun _ _ _ h => h
  case hyr2 => refine Or.inl ⟨by rfl, ?_⟩; intro W hSw; go_simp; try with_reducible rfl
  try simp only [Act.put, List.setIfInBounds_toArray, List.set_cons_zero, List.set_cons_succ]
  refine' wpAnyH_take (i := 3) (oi := _) (v := _) ?hir3 (by kernel_rfl) ?hfr3 ?hrr3 ?hQr3 ?hyr3 hBr1 ?restr3
  case hir3 => (simp only [List.getElem?_toArray, List.getElem?_cons_zero, List.getElem?_cons_succ]; rfl)
  case hfr3 => kernel_rfl
  case hrr3 => kernel_rfl
  case hQr3 => exact fun _ _ _ h => h
  case hyr3 => refine Or.inl ⟨by rfl, ?_⟩; intro W hSw; have hcc := (KS.out W hSw).size; go_simp; try with_reducible rfl
  try simp only [Act.put, List.setIfInBounds_toArray, List.set_cons_zero, List.set_cons_succ]
  refine' wpAnyH_take (i := 4) (oi := _) (v := _) ?hir4 (by kernel_rfl) ?hfr4 ?hrr4 ?hQr4 ?hyr4 hBr1 ?restr4
  case hir4 => (simp only [List.getElem?_toArray, List.getElem?_cons_zero, List.getElem?_cons_succ]; rfl)
  case hfr4 => kernel_rfl
  case hrr4 => kernel_rfl
  case hQr4 => exact fun _ _ _ h => h
  case hyr4 => refine Or.inl ⟨by rfl, ?_⟩; intro W hSw; go_simp; try with_reducible rfl
  try simp only [Act.put, List.setIfInBounds_toArray, List.set_cons_zero, List.set_cons_succ]
  refine' wpAnyH_take (i := 5) (oi := _) (v := sv (a)) ?hir5 (by kernel_rfl) ?hfr5 ?hrr5 ?hQr5 ?hyr5 hBr1 ?restr5
  case hir5 => (simp only [List.getElem?_toArray, List.getElem?_cons_zero, List.getElem?_cons_succ]; rfl)
  case hfr5 => kernel_rfl
  case hrr5 => kernel_rfl
  case hQr5 => exact fun _ _ _ h => h
  case hyr5 => refine yields_sum ?_ (.tmp 30) rfl ⟨g, 2, none⟩ rfl a hl (fun W hSw => (KS.out W hSw).old); rfl
  try simp only [Act.put, List.setIfInBounds_toArray, List.set_cons_zero, List.set_cons_succ]
  refine' wpAnyH_take (i := 6) (oi := _) (v := _) ?hir6 (by kernel_rfl) ?hfr6 ?hrr6 ?hQr6 ?hyr6 hBr1 ?restr6
  case hir6 => (simp only [List.getElem?_toArray, List.getElem?_cons_zero, List.getElem?_cons_succ]; rfl)
  case hfr6 => kernel_rfl
  case hrr6 => kernel_rfl
  case hQr6 => exact fun _ _ _ h => h
  case hyr6 => refine Or.inl ⟨by rfl, ?_⟩; intro W hSw; go_simp; try with_reducible rfl
  try simp only [Act.put, List.setIfInBounds_toArray, List.set_cons_zero, List.set_cons_succ]
  refine' wpAnyH_take (i := 7) (oi := _) (v := sv (b)) ?hir7 (by kernel_rfl) ?hfr7 ?hrr7 ?hQr7 ?hyr7 hBr1 ?restr7
  case hir7 => (simp only [List.getElem?_toArray, List.getElem?_cons_zero, List.getElem?_cons_succ]; rfl)
  case hfr7 => kernel_rfl
  case hrr7 => kernel_rfl
  case hQr7 => exact fun _ _ _ h => h
  case hyr7 => refine yields_sum ?_ (.tmp 32) rfl ⟨g, 34, none⟩ rfl b hbl (fun W hSw => (KS.out W hSw).new); rfl
  try simp only [Act.put, List.setIfInBounds_toArray, List.set_cons_zero, List.set_cons_succ]
  refine' wpAnyH_take (i := 8) (oi := _) (v := _) ?hir8 (by kernel_rfl) ?hfr8 ?hrr8 ?hQr8 ?hyr8 hBr1 ?restr8
  case hir8 => (simp only [List.getElem?_toArray, List.getElem?_cons_zero, List.getElem?_cons_succ]; rfl)
  case hfr8 => kernel_rfl
  case hrr8 => kernel_rfl
  case hQr8 => exact fun _ _ _ h => h
  case hyr8 => refine Or.inl ⟨by rfl, ?_⟩; intro W hSw; go_simp; try with_reducible rfl
  try simp only [Act.put, List.setIfInBounds_toArray, List.set_cons_zero, List.set_cons_succ]
  refine' wpAnyH_take (i := 9) (oi := _) (v := _) ?hir9 (by kernel_rfl) ?hfr9 ?hrr9 ?hQr9 ?hyr9 hBr1 ?restr9
  case hir9 => (simp only [List.getElem?_toArray, List.getElem?_cons_zero, List.getElem?_cons_succ]; rfl)
  case hfr9 => kernel_rfl
  case hrr9 => kernel_rfl
  case hQr9 => exact fun _ _ _ h => h
  case hyr9 => refine Or.inl ⟨by rfl, ?_⟩; intro W hSw; have hcc := (KS.out W hSw).link; go_simp; try with_reducible rfl
  try simp only [Act.put, List.setIfInBounds_toArray, List.set_cons_zero, List.set_cons_succ]
  refine wpAnyH_ready (rs := [10]) (by kernel_rfl) (by simp) ?_
  refine' AllReadyH.cons (o := _) ?hir10 (fun K hK => ?_) AllReadyH.nil
  case hir10 => (simp only [List.getElem?_toArray, List.getElem?_cons_zero, List.getElem?_cons_succ]; rfl)
  go_simp
  go_at_call 10
  refine (C0.out _ hBr1).mono ?_
  rintro e Wr4 ⟨rfl, hBr3⟩
  refine hK.out _ _ hBr3 (fun _ => ?_)
  clear hK K
  try simp only [Act.put, List.setIfInBounds_toArray, List.set_cons_zero, List.set_cons_succ]
  refine' wpAnyH_take (i := 11) (oi := _) (v := _) ?hir11 (by kernel_rfl) ?hfr11 ?hrr11 ?hQr11 ?hyr11 hBr3 ?restr11
  case hir11 => (simp only [List.getElem?_toArray, List.getElem?_cons_zero, List.getElem?_cons_succ]; rfl)
  case hfr11 => kernel_rfl
  case hrr11 => kernel_rfl
  case hQr11 => exact fun _ _ _ h => h
  case hyr11 => refine Or.inl ⟨by rfl, ?_⟩; intro W hSw; go_simp; try with_reducible rfl
  try simp only [Act.put, List.setIfInBounds_toArray, List.set_cons_zero, List.set_cons_succ]
  refine' wpAnyH_take (i := 12) (oi := _) (v := _) ?hir12 (by kernel_rfl) ?hfr12 ?hrr12 ?hQr12 ?hyr12 hBr3 ?restr12
  case hir12 => (simp only [List.getElem?_toArray, List.getElem?_cons_zero, List.getElem?_cons_succ]; rfl)
  case hfr12 => kernel_rfl
  case hrr12 => kernel_rfl
  case hQr12 => exact fun _ _ _ h => h
  case hyr12 => refine Or.inl ⟨by rfl, ?_⟩; intro W hSw; go_simp; try with_reducible rfl
  try simp only [Act.put, List.setIfInBounds_toArray, List.set_cons_zero, List.set_cons_succ]
  refine' wpAnyH_take (i := 13) (oi := _) (v := _) ?hir13 (by kernel_rfl) ?hfr13 ?hrr13 ?hQr13 ?hyr13 hBr3 ?restr13
  case hir13 => (simp only [List.getElem?_toArray, List.getElem?_cons_zero, List.getElem?_cons_succ]; rfl)
  case hfr13 => kernel_rfl
  case hrr13 => kernel_rfl
  case hQr13 => exact fun _ _ _ h => h
  case hyr13 => refine Or.inl ⟨by rfl, ?_⟩; intro W hSw; go_simp; try with_reducible rfl
  try simp only [Act.put, List.setIfInBounds_toArray, List.set_cons_zero, List.set_cons_succ]
  refine' wpAnyH_take (i := 14) (oi := _) (v := _) ?hir14 (by kernel_rfl) ?hfr14 ?hrr14 ?hQr14 ?hyr14 hBr3 ?restr14
  case hir14 => (simp only [List.getElem?_toArray, List.getElem?_cons_zero, List.getElem?_cons_succ]; rfl)
  case hfr14 => kernel_rfl
  case hrr14 => kernel_rfl
  case hQr14 => exact fun _ _ _ h => h
  case hyr14 => refine Or.inl ⟨by rfl, ?_⟩; intro W hSw; go_simp; try with_reducible rfl
  try simp only [Act.put, List.setIfInBounds_toArray, List.set_cons_zero, List.set_cons_succ]
  refine' wpAnyH_take (i := 15) (oi := _) (v := _) ?hir15 (by kernel_rfl) ?hfr15 ?hrr15 ?hQr15 ?hyr15 hBr3 ?restr15
  case hir15 => (simp only [List.getElem?_toArray, List.getElem?_cons_zero, List.getElem?_cons_succ]; rfl)
  case hfr15 => kernel_rfl
  case hrr15 => kernel_rfl
  case hQr15 => exact fun _ _ _ h => h
  case hyr15 => refine Or.inl ⟨by rfl, ?_⟩; intro W hSw; have hcc := (KS.out W hSw).size; go_simp; try with_reducible rfl
  try simp only [Act.put, List.setIfInBounds_toArray, List.set_cons_zero, List.set_cons_succ]
  refine' wpAnyH_take (i := 16) (oi := _) (v := _) ?hir16 (by kernel_rfl) ?hfr16 ?hrr16 ?hQr16 ?hyr16 hBr3 ?restr16
  case hir16 => (simp only [List.getElem?_toArray, List.getElem?_cons_zero, List.getElem?_cons_succ]; rfl)
  case hfr16 => kernel_rfl
  case hrr16 => kernel_rfl
  case hQr16 => exact fun _ _ _ h => h
  case hyr16 => refine Or.inl ⟨by rfl, ?_⟩; intro W hSw; go_simp; try with_reducible rfl
  try simp only [Act.put, List.setIfInBounds_toArray, List.set_cons_zero, List.set_cons_succ]
  refine' wpAnyH_take (i := 17) (oi := _) (v := _) ?hir17 (by kernel_rfl) ?hfr17 ?hrr17 ?hQr17 ?hyr17 hBr3 ?restr17
  case hir17 => (simp only [List.getElem?_toArray, List.getElem?_cons_zero, List.getElem?_cons_succ]; rfl)
  case hfr17 => kernel_rfl
  case hrr17 => kernel_rfl
  case hQr17 => exact fun _ _ _ h => h
  case hyr17 => refine Or.inl ⟨by rfl, ?_⟩; intro W hSw; go_simp; try with_reducible rfl
  try simp only [Act.put, List.setIfInBounds_toArray, List.set_cons_zero, List.set_cons_succ]
  refine' wpAnyH_take (i := 18) (oi := _) (v := _) ?hir18 (by kernel_rfl) ?hfr18 ?hrr18 ?hQr18 ?hyr18 hBr3 ?restr18
  case hir18 => (simp only [List.getElem?_toArray, List.getElem?_cons_zero, List.getElem?_cons_succ]; rfl)
  case hfr18 => kernel_rfl
  case hrr18 => kernel_rfl
  case hQr18 => exact fun _ _ _ h => h
  case hyr18 => refine Or.inl ⟨by rfl, ?_⟩; intro W hSw; go_simp; try with_reducible rfl
  try simp only [Act.put, List.setIfInBounds_toArray, List.set_cons_zero, List.set_cons_succ]
  refine' wpAnyH_take (i := 19) (oi := _) (v := _) ?hir19 (by kernel_rfl) ?hfr19 ?hrr19 ?hQr19 ?hyr19 hBr3 ?restr19
  case hir19 => (simp only [List.getElem?_toArray, List.getElem?_cons_zero, List.getElem?_cons_succ]; rfl)
  case hfr19 => kernel_rfl
  case hrr19 => kernel_rfl
  case hQr19 => exact fun _ _ _ h => h
  case hyr19 => refine Or.inl ⟨by rfl, ?_⟩; intro W hSw; have hcc := (KS.out W hSw).size; go_simp; try with_reducible rfl
  try simp only [Act.put, List.setIfInBounds_toArray, List.set_cons_zero, List.set_cons_succ]
  refine' wpAnyH_take (i := 20) (oi := _) (v := _) ?hir20 (by kernel_rfl) ?hfr20 ?hrr20 ?hQr20 ?hyr20 hBr3 ?restr20
  case hir20 => (simp only [List.getElem?_toArray, List.getElem?_cons_zero, List.getElem?_cons_succ]; rfl)
  case hfr20 => kernel_rfl
  case hrr20 => kernel_rfl
  case hQr20 => exact fun _ _ _ h => h
  case hyr20 => refine Or.inl ⟨by rfl, ?_⟩; intro W hSw; go_simp; try with_reducible rfl
  try simp only [Act.put, List.setIfInBounds_toArray, List.set_cons_zero, List.set_cons_succ]
  refine' wpAnyH_take (i := 21) (oi := _) (v := _) ?hir21 (by kernel_rfl) ?hfr21 ?hrr21 ?hQr21 ?hyr21 hBr3 ?restr21
  case hir21 => (simp only [List.getElem?_toArray, List.getElem?_cons_zero, List.getElem?_cons_succ]; rfl)
  case hfr21 => kernel_rfl
  case hrr21 => kernel_rfl
  case hQr21 => exact fun _ _ _ h => h
  case hyr21 => refine Or.inl ⟨by rfl, ?_⟩; intro W hSw; have hcc := (KS.out W hSw).size; go_simp; try with_reducible rfl
  try simp only [Act.put, List.setIfInBounds_toArray, List.set_cons_zero, List.set_cons_succ]
  refine' wpAnyH_take (i := 22) (oi := _) (v := _) ?hir22 (by kernel_rfl) ?hfr22 ?hrr22 ?hQr22 ?hyr22 hBr3 ?restr22
  case hir22 => (simp only [List.getElem?_toArray, List.getElem?_cons_zero, List.getElem?_cons_succ]; rfl)
  case hfr22 => kernel_rfl
  case hrr22 => kernel_rfl
  case hQr22 => exact fun _ _ _ h => h
  case hyr22 => refine Or.inl ⟨by rfl, ?_⟩; intro W hSw; go_simp; try with_reducible rfl
  try simp only [Act.put, List.setIfInBounds_toArray, List.set_cons_zero, List.set_cons_succ]
  refine' wpAnyH_take (i := 23) (oi := _) (v := sv (a)) ?hir23 (by kernel_rfl) ?hfr23 ?hrr23 ?hQr23 ?hyr23 hBr3 ?restr23
  case hir23 => (simp only [List.getElem?_toArray, List.getElem?_cons_zero, List.getElem?_cons_succ]; rfl)
  case hfr23 => kernel_rfl
  case hrr23 => kernel_rfl
  case hQr23 => exact fun _ _ _ h => h
  case hyr23 => refine yields_sum ?_ (.tmp 48) rfl ⟨g, 2, none⟩ rfl a hl (fun W hSw => (KS.out W hSw).old); rfl
  try simp only [Act.put, List.setIfInBounds_toArray, List.set_cons_zero, List.set_cons_succ]
  refine' wpAnyH_take (i := 24) (oi := _) (v := _) ?hir24 (by kernel_rfl) ?hfr24 ?hrr24 ?hQr24 ?hyr24 hBr3 ?restr24
  case hir24 => (simp only [List.getElem?_toArray, List.getElem?_cons_zero, List.getElem?_cons_succ]; rfl)
  case hfr24 => kernel_rfl
  case hrr24 => kernel_rfl
  case hQr24 => exact fun _ _ _ h => h
  case hyr24 => refine Or.inl ⟨by rfl, ?_⟩; intro W hSw; go_simp; try with_reducible rfl
  try simp only [Act.put, List.setIfInBounds_toArray, List.set_cons_zero, List.set_cons_succ]
  refine' wpAnyH_take (i := 25) (oi := _) (v := sv (b)) ?hir25 (by kernel_rfl) ?hfr25 ?hrr25 ?hQr25 ?hyr25 hBr3 ?restr25
  case hir25 => (simp only [List.getElem?_toArray, List.getElem?_cons_zero, List.getElem?_cons_succ]; rfl)
  case hfr25 => kernel_rfl
  case hrr25 => kernel_rfl
  case hQr25 => exact fun _ _ _ h => h
  case hyr25 => refine yields_sum ?_ (.tmp 50) rfl ⟨g, 34, none⟩ rfl b hbl (fun W hSw => (KS.out W hSw).new); rfl
  try simp only [Act.put, List.setIfInBounds_toArray, List.set_cons_zero, List.set_cons_succ]
  refine' wpAnyH_take (i := 26) (oi := _) (v := _) ?hir26 (by kernel_rfl) ?hfr26 ?hrr26 ?hQr26 ?hyr26 hBr3 ?restr26
  case hir26 => (simp only [List.getElem?_toArray, List.getElem?_cons_zero, List.getElem?_cons_succ]; rfl)
  case hfr26 => kernel_rfl
  case hrr26 => kernel_rfl
  case hQr26 => exact fun _ _ _ h => h
  case hyr26 => refine Or.inl ⟨by rfl, ?_⟩; intro W hSw; go_simp; try with_reducible rfl
  try simp only [Act.put, List.setIfInBounds_toArray, List.set_cons_zero, List.set_cons_succ]
  refine' wpAnyH_take (i := 27) (oi := _) (v := _) ?hir27 (by kernel_rfl) ?hfr27 ?hrr27 ?hQr27 ?hyr27 hBr3 ?restr27
  case hir27 => (simp only [List.getElem?_toArray, List.getElem?_cons_zero, List.getElem?_cons_succ]; rfl)
  case hfr27 => kernel_rfl
  case hrr27 => kernel_rfl
  case hQr27 => exact fun _ _ _ h => h
  case hyr27 => refine Or.inl ⟨by rfl, ?_⟩; intro W hSw; have hcc := (KS.out W hSw).link; go_simp; try with_reducible rfl
  try simp only [Act.put, List.setIfInBounds_toArray, List.set_cons_zero, List.set_cons_succ]
  refine' wpAnyH_take (i := 29) (oi := _) (v := _) ?hir29 (by kernel_rfl) ?hfr29 ?hrr29 ?hQr29 ?hyr29 hBr3 ?restr29
  case hir29 => (simp only [List.getElem?_toArray, List.getElem?_cons_zero, List.getElem?_cons_succ]; rfl)
  case hfr29 => kernel_rfl
  case hrr29 => kernel_rfl
  case hQr29 => exact fun _ _ _ h => h
  case hyr29 => refine Or.inl ⟨by rfl, ?_⟩; intro W hSw; go_simp; try with_reducible rfl
  try simp only [Act.put, List.setIfInBounds_toArray, List.set_cons_zero, List.set_cons_succ]
  refine' wpAnyH_take (i := 30) (oi := _) (v := _) ?hir30 (by kernel_rfl) ?hfr30 ?hrr30 ?hQr30 ?hyr30 hBr3 ?restr30
  case hir30 => (simp only [List.getElem?_toArray, List.getElem?_cons_zero, List.getElem?_cons_succ]; rfl)
  case hfr30 => kernel_rfl
  case hrr30 => kernel_rfl
  case hQr30 => exact fun _ _ _ h => h
  case hyr30 => refine Or.inl ⟨by rfl, ?_⟩; intro W hSw; have hcc := (KS.out W hSw).link; go_simp; try with_reducible rfl
  try simp only [Act.put, List.setIfInBounds_toArray, List.set_cons_zero, List.set_cons_succ]
  refine' wpAnyH_take (i := 31) (oi := _) (v := _) ?hir31 (by kernel_rfl) ?hfr31 ?hrr31 ?hQr31 ?hyr31 hBr3 ?restr31
  case hir31 => (simp only [List.getElem?_toArray, List.getElem?_cons_zero, List.getElem?_cons_succ]; rfl)
  case hfr31 => kernel_rfl
  case hrr31 => kernel_rfl
  case hQr31 => exact fun _ _ _ h => h
  case hyr31 => refine Or.inl ⟨by rfl, ?_⟩; intro W hSw; go_simp; try with_reducible rfl
  try simp only [Act.put, List.setIfInBounds_toArray, List.set_cons_zero, List.set_cons_succ]
  refine' wpAnyH_take (i := 32) (oi := _) (v := _) ?hir32 (by kernel_rfl) ?hfr32 ?hrr32 ?hQr32 ?hyr32 hBr3 ?restr32
  case hir32 => (simp only [List.getElem?_toArray, List.getElem?_cons_zero, List.getElem?_cons_succ]; rfl)
  case hfr32 => kernel_rfl
  case hrr32 => kernel_rfl
  case hQr32 => exact fun _ _ _ h => h
  case hyr32 => refine Or.inl ⟨by rfl, ?_⟩; intro W hSw; go_simp; try with_reducible rfl
  try simp only [Act.put, List.setIfInBounds_toArray, List.set_cons_zero, List.set_cons_succ]
  refine wpAnyH_ready (rs := [28]) (by kernel_rfl) (by simp) ?_
  refine' AllReadyH.cons (o := _) ?hir28 (fun K hK => ?_) AllReadyH.nil
  case hir28 => (simp only [List.getElem?_toArray, List.getElem?_cons_zero, List.getElem?_cons_succ]; rfl)
  go_simp
  go_at_call 10
  refine (HCE.out _ hBr3).mono ?_
  rintro e Wr6 ⟨rfl, hBr5⟩
  refine hK.out _ _ hBr5 (fun _ => ?_)
  clear hK K
  try simp only [Act.put, List.setIfInBounds_toArray, List.set_cons_zero, List.set_cons_succ]
  refine' wpAnyH_take (i := 33) (oi := _) (v := _) ?hir33 (by kernel_rfl) ?hfr33 ?hrr33 ?hQr33 ?hyr33 hBr5 ?restr33
  case hir33 => (simp only [List.getElem?_toArray, List.getElem?_cons_zero, List.getElem?_cons_succ]; rfl)
  case hfr33 => kernel_rfl
  case hrr33 => kernel_rfl
  case hQr33 => exact fun _ _ _ h => h
  case hyr33 => refine Or.inl ⟨by rfl, ?_⟩; intro W hSw; go_simp; try with_reducible rfl
  try simp only [Act.put, List.setIfInBounds_toArray, List.set_cons_zero, List.set_cons_succ]
  refine' wpAnyH_take (i := 34) (oi := _) (v := _) ?hir34 (by kernel_rfl) ?hfr34 ?hrr34 ?hQr34 ?hyr34 hBr5 ?restr34
  case hir34 => (simp only [List.getElem?_toArray, List.getElem?_cons_zero, List.getElem?_cons_succ]; rfl)
  case hfr34 => kernel_rfl
  case hrr34 => kernel_rfl
  case hQr34 => exact fun _ _ _ h => h
  case hyr34 => refine Or.inl ⟨by rfl, ?_⟩; intro W hSw; go_simp; try with_reducible rfl
  try simp only [Act.put, List.setIfInBounds_toArray, List.set_cons_zero, List.set_cons_succ]
  refine' wpAnyH_take (i := 35) (oi := _) (v := sv (a)) ?hir35 (by kernel_rfl) ?hfr35 ?hrr35 ?hQr35 ?hyr35 hBr5 ?restr35
  case hir35 => (simp only [List.getElem?_toArray, List.getElem?_cons_zero, List.getElem?_cons_succ]; rfl)
  case hfr35 => kernel_rfl
  case hrr35 => kernel_rfl
  case hQr35 => exact fun _ _ _ h => h
  case hyr35 => refine yields_sum ?_ (.tmp 60) rfl ⟨g, 2, none⟩ rfl a hl (fun W hSw => (KS.out W hSw).old); rfl
  try simp only [Act.put, List.setIfInBounds_toArray, List.set_cons_zero, List.set_cons_succ]
  refine' wpAnyH_take (i := 36) (oi := _) (v := _) ?hir36 (by kernel_rfl) ?hfr36 ?hrr36 ?hQr36 ?hyr36 hBr5 ?restr36
  case hir36 => (simp only [List.getElem?_toArray, List.getElem?_cons_zero, List.getElem?_cons_succ]; rfl)
  case hfr36 => kernel_rfl
  case hrr36 => kernel_rfl
  case hQr36 => exact fun _ _ _ h => h
  case hyr36 => refine Or.inl ⟨by rfl, ?_⟩; intro W hSw; go_simp; try with_reducible rfl
  try simp only [Act.put, List.setIfInBounds_toArray, List.set_cons_zero, List.set_cons_succ]
  refine' wpAnyH_take (i := 37) (oi := _) (v := sv (b)) ?hir37 (by kernel_rfl) ?hfr37 ?hrr37 ?hQr37 ?hyr37 hBr5 ?restr37
  case hir37 => (simp only [List.getElem?_toArray, List.getElem?_cons_zero, List.getElem?_cons_succ]; rfl)
  case hfr37 => kernel_rfl
  case hrr37 => kernel_rfl
  case hQr37 => exact fun _ _ _ h => h
  case hyr37 => refine yields_sum ?_ (.tmp 62) rfl ⟨g, 34, none⟩ rfl b hbl (fun W hSw => (KS.out W hSw).new); rfl
  try simp only [Act.put, List.setIfInBounds_toArray, List.set_cons_zero, List.set_cons_succ]
  refine' wpAnyH_take (i := 38) (oi := _) (v := _) ?hir38 (by kernel_rfl) ?hfr38 ?hrr38 ?hQr38 ?hyr38 hBr5 ?restr38
  case hir38 => (simp only [List.getElem?_toArray, List.getElem?_cons_zero, List.getElem?_cons_succ]; rfl)
  case hfr38 => kernel_rfl
  case hrr38 => kernel_rfl
  case hQr38 => exact fun _ _ _ h => h
  case hyr38 => refine Or.inl ⟨by rfl, ?_⟩; intro W hSw; go_simp; try with_reducible rfl
  try simp only [Act.put, List.setIfInBounds_toArray, List.set_cons_zero, List.set_cons_succ]
  refine' wpAnyH_take (i := 39) (oi := _) (v := _) ?hir39 (by kernel_rfl) ?hfr39 ?hrr39 ?hQr39 ?hyr39 hBr5 ?restr39
  case hir39 => (simp only [List.getElem?_toArray, List.getElem?_cons_zero, List.getElem?_cons_succ]; rfl)
  case hfr39 => kernel_rfl
  case hrr39 => kernel_rfl
  case hQr39 => exact fun _ _ _ h => h
  case hyr39 => refine Or.inl ⟨by rfl, ?_⟩; intro W hSw; go_simp; try with_reducible rfl
  try simp only [Act.put, List.setIfInBounds_toArray, List.set_cons_zero, List.set_cons_succ]
  refine' wpAnyH_take (i := 40) (oi := _) (v := _) ?hir40 (by kernel_rfl) ?hfr40 ?hrr40 ?hQr40 ?hyr40 hBr5 ?restr40
  case hir40 => (simp only [List.getElem?_toArray, List.getElem?_cons_zero, List.getElem?_cons_succ]; rfl)
  case hfr40 => kernel_rfl
  case hrr40 => kernel_rfl
  case hQr40 => exact fun _ _ _ h => h
  case hyr40 => refine Or.inl ⟨by rfl, ?_⟩; intro W hSw; go_simp; try with_reducible rfl
  try simp only [Act.put, List.setIfInBounds_toArray, List.set_cons_zero, List.set_cons_succ]
  refine' wpAnyH_take (i := 41) (oi := _) (v := _) ?hir41 (by kernel_rfl) ?hfr41 ?hrr41 ?hQr41 ?hyr41 hBr5 ?restr41
  case hir41 => (simp only [List.getElem?_toArray, List.getElem?_cons_zero, List.getElem?_cons_succ]; rfl)
  case hfr41 => kernel_rfl
  case hrr41 => kernel_rfl
  case hQr41 => exact fun _ _ _ h => h
  case hyr41 => refine Or.inl ⟨by rfl, ?_⟩; intro W hSw; go_simp; try with_reducible rfl
  try simp only [Act.put, List.setIfInBounds_toArray, List.set_cons_zero, List.set_cons_succ]
  refine' wpAnyH_take (i := 42) (oi := _) (v := _) ?hir42 (by kernel_rfl) ?hfr42 ?hrr42 ?hQr42 ?hyr42 hBr5 ?restr42
  case hir42 => (simp only [List.getElem?_toArray, List.getElem?_cons_zero, List.getElem?_cons_succ]; rfl)
  case hfr42 => kernel_rfl
  case hrr42 => kernel_rfl
  case hQr42 => exact fun _ _ _ h => h
  case hyr42 => refine Or.inl ⟨by rfl, ?_⟩; intro W hSw; go_simp; try with_reducible rfl
  try simp only [Act.put, List.setIfInBounds_toArray, List.set_cons_zero, List.set_cons_succ]
  refine' wpAnyH_take (i := 43) (oi := _) (v := _) ?hir43 (by kernel_rfl) ?hfr43 ?hrr43 ?hQr43 ?hyr43 hBr5 ?restr43
  case hir43 => (simp only [List.getElem?_toArray, List.getElem?_cons_zero, List.getElem?_cons_succ]; rfl)
  case hfr43 => kernel_rfl
  case hrr43 => kernel_rfl
  case hQr43 => exact fun _ _ _ h => h
  case hyr43 => refine Or.inl ⟨by rfl, ?_⟩; intro W hSw; go_simp; try with_reducible rfl
  try simp only [Act.put, List.setIfInBounds_toArray, List.set_cons_zero, List.set_cons_succ]
  refine wpAnyH_done (by kernel_rfl) ?_ _
  go_wp2
  go_ret
  exact ⟨rfl, by rw [HG.out]; exact BL.out _ hBr5⟩
  

set_option maxRecDepth 100000 in
set_option maxHeartbeats 4000000 in
theorem klends_gz (hk : Knows w) (hs : Starts w) (hm : Miss w E) (_ : from_ < 18446744073709551616) (_ : size < 18446744073709551616) (hl : a.length = 32) (_ : ∀ x ∈ a, x < 256) (hbl : b.length = 32) (_ : CameS w A n c ys) (hn : n ≤ 200) (hgt : (size : Int) < (from_ : Int)) (hz : size = 0) :
    Calls Tryd.prog 5 #[.agg (saidK from_ size a b A n c).toArray] w fun e w' => e = .returned (.bool true) ∧ Below w.heap.size w w' := by
  obtain ⟨w1, hw1⟩ : ∃ w1, w1 = w.alloc (.cells (saidK from_ size a b A n c).toArray 36) := ⟨_, rfl⟩
  have s1 : SaidKAt w1 w.heap.size from_ size a b A n c := by rw [hw1]; exact saidK_new w hl hbl
  have b1 : Below w.heap.size w w1 := by rw [hw1]; exact below_alloc _ _
  obtain ⟨S, hS⟩ : ∃ S, (saidK from_ size a b A n c).toArray = S := ⟨_, rfl⟩
  rw [hS] at hw1 ⊢
  clear hS
  have CA := Lib.hid (fun (W : World) (hW : Below w1.heap.size w1 W) => later (v' := .bool true) hW rfl (kalive_any W E (hk.below (below_on b1 (Nat.le_refl _) hW)) (hs.below (below_on b1 (Nat.le_refl _) hW)) (hm.below (below_on b1 (Nat.le_refl _) hW))))
  have C0 := Lib.hid (fun (W : World) (hW : Below w1.heap.size w1 W) => show Calls Tryd.prog 10 #[.int .u64 0, .int .u64 (size : Int), sv a, sv b, .slice A n c] W fun e w' => e = .returned (.bool false) ∧ Below w1.heap.size w1 w' from later hW rfl (kcheck_far (w := W) (n := n) (c := c) (A := A) (a := a) (b := b) (from_ := 0) (size := size) (by omega)))
  have CF := Lib.hid (fun (W : World) (hW : Below w1.heap.size w1 W) => later hW rfl (kcheck_far (w := W) (n := n) (c := c) (A := A) (a := a) (b := b) (from_ := from_) (size := size) (by omega)))
  have z0 : ((size : Int) == 0) = true := by simp; omega
  have KS := Lib.hid (fun (W : World) (hW : Below w1.heap.size w1 W) => s1.below hW)
  obtain ⟨g, hg0⟩ : ∃ g, w.heap.size = g := ⟨_, rfl⟩
  rw [hg0] at s1 b1 KS
  have c4 := s1.link
  have c0 := s1.from_
  have c1 := s1.size
  have O0 := Lib.hid s1.old
  have N0 := Lib.hid s1.new
  have HW := Lib.hid hw1
  have BL := Lib.hid (fun (W : World) (hW : Below w1.heap.size w1 W) => show Below g w W from below_on b1 (by rw [← hg0]; exact Nat.le_refl _) hW)
  have HG := Lib.hid hg0
  have hni : ¬ (200 : Int) < (n : Int) := by omega
  clear hw1 s1 b1 hn hk hs hm hz hg0
  go_enter Tryd.func5, Tryd.ntmps5
  go_upto_region 1 with fail
  rw [← HW.out, HG.out]
  go_wp2_with (first | with_reducible refine wpList_load_sum_g rfl (.tmp 18) rfl ⟨g, 2, none⟩ rfl a hl O0.out ?_ | with_reducible refine wpList_load_sum_g rfl (.tmp 20) rfl ⟨g, 34, none⟩ rfl b hbl N0.out ?_)
  refine (CF.out _ (Below.refl _ _)).mono ?_
  rintro e w2 ⟨rfl, hb2⟩
  go_upto_region 5 with fail
  refine wp_region_held_drew (S := fun W => Below w1.heap.size w1 W) (by kernel_rfl) (hb2.drew) (fun hT0 => ?_)
  change wpAnyH _ _ _ _ _ _ _ _ w2.drew
  refine wpAnyH_ready (rs := [0]) (by kernel_rfl) (by simp) ?_
  refine' AllReadyH.cons (o := _) ?hir0 (fun K hK => ?_) AllReadyH.nil
  case hir0 => (simp only [List.getElem?_toArray, List.getElem?_cons_zero]; rfl)
  go_simp
  go_at_call 7
  refine (CA.out _ hT0).mono ?_
  rintro e Wr2 ⟨rfl, hBr1⟩
  refine hK.out _ _ hBr1 (fun _ => ?_)
  clear hK K
  try simp only [Act.put, List.setIfInBounds_toArray, List.set_cons_zero, List.set_cons_succ]
  refine' wpAnyH_take (i := 1) (oi := _) (v := _) ?hir1 (by kernel_rfl) ?hfr1 ?hrr1 ?hQr1 ?hyr1 hBr1 ?restr1
  case hir1 => (simp only [List.getElem?_toArray, List.getElem?_cons_zero, List.getElem?_cons_succ]; rfl)
  case hfr1 => kernel_rfl
  case hrr1 => kernel_rfl
  case hQr1 => exact fun _ _ _ h => h
  case hyr1 => refine Or.inl ⟨by rfl, ?_⟩; intro W hSw; go_simp; try with_reducible rfl
  try simp only [Act.put, List.setIfInBounds_toArray, List.set_cons_zero, List.set_cons_succ]
  refine' wpAnyH_take (i := 2) (oi := _) (v := _) ?hir2 (by kernel_rfl) ?hfr2 ?hrr2 ?hQr2 ?hyr2 hBr1 ?restr2
  case hir2 => (simp only [List.getElem?_toArray, List.getElem?_cons_zero, List.getElem?_cons_succ]; rfl)
  case hfr2 => kernel_rfl
  case hrr2 => kernel_rfl
  case hQr2 => exact fun _ _ _ h => h
  case hyr2 => refine Or.inl ⟨by rfl, ?_⟩; intro W hSw; go_simp; try with_reducible rfl
  try simp only [Act.put, List.setIfInBounds_toArray, List.set_cons_zero, List.set_cons_succ]
  refine' wpAnyH_take (i := 3) (oi := _) (v := _) ?hir3 (by kernel_rfl) ?hfr3 ?hrr3 ?hQr3 ?hyr3 hBr1 ?restr3
  case hir3 => (simp only [List.getElem?_toArray, List.getElem?_cons_zero, List.getElem?_cons_succ]; rfl)
  case hfr3 => kernel_rfl
  case hrr3 => kernel_rfl
  case hQr3 => exact fun _ _ _ h => h
  case hyr3 => refine Or.inl ⟨by rfl, ?_⟩; intro W hSw; have hcc := (KS.out W hSw).size; go_simp; try with_reducible rfl
  try simp only [Act.put, List.setIfInBounds_toArray, List.set_cons_zero, List.set_cons_succ]
  refine' wpAnyH_take (i := 4) (oi := _) (v := _) ?hir4 (by kernel_rfl) ?hfr4 ?hrr4 ?hQr4 ?hyr4 hBr1 ?restr4
  case hir4 => (simp only [List.getElem?_toArray, List.getElem?_cons_zero, List.getElem?_cons_succ]; rfl)
  case hfr4 => kernel_rfl
  case hrr4 => kernel_rfl
  case hQr4 => exact fun _ _ _ h => h
  case hyr4 => refine Or.inl ⟨by rfl, ?_⟩; intro W hSw; go_simp; try with_reducible rfl
  try simp only [Act.put, List.setIfInBounds_toArray, List.set_cons_zero, List.set_cons_succ]
  refine' wpAnyH_take (i := 5) (oi := _) (v := sv (a)) ?hir5 (by kernel_rfl) ?hfr5 ?hrr5 ?hQr5 ?hyr5 hBr1 ?restr5
  case hir5 => (simp only [List.getElem?_toArray, List.getElem?_cons_zero, List.getElem?_cons_succ]; rfl)
  case hfr5 => kernel_rfl
  case hrr5 => kernel_rfl
  case hQr5 => exact fun _ _ _ h => h
  case hyr5 => refine yields_sum ?_ (.tmp 30) rfl ⟨g, 2, none⟩ rfl a hl (fun W hSw => (KS.out W hSw).old); rfl
  try simp only [Act.put, List.setIfInBounds_toArray, List.set_cons_zero, List.set_cons_succ]
  refine' wpAnyH_take (i := 6) (oi := _) (v := _) ?hir6 (by kernel_rfl) ?hfr6 ?hrr6 ?hQr6 ?hyr6 hBr1 ?restr6
  case hir6 => (simp only [List.getElem?_toArray, List.getElem?_cons_zero, List.getElem?_cons_succ]; rfl)
  case hfr6 => kernel_rfl
  case hrr6 => kernel_rfl
  case hQr6 => exact fun _ _ _ h => h
  case hyr6 => refine Or.inl ⟨by rfl, ?_⟩; intro W hSw; go_simp; try with_reducible rfl
  try simp only [Act.put, List.setIfInBounds_toArray, List.set_cons_zero, List.set_cons_succ]
  refine' wpAnyH_take (i := 7) (oi := _) (v := sv (b)) ?hir7 (by kernel_rfl) ?hfr7 ?hrr7 ?hQr7 ?hyr7 hBr1 ?restr7
  case hir7 => (simp only [List.getElem?_toArray, List.getElem?_cons_zero, List.getElem?_cons_succ]; rfl)
  case hfr7 => kernel_rfl
  case hrr7 => kernel_rfl
  case hQr7 => exact fun _ _ _ h => h
  case hyr7 => refine yields_sum ?_ (.tmp 32) rfl ⟨g, 34, none⟩ rfl b hbl (fun W hSw => (KS.out W hSw).new); rfl
  try simp only [Act.put, List.setIfInBounds_toArray, List.set_cons_zero, List.set_cons_succ]
  refine' wpAnyH_take (i := 8) (oi := _) (v := _) ?hir8 (by kernel_rfl) ?hfr8 ?hrr8 ?hQr8 ?hyr8 hBr1 ?restr8
  case hir8 => (simp only [List.getElem?_toArray, List.getElem?_cons_zero, List.getElem?_cons_succ]; rfl)
  case hfr8 => kernel_rfl
  case hrr8 => kernel_rfl
  case hQr8 => exact fun _ _ _ h => h
  case hyr8 => refine Or.inl ⟨by rfl, ?_⟩; intro W hSw; go_simp; try with_reducible rfl
  try simp only [Act.put, List.setIfInBounds_toArray, List.set_cons_zero, List.set_cons_succ]
  refine' wpAnyH_take (i := 9) (oi := _) (v := _) ?hir9 (by kernel_rfl) ?hfr9 ?hrr9 ?hQr9 ?hyr9 hBr1 ?restr9
  case hir9 => (simp only [List.getElem?_toArray, List.getElem?_cons_zero, List.getElem?_cons_succ]; rfl)
  case hfr9 => kernel_rfl
  case hrr9 => kernel_rfl
  case hQr9 => exact fun _ _ _ h => h
  case hyr9 => refine Or.inl ⟨by rfl, ?_⟩; intro W hSw; have hcc := (KS.out W hSw).link; go_simp; try with_reducible rfl
  try simp only [Act.put, List.setIfInBounds_toArray, List.set_cons_zero, List.set_cons_succ]
  refine wpAnyH_ready (rs := [10]) (by kernel_rfl) (by simp) ?_
  refine' AllReadyH.cons (o := _) ?hir10 (fun K hK => ?_) AllReadyH.nil
  case hir10 => (simp only [List.getElem?_toArray, List.getElem?_cons_zero, List.getElem?_cons_succ]; rfl)
  go_simp
  go_at_call 10
  refine (C0.out _ hBr1).mono ?_
  rintro e Wr4 ⟨rfl, hBr3⟩
  refine hK.out _ _ hBr3 (fun _ => ?_)
  clear hK K
  try simp only [Act.put, List.setIfInBounds_toArray, List.set_cons_zero, List.set_cons_succ]
  refine' wpAnyH_take (i := 11) (oi := _) (v := _) ?hir11 (by kernel_rfl) ?hfr11 ?hrr11 ?hQr11 ?hyr11 hBr3 ?restr11
  case hir11 => (simp only [List.getElem?_toArray, List.getElem?_cons_zero, List.getElem?_cons_succ]; rfl)
  case hfr11 => kernel_rfl
  case hrr11 => kernel_rfl
  case hQr11 => exact fun _ _ _ h => h
  case hyr11 => refine Or.inl ⟨by rfl, ?_⟩; intro W hSw; go_simp; try with_reducible rfl
  try simp only [Act.put, List.setIfInBounds_toArray, List.set_cons_zero, List.set_cons_succ]
  refine' wpAnyH_take (i := 12) (oi := _) (v := _) ?hir12 (by kernel_rfl) ?hfr12 ?hrr12 ?hQr12 ?hyr12 hBr3 ?restr12
  case hir12 => (simp only [List.getElem?_toArray, List.getElem?_cons_zero, List.getElem?_cons_succ]; rfl)
  case hfr12 => kernel_rfl
  case hrr12 => kernel_rfl
  case hQr12 => exact fun _ _ _ h => h
  case hyr12 => refine Or.inl ⟨by rfl, ?_⟩; intro W hSw; go_simp; try with_reducible rfl
  try simp only [Act.put, List.setIfInBounds_toArray, List.set_cons_zero, List.set_cons_succ]
  refine' wpAnyH_take (i := 13) (oi := _) (v := _) ?hir13 (by kernel_rfl) ?hfr13 ?hrr13 ?hQr13 ?hyr13 hBr3 ?restr13
  case hir13 => (simp only [List.getElem?_toArray, List.getElem?_cons_zero, List.getElem?_cons_succ]; rfl)
  case hfr13 => kernel_rfl
  case hrr13 => kernel_rfl
  case hQr13 => exact fun _ _ _ h => h
  case hyr13 => refine Or.inl ⟨by rfl, ?_⟩; intro W hSw; go_simp; try with_reducible rfl
  try simp only [Act.put, List.setIfInBounds_toArray, List.set_cons_zero, List.set_cons_succ]
  refine' wpAnyH_take (i := 14) (oi := _) (v := _) ?hir14 (by kernel_rfl) ?hfr14 ?hrr14 ?hQr14 ?hyr14 hBr3 ?restr14
  case hir14 => (simp only [List.getElem?_toArray, List.getElem?_cons_zero, List.getElem?_cons_succ]; rfl)
  case hfr14 => kernel_rfl
  case hrr14 => kernel_rfl
  case hQr14 => exact fun _ _ _ h => h
  case hyr14 => refine Or.inl ⟨by rfl, ?_⟩; intro W hSw; go_simp; try with_reducible rfl
  try simp only [Act.put, List.setIfInBounds_toArray, List.set_cons_zero, List.set_cons_succ]
  refine' wpAnyH_take (i := 15) (oi := _) (v := _) ?hir15 (by kernel_rfl) ?hfr15 ?hrr15 ?hQr15 ?hyr15 hBr3 ?restr15
  case hir15 => (simp only [List.getElem?_toArray, List.getElem?_cons_zero, List.getElem?_cons_succ]; rfl)
  case hfr15 => kernel_rfl
  case hrr15 => kernel_rfl
  case hQr15 => exact fun _ _ _ h => h
  case hyr15 => refine Or.inl ⟨by rfl, ?_⟩; intro W hSw; have hcc := (KS.out W hSw).size; go_simp; try with_reducible rfl
  try simp only [Act.put, List.setIfInBounds_toArray, List.set_cons_zero, List.set_cons_succ]
  refine' wpAnyH_take (i := 16) (oi := _) (v := _) ?hir16 (by kernel_rfl) ?hfr16 ?hrr16 ?hQr16 ?hyr16 hBr3 ?restr16
  case hir16 => (simp only [List.getElem?_toArray, List.getElem?_cons_zero, List.getElem?_cons_succ]; rfl)
  case hfr16 => kernel_rfl
  case hrr16 => kernel_rfl
  case hQr16 => exact fun _ _ _ h => h
  case hyr16 => refine Or.inl ⟨by rfl, ?_⟩; intro W hSw; go_simp; try with_reducible rfl
  try simp only [Act.put, List.setIfInBounds_toArray, List.set_cons_zero, List.set_cons_succ]
  refine' wpAnyH_take (i := 17) (oi := _) (v := _) ?hir17 (by kernel_rfl) ?hfr17 ?hrr17 ?hQr17 ?hyr17 hBr3 ?restr17
  case hir17 => (simp only [List.getElem?_toArray, List.getElem?_cons_zero, List.getElem?_cons_succ]; rfl)
  case hfr17 => kernel_rfl
  case hrr17 => kernel_rfl
  case hQr17 => exact fun _ _ _ h => h
  case hyr17 => refine Or.inl ⟨by rfl, ?_⟩; intro W hSw; go_simp; try with_reducible rfl
  try simp only [Act.put, List.setIfInBounds_toArray, List.set_cons_zero, List.set_cons_succ]
  refine' wpAnyH_take (i := 18) (oi := _) (v := undef) ?hir18 (by kernel_rfl) ?hfr18 ?hrr18 ?hQr18 ?hyr18 hBr3 ?restr18
  case hir18 => (simp only [List.getElem?_toArray, List.getElem?_cons_zero, List.getElem?_cons_succ]; rfl)
  case hfr18 => kernel_rfl
  case hrr18 => kernel_rfl
  case hQr18 => exact fun _ _ _ h => h
  case hyr18 => exact Or.inr ⟨by rfl, rfl⟩
  try simp only [Act.put, List.setIfInBounds_toArray, List.set_cons_zero, List.set_cons_succ]
  refine' wpAnyH_take (i := 19) (oi := _) (v := undef) ?hir19 (by kernel_rfl) ?hfr19 ?hrr19 ?hQr19 ?hyr19 hBr3 ?restr19
  case hir19 => (simp only [List.getElem?_toArray, List.getElem?_cons_zero, List.getElem?_cons_succ]; rfl)
  case hfr19 => kernel_rfl
  case hrr19 => kernel_rfl
  case hQr19 => exact fun _ _ _ h => h
  case hyr19 => exact Or.inr ⟨by rfl, rfl⟩
  try simp only [Act.put, List.setIfInBounds_toArray, List.set_cons_zero, List.set_cons_succ]
  refine' wpAnyH_take (i := 20) (oi := _) (v := undef) ?hir20 (by kernel_rfl) ?hfr20 ?hrr20 ?hQr20 ?hyr20 hBr3 ?restr20
  case hir20 => (simp only [List.getElem?_toArray, List.getElem?_cons_zero, List.getElem?_cons_succ]; rfl)
  case hfr20 => kernel_rfl
  case hrr20 => kernel_rfl
  case hQr20 => exact fun _ _ _ h => h
  case hyr20 => exact Or.inr ⟨by rfl, rfl⟩
  try simp only [Act.put, List.setIfInBounds_toArray, List.set_cons_zero, List.set_cons_succ]
  refine' wpAnyH_take (i := 21) (oi := _) (v := undef) ?hir21 (by kernel_rfl) ?hfr21 ?hrr21 ?hQr21 ?hyr21 hBr3 ?restr21
  case hir21 => (simp only [List.getElem?_toArray, List.getElem?_cons_zero, List.getElem?_cons_succ]; rfl)
  case hfr21 => kernel_rfl
  case hrr21 => kernel_rfl
  case hQr21 => exact fun _ _ _ h => h
  case hyr21 => exact Or.inr ⟨by rfl, rfl⟩
  try simp only [Act.put, List.setIfInBounds_toArray, List.set_cons_zero, List.set_cons_succ]
  refine' wpAnyH_take (i := 22) (oi := _) (v := undef) ?hir22 (by kernel_rfl) ?hfr22 ?hrr22 ?hQr22 ?hyr22 hBr3 ?restr22
  case hir22 => (simp only [List.getElem?_toArray, List.getElem?_cons_zero, List.getElem?_cons_succ]; rfl)
  case hfr22 => kernel_rfl
  case hrr22 => kernel_rfl
  case hQr22 => exact fun _ _ _ h => h
  case hyr22 => exact Or.inr ⟨by rfl, rfl⟩
  try simp only [Act.put, List.setIfInBounds_toArray, List.set_cons_zero, List.set_cons_succ]
  refine' wpAnyH_take (i := 23) (oi := _) (v := undef) ?hir23 (by kernel_rfl) ?hfr23 ?hrr23 ?hQr23 ?hyr23 hBr3 ?restr23
  case hir23 => (simp only [List.getElem?_toArray, List.getElem?_cons_zero, List.getElem?_cons_succ]; rfl)
  case hfr23 => kernel_rfl
  case hrr23 => kernel_rfl
  case hQr23 => exact fun _ _ _ h => h
  case hyr23 => exact Or.inr ⟨by rfl, rfl⟩
  try simp only [Act.put, List.setIfInBounds_toArray, List.set_cons_zero, List.set_cons_succ]
  refine' wpAnyH_take (i := 24) (oi := _) (v := undef) ?hir24 (by kernel_rfl) ?hfr24 ?hrr24 ?hQr24 ?hyr24 hBr3 ?restr24
  case hir24 => (simp only [List.getElem?_toArray, List.getElem?_cons_zero, List.getElem?_cons_succ]; rfl)
  case hfr24 => kernel_rfl
  case hrr24 => kernel_rfl
  case hQr24 => exact fun _ _ _ h => h
  case hyr24 => exact Or.inr ⟨by rfl, rfl⟩
  try simp only [Act.put, List.setIfInBounds_toArray, List.set_cons_zero, List.set_cons_succ]
  refine' wpAnyH_take (i := 25) (oi := _) (v := undef) ?hir25 (by kernel_rfl) ?hfr25 ?hrr25 ?hQr25 ?hyr25 hBr3 ?restr25
  case hir25 => (simp only [List.getElem?_toArray, List.getElem?_cons_zero, List.getElem?_cons_succ]; rfl)
  case hfr25 => kernel_rfl
  case hrr25 => kernel_rfl
  case hQr25 => exact fun _ _ _ h => h
  case hyr25 => exact Or.inr ⟨by rfl, rfl⟩
  try simp only [Act.put, List.setIfInBounds_toArray, List.set_cons_zero, List.set_cons_succ]
  refine' wpAnyH_take (i := 26) (oi := _) (v := undef) ?hir26 (by kernel_rfl) ?hfr26 ?hrr26 ?hQr26 ?hyr26 hBr3 ?restr26
  case hir26 => (simp only [List.getElem?_toArray, List.getElem?_cons_zero, List.getElem?_cons_succ]; rfl)
  case hfr26 => kernel_rfl
  case hrr26 => kernel_rfl
  case hQr26 => exact fun _ _ _ h => h
  case hyr26 => exact Or.inr ⟨by rfl, rfl⟩
  try simp only [Act.put, List.setIfInBounds_toArray, List.set_cons_zero, List.set_cons_succ]
  refine' wpAnyH_take (i := 27) (oi := _) (v := undef) ?hir27 (by kernel_rfl) ?hfr27 ?hrr27 ?hQr27 ?hyr27 hBr3 ?restr27
  case hir27 => (simp only [List.getElem?_toArray, List.getElem?_cons_zero, List.getElem?_cons_succ]; rfl)
  case hfr27 => kernel_rfl
  case hrr27 => kernel_rfl
  case hQr27 => exact fun _ _ _ h => h
  case hyr27 => exact Or.inr ⟨by rfl, rfl⟩
  try simp only [Act.put, List.setIfInBounds_toArray, List.set_cons_zero, List.set_cons_succ]
  refine' wpAnyH_take (i := 28) (oi := _) (v := undef) ?hir28 (by kernel_rfl) ?hfr28 ?hrr28 ?hQr28 ?hyr28 hBr3 ?restr28
  case hir28 => (simp only [List.getElem?_toArray, List.getElem?_cons_zero, List.getElem?_cons_succ]; rfl)
  case hfr28 => kernel_rfl
  case hrr28 => kernel_rfl
  case hQr28 => exact fun _ _ _ h => h
  case hyr28 => exact Or.inr ⟨by rfl, rfl⟩
  try simp only [Act.put, List.setIfInBounds_toArray, List.set_cons_zero, List.set_cons_succ]
  refine' wpAnyH_take (i := 29) (oi := _) (v := undef) ?hir29 (by kernel_rfl) ?hfr29 ?hrr29 ?hQr29 ?hyr29 hBr3 ?restr29
  case hir29 => (simp only [List.getElem?_toArray, List.getElem?_cons_zero, List.getElem?_cons_succ]; rfl)
  case hfr29 => kernel_rfl
  case hrr29 => kernel_rfl
  case hQr29 => exact fun _ _ _ h => h
  case hyr29 => exact Or.inr ⟨by rfl, rfl⟩
  try simp only [Act.put, List.setIfInBounds_toArray, List.set_cons_zero, List.set_cons_succ]
  refine' wpAnyH_take (i := 30) (oi := _) (v := undef) ?hir30 (by kernel_rfl) ?hfr30 ?hrr30 ?hQr30 ?hyr30 hBr3 ?restr30
  case hir30 => (simp only [List.getElem?_toArray, List.getElem?_cons_zero, List.getElem?_cons_succ]; rfl)
  case hfr30 => kernel_rfl
  case hrr30 => kernel_rfl
  case hQr30 => exact fun _ _ _ h => h
  case hyr30 => exact Or.inr ⟨by rfl, rfl⟩
  try simp only [Act.put, List.setIfInBounds_toArray, List.set_cons_zero, List.set_cons_succ]
  refine' wpAnyH_take (i := 31) (oi := _) (v := undef) ?hir31 (by kernel_rfl) ?hfr31 ?hrr31 ?hQr31 ?hyr31 hBr3 ?restr31
  case hir31 => (simp only [List.getElem?_toArray, List.getElem?_cons_zero, List.getElem?_cons_succ]; rfl)
  case hfr31 => kernel_rfl
  case hrr31 => kernel_rfl
  case hQr31 => exact fun _ _ _ h => h
  case hyr31 => exact Or.inr ⟨by rfl, rfl⟩
  try simp only [Act.put, List.setIfInBounds_toArray, List.set_cons_zero, List.set_cons_succ]
  refine' wpAnyH_take (i := 32) (oi := _) (v := undef) ?hir32 (by kernel_rfl) ?hfr32 ?hrr32 ?hQr32 ?hyr32 hBr3 ?restr32
  case hir32 => (simp only [List.getElem?_toArray, List.getElem?_cons_zero, List.getElem?_cons_succ]; rfl)
  case hfr32 => kernel_rfl
  case hrr32 => kernel_rfl
  case hQr32 => exact fun _ _ _ h => h
  case hyr32 => exact Or.inr ⟨by rfl, rfl⟩
  try simp only [Act.put, List.setIfInBounds_toArray, List.set_cons_zero, List.set_cons_succ]
  refine' wpAnyH_take (i := 33) (oi := _) (v := undef) ?hir33 (by kernel_rfl) ?hfr33 ?hrr33 ?hQr33 ?hyr33 hBr3 ?restr33
  case hir33 => (simp only [List.getElem?_toArray, List.getElem?_cons_zero, List.getElem?_cons_succ]; rfl)
  case hfr33 => kernel_rfl
  case hrr33 => kernel_rfl
  case hQr33 => exact fun _ _ _ h => h
  case hyr33 => exact Or.inr ⟨by rfl, rfl⟩
  try simp only [Act.put, List.setIfInBounds_toArray, List.set_cons_zero, List.set_cons_succ]
  refine' wpAnyH_take (i := 34) (oi := _) (v := undef) ?hir34 (by kernel_rfl) ?hfr34 ?hrr34 ?hQr34 ?hyr34 hBr3 ?restr34
  case hir34 => (simp only [List.getElem?_toArray, List.getElem?_cons_zero, List.getElem?_cons_succ]; rfl)
  case hfr34 => kernel_rfl
  case hrr34 => kernel_rfl
  case hQr34 => exact fun _ _ _ h => h
  case hyr34 => exact Or.inr ⟨by rfl, rfl⟩
  try simp only [Act.put, List.setIfInBounds_toArray, List.set_cons_zero, List.set_cons_succ]
  refine' wpAnyH_take (i := 35) (oi := _) (v := undef) ?hir35 (by kernel_rfl) ?hfr35 ?hrr35 ?hQr35 ?hyr35 hBr3 ?restr35
  case hir35 => (simp only [List.getElem?_toArray, List.getElem?_cons_zero, List.getElem?_cons_succ]; rfl)
  case hfr35 => kernel_rfl
  case hrr35 => kernel_rfl
  case hQr35 => exact fun _ _ _ h => h
  case hyr35 => exact Or.inr ⟨by rfl, rfl⟩
  try simp only [Act.put, List.setIfInBounds_toArray, List.set_cons_zero, List.set_cons_succ]
  refine' wpAnyH_take (i := 36) (oi := _) (v := undef) ?hir36 (by kernel_rfl) ?hfr36 ?hrr36 ?hQr36 ?hyr36 hBr3 ?restr36
  case hir36 => (simp only [List.getElem?_toArray, List.getElem?_cons_zero, List.getElem?_cons_succ]; rfl)
  case hfr36 => kernel_rfl
  case hrr36 => kernel_rfl
  case hQr36 => exact fun _ _ _ h => h
  case hyr36 => exact Or.inr ⟨by rfl, rfl⟩
  try simp only [Act.put, List.setIfInBounds_toArray, List.set_cons_zero, List.set_cons_succ]
  refine' wpAnyH_take (i := 37) (oi := _) (v := undef) ?hir37 (by kernel_rfl) ?hfr37 ?hrr37 ?hQr37 ?hyr37 hBr3 ?restr37
  case hir37 => (simp only [List.getElem?_toArray, List.getElem?_cons_zero, List.getElem?_cons_succ]; rfl)
  case hfr37 => kernel_rfl
  case hrr37 => kernel_rfl
  case hQr37 => exact fun _ _ _ h => h
  case hyr37 => exact Or.inr ⟨by rfl, rfl⟩
  try simp only [Act.put, List.setIfInBounds_toArray, List.set_cons_zero, List.set_cons_succ]
  refine' wpAnyH_take (i := 38) (oi := _) (v := undef) ?hir38 (by kernel_rfl) ?hfr38 ?hrr38 ?hQr38 ?hyr38 hBr3 ?restr38
  case hir38 => (simp only [List.getElem?_toArray, List.getElem?_cons_zero, List.getElem?_cons_succ]; rfl)
  case hfr38 => kernel_rfl
  case hrr38 => kernel_rfl
  case hQr38 => exact fun _ _ _ h => h
  case hyr38 => exact Or.inr ⟨by rfl, rfl⟩
  try simp only [Act.put, List.setIfInBounds_toArray, List.set_cons_zero, List.set_cons_succ]
  refine' wpAnyH_take (i := 39) (oi := _) (v := undef) ?hir39 (by kernel_rfl) ?hfr39 ?hrr39 ?hQr39 ?hyr39 hBr3 ?restr39
  case hir39 => (simp only [List.getElem?_toArray, List.getElem?_cons_zero, List.getElem?_cons_succ]; rfl)
  case hfr39 => kernel_rfl
  case hrr39 => kernel_rfl
  case hQr39 => exact fun _ _ _ h => h
  case hyr39 => exact Or.inr ⟨by rfl, rfl⟩
  try simp only [Act.put, List.setIfInBounds_toArray, List.set_cons_zero, List.set_cons_succ]
  refine' wpAnyH_take (i := 40) (oi := _) (v := undef) ?hir40 (by kernel_rfl) ?hfr40 ?hrr40 ?hQr40 ?hyr40 hBr3 ?restr40
  case hir40 => (simp only [List.getElem?_toArray, List.getElem?_cons_zero, List.getElem?_cons_succ]; rfl)
  case hfr40 => kernel_rfl
  case hrr40 => kernel_rfl
  case hQr40 => exact fun _ _ _ h => h
  case hyr40 => exact Or.inr ⟨by rfl, rfl⟩
  try simp only [Act.put, List.setIfInBounds_toArray, List.set_cons_zero, List.set_cons_succ]
  refine' wpAnyH_take (i := 41) (oi := _) (v := _) ?hir41 (by kernel_rfl) ?hfr41 ?hrr41 ?hQr41 ?hyr41 hBr3 ?restr41
  case hir41 => (simp only [List.getElem?_toArray, List.getElem?_cons_zero, List.getElem?_cons_succ]; rfl)
  case hfr41 => kernel_rfl
  case hrr41 => kernel_rfl
  case hQr41 => exact fun _ _ _ h => h
  case hyr41 => refine Or.inl ⟨by rfl, ?_⟩; intro W hSw; go_simp; try with_reducible rfl
  try simp only [Act.put, List.setIfInBounds_toArray, List.set_cons_zero, List.set_cons_succ]
  refine' wpAnyH_take (i := 42) (oi := _) (v := _) ?hir42 (by kernel_rfl) ?hfr42 ?hrr42 ?hQr42 ?hyr42 hBr3 ?restr42
  case hir42 => (simp only [List.getElem?_toArray, List.getElem?_cons_zero, List.getElem?_cons_succ]; rfl)
  case hfr42 => kernel_rfl
  case hrr42 => kernel_rfl
  case hQr42 => exact fun _ _ _ h => h
  case hyr42 => refine Or.inl ⟨by rfl, ?_⟩; intro W hSw; go_simp; try with_reducible rfl
  try simp only [Act.put, List.setIfInBounds_toArray, List.set_cons_zero, List.set_cons_succ]
  refine' wpAnyH_take (i := 43) (oi := _) (v := _) ?hir43 (by kernel_rfl) ?hfr43 ?hrr43 ?hQr43 ?hyr43 hBr3 ?restr43
  case hir43 => (simp only [List.getElem?_toArray, List.getElem?_cons_zero, List.getElem?_cons_succ]; rfl)
  case hfr43 => kernel_rfl
  case hrr43 => kernel_rfl
  case hQr43 => exact fun _ _ _ h => h
  case hyr43 => refine Or.inl ⟨by rfl, ?_⟩; intro W hSw; go_simp; try with_reducible rfl
  try simp only [Act.put, List.setIfInBounds_toArray, List.set_cons_zero, List.set_cons_succ]
  refine wpAnyH_done (by kernel_rfl) ?_ _
  go_wp2
  go_ret
  exact ⟨rfl, by rw [HG.out]; exact BL.out _ hBr3⟩
  

set_option maxRecDepth 100000 in
set_option maxHeartbeats 4000000 in
theorem klends_gsm (hk : Knows w) (hs : Starts w) (hm : Miss w E) (_ : from_ < 18446744073709551616) (h2 : size < 18446744073709551616) (hl : a.length = 32) (hab : ∀ x ∈ a, x < 256) (hbl : b.length = 32) (cm : CameS w A n c ys) (hn : n ≤ 200) (hgt : (size : Int) < (from_ : Int)) (hz : ¬ size = 0) (hn0 : ((n : Int) == 0) = false) :
    Calls Tryd.prog 5 #[.agg (saidK from_ size a b A n c).toArray] w fun e w' => e = .returned (.bool true) ∧ Below w.heap.size w w' := by
  obtain ⟨w1, hw1⟩ : ∃ w1, w1 = w.alloc (.cells (saidK from_ size a b A n c).toArray 36) := ⟨_, rfl⟩
  have s1 : SaidKAt w1 w.heap.size from_ size a b A n c := by rw [hw1]; exact saidK_new w hl hbl
  have b1 : Below w.heap.size w w1 := by rw [hw1]; exact below_alloc _ _
  obtain ⟨S, hS⟩ : ∃ S, (saidK from_ size a b A n c).toArray = S := ⟨_, rfl⟩
  rw [hS] at hw1 ⊢
  clear hS
  have CA := Lib.hid (fun (W : World) (hW : Below w1.heap.size w1 W) => later (v' := .bool true) hW rfl (kalive_any W E (hk.below (below_on b1 (Nat.le_refl _) hW)) (hs.below (below_on b1 (Nat.le_refl _) hW)) (hm.below (below_on b1 (Nat.le_refl _) hW))))
  have C0 := Lib.hid (fun (W : World) (hW : Below w1.heap.size w1 W) => show Calls Tryd.prog 10 #[.int .u64 0, .int .u64 (size : Int), sv a, sv b, .slice A n c] W fun e w' => e = .returned (.bool false) ∧ Below w1.heap.size w1 w' from later hW rfl (kcheck_far (w := W) (n := n) (c := c) (A := A) (a := a) (b := b) (from_ := 0) (size := size) (by omega)))
  have CF := Lib.hid (fun (W : World) (hW : Below w1.heap.size w1 W) => later hW rfl (kcheck_far (w := W) (n := n) (c := c) (A := A) (a := a) (b := b) (from_ := from_) (size := size) (by omega)))
  have CE : ∀ W : World, Below w1.heap.size w1 W → Calls Tryd.prog 10 #[.int .u64 (size : Int), .int .u64 (size : Int), sv a, sv b, .slice A n c] W fun e w' => e = .returned (.bool false) ∧ Below w1.heap.size w1 w' := fun W hW => by
    refine later hW ?_ (kcheck_any (from_ := size) (size := size) (cm.in_.below (below_on b1 (Nat.le_refl _) hW)) cm.lt cm.cap (by omega) hl hab hbl h2 (hk.below (below_on b1 (Nat.le_refl _) hW)) (hs.below (below_on b1 (Nat.le_refl _) hW)) (hm.below (below_on b1 (Nat.le_refl _) hW)))
    have : ¬ n = 0 := by intro e; rw [e] at hn0; simp at hn0
    rw [begins_self hz, decide_eq_false this]; rfl
  have HCE := Lib.hid CE
  have z0 : ((size : Int) == 0) = false := by simp; omega
  have KS := Lib.hid (fun (W : World) (hW : Below w1.heap.size w1 W) => s1.below hW)
  obtain ⟨g, hg0⟩ : ∃ g, w.heap.size = g := ⟨_, rfl⟩
  rw [hg0] at s1 b1 KS
  have c4 := s1.link
  have c0 := s1.from_
  have c1 := s1.size
  have O0 := Lib.hid s1.old
  have N0 := Lib.hid s1.new
  have HW := Lib.hid hw1
  have BL := Lib.hid (fun (W : World) (hW : Below w1.heap.size w1 W) => show Below g w W from below_on b1 (by rw [← hg0]; exact Nat.le_refl _) hW)
  have HG := Lib.hid hg0
  have hni : ¬ (200 : Int) < (n : Int) := by omega
  clear hw1 s1 b1 hn hk hs hm hz hg0 CE cm h2 hab
  go_enter Tryd.func5, Tryd.ntmps5
  go_upto_region 1 with fail
  rw [← HW.out, HG.out]
  go_wp2_with (first | with_reducible refine wpList_load_sum_g rfl (.tmp 18) rfl ⟨g, 2, none⟩ rfl a hl O0.out ?_ | with_reducible refine wpList_load_sum_g rfl (.tmp 20) rfl ⟨g, 34, none⟩ rfl b hbl N0.out ?_)
  refine (CF.out _ (Below.refl _ _)).mono ?_
  rintro e w2 ⟨rfl, hb2⟩
  go_upto_region 5 with fail
  refine wp_region_held_drew (S := fun W => Below w1.heap.size w1 W) (by kernel_rfl) (hb2.drew) (fun hT0 => ?_)
  change wpAnyH _ _ _ _ _ _ _ _ w2.drew
  refine wpAnyH_ready (rs := [0]) (by kernel_rfl) (by simp) ?_
  refine' AllReadyH.cons (o := _) ?hir0 (fun K hK => ?_) AllReadyH.nil
  case hir0 => (simp only [List.getElem?_toArray, List.getElem?_cons_zero]; rfl)
  go_simp
  go_at_call 7
  refine (CA.out _ hT0).mono ?_
  rintro e Wr2 ⟨rfl, hBr1⟩
  refine hK.out _ _ hBr1 (fun _ => ?_)
  clear hK K
  try simp only [Act.put, List.setIfInBounds_toArray, List.set_cons_zero, List.set_cons_succ]
  refine' wpAnyH_take (i := 1) (oi := _) (v := _) ?hir1 (by kernel_rfl) ?hfr1 ?hrr1 ?hQr1 ?hyr1 hBr1 ?restr1
  case hir1 => (simp only [List.getElem?_toArray, List.getElem?_cons_zero, List.getElem?_cons_succ]; rfl)
  case hfr1 => kernel_rfl
  case hrr1 => kernel_rfl
  case hQr1 => exact fun _ _ _ h => h
  case hyr1 => refine Or.inl ⟨by rfl, ?_⟩; intro W hSw; go_simp; try with_reducible rfl
  try simp only [Act.put, List.setIfInBounds_toArray, List.set_cons_zero, List.set_cons_succ]
  refine' wpAnyH_take (i := 2) (oi := _) (v := _) ?hir2 (by kernel_rfl) ?hfr2 ?hrr2 ?hQr2 ?hyr2 hBr1 ?restr2
  case hir2 => (simp only [List.getElem?_toArray, List.getElem?_cons_zero, List.getElem?_cons_succ]; rfl)
  case hfr2 => kernel_rfl
  case hrr2 => kernel_rfl
  case hQr2 => exact fun _ _ _ h => h
  case hyr2 => refine Or.inl ⟨by rfl, ?_⟩; intro W hSw; go_simp; try with_reducible rfl
  try simp only [Act.put, List.setIfInBounds_toArray, List.set_cons_zero, List.set_cons_succ]
  refine' wpAnyH_take (i := 3) (oi := _) (v := _) ?hir3 (by kernel_rfl) ?hfr3 ?hrr3 ?hQr3 ?hyr3 hBr1 ?restr3
  case hir3 => (simp only [List.getElem?_toArray, List.getElem?_cons_zero, List.getElem?_cons_succ]; rfl)
  case hfr3 => kernel_rfl
  case hrr3 => kernel_rfl
  case hQr3 => exact fun _ _ _ h => h
  case hyr3 => refine Or.inl ⟨by rfl, ?_⟩; intro W hSw; have hcc := (KS.out W hSw).size; go_simp; try with_reducible rfl
  try simp only [Act.put, List.setIfInBounds_toArray, List.set_cons_zero, List.set_cons_succ]
  refine' wpAnyH_take (i := 4) (oi := _) (v := _) ?hir4 (by kernel_rfl) ?hfr4 ?hrr4 ?hQr4 ?hyr4 hBr1 ?restr4
  case hir4 => (simp only [List.getElem?_toArray, List.getElem?_cons_zero, List.getElem?_cons_succ]; rfl)
  case hfr4 => kernel_rfl
  case hrr4 => kernel_rfl
  case hQr4 => exact fun _ _ _ h => h
  case hyr4 => refine Or.inl ⟨by rfl, ?_⟩; intro W hSw; go_simp; try with_reducible rfl
  try simp only [Act.put, List.setIfInBounds_toArray, List.set_cons_zero, List.set_cons_succ]
  refine' wpAnyH_take (i := 5) (oi := _) (v := sv (a)) ?hir5 (by kernel_rfl) ?hfr5 ?hrr5 ?hQr5 ?hyr5 hBr1 ?restr5
  case hir5 => (simp only [List.getElem?_toArray, List.getElem?_cons_zero, List.getElem?_cons_succ]; rfl)
  case hfr5 => kernel_rfl
  case hrr5 => kernel_rfl
  case hQr5 => exact fun _ _ _ h => h
  case hyr5 => refine yields_sum ?_ (.tmp 30) rfl ⟨g, 2, none⟩ rfl a hl (fun W hSw => (KS.out W hSw).old); rfl
  try simp only [Act.put, List.setIfInBounds_toArray, List.set_cons_zero, List.set_cons_succ]
  refine' wpAnyH_take (i := 6) (oi := _) (v := _) ?hir6 (by kernel_rfl) ?hfr6 ?hrr6 ?hQr6 ?hyr6 hBr1 ?restr6
  case hir6 => (simp only [List.getElem?_toArray, List.getElem?_cons_zero, List.getElem?_cons_succ]; rfl)
  case hfr6 => kernel_rfl
  case hrr6 => kernel_rfl
  case hQr6 => exact fun _ _ _ h => h
  case hyr6 => refine Or.inl ⟨by rfl, ?_⟩; intro W hSw; go_simp; try with_reducible rfl
  try simp only [Act.put, List.setIfInBounds_toArray, List.set_cons_zero, List.set_cons_succ]
  refine' wpAnyH_take (i := 7) (oi := _) (v := sv (b)) ?hir7 (by kernel_rfl) ?hfr7 ?hrr7 ?hQr7 ?hyr7 hBr1 ?restr7
  case hir7 => (simp only [List.getElem?_toArray, List.getElem?_cons_zero, List.getElem?_cons_succ]; rfl)
  case hfr7 => kernel_rfl
  case hrr7 => kernel_rfl
  case hQr7 => exact fun _ _ _ h => h
  case hyr7 => refine yields_sum ?_ (.tmp 32) rfl ⟨g, 34, none⟩ rfl b hbl (fun W hSw => (KS.out W hSw).new); rfl
  try simp only [Act.put, List.setIfInBounds_toArray, List.set_cons_zero, List.set_cons_succ]
  refine' wpAnyH_take (i := 8) (oi := _) (v := _) ?hir8 (by kernel_rfl) ?hfr8 ?hrr8 ?hQr8 ?hyr8 hBr1 ?restr8
  case hir8 => (simp only [List.getElem?_toArray, List.getElem?_cons_zero, List.getElem?_cons_succ]; rfl)
  case hfr8 => kernel_rfl
  case hrr8 => kernel_rfl
  case hQr8 => exact fun _ _ _ h => h
  case hyr8 => refine Or.inl ⟨by rfl, ?_⟩; intro W hSw; go_simp; try with_reducible rfl
  try simp only [Act.put, List.setIfInBounds_toArray, List.set_cons_zero, List.set_cons_succ]
  refine' wpAnyH_take (i := 9) (oi := _) (v := _) ?hir9 (by kernel_rfl) ?hfr9 ?hrr9 ?hQr9 ?hyr9 hBr1 ?restr9
  case hir9 => (simp only [List.getElem?_toArray, List.getElem?_cons_zero, List.getElem?_cons_succ]; rfl)
  case hfr9 => kernel_rfl
  case hrr9 => kernel_rfl
  case hQr9 => exact fun _ _ _ h => h
  case hyr9 => refine Or.inl ⟨by rfl, ?_⟩; intro W hSw; have hcc := (KS.out W hSw).link; go_simp; try with_reducible rfl
  try simp only [Act.put, List.setIfInBounds_toArray, List.set_cons_zero, List.set_cons_succ]
  refine wpAnyH_ready (rs := [10]) (by kernel_rfl) (by simp) ?_
  refine' AllReadyH.cons (o := _) ?hir10 (fun K hK => ?_) AllReadyH.nil
  case hir10 => (simp only [List.getElem?_toArray, List.getElem?_cons_zero, List.getElem?_cons_succ]; rfl)
  go_simp
  go_at_call 10
  refine (C0.out _ hBr1).mono ?_
  rintro e Wr4 ⟨rfl, hBr3⟩
  refine hK.out _ _ hBr3 (fun _ => ?_)
  clear hK K
  try simp only [Act.put, List.setIfInBounds_toArray, List.set_cons_zero, List.set_cons_succ]
  refine' wpAnyH_take (i := 11) (oi := _) (v := _) ?hir11 (by kernel_rfl) ?hfr11 ?hrr11 ?hQr11 ?hyr11 hBr3 ?restr11
  case hir11 => (simp only [List.getElem?_toArray, List.getElem?_cons_zero, List.getElem?_cons_succ]; rfl)
  case hfr11 => kernel_rfl
  case hrr11 => kernel_rfl
  case hQr11 => exact fun _ _ _ h => h
  case hyr11 => refine Or.inl ⟨by rfl, ?_⟩; intro W hSw; go_simp; try with_reducible rfl
  try simp only [Act.put, List.setIfInBounds_toArray, List.set_cons_zero, List.set_cons_succ]
  refine' wpAnyH_take (i := 12) (oi := _) (v := _) ?hir12 (by kernel_rfl) ?hfr12 ?hrr12 ?hQr12 ?hyr12 hBr3 ?restr12
  case hir12 => (simp only [List.getElem?_toArray, List.getElem?_cons_zero, List.getElem?_cons_succ]; rfl)
  case hfr12 => kernel_rfl
  case hrr12 => kernel_rfl
  case hQr12 => exact fun _ _ _ h => h
  case hyr12 => refine Or.inl ⟨by rfl, ?_⟩; intro W hSw; go_simp; try with_reducible rfl
  try simp only [Act.put, List.setIfInBounds_toArray, List.set_cons_zero, List.set_cons_succ]
  refine' wpAnyH_take (i := 13) (oi := _) (v := _) ?hir13 (by kernel_rfl) ?hfr13 ?hrr13 ?hQr13 ?hyr13 hBr3 ?restr13
  case hir13 => (simp only [List.getElem?_toArray, List.getElem?_cons_zero, List.getElem?_cons_succ]; rfl)
  case hfr13 => kernel_rfl
  case hrr13 => kernel_rfl
  case hQr13 => exact fun _ _ _ h => h
  case hyr13 => refine Or.inl ⟨by rfl, ?_⟩; intro W hSw; go_simp; try with_reducible rfl
  try simp only [Act.put, List.setIfInBounds_toArray, List.set_cons_zero, List.set_cons_succ]
  refine' wpAnyH_take (i := 14) (oi := _) (v := _) ?hir14 (by kernel_rfl) ?hfr14 ?hrr14 ?hQr14 ?hyr14 hBr3 ?restr14
  case hir14 => (simp only [List.getElem?_toArray, List.getElem?_cons_zero, List.getElem?_cons_succ]; rfl)
  case hfr14 => kernel_rfl
  case hrr14 => kernel_rfl
  case hQr14 => exact fun _ _ _ h => h
  case hyr14 => refine Or.inl ⟨by rfl, ?_⟩; intro W hSw; go_simp; try with_reducible rfl
  try simp only [Act.put, List.setIfInBounds_toArray, List.set_cons_zero, List.set_cons_succ]
  refine' wpAnyH_take (i := 15) (oi := _) (v := _) ?hir15 (by kernel_rfl) ?hfr15 ?hrr15 ?hQr15 ?hyr15 hBr3 ?restr15
  case hir15 => (simp only [List.getElem?_toArray, List.getElem?_cons_zero, List.getElem?_cons_succ]; rfl)
  case hfr15 => kernel_rfl
  case hrr15 => kernel_rfl
  case hQr15 => exact fun _ _ _ h => h
  case hyr15 => refine Or.inl ⟨by rfl, ?_⟩; intro W hSw; have hcc := (KS.out W hSw).size; go_simp; try with_reducible rfl
  try simp only [Act.put, List.setIfInBounds_toArray, List.set_cons_zero, List.set_cons_succ]
  refine' wpAnyH_take (i := 16) (oi := _) (v := _) ?hir16 (by kernel_rfl) ?hfr16 ?hrr16 ?hQr16 ?hyr16 hBr3 ?restr16
  case hir16 => (simp only [List.getElem?_toArray, List.getElem?_cons_zero, List.getElem?_cons_succ]; rfl)
  case hfr16 => kernel_rfl
  case hrr16 => kernel_rfl
  case hQr16 => exact fun _ _ _ h => h
  case hyr16 => refine Or.inl ⟨by rfl, ?_⟩; intro W hSw; go_simp; try with_reducible rfl
  try simp only [Act.put, List.setIfInBounds_toArray, List.set_cons_zero, List.set_cons_succ]
  refine' wpAnyH_take (i := 17) (oi := _) (v := _) ?hir17 (by kernel_rfl) ?hfr17 ?hrr17 ?hQr17 ?hyr17 hBr3 ?restr17
  case hir17 => (simp only [List.getElem?_toArray, List.getElem?_cons_zero, List.getElem?_cons_succ]; rfl)
  case hfr17 => kernel_rfl
  case hrr17 => kernel_rfl
  case hQr17 => exact fun _ _ _ h => h
  case hyr17 => refine Or.inl ⟨by rfl, ?_⟩; intro W hSw; go_simp; try with_reducible rfl
  try simp only [Act.put, List.setIfInBounds_toArray, List.set_cons_zero, List.set_cons_succ]
  refine' wpAnyH_take (i := 18) (oi := _) (v := _) ?hir18 (by kernel_rfl) ?hfr18 ?hrr18 ?hQr18 ?hyr18 hBr3 ?restr18
  case hir18 => (simp only [List.getElem?_toArray, List.getElem?_cons_zero, List.getElem?_cons_succ]; rfl)
  case hfr18 => kernel_rfl
  case hrr18 => kernel_rfl
  case hQr18 => exact fun _ _ _ h => h
  case hyr18 => refine Or.inl ⟨by rfl, ?_⟩; intro W hSw; go_simp; try with_reducible rfl
  try simp only [Act.put, List.setIfInBounds_toArray, List.set_cons_zero, List.set_cons_succ]
  refine' wpAnyH_take (i := 19) (oi := _) (v := _) ?hir19 (by kernel_rfl) ?hfr19 ?hrr19 ?hQr19 ?hyr19 hBr3 ?restr19
  case hir19 => (simp only [List.getElem?_toArray, List.getElem?_cons_zero, List.getElem?_cons_succ]; rfl)
  case hfr19 => kernel_rfl
  case hrr19 => kernel_rfl
  case hQr19 => exact fun _ _ _ h => h
  case hyr19 => refine Or.inl ⟨by rfl, ?_⟩; intro W hSw; have hcc := (KS.out W hSw).size; go_simp; try with_reducible rfl
  try simp only [Act.put, List.setIfInBounds_toArray, List.set_cons_zero, List.set_cons_succ]
  refine' wpAnyH_take (i := 20) (oi := _) (v := _) ?hir20 (by kernel_rfl) ?hfr20 ?hrr20 ?hQr20 ?hyr20 hBr3 ?restr20
  case hir20 => (simp only [List.getElem?_toArray, List.getElem?_cons_zero, List.getElem?_cons_succ]; rfl)
  case hfr20 => kernel_rfl
  case hrr20 => kernel_rfl
  case hQr20 => exact fun _ _ _ h => h
  case hyr20 => refine Or.inl ⟨by rfl, ?_⟩; intro W hSw; go_simp; try with_reducible rfl
  try simp only [Act.put, List.setIfInBounds_toArray, List.set_cons_zero, List.set_cons_succ]
  refine' wpAnyH_take (i := 21) (oi := _) (v := _) ?hir21 (by kernel_rfl) ?hfr21 ?hrr21 ?hQr21 ?hyr21 hBr3 ?restr21
  case hir21 => (simp only [List.getElem?_toArray, List.getElem?_cons_zero, List.getElem?_cons_succ]; rfl)
  case hfr21 => kernel_rfl
  case hrr21 => kernel_rfl
  case hQr21 => exact fun _ _ _ h => h
  case hyr21 => refine Or.inl ⟨by rfl, ?_⟩; intro W hSw; have hcc := (KS.out W hSw).size; go_simp; try with_reducible rfl
  try simp only [Act.put, List.setIfInBounds_toArray, List.set_cons_zero, List.set_cons_succ]
  refine' wpAnyH_take (i := 22) (oi := _) (v := _) ?hir22 (by kernel_rfl) ?hfr22 ?hrr22 ?hQr22 ?hyr22 hBr3 ?restr22
  case hir22 => (simp only [List.getElem?_toArray, List.getElem?_cons_zero, List.getElem?_cons_succ]; rfl)
  case hfr22 => kernel_rfl
  case hrr22 => kernel_rfl
  case hQr22 => exact fun _ _ _ h => h
  case hyr22 => refine Or.inl ⟨by rfl, ?_⟩; intro W hSw; go_simp; try with_reducible rfl
  try simp only [Act.put, List.setIfInBounds_toArray, List.set_cons_zero, List.set_cons_succ]
  refine' wpAnyH_take (i := 23) (oi := _) (v := sv (a)) ?hir23 (by kernel_rfl) ?hfr23 ?hrr23 ?hQr23 ?hyr23 hBr3 ?restr23
  case hir23 => (simp only [List.getElem?_toArray, List.getElem?_cons_zero, List.getElem?_cons_succ]; rfl)
  case hfr23 => kernel_rfl
  case hrr23 => kernel_rfl
  case hQr23 => exact fun _ _ _ h => h
  case hyr23 => refine yields_sum ?_ (.tmp 48) rfl ⟨g, 2, none⟩ rfl a hl (fun W hSw => (KS.out W hSw).old); rfl
  try simp only [Act.put, List.setIfInBounds_toArray, List.set_cons_zero, List.set_cons_succ]
  refine' wpAnyH_take (i := 24) (oi := _) (v := _) ?hir24 (by kernel_rfl) ?hfr24 ?hrr24 ?hQr24 ?hyr24 hBr3 ?restr24
  case hir24 => (simp only [List.getElem?_toArray, List.getElem?_cons_zero, List.getElem?_cons_succ]; rfl)
  case hfr24 => kernel_rfl
  case hrr24 => kernel_rfl
  case hQr24 => exact fun _ _ _ h => h
  case hyr24 => refine Or.inl ⟨by rfl, ?_⟩; intro W hSw; go_simp; try with_reducible rfl
  try simp only [Act.put, List.setIfInBounds_toArray, List.set_cons_zero, List.set_cons_succ]
  refine' wpAnyH_take (i := 25) (oi := _) (v := sv (b)) ?hir25 (by kernel_rfl) ?hfr25 ?hrr25 ?hQr25 ?hyr25 hBr3 ?restr25
  case hir25 => (simp only [List.getElem?_toArray, List.getElem?_cons_zero, List.getElem?_cons_succ]; rfl)
  case hfr25 => kernel_rfl
  case hrr25 => kernel_rfl
  case hQr25 => exact fun _ _ _ h => h
  case hyr25 => refine yields_sum ?_ (.tmp 50) rfl ⟨g, 34, none⟩ rfl b hbl (fun W hSw => (KS.out W hSw).new); rfl
  try simp only [Act.put, List.setIfInBounds_toArray, List.set_cons_zero, List.set_cons_succ]
  refine' wpAnyH_take (i := 26) (oi := _) (v := _) ?hir26 (by kernel_rfl) ?hfr26 ?hrr26 ?hQr26 ?hyr26 hBr3 ?restr26
  case hir26 => (simp only [List.getElem?_toArray, List.getElem?_cons_zero, List.getElem?_cons_succ]; rfl)
  case hfr26 => kernel_rfl
  case hrr26 => kernel_rfl
  case hQr26 => exact fun _ _ _ h => h
  case hyr26 => refine Or.inl ⟨by rfl, ?_⟩; intro W hSw; go_simp; try with_reducible rfl
  try simp only [Act.put, List.setIfInBounds_toArray, List.set_cons_zero, List.set_cons_succ]
  refine' wpAnyH_take (i := 27) (oi := _) (v := _) ?hir27 (by kernel_rfl) ?hfr27 ?hrr27 ?hQr27 ?hyr27 hBr3 ?restr27
  case hir27 => (simp only [List.getElem?_toArray, List.getElem?_cons_zero, List.getElem?_cons_succ]; rfl)
  case hfr27 => kernel_rfl
  case hrr27 => kernel_rfl
  case hQr27 => exact fun _ _ _ h => h
  case hyr27 => refine Or.inl ⟨by rfl, ?_⟩; intro W hSw; have hcc := (KS.out W hSw).link; go_simp; try with_reducible rfl
  try simp only [Act.put, List.setIfInBounds_toArray, List.set_cons_zero, List.set_cons_succ]
  refine' wpAnyH_take (i := 29) (oi := _) (v := _) ?hir29 (by kernel_rfl) ?hfr29 ?hrr29 ?hQr29 ?hyr29 hBr3 ?restr29
  case hir29 => (simp only [List.getElem?_toArray, List.getElem?_cons_zero, List.getElem?_cons_succ]; rfl)
  case hfr29 => kernel_rfl
  case hrr29 => kernel_rfl
  case hQr29 => exact fun _ _ _ h => h
  case hyr29 => refine Or.inl ⟨by rfl, ?_⟩; intro W hSw; go_simp; try with_reducible rfl
  try simp only [Act.put, List.setIfInBounds_toArray, List.set_cons_zero, List.set_cons_succ]
  refine' wpAnyH_take (i := 30) (oi := _) (v := _) ?hir30 (by kernel_rfl) ?hfr30 ?hrr30 ?hQr30 ?hyr30 hBr3 ?restr30
  case hir30 => (simp only [List.getElem?_toArray, List.getElem?_cons_zero, List.getElem?_cons_succ]; rfl)
  case hfr30 => kernel_rfl
  case hrr30 => kernel_rfl
  case hQr30 => exact fun _ _ _ h => h
  case hyr30 => refine Or.inl ⟨by rfl, ?_⟩; intro W hSw; have hcc := (KS.out W hSw).link; go_simp; try with_reducible rfl
  try simp only [Act.put, List.setIfInBounds_toArray, List.set_cons_zero, List.set_cons_succ]
  refine' wpAnyH_take (i := 31) (oi := _) (v := _) ?hir31 (by kernel_rfl) ?hfr31 ?hrr31 ?hQr31 ?hyr31 hBr3 ?restr31
  case hir31 => (simp only [List.getElem?_toArray, List.getElem?_cons_zero, List.getElem?_cons_succ]; rfl)
  case hfr31 => kernel_rfl
  case hrr31 => kernel_rfl
  case hQr31 => exact fun _ _ _ h => h
  case hyr31 => refine Or.inl ⟨by rfl, ?_⟩; intro W hSw; go_simp; try with_reducible rfl
  try simp only [Act.put, List.setIfInBounds_toArray, List.set_cons_zero, List.set_cons_succ]
  refine' wpAnyH_take (i := 32) (oi := _) (v := _) ?hir32 (by kernel_rfl) ?hfr32 ?hrr32 ?hQr32 ?hyr32 hBr3 ?restr32
  case hir32 => (simp only [List.getElem?_toArray, List.getElem?_cons_zero, List.getElem?_cons_succ]; rfl)
  case hfr32 => kernel_rfl
  case hrr32 => kernel_rfl
  case hQr32 => exact fun _ _ _ h => h
  case hyr32 => refine Or.inl ⟨by rfl, ?_⟩; intro W hSw; go_simp; try with_reducible rfl
  try simp only [Act.put, List.setIfInBounds_toArray, List.set_cons_zero, List.set_cons_succ]
  refine wpAnyH_ready (rs := [28]) (by kernel_rfl) (by simp) ?_
  refine' AllReadyH.cons (o := _) ?hir28 (fun K hK => ?_) AllReadyH.nil
  case hir28 => (simp only [List.getElem?_toArray, List.getElem?_cons_zero, List.getElem?_cons_succ]; rfl)
  go_simp
  go_at_call 10
  refine (HCE.out _ hBr3).mono ?_
  rintro e Wr6 ⟨rfl, hBr5⟩
  refine hK.out _ _ hBr5 (fun _ => ?_)
  clear hK K
  try simp only [Act.put, List.setIfInBounds_toArray, List.set_cons_zero, List.set_cons_succ]
  refine' wpAnyH_take (i := 33) (oi := _) (v := _) ?hir33 (by kernel_rfl) ?hfr33 ?hrr33 ?hQr33 ?hyr33 hBr5 ?restr33
  case hir33 => (simp only [List.getElem?_toArray, List.getElem?_cons_zero, List.getElem?_cons_succ]; rfl)
  case hfr33 => kernel_rfl
  case hrr33 => kernel_rfl
  case hQr33 => exact fun _ _ _ h => h
  case hyr33 => refine Or.inl ⟨by rfl, ?_⟩; intro W hSw; go_simp; try with_reducible rfl
  try simp only [Act.put, List.setIfInBounds_toArray, List.set_cons_zero, List.set_cons_succ]
  refine' wpAnyH_take (i := 34) (oi := _) (v := undef) ?hir34 (by kernel_rfl) ?hfr34 ?hrr34 ?hQr34 ?hyr34 hBr5 ?restr34
  case hir34 => (simp only [List.getElem?_toArray, List.getElem?_cons_zero, List.getElem?_cons_succ]; rfl)
  case hfr34 => kernel_rfl
  case hrr34 => kernel_rfl
  case hQr34 => exact fun _ _ _ h => h
  case hyr34 => exact Or.inr ⟨by rfl, rfl⟩
  try simp only [Act.put, List.setIfInBounds_toArray, List.set_cons_zero, List.set_cons_succ]
  refine' wpAnyH_take (i := 35) (oi := _) (v := undef) ?hir35 (by kernel_rfl) ?hfr35 ?hrr35 ?hQr35 ?hyr35 hBr5 ?restr35
  case hir35 => (simp only [List.getElem?_toArray, List.getElem?_cons_zero, List.getElem?_cons_succ]; rfl)
  case hfr35 => kernel_rfl
  case hrr35 => kernel_rfl
  case hQr35 => exact fun _ _ _ h => h
  case hyr35 => exact Or.inr ⟨by rfl, rfl⟩
  try simp only [Act.put, List.setIfInBounds_toArray, List.set_cons_zero, List.set_cons_succ]
  refine' wpAnyH_take (i := 36) (oi := _) (v := undef) ?hir36 (by kernel_rfl) ?hfr36 ?hrr36 ?hQr36 ?hyr36 hBr5 ?restr36
  case hir36 => (simp only [List.getElem?_toArray, List.getElem?_cons_zero, List.getElem?_cons_succ]; rfl)
  case hfr36 => kernel_rfl
  case hrr36 => kernel_rfl
  case hQr36 => exact fun _ _ _ h => h
  case hyr36 => exact Or.inr ⟨by rfl, rfl⟩
  try simp only [Act.put, List.setIfInBounds_toArray, List.set_cons_zero, List.set_cons_succ]
  refine' wpAnyH_take (i := 37) (oi := _) (v := undef) ?hir37 (by kernel_rfl) ?hfr37 ?hrr37 ?hQr37 ?hyr37 hBr5 ?restr37
  case hir37 => (simp only [List.getElem?_toArray, List.getElem?_cons_zero, List.getElem?_cons_succ]; rfl)
  case hfr37 => kernel_rfl
  case hrr37 => kernel_rfl
  case hQr37 => exact fun _ _ _ h => h
  case hyr37 => exact Or.inr ⟨by rfl, rfl⟩
  try simp only [Act.put, List.setIfInBounds_toArray, List.set_cons_zero, List.set_cons_succ]
  refine' wpAnyH_take (i := 38) (oi := _) (v := undef) ?hir38 (by kernel_rfl) ?hfr38 ?hrr38 ?hQr38 ?hyr38 hBr5 ?restr38
  case hir38 => (simp only [List.getElem?_toArray, List.getElem?_cons_zero, List.getElem?_cons_succ]; rfl)
  case hfr38 => kernel_rfl
  case hrr38 => kernel_rfl
  case hQr38 => exact fun _ _ _ h => h
  case hyr38 => exact Or.inr ⟨by rfl, rfl⟩
  try simp only [Act.put, List.setIfInBounds_toArray, List.set_cons_zero, List.set_cons_succ]
  refine' wpAnyH_take (i := 39) (oi := _) (v := _) ?hir39 (by kernel_rfl) ?hfr39 ?hrr39 ?hQr39 ?hyr39 hBr5 ?restr39
  case hir39 => (simp only [List.getElem?_toArray, List.getElem?_cons_zero, List.getElem?_cons_succ]; rfl)
  case hfr39 => kernel_rfl
  case hrr39 => kernel_rfl
  case hQr39 => exact fun _ _ _ h => h
  case hyr39 => refine Or.inl ⟨by rfl, ?_⟩; intro W hSw; go_simp; try with_reducible rfl
  try simp only [Act.put, List.setIfInBounds_toArray, List.set_cons_zero, List.set_cons_succ]
  refine' wpAnyH_take (i := 40) (oi := _) (v := _) ?hir40 (by kernel_rfl) ?hfr40 ?hrr40 ?hQr40 ?hyr40 hBr5 ?restr40
  case hir40 => (simp only [List.getElem?_toArray, List.getElem?_cons_zero, List.getElem?_cons_succ]; rfl)
  case hfr40 => kernel_rfl
  case hrr40 => kernel_rfl
  case hQr40 => exact fun _ _ _ h => h
  case hyr40 => refine Or.inl ⟨by rfl, ?_⟩; intro W hSw; go_simp; try with_reducible rfl
  try simp only [Act.put, List.setIfInBounds_toArray, List.set_cons_zero, List.set_cons_succ]
  refine' wpAnyH_take (i := 41) (oi := _) (v := _) ?hir41 (by kernel_rfl) ?hfr41 ?hrr41 ?hQr41 ?hyr41 hBr5 ?restr41
  case hir41 => (simp only [List.getElem?_toArray, List.getElem?_cons_zero, List.getElem?_cons_succ]; rfl)
  case hfr41 => kernel_rfl
  case hrr41 => kernel_rfl
  case hQr41 => exact fun _ _ _ h => h
  case hyr41 => refine Or.inl ⟨by rfl, ?_⟩; intro W hSw; go_simp; try with_reducible rfl
  try simp only [Act.put, List.setIfInBounds_toArray, List.set_cons_zero, List.set_cons_succ]
  refine' wpAnyH_take (i := 42) (oi := _) (v := _) ?hir42 (by kernel_rfl) ?hfr42 ?hrr42 ?hQr42 ?hyr42 hBr5 ?restr42
  case hir42 => (simp only [List.getElem?_toArray, List.getElem?_cons_zero, List.getElem?_cons_succ]; rfl)
  case hfr42 => kernel_rfl
  case hrr42 => kernel_rfl
  case hQr42 => exact fun _ _ _ h => h
  case hyr42 => refine Or.inl ⟨by rfl, ?_⟩; intro W hSw; go_simp; try with_reducible rfl
  try simp only [Act.put, List.setIfInBounds_toArray, List.set_cons_zero, List.set_cons_succ]
  refine' wpAnyH_take (i := 43) (oi := _) (v := _) ?hir43 (by kernel_rfl) ?hfr43 ?hrr43 ?hQr43 ?hyr43 hBr5 ?restr43
  case hir43 => (simp only [List.getElem?_toArray, List.getElem?_cons_zero, List.getElem?_cons_succ]; rfl)
  case hfr43 => kernel_rfl
  case hrr43 => kernel_rfl
  case hQr43 => exact fun _ _ _ h => h
  case hyr43 => refine Or.inl ⟨by rfl, ?_⟩; intro W hSw; go_simp; try with_reducible rfl
  try simp only [Act.put, List.setIfInBounds_toArray, List.set_cons_zero, List.set_cons_succ]
  refine wpAnyH_done (by kernel_rfl) ?_ _
  go_wp2
  go_ret
  exact ⟨rfl, by rw [HG.out]; exact BL.out _ hBr5⟩
  

set_option maxRecDepth 100000 in
set_option maxHeartbeats 4000000 in
theorem klends_gsne (hk : Knows w) (hs : Starts w) (hm : Miss w E) (_ : from_ < 18446744073709551616) (h2 : size < 18446744073709551616) (hl : a.length = 32) (hab : ∀ x ∈ a, x < 256) (hbl : b.length = 32) (cm : CameS w A n c ys) (hn : n ≤ 200) (hgt : (size : Int) < (from_ : Int)) (hz : ¬ size = 0) (hn0 : ((n : Int) == 0) = true) (hq : decide (a = b) = true) :
    Calls Tryd.prog 5 #[.agg (saidK from_ size a b A n c).toArray] w fun e w' => e = .returned (.bool true) ∧ Below w.heap.size w w' := by
  obtain ⟨w1, hw1⟩ : ∃ w1, w1 = w.alloc (.cells (saidK from_ size a b A n c).toArray 36) := ⟨_, rfl⟩
  have s1 : SaidKAt w1 w.heap.size from_ size a b A n c := by rw [hw1]; exact saidK_new w hl hbl
  have b1 : Below w.heap.size w w1 := by rw [hw1]; exact below_alloc _ _
  obtain ⟨S, hS⟩ : ∃ S, (saidK from_ size a b A n c).toArray = S := ⟨_, rfl⟩
  rw [hS] at hw1 ⊢
  clear hS
  have CA := Lib.hid (fun (W : World) (hW : Below w1.heap.size w1 W) => later (v' := .bool true) hW rfl (kalive_any W E (hk.below (below_on b1 (Nat.le_refl _) hW)) (hs.below (below_on b1 (Nat.le_refl _) hW)) (hm.below (below_on b1 (Nat.le_refl _) hW))))
  have C0 := Lib.hid (fun (W : World) (hW : Below w1.heap.size w1 W) => show Calls Tryd.prog 10 #[.int .u64 0, .int .u64 (size : Int), sv a, sv b, .slice A n c] W fun e w' => e = .returned (.bool false) ∧ Below w1.heap.size w1 w' from later hW rfl (kcheck_far (w := W) (n := n) (c := c) (A := A) (a := a) (b := b) (from_ := 0) (size := size) (by omega)))
  have CF := Lib.hid (fun (W : World) (hW : Below w1.heap.size w1 W) => later hW rfl (kcheck_far (w := W) (n := n) (c := c) (A := A) (a := a) (b := b) (from_ := from_) (size := size) (by omega)))
  have CE : ∀ W : World, Below w1.heap.size w1 W → Calls Tryd.prog 10 #[.int .u64 (size : Int), .int .u64 (size : Int), sv a, sv b, .slice A n c] W fun e w' => e = .returned (.bool true) ∧ Below w1.heap.size w1 w' := fun W hW => by
    refine later hW ?_ (kcheck_any (from_ := size) (size := size) (cm.in_.below (below_on b1 (Nat.le_refl _) hW)) cm.lt cm.cap (by omega) hl hab hbl h2 (hk.below (below_on b1 (Nat.le_refl _) hW)) (hs.below (below_on b1 (Nat.le_refl _) hW)) (hm.below (below_on b1 (Nat.le_refl _) hW)))
    have : n = 0 := by simpa using hn0
    rw [begins_self hz, hq, this]; rfl
  have HCE := Lib.hid CE
  have z0 : ((size : Int) == 0) = false := by simp; omega
  have q1 := run_eql_sum a b hl hbl
  rw [hq] at q1
  have q2 := run_guard_eql
  have KS := Lib.hid (fun (W : World) (hW : Below w1.heap.size w1 W) => s1.below hW)
  obtain ⟨g, hg0⟩ : ∃ g, w.heap.size = g := ⟨_, rfl⟩
  rw [hg0] at s1 b1 KS
  have c4 := s1.link
  have c0 := s1.from_
  have c1 := s1.size
  have O0 := Lib.hid s1.old
  have N0 := Lib.hid s1.new
  have HW := Lib.hid hw1
  have BL := Lib.hid (fun (W : World) (hW : Below w1.heap.size w1 W) => show Below g w W from below_on b1 (by rw [← hg0]; exact Nat.le_refl _) hW)
  have HG := Lib.hid hg0
  have hni : ¬ (200 : Int) < (n : Int) := by omega
  clear hw1 s1 b1 hn hk hs hm hz hg0 CE cm h2 hab
  go_enter Tryd.func5, Tryd.ntmps5
  go_upto_region 1 with fail
  rw [← HW.out, HG.out]
  go_wp2_with (first | with_reducible refine wpList_load_sum_g rfl (.tmp 18) rfl ⟨g, 2, none⟩ rfl a hl O0.out ?_ | with_reducible refine wpList_load_sum_g rfl (.tmp 20) rfl ⟨g, 34, none⟩ rfl b hbl N0.out ?_)
  refine (CF.out _ (Below.refl _ _)).mono ?_
  rintro e w2 ⟨rfl, hb2⟩
  go_upto_region 5 with fail
  refine wp_region_held_drew (S := fun W => Below w1.heap.size w1 W) (by kernel_rfl) (hb2.drew) (fun hT0 => ?_)
  change wpAnyH _ _ _ _ _ _ _ _ w2.drew
  refine wpAnyH_ready (rs := [0]) (by kernel_rfl) (by simp) ?_
  refine' AllReadyH.cons (o := _) ?hir0 (fun K hK => ?_) AllReadyH.nil
  case hir0 => (simp only [List.getElem?_toArray, List.getElem?_cons_zero]; rfl)
  go_simp
  go_at_call 7
  refine (CA.out _ hT0).mono ?_
  rintro e Wr2 ⟨rfl, hBr1⟩
  refine hK.out _ _ hBr1 (fun _ => ?_)
  clear hK K
  try simp only [Act.put, List.setIfInBounds_toArray, List.set_cons_zero, List.set_cons_succ]
  refine' wpAnyH_take (i := 1) (oi := _) (v := _) ?hir1 (by kernel_rfl) ?hfr1 ?hrr1 ?hQr1 ?hyr1 hBr1 ?restr1
  case hir1 => (simp only [List.getElem?_toArray, List.getElem?_cons_zero, List.getElem?_cons_succ]; rfl)
  case hfr1 => kernel_rfl
  case hrr1 => kernel_rfl
  case hQr1 => exact fun _ _ _ h => h
  case hyr1 => refine Or.inl ⟨by rfl, ?_⟩; intro W hSw; go_simp; try with_reducible rfl
  try simp only [Act.put, List.setIfInBounds_toArray, List.set_cons_zero, List.set_cons_succ]
  refine' wpAnyH_take (i := 2) (oi := _) (v := _) ?hir2 (by kernel_rfl) ?hfr2 ?hrr2 ?hQr2 ?hyr2 hBr1 ?restr2
  case hir2 => (simp only [List.getElem?_toArray, List.getElem?_cons_zero, List.getElem?_cons_succ]; rfl)
  case hfr2 => kernel_rfl
  case hrr2 => kernel_rfl
  case hQr2 => exact fun _ _ _ h => h
  case hyr2 => refine Or.inl ⟨by rfl, ?_⟩; intro W hSw; go_simp; try with_reducible rfl
  try simp only [Act.put, List.setIfInBounds_toArray, List.set_cons_zero, List.set_cons_succ]
  refine' wpAnyH_take (i := 3) (oi := _) (v := _) ?hir3 (by kernel_rfl) ?hfr3 ?hrr3 ?hQr3 ?hyr3 hBr1 ?restr3
  case hir3 => (simp only [List.getElem?_toArray, List.getElem?_cons_zero, List.getElem?_cons_succ]; rfl)
  case hfr3 => kernel_rfl
  case hrr3 => kernel_rfl
  case hQr3 => exact fun _ _ _ h => h
  case hyr3 => refine Or.inl ⟨by rfl, ?_⟩; intro W hSw; have hcc := (KS.out W hSw).size; go_simp; try with_reducible rfl
  try simp only [Act.put, List.setIfInBounds_toArray, List.set_cons_zero, List.set_cons_succ]
  refine' wpAnyH_take (i := 4) (oi := _) (v := _) ?hir4 (by kernel_rfl) ?hfr4 ?hrr4 ?hQr4 ?hyr4 hBr1 ?restr4
  case hir4 => (simp only [List.getElem?_toArray, List.getElem?_cons_zero, List.getElem?_cons_succ]; rfl)
  case hfr4 => kernel_rfl
  case hrr4 => kernel_rfl
  case hQr4 => exact fun _ _ _ h => h
  case hyr4 => refine Or.inl ⟨by rfl, ?_⟩; intro W hSw; go_simp; try with_reducible rfl
  try simp only [Act.put, List.setIfInBounds_toArray, List.set_cons_zero, List.set_cons_succ]
  refine' wpAnyH_take (i := 5) (oi := _) (v := sv (a)) ?hir5 (by kernel_rfl) ?hfr5 ?hrr5 ?hQr5 ?hyr5 hBr1 ?restr5
  case hir5 => (simp only [List.getElem?_toArray, List.getElem?_cons_zero, List.getElem?_cons_succ]; rfl)
  case hfr5 => kernel_rfl
  case hrr5 => kernel_rfl
  case hQr5 => exact fun _ _ _ h => h
  case hyr5 => refine yields_sum ?_ (.tmp 30) rfl ⟨g, 2, none⟩ rfl a hl (fun W hSw => (KS.out W hSw).old); rfl
  try simp only [Act.put, List.setIfInBounds_toArray, List.set_cons_zero, List.set_cons_succ]
  refine' wpAnyH_take (i := 6) (oi := _) (v := _) ?hir6 (by kernel_rfl) ?hfr6 ?hrr6 ?hQr6 ?hyr6 hBr1 ?restr6
  case hir6 => (simp only [List.getElem?_toArray, List.getElem?_cons_zero, List.getElem?_cons_succ]; rfl)
  case hfr6 => kernel_rfl
  case hrr6 => kernel_rfl
  case hQr6 => exact fun _ _ _ h => h
  case hyr6 => refine Or.inl ⟨by rfl, ?_⟩; intro W hSw; go_simp; try with_reducible rfl
  try simp only [Act.put, List.setIfInBounds_toArray, List.set_cons_zero, List.set_cons_succ]
  refine' wpAnyH_take (i := 7) (oi := _) (v := sv (b)) ?hir7 (by kernel_rfl) ?hfr7 ?hrr7 ?hQr7 ?hyr7 hBr1 ?restr7
  case hir7 => (simp only [List.getElem?_toArray, List.getElem?_cons_zero, List.getElem?_cons_succ]; rfl)
  case hfr7 => kernel_rfl
  case hrr7 => kernel_rfl
  case hQr7 => exact fun _ _ _ h => h
  case hyr7 => refine yields_sum ?_ (.tmp 32) rfl ⟨g, 34, none⟩ rfl b hbl (fun W hSw => (KS.out W hSw).new); rfl
  try simp only [Act.put, List.setIfInBounds_toArray, List.set_cons_zero, List.set_cons_succ]
  refine' wpAnyH_take (i := 8) (oi := _) (v := _) ?hir8 (by kernel_rfl) ?hfr8 ?hrr8 ?hQr8 ?hyr8 hBr1 ?restr8
  case hir8 => (simp only [List.getElem?_toArray, List.getElem?_cons_zero, List.getElem?_cons_succ]; rfl)
  case hfr8 => kernel_rfl
  case hrr8 => kernel_rfl
  case hQr8 => exact fun _ _ _ h => h
  case hyr8 => refine Or.inl ⟨by rfl, ?_⟩; intro W hSw; go_simp; try with_reducible rfl
  try simp only [Act.put, List.setIfInBounds_toArray, List.set_cons_zero, List.set_cons_succ]
  refine' wpAnyH_take (i := 9) (oi := _) (v := _) ?hir9 (by kernel_rfl) ?hfr9 ?hrr9 ?hQr9 ?hyr9 hBr1 ?restr9
  case hir9 => (simp only [List.getElem?_toArray, List.getElem?_cons_zero, List.getElem?_cons_succ]; rfl)
  case hfr9 => kernel_rfl
  case hrr9 => kernel_rfl
  case hQr9 => exact fun _ _ _ h => h
  case hyr9 => refine Or.inl ⟨by rfl, ?_⟩; intro W hSw; have hcc := (KS.out W hSw).link; go_simp; try with_reducible rfl
  try simp only [Act.put, List.setIfInBounds_toArray, List.set_cons_zero, List.set_cons_succ]
  refine wpAnyH_ready (rs := [10]) (by kernel_rfl) (by simp) ?_
  refine' AllReadyH.cons (o := _) ?hir10 (fun K hK => ?_) AllReadyH.nil
  case hir10 => (simp only [List.getElem?_toArray, List.getElem?_cons_zero, List.getElem?_cons_succ]; rfl)
  go_simp
  go_at_call 10
  refine (C0.out _ hBr1).mono ?_
  rintro e Wr4 ⟨rfl, hBr3⟩
  refine hK.out _ _ hBr3 (fun _ => ?_)
  clear hK K
  try simp only [Act.put, List.setIfInBounds_toArray, List.set_cons_zero, List.set_cons_succ]
  refine' wpAnyH_take (i := 11) (oi := _) (v := _) ?hir11 (by kernel_rfl) ?hfr11 ?hrr11 ?hQr11 ?hyr11 hBr3 ?restr11
  case hir11 => (simp only [List.getElem?_toArray, List.getElem?_cons_zero, List.getElem?_cons_succ]; rfl)
  case hfr11 => kernel_rfl
  case hrr11 => kernel_rfl
  case hQr11 => exact fun _ _ _ h => h
  case hyr11 => refine Or.inl ⟨by rfl, ?_⟩; intro W hSw; go_simp; try with_reducible rfl
  try simp only [Act.put, List.setIfInBounds_toArray, List.set_cons_zero, List.set_cons_succ]
  refine' wpAnyH_take (i := 12) (oi := _) (v := _) ?hir12 (by kernel_rfl) ?hfr12 ?hrr12 ?hQr12 ?hyr12 hBr3 ?restr12
  case hir12 => (simp only [List.getElem?_toArray, List.getElem?_cons_zero, List.getElem?_cons_succ]; rfl)
  case hfr12 => kernel_rfl
  case hrr12 => kernel_rfl
  case hQr12 => exact fun _ _ _ h => h
  case hyr12 => refine Or.inl ⟨by rfl, ?_⟩; intro W hSw; go_simp; try with_reducible rfl
  try simp only [Act.put, List.setIfInBounds_toArray, List.set_cons_zero, List.set_cons_succ]
  refine' wpAnyH_take (i := 13) (oi := _) (v := _) ?hir13 (by kernel_rfl) ?hfr13 ?hrr13 ?hQr13 ?hyr13 hBr3 ?restr13
  case hir13 => (simp only [List.getElem?_toArray, List.getElem?_cons_zero, List.getElem?_cons_succ]; rfl)
  case hfr13 => kernel_rfl
  case hrr13 => kernel_rfl
  case hQr13 => exact fun _ _ _ h => h
  case hyr13 => refine Or.inl ⟨by rfl, ?_⟩; intro W hSw; go_simp; try with_reducible rfl
  try simp only [Act.put, List.setIfInBounds_toArray, List.set_cons_zero, List.set_cons_succ]
  refine' wpAnyH_take (i := 14) (oi := _) (v := _) ?hir14 (by kernel_rfl) ?hfr14 ?hrr14 ?hQr14 ?hyr14 hBr3 ?restr14
  case hir14 => (simp only [List.getElem?_toArray, List.getElem?_cons_zero, List.getElem?_cons_succ]; rfl)
  case hfr14 => kernel_rfl
  case hrr14 => kernel_rfl
  case hQr14 => exact fun _ _ _ h => h
  case hyr14 => refine Or.inl ⟨by rfl, ?_⟩; intro W hSw; go_simp; try with_reducible rfl
  try simp only [Act.put, List.setIfInBounds_toArray, List.set_cons_zero, List.set_cons_succ]
  refine' wpAnyH_take (i := 15) (oi := _) (v := _) ?hir15 (by kernel_rfl) ?hfr15 ?hrr15 ?hQr15 ?hyr15 hBr3 ?restr15
  case hir15 => (simp only [List.getElem?_toArray, List.getElem?_cons_zero, List.getElem?_cons_succ]; rfl)
  case hfr15 => kernel_rfl
  case hrr15 => kernel_rfl
  case hQr15 => exact fun _ _ _ h => h
  case hyr15 => refine Or.inl ⟨by rfl, ?_⟩; intro W hSw; have hcc := (KS.out W hSw).size; go_simp; try with_reducible rfl
  try simp only [Act.put, List.setIfInBounds_toArray, List.set_cons_zero, List.set_cons_succ]
  refine' wpAnyH_take (i := 16) (oi := _) (v := _) ?hir16 (by kernel_rfl) ?hfr16 ?hrr16 ?hQr16 ?hyr16 hBr3 ?restr16
  case hir16 => (simp only [List.getElem?_toArray, List.getElem?_cons_zero, List.getElem?_cons_succ]; rfl)
  case hfr16 => kernel_rfl
  case hrr16 => kernel_rfl
  case hQr16 => exact fun _ _ _ h => h
  case hyr16 => refine Or.inl ⟨by rfl, ?_⟩; intro W hSw; go_simp; try with_reducible rfl
  try simp only [Act.put, List.setIfInBounds_toArray, List.set_cons_zero, List.set_cons_succ]
  refine' wpAnyH_take (i := 17) (oi := _) (v := _) ?hir17 (by kernel_rfl) ?hfr17 ?hrr17 ?hQr17 ?hyr17 hBr3 ?restr17
  case hir17 => (simp only [List.getElem?_toArray, List.getElem?_cons_zero, List.getElem?_cons_succ]; rfl)
  case hfr17 => kernel_rfl
  case hrr17 => kernel_rfl
  case hQr17 => exact fun _ _ _ h => h
  case hyr17 => refine Or.inl ⟨by rfl, ?_⟩; intro W hSw; go_simp; try with_reducible rfl
  try simp only [Act.put, List.setIfInBounds_toArray, List.set_cons_zero, List.set_cons_succ]
  refine' wpAnyH_take (i := 18) (oi := _) (v := _) ?hir18 (by kernel_rfl) ?hfr18 ?hrr18 ?hQr18 ?hyr18 hBr3 ?restr18
  case hir18 => (simp only [List.getElem?_toArray, List.getElem?_cons_zero, List.getElem?_cons_succ]; rfl)
  case hfr18 => kernel_rfl
  case hrr18 => kernel_rfl
  case hQr18 => exact fun _ _ _ h => h
  case hyr18 => refine Or.inl ⟨by rfl, ?_⟩; intro W hSw; go_simp; try with_reducible rfl
  try simp only [Act.put, List.setIfInBounds_toArray, List.set_cons_zero, List.set_cons_succ]
  refine' wpAnyH_take (i := 19) (oi := _) (v := _) ?hir19 (by kernel_rfl) ?hfr19 ?hrr19 ?hQr19 ?hyr19 hBr3 ?restr19
  case hir19 => (simp only [List.getElem?_toArray, List.getElem?_cons_zero, List.getElem?_cons_succ]; rfl)
  case hfr19 => kernel_rfl
  case hrr19 => kernel_rfl
  case hQr19 => exact fun _ _ _ h => h
  case hyr19 => refine Or.inl ⟨by rfl, ?_⟩; intro W hSw; have hcc := (KS.out W hSw).size; go_simp; try with_reducible rfl
  try simp only [Act.put, List.setIfInBounds_toArray, List.set_cons_zero, List.set_cons_succ]
  refine' wpAnyH_take (i := 20) (oi := _) (v := _) ?hir20 (by kernel_rfl) ?hfr20 ?hrr20 ?hQr20 ?hyr20 hBr3 ?restr20
  case hir20 => (simp only [List.getElem?_toArray, List.getElem?_cons_zero, List.getElem?_cons_succ]; rfl)
  case hfr20 => kernel_rfl
  case hrr20 => kernel_rfl
  case hQr20 => exact fun _ _ _ h => h
  case hyr20 => refine Or.inl ⟨by rfl, ?_⟩; intro W hSw; go_simp; try with_reducible rfl
  try simp only [Act.put, List.setIfInBounds_toArray, List.set_cons_zero, List.set_cons_succ]
  refine' wpAnyH_take (i := 21) (oi := _) (v := _) ?hir21 (by kernel_rfl) ?hfr21 ?hrr21 ?hQr21 ?hyr21 hBr3 ?restr21
  case hir21 => (simp only [List.getElem?_toArray, List.getElem?_cons_zero, List.getElem?_cons_succ]; rfl)
  case hfr21 => kernel_rfl
  case hrr21 => kernel_rfl
  case hQr21 => exact fun _ _ _ h => h
  case hyr21 => refine Or.inl ⟨by rfl, ?_⟩; intro W hSw; have hcc := (KS.out W hSw).size; go_simp; try with_reducible rfl
  try simp only [Act.put, List.setIfInBounds_toArray, List.set_cons_zero, List.set_cons_succ]
  refine' wpAnyH_take (i := 22) (oi := _) (v := _) ?hir22 (by kernel_rfl) ?hfr22 ?hrr22 ?hQr22 ?hyr22 hBr3 ?restr22
  case hir22 => (simp only [List.getElem?_toArray, List.getElem?_cons_zero, List.getElem?_cons_succ]; rfl)
  case hfr22 => kernel_rfl
  case hrr22 => kernel_rfl
  case hQr22 => exact fun _ _ _ h => h
  case hyr22 => refine Or.inl ⟨by rfl, ?_⟩; intro W hSw; go_simp; try with_reducible rfl
  try simp only [Act.put, List.setIfInBounds_toArray, List.set_cons_zero, List.set_cons_succ]
  refine' wpAnyH_take (i := 23) (oi := _) (v := sv (a)) ?hir23 (by kernel_rfl) ?hfr23 ?hrr23 ?hQr23 ?hyr23 hBr3 ?restr23
  case hir23 => (simp only [List.getElem?_toArray, List.getElem?_cons_zero, List.getElem?_cons_succ]; rfl)
  case hfr23 => kernel_rfl
  case hrr23 => kernel_rfl
  case hQr23 => exact fun _ _ _ h => h
  case hyr23 => refine yields_sum ?_ (.tmp 48) rfl ⟨g, 2, none⟩ rfl a hl (fun W hSw => (KS.out W hSw).old); rfl
  try simp only [Act.put, List.setIfInBounds_toArray, List.set_cons_zero, List.set_cons_succ]
  refine' wpAnyH_take (i := 24) (oi := _) (v := _) ?hir24 (by kernel_rfl) ?hfr24 ?hrr24 ?hQr24 ?hyr24 hBr3 ?restr24
  case hir24 => (simp only [List.getElem?_toArray, List.getElem?_cons_zero, List.getElem?_cons_succ]; rfl)
  case hfr24 => kernel_rfl
  case hrr24 => kernel_rfl
  case hQr24 => exact fun _ _ _ h => h
  case hyr24 => refine Or.inl ⟨by rfl, ?_⟩; intro W hSw; go_simp; try with_reducible rfl
  try simp only [Act.put, List.setIfInBounds_toArray, List.set_cons_zero, List.set_cons_succ]
  refine' wpAnyH_take (i := 25) (oi := _) (v := sv (b)) ?hir25 (by kernel_rfl) ?hfr25 ?hrr25 ?hQr25 ?hyr25 hBr3 ?restr25
  case hir25 => (simp only [List.getElem?_toArray, List.getElem?_cons_zero, List.getElem?_cons_succ]; rfl)
  case hfr25 => kernel_rfl
  case hrr25 => kernel_rfl
  case hQr25 => exact fun _ _ _ h => h
  case hyr25 => refine yields_sum ?_ (.tmp 50) rfl ⟨g, 34, none⟩ rfl b hbl (fun W hSw => (KS.out W hSw).new); rfl
  try simp only [Act.put, List.setIfInBounds_toArray, List.set_cons_zero, List.set_cons_succ]
  refine' wpAnyH_take (i := 26) (oi := _) (v := _) ?hir26 (by kernel_rfl) ?hfr26 ?hrr26 ?hQr26 ?hyr26 hBr3 ?restr26
  case hir26 => (simp only [List.getElem?_toArray, List.getElem?_cons_zero, List.getElem?_cons_succ]; rfl)
  case hfr26 => kernel_rfl
  case hrr26 => kernel_rfl
  case hQr26 => exact fun _ _ _ h => h
  case hyr26 => refine Or.inl ⟨by rfl, ?_⟩; intro W hSw; go_simp; try with_reducible rfl
  try simp only [Act.put, List.setIfInBounds_toArray, List.set_cons_zero, List.set_cons_succ]
  refine' wpAnyH_take (i := 27) (oi := _) (v := _) ?hir27 (by kernel_rfl) ?hfr27 ?hrr27 ?hQr27 ?hyr27 hBr3 ?restr27
  case hir27 => (simp only [List.getElem?_toArray, List.getElem?_cons_zero, List.getElem?_cons_succ]; rfl)
  case hfr27 => kernel_rfl
  case hrr27 => kernel_rfl
  case hQr27 => exact fun _ _ _ h => h
  case hyr27 => refine Or.inl ⟨by rfl, ?_⟩; intro W hSw; have hcc := (KS.out W hSw).link; go_simp; try with_reducible rfl
  try simp only [Act.put, List.setIfInBounds_toArray, List.set_cons_zero, List.set_cons_succ]
  refine' wpAnyH_take (i := 29) (oi := _) (v := _) ?hir29 (by kernel_rfl) ?hfr29 ?hrr29 ?hQr29 ?hyr29 hBr3 ?restr29
  case hir29 => (simp only [List.getElem?_toArray, List.getElem?_cons_zero, List.getElem?_cons_succ]; rfl)
  case hfr29 => kernel_rfl
  case hrr29 => kernel_rfl
  case hQr29 => exact fun _ _ _ h => h
  case hyr29 => refine Or.inl ⟨by rfl, ?_⟩; intro W hSw; go_simp; try with_reducible rfl
  try simp only [Act.put, List.setIfInBounds_toArray, List.set_cons_zero, List.set_cons_succ]
  refine' wpAnyH_take (i := 30) (oi := _) (v := _) ?hir30 (by kernel_rfl) ?hfr30 ?hrr30 ?hQr30 ?hyr30 hBr3 ?restr30
  case hir30 => (simp only [List.getElem?_toArray, List.getElem?_cons_zero, List.getElem?_cons_succ]; rfl)
  case hfr30 => kernel_rfl
  case hrr30 => kernel_rfl
  case hQr30 => exact fun _ _ _ h => h
  case hyr30 => refine Or.inl ⟨by rfl, ?_⟩; intro W hSw; have hcc := (KS.out W hSw).link; go_simp; try with_reducible rfl
  try simp only [Act.put, List.setIfInBounds_toArray, List.set_cons_zero, List.set_cons_succ]
  refine' wpAnyH_take (i := 31) (oi := _) (v := _) ?hir31 (by kernel_rfl) ?hfr31 ?hrr31 ?hQr31 ?hyr31 hBr3 ?restr31
  case hir31 => (simp only [List.getElem?_toArray, List.getElem?_cons_zero, List.getElem?_cons_succ]; rfl)
  case hfr31 => kernel_rfl
  case hrr31 => kernel_rfl
  case hQr31 => exact fun _ _ _ h => h
  case hyr31 => refine Or.inl ⟨by rfl, ?_⟩; intro W hSw; go_simp; try with_reducible rfl
  try simp only [Act.put, List.setIfInBounds_toArray, List.set_cons_zero, List.set_cons_succ]
  refine' wpAnyH_take (i := 32) (oi := _) (v := _) ?hir32 (by kernel_rfl) ?hfr32 ?hrr32 ?hQr32 ?hyr32 hBr3 ?restr32
  case hir32 => (simp only [List.getElem?_toArray, List.getElem?_cons_zero, List.getElem?_cons_succ]; rfl)
  case hfr32 => kernel_rfl
  case hrr32 => kernel_rfl
  case hQr32 => exact fun _ _ _ h => h
  case hyr32 => refine Or.inl ⟨by rfl, ?_⟩; intro W hSw; go_simp; try with_reducible rfl
  try simp only [Act.put, List.setIfInBounds_toArray, List.set_cons_zero, List.set_cons_succ]
  refine wpAnyH_ready (rs := [28]) (by kernel_rfl) (by simp) ?_
  refine' AllReadyH.cons (o := _) ?hir28 (fun K hK => ?_) AllReadyH.nil
  case hir28 => (simp only [List.getElem?_toArray, List.getElem?_cons_zero, List.getElem?_cons_succ]; rfl)
  go_simp
  go_at_call 10
  refine (HCE.out _ hBr3).mono ?_
  rintro e Wr6 ⟨rfl, hBr5⟩
  refine hK.out _ _ hBr5 (fun _ => ?_)
  clear hK K
  try simp only [Act.put, List.setIfInBounds_toArray, List.set_cons_zero, List.set_cons_succ]
  refine' wpAnyH_take (i := 33) (oi := _) (v := _) ?hir33 (by kernel_rfl) ?hfr33 ?hrr33 ?hQr33 ?hyr33 hBr5 ?restr33
  case hir33 => (simp only [List.getElem?_toArray, List.getElem?_cons_zero, List.getElem?_cons_succ]; rfl)
  case hfr33 => kernel_rfl
  case hrr33 => kernel_rfl
  case hQr33 => exact fun _ _ _ h => h
  case hyr33 => refine Or.inl ⟨by rfl, ?_⟩; intro W hSw; go_simp; try with_reducible rfl
  try simp only [Act.put, List.setIfInBounds_toArray, List.set_cons_zero, List.set_cons_succ]
  refine' wpAnyH_take (i := 34) (oi := _) (v := _) ?hir34 (by kernel_rfl) ?hfr34 ?hrr34 ?hQr34 ?hyr34 hBr5 ?restr34
  case hir34 => (simp only [List.getElem?_toArray, List.getElem?_cons_zero, List.getElem?_cons_succ]; rfl)
  case hfr34 => kernel_rfl
  case hrr34 => kernel_rfl
  case hQr34 => exact fun _ _ _ h => h
  case hyr34 => refine Or.inl ⟨by rfl, ?_⟩; intro W hSw; go_simp; try with_reducible rfl
  try simp only [Act.put, List.setIfInBounds_toArray, List.set_cons_zero, List.set_cons_succ]
  refine' wpAnyH_take (i := 35) (oi := _) (v := sv (a)) ?hir35 (by kernel_rfl) ?hfr35 ?hrr35 ?hQr35 ?hyr35 hBr5 ?restr35
  case hir35 => (simp only [List.getElem?_toArray, List.getElem?_cons_zero, List.getElem?_cons_succ]; rfl)
  case hfr35 => kernel_rfl
  case hrr35 => kernel_rfl
  case hQr35 => exact fun _ _ _ h => h
  case hyr35 => refine yields_sum ?_ (.tmp 60) rfl ⟨g, 2, none⟩ rfl a hl (fun W hSw => (KS.out W hSw).old); rfl
  try simp only [Act.put, List.setIfInBounds_toArray, List.set_cons_zero, List.set_cons_succ]
  refine' wpAnyH_take (i := 36) (oi := _) (v := _) ?hir36 (by kernel_rfl) ?hfr36 ?hrr36 ?hQr36 ?hyr36 hBr5 ?restr36
  case hir36 => (simp only [List.getElem?_toArray, List.getElem?_cons_zero, List.getElem?_cons_succ]; rfl)
  case hfr36 => kernel_rfl
  case hrr36 => kernel_rfl
  case hQr36 => exact fun _ _ _ h => h
  case hyr36 => refine Or.inl ⟨by rfl, ?_⟩; intro W hSw; go_simp; try with_reducible rfl
  try simp only [Act.put, List.setIfInBounds_toArray, List.set_cons_zero, List.set_cons_succ]
  refine' wpAnyH_take (i := 37) (oi := _) (v := sv (b)) ?hir37 (by kernel_rfl) ?hfr37 ?hrr37 ?hQr37 ?hyr37 hBr5 ?restr37
  case hir37 => (simp only [List.getElem?_toArray, List.getElem?_cons_zero, List.getElem?_cons_succ]; rfl)
  case hfr37 => kernel_rfl
  case hrr37 => kernel_rfl
  case hQr37 => exact fun _ _ _ h => h
  case hyr37 => refine yields_sum ?_ (.tmp 62) rfl ⟨g, 34, none⟩ rfl b hbl (fun W hSw => (KS.out W hSw).new); rfl
  try simp only [Act.put, List.setIfInBounds_toArray, List.set_cons_zero, List.set_cons_succ]
  refine' wpAnyH_take (i := 38) (oi := _) (v := _) ?hir38 (by kernel_rfl) ?hfr38 ?hrr38 ?hQr38 ?hyr38 hBr5 ?restr38
  case hir38 => (simp only [List.getElem?_toArray, List.getElem?_cons_zero, List.getElem?_cons_succ]; rfl)
  case hfr38 => kernel_rfl
  case hrr38 => kernel_rfl
  case hQr38 => exact fun _ _ _ h => h
  case hyr38 => refine Or.inl ⟨by rfl, ?_⟩; intro W hSw; go_simp; try with_reducible rfl
  try simp only [Act.put, List.setIfInBounds_toArray, List.set_cons_zero, List.set_cons_succ]
  refine' wpAnyH_take (i := 39) (oi := _) (v := _) ?hir39 (by kernel_rfl) ?hfr39 ?hrr39 ?hQr39 ?hyr39 hBr5 ?restr39
  case hir39 => (simp only [List.getElem?_toArray, List.getElem?_cons_zero, List.getElem?_cons_succ]; rfl)
  case hfr39 => kernel_rfl
  case hrr39 => kernel_rfl
  case hQr39 => exact fun _ _ _ h => h
  case hyr39 => refine Or.inl ⟨by rfl, ?_⟩; intro W hSw; go_simp; try with_reducible rfl
  try simp only [Act.put, List.setIfInBounds_toArray, List.set_cons_zero, List.set_cons_succ]
  refine' wpAnyH_take (i := 40) (oi := _) (v := _) ?hir40 (by kernel_rfl) ?hfr40 ?hrr40 ?hQr40 ?hyr40 hBr5 ?restr40
  case hir40 => (simp only [List.getElem?_toArray, List.getElem?_cons_zero, List.getElem?_cons_succ]; rfl)
  case hfr40 => kernel_rfl
  case hrr40 => kernel_rfl
  case hQr40 => exact fun _ _ _ h => h
  case hyr40 => refine Or.inl ⟨by rfl, ?_⟩; intro W hSw; go_simp; try with_reducible rfl
  try simp only [Act.put, List.setIfInBounds_toArray, List.set_cons_zero, List.set_cons_succ]
  refine' wpAnyH_take (i := 41) (oi := _) (v := _) ?hir41 (by kernel_rfl) ?hfr41 ?hrr41 ?hQr41 ?hyr41 hBr5 ?restr41
  case hir41 => (simp only [List.getElem?_toArray, List.getElem?_cons_zero, List.getElem?_cons_succ]; rfl)
  case hfr41 => kernel_rfl
  case hrr41 => kernel_rfl
  case hQr41 => exact fun _ _ _ h => h
  case hyr41 => refine Or.inl ⟨by rfl, ?_⟩; intro W hSw; go_simp; try with_reducible rfl
  try simp only [Act.put, List.setIfInBounds_toArray, List.set_cons_zero, List.set_cons_succ]
  refine' wpAnyH_take (i := 42) (oi := _) (v := _) ?hir42 (by kernel_rfl) ?hfr42 ?hrr42 ?hQr42 ?hyr42 hBr5 ?restr42
  case hir42 => (simp only [List.getElem?_toArray, List.getElem?_cons_zero, List.getElem?_cons_succ]; rfl)
  case hfr42 => kernel_rfl
  case hrr42 => kernel_rfl
  case hQr42 => exact fun _ _ _ h => h
  case hyr42 => refine Or.inl ⟨by rfl, ?_⟩; intro W hSw; go_simp; try with_reducible rfl
  try simp only [Act.put, List.setIfInBounds_toArray, List.set_cons_zero, List.set_cons_succ]
  refine' wpAnyH_take (i := 43) (oi := _) (v := _) ?hir43 (by kernel_rfl) ?hfr43 ?hrr43 ?hQr43 ?hyr43 hBr5 ?restr43
  case hir43 => (simp only [List.getElem?_toArray, List.getElem?_cons_zero, List.getElem?_cons_succ]; rfl)
  case hfr43 => kernel_rfl
  case hrr43 => kernel_rfl
  case hQr43 => exact fun _ _ _ h => h
  case hyr43 => refine Or.inl ⟨by rfl, ?_⟩; intro W hSw; go_simp; try with_reducible rfl
  try simp only [Act.put, List.setIfInBounds_toArray, List.set_cons_zero, List.set_cons_succ]
  refine wpAnyH_done (by kernel_rfl) ?_ _
  go_wp2
  go_ret
  exact ⟨rfl, by rw [HG.out]; exact BL.out _ hBr5⟩
  

set_option maxRecDepth 100000 in
set_option maxHeartbeats 4000000 in
theorem klends_gsnd (hk : Knows w) (hs : Starts w) (hm : Miss w E) (_ : from_ < 18446744073709551616) (h2 : size < 18446744073709551616) (hl : a.length = 32) (hab : ∀ x ∈ a, x < 256) (hbl : b.length = 32) (cm : CameS w A n c ys) (hn : n ≤ 200) (hgt : (size : Int) < (from_ : Int)) (hz : ¬ size = 0) (hn0 : ((n : Int) == 0) = true) (hq : decide (a = b) = false) :
    Calls Tryd.prog 5 #[.agg (saidK from_ size a b A n c).toArray] w fun e w' => e = .returned (.bool true) ∧ Below w.heap.size w w' := by
  obtain ⟨w1, hw1⟩ : ∃ w1, w1 = w.alloc (.cells (saidK from_ size a b A n c).toArray 36) := ⟨_, rfl⟩
  have s1 : SaidKAt w1 w.heap.size from_ size a b A n c := by rw [hw1]; exact saidK_new w hl hbl
  have b1 : Below w.heap.size w w1 := by rw [hw1]; exact below_alloc _ _
  obtain ⟨S, hS⟩ : ∃ S, (saidK from_ size a b A n c).toArray = S := ⟨_, rfl⟩
  rw [hS] at hw1 ⊢
  clear hS
  have CA := Lib.hid (fun (W : World) (hW : Below w1.heap.size w1 W) => later (v' := .bool true) hW rfl (kalive_any W E (hk.below (below_on b1 (Nat.le_refl _) hW)) (hs.below (below_on b1 (Nat.le_refl _) hW)) (hm.below (below_on b1 (Nat.le_refl _) hW))))
  have C0 := Lib.hid (fun (W : World) (hW : Below w1.heap.size w1 W) => show Calls Tryd.prog 10 #[.int .u64 0, .int .u64 (size : Int), sv a, sv b, .slice A n c] W fun e w' => e = .returned (.bool false) ∧ Below w1.heap.size w1 w' from later hW rfl (kcheck_far (w := W) (n := n) (c := c) (A := A) (a := a) (b := b) (from_ := 0) (size := size) (by omega)))
  have CF := Lib.hid (fun (W : World) (hW : Below w1.heap.size w1 W) => later hW rfl (kcheck_far (w := W) (n := n) (c := c) (A := A) (a := a) (b := b) (from_ := from_) (size := size) (by omega)))
  have CE : ∀ W : World, Below w1.heap.size w1 W → Calls Tryd.prog 10 #[.int .u64 (size : Int), .int .u64 (size : Int), sv a, sv b, .slice A n c] W fun e w' => e = .returned (.bool false) ∧ Below w1.heap.size w1 w' := fun W hW => by
    refine later hW ?_ (kcheck_any (from_ := size) (size := size) (cm.in_.below (below_on b1 (Nat.le_refl _) hW)) cm.lt cm.cap (by omega) hl hab hbl h2 (hk.below (below_on b1 (Nat.le_refl _) hW)) (hs.below (below_on b1 (Nat.le_refl _) hW)) (hm.below (below_on b1 (Nat.le_refl _) hW)))
    have : n = 0 := by simpa using hn0
    rw [begins_self hz, hq, this]; rfl
  have HCE := Lib.hid CE
  have z0 : ((size : Int) == 0) = false := by simp; omega
  have q1 := run_eql_sum a b hl hbl
  rw [hq] at q1
  have q2 := run_guard_eql
  have KS := Lib.hid (fun (W : World) (hW : Below w1.heap.size w1 W) => s1.below hW)
  obtain ⟨g, hg0⟩ : ∃ g, w.heap.size = g := ⟨_, rfl⟩
  rw [hg0] at s1 b1 KS
  have c4 := s1.link
  have c0 := s1.from_
  have c1 := s1.size
  have O0 := Lib.hid s1.old
  have N0 := Lib.hid s1.new
  have HW := Lib.hid hw1
  have BL := Lib.hid (fun (W : World) (hW : Below w1.heap.size w1 W) => show Below g w W from below_on b1 (by rw [← hg0]; exact Nat.le_refl _) hW)
  have HG := Lib.hid hg0
  have hni : ¬ (200 : Int) < (n : Int) := by omega
  clear hw1 s1 b1 hn hk hs hm hz hg0 CE cm h2 hab
  go_enter Tryd.func5, Tryd.ntmps5
  go_upto_region 1 with fail
  rw [← HW.out, HG.out]
  go_wp2_with (first | with_reducible refine wpList_load_sum_g rfl (.tmp 18) rfl ⟨g, 2, none⟩ rfl a hl O0.out ?_ | with_reducible refine wpList_load_sum_g rfl (.tmp 20) rfl ⟨g, 34, none⟩ rfl b hbl N0.out ?_)
  refine (CF.out _ (Below.refl _ _)).mono ?_
  rintro e w2 ⟨rfl, hb2⟩
  go_upto_region 5 with fail
  refine wp_region_held_drew (S := fun W => Below w1.heap.size w1 W) (by kernel_rfl) (hb2.drew) (fun hT0 => ?_)
  change wpAnyH _ _ _ _ _ _ _ _ w2.drew
  refine wpAnyH_ready (rs := [0]) (by kernel_rfl) (by simp) ?_
  refine' AllReadyH.cons (o := _) ?hir0 (fun K hK => ?_) AllReadyH.nil
  case hir0 => (simp only [List.getElem?_toArray, List.getElem?_cons_zero]; rfl)
  go_simp
  go_at_call 7
  refine (CA.out _ hT0).mono ?_
  rintro e Wr2 ⟨rfl, hBr1⟩
  refine hK.out _ _ hBr1 (fun _ => ?_)
  clear hK K
  try simp only [Act.put, List.setIfInBounds_toArray, List.set_cons_zero, List.set_cons_succ]
  refine' wpAnyH_take (i := 1) (oi := _) (v := _) ?hir1 (by kernel_rfl) ?hfr1 ?hrr1 ?hQr1 ?hyr1 hBr1 ?restr1
  case hir1 => (simp only [List.getElem?_toArray, List.getElem?_cons_zero, List.getElem?_cons_succ]; rfl)
  case hfr1 => kernel_rfl
  case hrr1 => kernel_rfl
  case hQr1 => exact fun _ _ _ h => h
  case hyr1 => refine Or.inl ⟨by rfl, ?_⟩; intro W hSw; go_simp; try with_reducible rfl
  try simp only [Act.put, List.setIfInBounds_toArray, List.set_cons_zero, List.set_cons_succ]
  refine' wpAnyH_take (i := 2) (oi := _) (v := _) ?hir2 (by kernel_rfl) ?hfr2 ?hrr2 ?hQr2 ?hyr2 hBr1 ?restr2
  case hir2 => (simp only [List.getElem?_toArray, List.getElem?_cons_zero, List.getElem?_cons_succ]; rfl)
  case hfr2 => kernel_rfl
  case hrr2 => kernel_rfl
  case hQr2 => exact fun _ _ _ h => h
  case hyr2 => refine Or.inl ⟨by rfl, ?_⟩; intro W hSw; go_simp; try with_reducible rfl
  try simp only [Act.put, List.setIfInBounds_toArray, List.set_cons_zero, List.set_cons_succ]
  refine' wpAnyH_take (i := 3) (oi := _) (v := _) ?hir3 (by kernel_rfl) ?hfr3 ?hrr3 ?hQr3 ?hyr3 hBr1 ?restr3
  case hir3 => (simp only [List.getElem?_toArray, List.getElem?_cons_zero, List.getElem?_cons_succ]; rfl)
  case hfr3 => kernel_rfl
  case hrr3 => kernel_rfl
  case hQr3 => exact fun _ _ _ h => h
  case hyr3 => refine Or.inl ⟨by rfl, ?_⟩; intro W hSw; have hcc := (KS.out W hSw).size; go_simp; try with_reducible rfl
  try simp only [Act.put, List.setIfInBounds_toArray, List.set_cons_zero, List.set_cons_succ]
  refine' wpAnyH_take (i := 4) (oi := _) (v := _) ?hir4 (by kernel_rfl) ?hfr4 ?hrr4 ?hQr4 ?hyr4 hBr1 ?restr4
  case hir4 => (simp only [List.getElem?_toArray, List.getElem?_cons_zero, List.getElem?_cons_succ]; rfl)
  case hfr4 => kernel_rfl
  case hrr4 => kernel_rfl
  case hQr4 => exact fun _ _ _ h => h
  case hyr4 => refine Or.inl ⟨by rfl, ?_⟩; intro W hSw; go_simp; try with_reducible rfl
  try simp only [Act.put, List.setIfInBounds_toArray, List.set_cons_zero, List.set_cons_succ]
  refine' wpAnyH_take (i := 5) (oi := _) (v := sv (a)) ?hir5 (by kernel_rfl) ?hfr5 ?hrr5 ?hQr5 ?hyr5 hBr1 ?restr5
  case hir5 => (simp only [List.getElem?_toArray, List.getElem?_cons_zero, List.getElem?_cons_succ]; rfl)
  case hfr5 => kernel_rfl
  case hrr5 => kernel_rfl
  case hQr5 => exact fun _ _ _ h => h
  case hyr5 => refine yields_sum ?_ (.tmp 30) rfl ⟨g, 2, none⟩ rfl a hl (fun W hSw => (KS.out W hSw).old); rfl
  try simp only [Act.put, List.setIfInBounds_toArray, List.set_cons_zero, List.set_cons_succ]
  refine' wpAnyH_take (i := 6) (oi := _) (v := _) ?hir6 (by kernel_rfl) ?hfr6 ?hrr6 ?hQr6 ?hyr6 hBr1 ?restr6
  case hir6 => (simp only [List.getElem?_toArray, List.getElem?_cons_zero, List.getElem?_cons_succ]; rfl)
  case hfr6 => kernel_rfl
  case hrr6 => kernel_rfl
  case hQr6 => exact fun _ _ _ h => h
  case hyr6 => refine Or.inl ⟨by rfl, ?_⟩; intro W hSw; go_simp; try with_reducible rfl
  try simp only [Act.put, List.setIfInBounds_toArray, List.set_cons_zero, List.set_cons_succ]
  refine' wpAnyH_take (i := 7) (oi := _) (v := sv (b)) ?hir7 (by kernel_rfl) ?hfr7 ?hrr7 ?hQr7 ?hyr7 hBr1 ?restr7
  case hir7 => (simp only [List.getElem?_toArray, List.getElem?_cons_zero, List.getElem?_cons_succ]; rfl)
  case hfr7 => kernel_rfl
  case hrr7 => kernel_rfl
  case hQr7 => exact fun _ _ _ h => h
  case hyr7 => refine yields_sum ?_ (.tmp 32) rfl ⟨g, 34, none⟩ rfl b hbl (fun W hSw => (KS.out W hSw).new); rfl
  try simp only [Act.put, List.setIfInBounds_toArray, List.set_cons_zero, List.set_cons_succ]
  refine' wpAnyH_take (i := 8) (oi := _) (v := _) ?hir8 (by kernel_rfl) ?hfr8 ?hrr8 ?hQr8 ?hyr8 hBr1 ?restr8
  case hir8 => (simp only [List.getElem?_toArray, List.getElem?_cons_zero, List.getElem?_cons_succ]; rfl)
  case hfr8 => kernel_rfl
  case hrr8 => kernel_rfl
  case hQr8 => exact fun _ _ _ h => h
  case hyr8 => refine Or.inl ⟨by rfl, ?_⟩; intro W hSw; go_simp; try with_reducible rfl
  try simp only [Act.put, List.setIfInBounds_toArray, List.set_cons_zero, List.set_cons_succ]
  refine' wpAnyH_take (i := 9) (oi := _) (v := _) ?hir9 (by kernel_rfl) ?hfr9 ?hrr9 ?hQr9 ?hyr9 hBr1 ?restr9
  case hir9 => (simp only [List.getElem?_toArray, List.getElem?_cons_zero, List.getElem?_cons_succ]; rfl)
  case hfr9 => kernel_rfl
  case hrr9 => kernel_rfl
  case hQr9 => exact fun _ _ _ h => h
  case hyr9 => refine Or.inl ⟨by rfl, ?_⟩; intro W hSw; have hcc := (KS.out W hSw).link; go_simp; try with_reducible rfl
  try simp only [Act.put, List.setIfInBounds_toArray, List.set_cons_zero, List.set_cons_succ]
  refine wpAnyH_ready (rs := [10]) (by kernel_rfl) (by simp) ?_
  refine' AllReadyH.cons (o := _) ?hir10 (fun K hK => ?_) AllReadyH.nil
  case hir10 => (simp only [List.getElem?_toArray, List.getElem?_cons_zero, List.getElem?_cons_succ]; rfl)
  go_simp
  go_at_call 10
  refine (C0.out _ hBr1).mono ?_
  rintro e Wr4 ⟨rfl, hBr3⟩
  refine hK.out _ _ hBr3 (fun _ => ?_)
  clear hK K
  try simp only [Act.put, List.setIfInBounds_toArray, List.set_cons_zero, List.set_cons_succ]
  refine' wpAnyH_take (i := 11) (oi := _) (v := _) ?hir11 (by kernel_rfl) ?hfr11 ?hrr11 ?hQr11 ?hyr11 hBr3 ?restr11
  case hir11 => (simp only [List.getElem?_toArray, List.getElem?_cons_zero, List.getElem?_cons_succ]; rfl)
  case hfr11 => kernel_rfl
  case hrr11 => kernel_rfl
  case hQr11 => exact fun _ _ _ h => h
  case hyr11 => refine Or.inl ⟨by rfl, ?_⟩; intro W hSw; go_simp; try with_reducible rfl
  try simp only [Act.put, List.setIfInBounds_toArray, List.set_cons_zero, List.set_cons_succ]
  refine' wpAnyH_take (i := 12) (oi := _) (v := _) ?hir12 (by kernel_rfl) ?hfr12 ?hrr12 ?hQr12 ?hyr12 hBr3 ?restr12
  case hir12 => (simp only [List.getElem?_toArray, List.getElem?_cons_zero, List.getElem?_cons_succ]; rfl)
  case hfr12 => kernel_rfl
  case hrr12 => kernel_rfl
  case hQr12 => exact fun _ _ _ h => h
  case hyr12 => refine Or.inl ⟨by rfl, ?_⟩; intro W hSw; go_simp; try with_reducible rfl
  try simp only [Act.put, List.setIfInBounds_toArray, List.set_cons_zero, List.set_cons_succ]
  refine' wpAnyH_take (i := 13) (oi := _) (v := _) ?hir13 (by kernel_rfl) ?hfr13 ?hrr13 ?hQr13 ?hyr13 hBr3 ?restr13
  case hir13 => (simp only [List.getElem?_toArray, List.getElem?_cons_zero, List.getElem?_cons_succ]; rfl)
  case hfr13 => kernel_rfl
  case hrr13 => kernel_rfl
  case hQr13 => exact fun _ _ _ h => h
  case hyr13 => refine Or.inl ⟨by rfl, ?_⟩; intro W hSw; go_simp; try with_reducible rfl
  try simp only [Act.put, List.setIfInBounds_toArray, List.set_cons_zero, List.set_cons_succ]
  refine' wpAnyH_take (i := 14) (oi := _) (v := _) ?hir14 (by kernel_rfl) ?hfr14 ?hrr14 ?hQr14 ?hyr14 hBr3 ?restr14
  case hir14 => (simp only [List.getElem?_toArray, List.getElem?_cons_zero, List.getElem?_cons_succ]; rfl)
  case hfr14 => kernel_rfl
  case hrr14 => kernel_rfl
  case hQr14 => exact fun _ _ _ h => h
  case hyr14 => refine Or.inl ⟨by rfl, ?_⟩; intro W hSw; go_simp; try with_reducible rfl
  try simp only [Act.put, List.setIfInBounds_toArray, List.set_cons_zero, List.set_cons_succ]
  refine' wpAnyH_take (i := 15) (oi := _) (v := _) ?hir15 (by kernel_rfl) ?hfr15 ?hrr15 ?hQr15 ?hyr15 hBr3 ?restr15
  case hir15 => (simp only [List.getElem?_toArray, List.getElem?_cons_zero, List.getElem?_cons_succ]; rfl)
  case hfr15 => kernel_rfl
  case hrr15 => kernel_rfl
  case hQr15 => exact fun _ _ _ h => h
  case hyr15 => refine Or.inl ⟨by rfl, ?_⟩; intro W hSw; have hcc := (KS.out W hSw).size; go_simp; try with_reducible rfl
  try simp only [Act.put, List.setIfInBounds_toArray, List.set_cons_zero, List.set_cons_succ]
  refine' wpAnyH_take (i := 16) (oi := _) (v := _) ?hir16 (by kernel_rfl) ?hfr16 ?hrr16 ?hQr16 ?hyr16 hBr3 ?restr16
  case hir16 => (simp only [List.getElem?_toArray, List.getElem?_cons_zero, List.getElem?_cons_succ]; rfl)
  case hfr16 => kernel_rfl
  case hrr16 => kernel_rfl
  case hQr16 => exact fun _ _ _ h => h
  case hyr16 => refine Or.inl ⟨by rfl, ?_⟩; intro W hSw; go_simp; try with_reducible rfl
  try simp only [Act.put, List.setIfInBounds_toArray, List.set_cons_zero, List.set_cons_succ]
  refine' wpAnyH_take (i := 17) (oi := _) (v := _) ?hir17 (by kernel_rfl) ?hfr17 ?hrr17 ?hQr17 ?hyr17 hBr3 ?restr17
  case hir17 => (simp only [List.getElem?_toArray, List.getElem?_cons_zero, List.getElem?_cons_succ]; rfl)
  case hfr17 => kernel_rfl
  case hrr17 => kernel_rfl
  case hQr17 => exact fun _ _ _ h => h
  case hyr17 => refine Or.inl ⟨by rfl, ?_⟩; intro W hSw; go_simp; try with_reducible rfl
  try simp only [Act.put, List.setIfInBounds_toArray, List.set_cons_zero, List.set_cons_succ]
  refine' wpAnyH_take (i := 18) (oi := _) (v := _) ?hir18 (by kernel_rfl) ?hfr18 ?hrr18 ?hQr18 ?hyr18 hBr3 ?restr18
  case hir18 => (simp only [List.getElem?_toArray, List.getElem?_cons_zero, List.getElem?_cons_succ]; rfl)
  case hfr18 => kernel_rfl
  case hrr18 => kernel_rfl
  case hQr18 => exact fun _ _ _ h => h
  case hyr18 => refine Or.inl ⟨by rfl, ?_⟩; intro W hSw; go_simp; try with_reducible rfl
  try simp only [Act.put, List.setIfInBounds_toArray, List.set_cons_zero, List.set_cons_succ]
  refine' wpAnyH_take (i := 19) (oi := _) (v := _) ?hir19 (by kernel_rfl) ?hfr19 ?hrr19 ?hQr19 ?hyr19 hBr3 ?restr19
  case hir19 => (simp only [List.getElem?_toArray, List.getElem?_cons_zero, List.getElem?_cons_succ]; rfl)
  case hfr19 => kernel_rfl
  case hrr19 => kernel_rfl
  case hQr19 => exact fun _ _ _ h => h
  case hyr19 => refine Or.inl ⟨by rfl, ?_⟩; intro W hSw; have hcc := (KS.out W hSw).size; go_simp; try with_reducible rfl
  try simp only [Act.put, List.setIfInBounds_toArray, List.set_cons_zero, List.set_cons_succ]
  refine' wpAnyH_take (i := 20) (oi := _) (v := _) ?hir20 (by kernel_rfl) ?hfr20 ?hrr20 ?hQr20 ?hyr20 hBr3 ?restr20
  case hir20 => (simp only [List.getElem?_toArray, List.getElem?_cons_zero, List.getElem?_cons_succ]; rfl)
  case hfr20 => kernel_rfl
  case hrr20 => kernel_rfl
  case hQr20 => exact fun _ _ _ h => h
  case hyr20 => refine Or.inl ⟨by rfl, ?_⟩; intro W hSw; go_simp; try with_reducible rfl
  try simp only [Act.put, List.setIfInBounds_toArray, List.set_cons_zero, List.set_cons_succ]
  refine' wpAnyH_take (i := 21) (oi := _) (v := _) ?hir21 (by kernel_rfl) ?hfr21 ?hrr21 ?hQr21 ?hyr21 hBr3 ?restr21
  case hir21 => (simp only [List.getElem?_toArray, List.getElem?_cons_zero, List.getElem?_cons_succ]; rfl)
  case hfr21 => kernel_rfl
  case hrr21 => kernel_rfl
  case hQr21 => exact fun _ _ _ h => h
  case hyr21 => refine Or.inl ⟨by rfl, ?_⟩; intro W hSw; have hcc := (KS.out W hSw).size; go_simp; try with_reducible rfl
  try simp only [Act.put, List.setIfInBounds_toArray, List.set_cons_zero, List.set_cons_succ]
  refine' wpAnyH_take (i := 22) (oi := _) (v := _) ?hir22 (by kernel_rfl) ?hfr22 ?hrr22 ?hQr22 ?hyr22 hBr3 ?restr22
  case hir22 => (simp only [List.getElem?_toArray, List.getElem?_cons_zero, List.getElem?_cons_succ]; rfl)
  case hfr22 => kernel_rfl
  case hrr22 => kernel_rfl
  case hQr22 => exact fun _ _ _ h => h
  case hyr22 => refine Or.inl ⟨by rfl, ?_⟩; intro W hSw; go_simp; try with_reducible rfl
  try simp only [Act.put, List.setIfInBounds_toArray, List.set_cons_zero, List.set_cons_succ]
  refine' wpAnyH_take (i := 23) (oi := _) (v := sv (a)) ?hir23 (by kernel_rfl) ?hfr23 ?hrr23 ?hQr23 ?hyr23 hBr3 ?restr23
  case hir23 => (simp only [List.getElem?_toArray, List.getElem?_cons_zero, List.getElem?_cons_succ]; rfl)
  case hfr23 => kernel_rfl
  case hrr23 => kernel_rfl
  case hQr23 => exact fun _ _ _ h => h
  case hyr23 => refine yields_sum ?_ (.tmp 48) rfl ⟨g, 2, none⟩ rfl a hl (fun W hSw => (KS.out W hSw).old); rfl
  try simp only [Act.put, List.setIfInBounds_toArray, List.set_cons_zero, List.set_cons_succ]
  refine' wpAnyH_take (i := 24) (oi := _) (v := _) ?hir24 (by kernel_rfl) ?hfr24 ?hrr24 ?hQr24 ?hyr24 hBr3 ?restr24
  case hir24 => (simp only [List.getElem?_toArray, List.getElem?_cons_zero, List.getElem?_cons_succ]; rfl)
  case hfr24 => kernel_rfl
  case hrr24 => kernel_rfl
  case hQr24 => exact fun _ _ _ h => h
  case hyr24 => refine Or.inl ⟨by rfl, ?_⟩; intro W hSw; go_simp; try with_reducible rfl
  try simp only [Act.put, List.setIfInBounds_toArray, List.set_cons_zero, List.set_cons_succ]
  refine' wpAnyH_take (i := 25) (oi := _) (v := sv (b)) ?hir25 (by kernel_rfl) ?hfr25 ?hrr25 ?hQr25 ?hyr25 hBr3 ?restr25
  case hir25 => (simp only [List.getElem?_toArray, List.getElem?_cons_zero, List.getElem?_cons_succ]; rfl)
  case hfr25 => kernel_rfl
  case hrr25 => kernel_rfl
  case hQr25 => exact fun _ _ _ h => h
  case hyr25 => refine yields_sum ?_ (.tmp 50) rfl ⟨g, 34, none⟩ rfl b hbl (fun W hSw => (KS.out W hSw).new); rfl
  try simp only [Act.put, List.setIfInBounds_toArray, List.set_cons_zero, List.set_cons_succ]
  refine' wpAnyH_take (i := 26) (oi := _) (v := _) ?hir26 (by kernel_rfl) ?hfr26 ?hrr26 ?hQr26 ?hyr26 hBr3 ?restr26
  case hir26 => (simp only [List.getElem?_toArray, List.getElem?_cons_zero, List.getElem?_cons_succ]; rfl)
  case hfr26 => kernel_rfl
  case hrr26 => kernel_rfl
  case hQr26 => exact fun _ _ _ h => h
  case hyr26 => refine Or.inl ⟨by rfl, ?_⟩; intro W hSw; go_simp; try with_reducible rfl
  try simp only [Act.put, List.setIfInBounds_toArray, List.set_cons_zero, List.set_cons_succ]
  refine' wpAnyH_take (i := 27) (oi := _) (v := _) ?hir27 (by kernel_rfl) ?hfr27 ?hrr27 ?hQr27 ?hyr27 hBr3 ?restr27
  case hir27 => (simp only [List.getElem?_toArray, List.getElem?_cons_zero, List.getElem?_cons_succ]; rfl)
  case hfr27 => kernel_rfl
  case hrr27 => kernel_rfl
  case hQr27 => exact fun _ _ _ h => h
  case hyr27 => refine Or.inl ⟨by rfl, ?_⟩; intro W hSw; have hcc := (KS.out W hSw).link; go_simp; try with_reducible rfl
  try simp only [Act.put, List.setIfInBounds_toArray, List.set_cons_zero, List.set_cons_succ]
  refine' wpAnyH_take (i := 29) (oi := _) (v := _) ?hir29 (by kernel_rfl) ?hfr29 ?hrr29 ?hQr29 ?hyr29 hBr3 ?restr29
  case hir29 => (simp only [List.getElem?_toArray, List.getElem?_cons_zero, List.getElem?_cons_succ]; rfl)
  case hfr29 => kernel_rfl
  case hrr29 => kernel_rfl
  case hQr29 => exact fun _ _ _ h => h
  case hyr29 => refine Or.inl ⟨by rfl, ?_⟩; intro W hSw; go_simp; try with_reducible rfl
  try simp only [Act.put, List.setIfInBounds_toArray, List.set_cons_zero, List.set_cons_succ]
  refine' wpAnyH_take (i := 30) (oi := _) (v := _) ?hir30 (by kernel_rfl) ?hfr30 ?hrr30 ?hQr30 ?hyr30 hBr3 ?restr30
  case hir30 => (simp only [List.getElem?_toArray, List.getElem?_cons_zero, List.getElem?_cons_succ]; rfl)
  case hfr30 => kernel_rfl
  case hrr30 => kernel_rfl
  case hQr30 => exact fun _ _ _ h => h
  case hyr30 => refine Or.inl ⟨by rfl, ?_⟩; intro W hSw; have hcc := (KS.out W hSw).link; go_simp; try with_reducible rfl
  try simp only [Act.put, List.setIfInBounds_toArray, List.set_cons_zero, List.set_cons_succ]
  refine' wpAnyH_take (i := 31) (oi := _) (v := _) ?hir31 (by kernel_rfl) ?hfr31 ?hrr31 ?hQr31 ?hyr31 hBr3 ?restr31
  case hir31 => (simp only [List.getElem?_toArray, List.getElem?_cons_zero, List.getElem?_cons_succ]; rfl)
  case hfr31 => kernel_rfl
  case hrr31 => kernel_rfl
  case hQr31 => exact fun _ _ _ h => h
  case hyr31 => refine Or.inl ⟨by rfl, ?_⟩; intro W hSw; go_simp; try with_reducible rfl
  try simp only [Act.put, List.setIfInBounds_toArray, List.set_cons_zero, List.set_cons_succ]
  refine' wpAnyH_take (i := 32) (oi := _) (v := _) ?hir32 (by kernel_rfl) ?hfr32 ?hrr32 ?hQr32 ?hyr32 hBr3 ?restr32
  case hir32 => (simp only [List.getElem?_toArray, List.getElem?_cons_zero, List.getElem?_cons_succ]; rfl)
  case hfr32 => kernel_rfl
  case hrr32 => kernel_rfl
  case hQr32 => exact fun _ _ _ h => h
  case hyr32 => refine Or.inl ⟨by rfl, ?_⟩; intro W hSw; go_simp; try with_reducible rfl
  try simp only [Act.put, List.setIfInBounds_toArray, List.set_cons_zero, List.set_cons_succ]
  refine wpAnyH_ready (rs := [28]) (by kernel_rfl) (by simp) ?_
  refine' AllReadyH.cons (o := _) ?hir28 (fun K hK => ?_) AllReadyH.nil
  case hir28 => (simp only [List.getElem?_toArray, List.getElem?_cons_zero, List.getElem?_cons_succ]; rfl)
  go_simp
  go_at_call 10
  refine (HCE.out _ hBr3).mono ?_
  rintro e Wr6 ⟨rfl, hBr5⟩
  refine hK.out _ _ hBr5 (fun _ => ?_)
  clear hK K
  try simp only [Act.put, List.setIfInBounds_toArray, List.set_cons_zero, List.set_cons_succ]
  refine' wpAnyH_take (i := 33) (oi := _) (v := _) ?hir33 (by kernel_rfl) ?hfr33 ?hrr33 ?hQr33 ?hyr33 hBr5 ?restr33
  case hir33 => (simp only [List.getElem?_toArray, List.getElem?_cons_zero, List.getElem?_cons_succ]; rfl)
  case hfr33 => kernel_rfl
  case hrr33 => kernel_rfl
  case hQr33 => exact fun _ _ _ h => h
  case hyr33 => refine Or.inl ⟨by rfl, ?_⟩; intro W hSw; go_simp; try with_reducible rfl
  try simp only [Act.put, List.setIfInBounds_toArray, List.set_cons_zero, List.set_cons_succ]
  refine' wpAnyH_take (i := 34) (oi := _) (v := _) ?hir34 (by kernel_rfl) ?hfr34 ?hrr34 ?hQr34 ?hyr34 hBr5 ?restr34
  case hir34 => (simp only [List.getElem?_toArray, List.getElem?_cons_zero, List.getElem?_cons_succ]; rfl)
  case hfr34 => kernel_rfl
  case hrr34 => kernel_rfl
  case hQr34 => exact fun _ _ _ h => h
  case hyr34 => refine Or.inl ⟨by rfl, ?_⟩; intro W hSw; go_simp; try with_reducible rfl
  try simp only [Act.put, List.setIfInBounds_toArray, List.set_cons_zero, List.set_cons_succ]
  refine' wpAnyH_take (i := 35) (oi := _) (v := sv (a)) ?hir35 (by kernel_rfl) ?hfr35 ?hrr35 ?hQr35 ?hyr35 hBr5 ?restr35
  case hir35 => (simp only [List.getElem?_toArray, List.getElem?_cons_zero, List.getElem?_cons_succ]; rfl)
  case hfr35 => kernel_rfl
  case hrr35 => kernel_rfl
  case hQr35 => exact fun _ _ _ h => h
  case hyr35 => refine yields_sum ?_ (.tmp 60) rfl ⟨g, 2, none⟩ rfl a hl (fun W hSw => (KS.out W hSw).old); rfl
  try simp only [Act.put, List.setIfInBounds_toArray, List.set_cons_zero, List.set_cons_succ]
  refine' wpAnyH_take (i := 36) (oi := _) (v := _) ?hir36 (by kernel_rfl) ?hfr36 ?hrr36 ?hQr36 ?hyr36 hBr5 ?restr36
  case hir36 => (simp only [List.getElem?_toArray, List.getElem?_cons_zero, List.getElem?_cons_succ]; rfl)
  case hfr36 => kernel_rfl
  case hrr36 => kernel_rfl
  case hQr36 => exact fun _ _ _ h => h
  case hyr36 => refine Or.inl ⟨by rfl, ?_⟩; intro W hSw; go_simp; try with_reducible rfl
  try simp only [Act.put, List.setIfInBounds_toArray, List.set_cons_zero, List.set_cons_succ]
  refine' wpAnyH_take (i := 37) (oi := _) (v := sv (b)) ?hir37 (by kernel_rfl) ?hfr37 ?hrr37 ?hQr37 ?hyr37 hBr5 ?restr37
  case hir37 => (simp only [List.getElem?_toArray, List.getElem?_cons_zero, List.getElem?_cons_succ]; rfl)
  case hfr37 => kernel_rfl
  case hrr37 => kernel_rfl
  case hQr37 => exact fun _ _ _ h => h
  case hyr37 => refine yields_sum ?_ (.tmp 62) rfl ⟨g, 34, none⟩ rfl b hbl (fun W hSw => (KS.out W hSw).new); rfl
  try simp only [Act.put, List.setIfInBounds_toArray, List.set_cons_zero, List.set_cons_succ]
  refine' wpAnyH_take (i := 38) (oi := _) (v := _) ?hir38 (by kernel_rfl) ?hfr38 ?hrr38 ?hQr38 ?hyr38 hBr5 ?restr38
  case hir38 => (simp only [List.getElem?_toArray, List.getElem?_cons_zero, List.getElem?_cons_succ]; rfl)
  case hfr38 => kernel_rfl
  case hrr38 => kernel_rfl
  case hQr38 => exact fun _ _ _ h => h
  case hyr38 => refine Or.inl ⟨by rfl, ?_⟩; intro W hSw; go_simp; try with_reducible rfl
  try simp only [Act.put, List.setIfInBounds_toArray, List.set_cons_zero, List.set_cons_succ]
  refine' wpAnyH_take (i := 39) (oi := _) (v := _) ?hir39 (by kernel_rfl) ?hfr39 ?hrr39 ?hQr39 ?hyr39 hBr5 ?restr39
  case hir39 => (simp only [List.getElem?_toArray, List.getElem?_cons_zero, List.getElem?_cons_succ]; rfl)
  case hfr39 => kernel_rfl
  case hrr39 => kernel_rfl
  case hQr39 => exact fun _ _ _ h => h
  case hyr39 => refine Or.inl ⟨by rfl, ?_⟩; intro W hSw; go_simp; try with_reducible rfl
  try simp only [Act.put, List.setIfInBounds_toArray, List.set_cons_zero, List.set_cons_succ]
  refine' wpAnyH_take (i := 40) (oi := _) (v := _) ?hir40 (by kernel_rfl) ?hfr40 ?hrr40 ?hQr40 ?hyr40 hBr5 ?restr40
  case hir40 => (simp only [List.getElem?_toArray, List.getElem?_cons_zero, List.getElem?_cons_succ]; rfl)
  case hfr40 => kernel_rfl
  case hrr40 => kernel_rfl
  case hQr40 => exact fun _ _ _ h => h
  case hyr40 => refine Or.inl ⟨by rfl, ?_⟩; intro W hSw; go_simp; try with_reducible rfl
  try simp only [Act.put, List.setIfInBounds_toArray, List.set_cons_zero, List.set_cons_succ]
  refine' wpAnyH_take (i := 41) (oi := _) (v := _) ?hir41 (by kernel_rfl) ?hfr41 ?hrr41 ?hQr41 ?hyr41 hBr5 ?restr41
  case hir41 => (simp only [List.getElem?_toArray, List.getElem?_cons_zero, List.getElem?_cons_succ]; rfl)
  case hfr41 => kernel_rfl
  case hrr41 => kernel_rfl
  case hQr41 => exact fun _ _ _ h => h
  case hyr41 => refine Or.inl ⟨by rfl, ?_⟩; intro W hSw; go_simp; try with_reducible rfl
  try simp only [Act.put, List.setIfInBounds_toArray, List.set_cons_zero, List.set_cons_succ]
  refine' wpAnyH_take (i := 42) (oi := _) (v := _) ?hir42 (by kernel_rfl) ?hfr42 ?hrr42 ?hQr42 ?hyr42 hBr5 ?restr42
  case hir42 => (simp only [List.getElem?_toArray, List.getElem?_cons_zero, List.getElem?_cons_succ]; rfl)
  case hfr42 => kernel_rfl
  case hrr42 => kernel_rfl
  case hQr42 => exact fun _ _ _ h => h
  case hyr42 => refine Or.inl ⟨by rfl, ?_⟩; intro W hSw; go_simp; try with_reducible rfl
  try simp only [Act.put, List.setIfInBounds_toArray, List.set_cons_zero, List.set_cons_succ]
  refine' wpAnyH_take (i := 43) (oi := _) (v := _) ?hir43 (by kernel_rfl) ?hfr43 ?hrr43 ?hQr43 ?hyr43 hBr5 ?restr43
  case hir43 => (simp only [List.getElem?_toArray, List.getElem?_cons_zero, List.getElem?_cons_succ]; rfl)
  case hfr43 => kernel_rfl
  case hrr43 => kernel_rfl
  case hQr43 => exact fun _ _ _ h => h
  case hyr43 => refine Or.inl ⟨by rfl, ?_⟩; intro W hSw; go_simp; try with_reducible rfl
  try simp only [Act.put, List.setIfInBounds_toArray, List.set_cons_zero, List.set_cons_succ]
  refine wpAnyH_done (by kernel_rfl) ?_ _
  go_wp2
  go_ret
  exact ⟨rfl, by rw [HG.out]; exact BL.out _ hBr5⟩
  

set_option maxRecDepth 100000 in
set_option maxHeartbeats 4000000 in
theorem klends_long (hk : Knows w) (hs : Starts w) (hm : Miss w E) (hl : a.length = 32) (hbl : b.length = 32) (hn : 200 < n) :
    Calls Tryd.prog 5 #[.agg (saidK from_ size a b A n c).toArray] w fun e w' => e = .returned (.bool true) ∧ Below w.heap.size w w' := by
  obtain ⟨w1, hw1⟩ : ∃ w1, w1 = w.alloc (.cells (saidK from_ size a b A n c).toArray 36) := ⟨_, rfl⟩
  have s1 : SaidKAt w1 w.heap.size from_ size a b A n c := by rw [hw1]; exact saidK_new w hl hbl
  have b1 : Below w.heap.size w w1 := by rw [hw1]; exact below_alloc _ _
  obtain ⟨S, hS⟩ : ∃ S, (saidK from_ size a b A n c).toArray = S := ⟨_, rfl⟩
  rw [hS] at hw1 ⊢
  clear hS
  have CA := Lib.hid (kalive_any w1 E (hk.below b1) (hs.below b1) (hm.below b1))
  have HBO := Lib.hid b1
  obtain ⟨g, hg0⟩ : ∃ g, w.heap.size = g := ⟨_, rfl⟩
  rw [hg0] at s1 b1
  have c4 := s1.link
  have HW := Lib.hid hw1
  have HB1 := Lib.hid (And.intro b1 hg0)
  have hni : (200 : Int) < (n : Int) := by omega
  clear hw1 s1 b1 hk hs hn hl hm
  go_enter Tryd.func5, Tryd.ntmps5
  go_upto_region 1 with fail
  rw [← HW.out]
  go_wp2_with fail
  refine CA.out.mono ?_
  rintro e w2 ⟨rfl, hb2⟩
  go_wp2_with fail
  go_ret
  exact ⟨rfl, below_on HBO.out (Nat.le_refl _) hb2⟩

theorem linksEnds_law (w : World) (hk : Knows w) (hs : Starts w) (E : Addr) (hm : Miss w E) {a b ys : List Nat} {from_ size n c : Nat} {A : Option Addr} (h1 : from_ < 18446744073709551616) (h2 : size < 18446744073709551616) (hl : a.length = 32) (hab : ∀ x ∈ a, x < 256) (hbl : b.length = 32) (_ : ∀ x ∈ b, x < 256) (cm : CameS w A n c ys) :
    Calls Tryd.prog 5 #[.agg (saidK from_ size a b A n c).toArray] w fun e w' => e = .returned (.bool true) ∧ Below w.heap.size w w' := by
  by_cases hn : 200 < n
  · exact klends_long hk hs hm hl hbl hn
  · by_cases hgt : (size : Int) < (from_ : Int)
    · skip
      by_cases hz : size = 0
      · exact klends_gz hk hs hm h1 h2 hl hab hbl cm (by omega) hgt hz
      · cases hn0 : ((n : Int) == 0) with
        | false => exact klends_gsm hk hs hm h1 h2 hl hab hbl cm (by omega) hgt hz hn0
        | true =>
          cases hq : decide (a = b) with
          | true => exact klends_gsne hk hs hm h1 h2 hl hab hbl cm (by omega) hgt hz hn0 hq
          | false => exact klends_gsnd hk hs hm h1 h2 hl hab hbl cm (by omega) hgt hz hn0 hq
    · skip
      by_cases hz : size = 0
      · exact klends_lz hk hs hm h1 h2 hl hab hbl cm (by omega) hgt hz
      · cases hn0 : ((n : Int) == 0) with
        | false => exact klends_lsm hk hs hm h1 h2 hl hab hbl cm (by omega) hgt hz hn0
        | true =>
          cases hq : decide (a = b) with
          | true => exact klends_lsne hk hs hm h1 h2 hl hab hbl cm (by omega) hgt hz hn0 hq
          | false => exact klends_lsnd hk hs hm h1 h2 hl hab hbl cm (by omega) hgt hz hn0 hq
end
end Go.Proofs.YtilgikhdamkeoaaDoor

/-
  What the three listed variables hold when a call begins: two of package shas, and the sentinel of package links.
-/
namespace Go.Proofs.YtilgikhdamkeoaaDoor
open Go.ChangeShapes Go.WideShapes Go.ChangeAt Go.RowKit

theorem gMissing : Tryd.prog.globalNamed "almoner/links.errMissing" = some 0 := by kernel_rfl
theorem tMissing : (Tryd.prog.globals[0]?).map (·.type) = some 48 := by kernel_rfl
theorem cellsEs : Tryd.prog.cellsOf 123 = 1 := by kernel_rfl
theorem cellsStr : Tryd.prog.cellsOf 9 = 1 := by kernel_rfl
theorem starEs : "*" ++ "errors.errorString" = "*errors.errorString" := by decide
theorem rowEs (u : TypeId) (h : Tryd.prog.typeName? 3 u = some "*errors.errorString") : u = 98 :=
  typeName_ptr_named (nm := "errors.errorString") (by rw [starEs]; kernel_rfl) (by kernel_rfl) (by decide) u (by rw [starEs]; exact h)

def laid1 : List (String × DataW Unit) := [("almoner/links.errMissing", Rows.laid_almoner_links_errMissing)]

set_option maxRecDepth 100000 in
theorem of_laid1 {W : World} (h : laidMetH Tryd.prog laid1 W) : ∃ E, Miss W E := by
  rw [MakeChecks.laidMetH_plain _ _ _ (by kernel_rfl)] at h
  obtain ⟨ps, ⟨g0', t0', cs0, f0, p0, q0, hg0', ht0', hv0, hd0, _, e0⟩, hnd, hrows⟩ := h
  obtain rfl := Option.some.inj (gMissing.symm.trans hg0')
  obtain rfl := Option.some.inj (tMissing.symm.trans ht0')
  subst e0
  obtain ⟨l0⟩ := cs0
  have ok0 : ∀ u v, l0 = [.iface u v] → Value.okWide Tryd.prog W .any 0 u v := fun u v e => by
    subst e
    exact (hrows 0 0 (by simp [MemPlace.row])).2 u v (by simpa using World.var?_cell hg0' hv0 0)
  obtain ⟨a0, s0, rfl, hc0, hs0, hz0, rfl⟩ := errorString_of_trod Tryd.underlying48 rowEs Tryd.underlying98 Tryd.underlying123 rfl rfl Tryd.underlying9 cellsEs cellsStr hd0 ok0
  exact ⟨a0, by simpa [Miss, missV] using World.var?_cell hg0' hv0 0⟩

def laidK : List (String × DataW Unit) := [("almoner/shas.start", Rows.laid_almoner_shas_start), ("almoner/shas.added", Rows.laid_almoner_shas_added), ("almoner/links.errMissing", Rows.laid_almoner_links_errMissing)]
def isShas (x : String × DataW Unit) : Bool := ["almoner/shas.start", "almoner/shas.added"].contains x.1
def isMiss (x : String × DataW Unit) : Bool := ["almoner/links.errMissing"].contains x.1
theorem laidK_shas : laidK.filter isShas = laid2 := by
  unfold laidK laid2 isShas
  simp [List.filter]
theorem laidK_miss : laidK.filter isMiss = laid1 := by
  unfold laidK laid1 isMiss
  simp [List.filter]

theorem of_laidK {W : World} (h : laidMetH Tryd.prog laidK W) : (Starts W ∧ Knows W) ∧ ∃ E, Miss W E := by
  have h1 := h.filter isShas
  rw [laidK_shas] at h1
  have h2 := h.filter isMiss
  rw [laidK_miss] at h2
  exact ⟨of_laid h1, of_laid1 h2⟩

end Go.Proofs.YtilgikhdamkeoaaDoor
