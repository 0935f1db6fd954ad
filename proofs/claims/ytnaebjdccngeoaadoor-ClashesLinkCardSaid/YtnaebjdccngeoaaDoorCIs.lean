/-
  clashes.Is: whether that are two unlike lists of bytes of one sum.
-/
import Derived.Test.YtnaebjdccngeoaaDoorCEqual
import Derived.Test.YtnaebjdccngeoaaDoorCPure
import Derived.Test.YtnaebjdccngeoaaDoorVTools
import Derived.Test.YtnaebjdccngeoaaDoorLRows
import Derived.Deep.RegionWith
namespace Go.Proofs.YtnaebjdccngeoaaDoor
open Go.RowKit

/-- A clash as it is handed over. -/
def clv (A : Option Addr) (n c : Nat) (B : Option Addr) (m d : Nat) : Value := .agg #[.slice A n c, .slice B m d]
/-- Is it one? -/
def isC (xs ys : List Nat) : Bool := !decide (xs = ys) && decide (sha xs = sha ys)
theorem isC_true {xs ys : List Nat} : isC xs ys = true ↔ Clashes xs ys := by simp [isC, Clashes]
theorem isC_false {xs ys : List Nat} (h : isC xs ys = false) : Same xs ys := fun e => by
  simp [isC] at h
  exact Classical.byContradiction fun hne => h hne e

section
variable {w : World} {A B : Option Addr} {n c m d : Nat} {xs ys : List Nat}

set_option maxRecDepth 100000 in
set_option maxHeartbeats 2000000 in
theorem is_any (h1 : Came w A n c xs) (h2 : Came w B m d ys) (hn : n ≤ 800000000) (hm : m ≤ 800000000) (hk : Knows w) (hs : Starts w) :
    Calls Tryd.prog 15 #[clv A n c B m d] w fun e w' => e = .returned (.bool (isC xs ys)) ∧ Below w.heap.size w w' := by
  obtain ⟨w1, hw1⟩ : ∃ w1, w1 = w.alloc (.cells #[.slice A n c, .slice B m d] 30) := ⟨_, rfl⟩
  have b1 : Below w.heap.size w w1 := by rw [hw1]; exact below_alloc _ _
  obtain ⟨g, hg⟩ : ∃ g, w.heap.size = g := ⟨_, rfl⟩
  have x0 : w1.cell? ⟨g, 0, none⟩ = some (.slice A n c) := by rw [← hg, hw1, cell_of_row _ _ 0 _ _ (0, 0) (World.alloc_heap_new w _)]; rfl
  have x1 : w1.cell? ⟨g, 1, none⟩ = some (.slice B m d) := by rw [← hg, hw1, cell_of_row _ _ 1 _ _ (0, 0) (World.alloc_heap_new w _)]; rfl
  have gl : g < w1.heap.size := by rw [← hg, hw1, World.size_alloc]; omega
  have HC0 := Lib.hid (fun (W : World) (hW : Below w1.heap.size w1 W) => show W.cell? ⟨g, 0, none⟩ = some (.slice A n c) from (hW.cell gl).trans x0)
  have HC1 := Lib.hid (fun (W : World) (hW : Below w1.heap.size w1 W) => show W.cell? ⟨g, 1, none⟩ = some (.slice B m d) from (hW.cell gl).trans x1)
  have CE := Lib.hid (fun (W : World) (hW : Below w1.heap.size w1 W) => (equal_any ((h1.below b1).below hW) ((h2.below b1).below hW)).mono (R' := fun e w' => e = .returned (.bool (decide (xs = ys))) ∧ Below w1.heap.size w1 w') fun e w' ⟨he, hw⟩ => ⟨he, by rw [hw]; exact hW⟩)
  obtain ⟨s, hs0⟩ : ∃ s, sha xs = s := ⟨_, rfl⟩
  obtain ⟨t, ht0⟩ : ∃ t, sha ys = t := ⟨_, rfl⟩
  have sl : s.length = 32 := by rw [← hs0]; exact sha_length _
  have tl : t.length = 32 := by rw [← ht0]; exact sha_length _
  have CA := Lib.hid (fun (W : World) (hW : Below w1.heap.size w1 W) => later (v' := sv s) hW (by rw [hs0]) (of_any A n c xs W ((h1.in_.below b1).below hW) h1.lt h1.cap ((hk.below b1).below hW) ((hs.below b1).below hW) (by omega)))
  have CB := Lib.hid (fun (W : World) (hW : Below w1.heap.size w1 W) => later (v' := sv t) hW (by rw [ht0]) (of_any B m d ys W ((h2.in_.below b1).below hW) h2.lt h2.cap ((hk.below b1).below hW) ((hs.below b1).below hW) (by omega)))
  have n1 := run_eql_sum s t sl tl
  have n2 := run_guard_eql
  have hR : isC xs ys = (!decide (xs = ys) && decide (s = t)) := by rw [← hs0, ← ht0]; rfl
  rw [hR]
  have HW := Lib.hid (And.intro hw1 b1)
  obtain ⟨b, hb⟩ : ∃ b, decide (xs = ys) = b := ⟨_, rfl⟩
  obtain ⟨b2, hb2⟩ : ∃ b2, decide (s = t) = b2 := ⟨_, rfl⟩
  rw [hb] at CE ⊢
  rw [hb2] at n1 ⊢
  have HG := Lib.hid hg
  clear hw1 b1 x0 x1 gl h1 h2 hn hm hk hs hs0 ht0 hR hb hb2 hg
  unfold clv
  go_enter Tryd.func15, Tryd.ntmps15
  go_upto_region 1 with fail
  rw [← HW.out.1]
  rw [HG.out]
  cases b with
  | false =>
    refine wp_region_held_drew (S := fun W => Below w1.heap.size w1 W) (by kernel_rfl) ((Below.refl _ _).drew) (fun hS0 => ?_)
    change wpAnyH _ _ _ _ _ _ _ _ w1.drew
    refine' wpAnyH_take (i := 0) (oi := _) (v := _) ?hin0 (by kernel_rfl) ?hfn0 ?hrn0 ?hQn0 ?hyn0 hS0 ?restn0
    case hin0 => (simp only [List.getElem?_toArray, List.getElem?_cons_zero]; rfl)
    case hfn0 => kernel_rfl
    case hrn0 => kernel_rfl
    case hQn0 => exact fun _ _ _ h => h
    case hyn0 => refine Or.inl ⟨by rfl, ?_⟩; intro W hSw; go_simp; try with_reducible rfl
    try simp only [Act.put, List.setIfInBounds_toArray, List.set_cons_zero, List.set_cons_succ]
    refine' wpAnyH_take (i := 1) (oi := _) (v := _) ?hin1 (by kernel_rfl) ?hfn1 ?hrn1 ?hQn1 ?hyn1 hS0 ?restn1
    case hin1 => (simp only [List.getElem?_toArray, List.getElem?_cons_zero, List.getElem?_cons_succ]; rfl)
    case hfn1 => kernel_rfl
    case hrn1 => kernel_rfl
    case hQn1 => exact fun _ _ _ h => h
    case hyn1 => refine Or.inl ⟨by rfl, ?_⟩; intro W hSw; have hcc := HC0.out W hSw; go_simp; try with_reducible rfl
    try simp only [Act.put, List.setIfInBounds_toArray, List.set_cons_zero, List.set_cons_succ]
    refine' wpAnyH_take (i := 2) (oi := _) (v := _) ?hin2 (by kernel_rfl) ?hfn2 ?hrn2 ?hQn2 ?hyn2 hS0 ?restn2
    case hin2 => (simp only [List.getElem?_toArray, List.getElem?_cons_zero, List.getElem?_cons_succ]; rfl)
    case hfn2 => kernel_rfl
    case hrn2 => kernel_rfl
    case hQn2 => exact fun _ _ _ h => h
    case hyn2 => refine Or.inl ⟨by rfl, ?_⟩; intro W hSw; go_simp; try with_reducible rfl
    try simp only [Act.put, List.setIfInBounds_toArray, List.set_cons_zero, List.set_cons_succ]
    refine' wpAnyH_take (i := 3) (oi := _) (v := _) ?hin3 (by kernel_rfl) ?hfn3 ?hrn3 ?hQn3 ?hyn3 hS0 ?restn3
    case hin3 => (simp only [List.getElem?_toArray, List.getElem?_cons_zero, List.getElem?_cons_succ]; rfl)
    case hfn3 => kernel_rfl
    case hrn3 => kernel_rfl
    case hQn3 => exact fun _ _ _ h => h
    case hyn3 => refine Or.inl ⟨by rfl, ?_⟩; intro W hSw; have hcc := HC1.out W hSw; go_simp; try with_reducible rfl
    try simp only [Act.put, List.setIfInBounds_toArray, List.set_cons_zero, List.set_cons_succ]
    refine wpAnyH_ready (rs := [4]) (by kernel_rfl) (by simp) ?_
    refine' AllReadyH.cons (o := _) ?hin4 (fun K hK => ?_) AllReadyH.nil
    case hin4 => (simp only [List.getElem?_toArray, List.getElem?_cons_zero, List.getElem?_cons_succ]; rfl)
    go_simp
    go_at_call 47
    refine (CE.out _ hS0).mono ?_
    rintro e Wn2 ⟨rfl, hBn1⟩
    refine hK.out _ _ hBn1 (fun _ => ?_)
    clear hK K
    try simp only [Act.put, List.setIfInBounds_toArray, List.set_cons_zero, List.set_cons_succ]
    refine' wpAnyH_take (i := 5) (oi := _) (v := _) ?hin5 (by kernel_rfl) ?hfn5 ?hrn5 ?hQn5 ?hyn5 hBn1 ?restn5
    case hin5 => (simp only [List.getElem?_toArray, List.getElem?_cons_zero, List.getElem?_cons_succ]; rfl)
    case hfn5 => kernel_rfl
    case hrn5 => kernel_rfl
    case hQn5 => exact fun _ _ _ h => h
    case hyn5 => refine Or.inl ⟨by rfl, ?_⟩; intro W hSw; go_simp; try with_reducible rfl
    try simp only [Act.put, List.setIfInBounds_toArray, List.set_cons_zero, List.set_cons_succ]
    refine' wpAnyH_take (i := 6) (oi := _) (v := _) ?hin6 (by kernel_rfl) ?hfn6 ?hrn6 ?hQn6 ?hyn6 hBn1 ?restn6
    case hin6 => (simp only [List.getElem?_toArray, List.getElem?_cons_zero, List.getElem?_cons_succ]; rfl)
    case hfn6 => kernel_rfl
    case hrn6 => kernel_rfl
    case hQn6 => exact fun _ _ _ h => h
    case hyn6 => refine Or.inl ⟨by rfl, ?_⟩; intro W hSw; go_simp; try with_reducible rfl
    try simp only [Act.put, List.setIfInBounds_toArray, List.set_cons_zero, List.set_cons_succ]
    refine' wpAnyH_take (i := 7) (oi := _) (v := _) ?hin7 (by kernel_rfl) ?hfn7 ?hrn7 ?hQn7 ?hyn7 hBn1 ?restn7
    case hin7 => (simp only [List.getElem?_toArray, List.getElem?_cons_zero, List.getElem?_cons_succ]; rfl)
    case hfn7 => kernel_rfl
    case hrn7 => kernel_rfl
    case hQn7 => exact fun _ _ _ h => h
    case hyn7 => refine Or.inl ⟨by rfl, ?_⟩; intro W hSw; go_simp; try with_reducible rfl
    try simp only [Act.put, List.setIfInBounds_toArray, List.set_cons_zero, List.set_cons_succ]
    refine' wpAnyH_take (i := 10) (oi := _) (v := _) ?hin10 (by kernel_rfl) ?hfn10 ?hrn10 ?hQn10 ?hyn10 hBn1 ?restn10
    case hin10 => (simp only [List.getElem?_toArray, List.getElem?_cons_zero, List.getElem?_cons_succ]; rfl)
    case hfn10 => kernel_rfl
    case hrn10 => kernel_rfl
    case hQn10 => exact fun _ _ _ h => h
    case hyn10 => refine Or.inl ⟨by rfl, ?_⟩; intro W hSw; go_simp; try with_reducible rfl
    try simp only [Act.put, List.setIfInBounds_toArray, List.set_cons_zero, List.set_cons_succ]
    refine' wpAnyH_take (i := 8) (oi := _) (v := _) ?hin8 (by kernel_rfl) ?hfn8 ?hrn8 ?hQn8 ?hyn8 hBn1 ?restn8
    case hin8 => (simp only [List.getElem?_toArray, List.getElem?_cons_zero, List.getElem?_cons_succ]; rfl)
    case hfn8 => kernel_rfl
    case hrn8 => kernel_rfl
    case hQn8 => exact fun _ _ _ h => h
    case hyn8 => refine Or.inl ⟨by rfl, ?_⟩; intro W hSw; have hcc := HC0.out W hSw; go_simp; try with_reducible rfl
    try simp only [Act.put, List.setIfInBounds_toArray, List.set_cons_zero, List.set_cons_succ]
    refine' wpAnyH_take (i := 11) (oi := _) (v := _) ?hin11 (by kernel_rfl) ?hfn11 ?hrn11 ?hQn11 ?hyn11 hBn1 ?restn11
    case hin11 => (simp only [List.getElem?_toArray, List.getElem?_cons_zero, List.getElem?_cons_succ]; rfl)
    case hfn11 => kernel_rfl
    case hrn11 => kernel_rfl
    case hQn11 => exact fun _ _ _ h => h
    case hyn11 => refine Or.inl ⟨by rfl, ?_⟩; intro W hSw; have hcc := HC1.out W hSw; go_simp; try with_reducible rfl
    try simp only [Act.put, List.setIfInBounds_toArray, List.set_cons_zero, List.set_cons_succ]
    refine wpAnyH_ready (rs := [9]) (by kernel_rfl) (by simp) ?_
    refine' AllReadyH.cons (o := _) ?hin9 (fun K hK => ?_) AllReadyH.nil
    case hin9 => (simp only [List.getElem?_toArray, List.getElem?_cons_zero, List.getElem?_cons_succ]; rfl)
    go_simp
    go_at_call 30
    refine (CA.out _ hBn1).mono ?_
    rintro e Wn4 ⟨rfl, hBn3⟩
    refine hK.out _ _ hBn3 (fun _ => ?_)
    clear hK K
    try simp only [Act.put, List.setIfInBounds_toArray, List.set_cons_zero, List.set_cons_succ]
    refine wpAnyH_ready (rs := [12]) (by kernel_rfl) (by simp) ?_
    refine' AllReadyH.cons (o := _) ?hin12 (fun K hK => ?_) AllReadyH.nil
    case hin12 => (simp only [List.getElem?_toArray, List.getElem?_cons_zero, List.getElem?_cons_succ]; rfl)
    go_simp
    go_at_call 30
    refine (CB.out _ hBn3).mono ?_
    rintro e Wn6 ⟨rfl, hBn5⟩
    refine hK.out _ _ hBn5 (fun _ => ?_)
    clear hK K
    try simp only [Act.put, List.setIfInBounds_toArray, List.set_cons_zero, List.set_cons_succ]
    refine' wpAnyH_take (i := 13) (oi := _) (v := _) ?hin13 (by kernel_rfl) ?hfn13 ?hrn13 ?hQn13 ?hyn13 hBn5 ?restn13
    case hin13 => (simp only [List.getElem?_toArray, List.getElem?_cons_zero, List.getElem?_cons_succ]; rfl)
    case hfn13 => kernel_rfl
    case hrn13 => kernel_rfl
    case hQn13 => exact fun _ _ _ h => h
    case hyn13 => refine Or.inl ⟨by rfl, ?_⟩; intro W hSw; go_simp; try with_reducible rfl
    try simp only [Act.put, List.setIfInBounds_toArray, List.set_cons_zero, List.set_cons_succ]
    refine' wpAnyH_take (i := 14) (oi := _) (v := _) ?hin14 (by kernel_rfl) ?hfn14 ?hrn14 ?hQn14 ?hyn14 hBn5 ?restn14
    case hin14 => (simp only [List.getElem?_toArray, List.getElem?_cons_zero, List.getElem?_cons_succ]; rfl)
    case hfn14 => kernel_rfl
    case hrn14 => kernel_rfl
    case hQn14 => exact fun _ _ _ h => h
    case hyn14 => refine Or.inl ⟨by rfl, ?_⟩; intro W hSw; go_simp; try with_reducible rfl
    try simp only [Act.put, List.setIfInBounds_toArray, List.set_cons_zero, List.set_cons_succ]
    refine' wpAnyH_take (i := 15) (oi := _) (v := _) ?hin15 (by kernel_rfl) ?hfn15 ?hrn15 ?hQn15 ?hyn15 hBn5 ?restn15
    case hin15 => (simp only [List.getElem?_toArray, List.getElem?_cons_zero, List.getElem?_cons_succ]; rfl)
    case hfn15 => kernel_rfl
    case hrn15 => kernel_rfl
    case hQn15 => exact fun _ _ _ h => h
    case hyn15 => refine Or.inl ⟨by rfl, ?_⟩; intro W hSw; go_simp; try with_reducible rfl
    try simp only [Act.put, List.setIfInBounds_toArray, List.set_cons_zero, List.set_cons_succ]
    refine wpAnyH_done (by kernel_rfl) ?_ _
    go_wp2
    go_ret
    exact ⟨rfl, by rw [← HG.out] at *; exact below_on HW.out.2 (Nat.le_refl _) hBn5⟩
  | true =>
    refine wp_region_held_drew (S := fun W => Below w1.heap.size w1 W) (by kernel_rfl) ((Below.refl _ _).drew) (fun hS0 => ?_)
    change wpAnyH _ _ _ _ _ _ _ _ w1.drew
    refine' wpAnyH_take (i := 0) (oi := _) (v := _) ?hiy0 (by kernel_rfl) ?hfy0 ?hry0 ?hQy0 ?hyy0 hS0 ?resty0
    case hiy0 => (simp only [List.getElem?_toArray, List.getElem?_cons_zero]; rfl)
    case hfy0 => kernel_rfl
    case hry0 => kernel_rfl
    case hQy0 => exact fun _ _ _ h => h
    case hyy0 => refine Or.inl ⟨by rfl, ?_⟩; intro W hSw; go_simp; try with_reducible rfl
    try simp only [Act.put, List.setIfInBounds_toArray, List.set_cons_zero, List.set_cons_succ]
    refine' wpAnyH_take (i := 1) (oi := _) (v := _) ?hiy1 (by kernel_rfl) ?hfy1 ?hry1 ?hQy1 ?hyy1 hS0 ?resty1
    case hiy1 => (simp only [List.getElem?_toArray, List.getElem?_cons_zero, List.getElem?_cons_succ]; rfl)
    case hfy1 => kernel_rfl
    case hry1 => kernel_rfl
    case hQy1 => exact fun _ _ _ h => h
    case hyy1 => refine Or.inl ⟨by rfl, ?_⟩; intro W hSw; have hcc := HC0.out W hSw; go_simp; try with_reducible rfl
    try simp only [Act.put, List.setIfInBounds_toArray, List.set_cons_zero, List.set_cons_succ]
    refine' wpAnyH_take (i := 2) (oi := _) (v := _) ?hiy2 (by kernel_rfl) ?hfy2 ?hry2 ?hQy2 ?hyy2 hS0 ?resty2
    case hiy2 => (simp only [List.getElem?_toArray, List.getElem?_cons_zero, List.getElem?_cons_succ]; rfl)
    case hfy2 => kernel_rfl
    case hry2 => kernel_rfl
    case hQy2 => exact fun _ _ _ h => h
    case hyy2 => refine Or.inl ⟨by rfl, ?_⟩; intro W hSw; go_simp; try with_reducible rfl
    try simp only [Act.put, List.setIfInBounds_toArray, List.set_cons_zero, List.set_cons_succ]
    refine' wpAnyH_take (i := 3) (oi := _) (v := _) ?hiy3 (by kernel_rfl) ?hfy3 ?hry3 ?hQy3 ?hyy3 hS0 ?resty3
    case hiy3 => (simp only [List.getElem?_toArray, List.getElem?_cons_zero, List.getElem?_cons_succ]; rfl)
    case hfy3 => kernel_rfl
    case hry3 => kernel_rfl
    case hQy3 => exact fun _ _ _ h => h
    case hyy3 => refine Or.inl ⟨by rfl, ?_⟩; intro W hSw; have hcc := HC1.out W hSw; go_simp; try with_reducible rfl
    try simp only [Act.put, List.setIfInBounds_toArray, List.set_cons_zero, List.set_cons_succ]
    refine wpAnyH_ready (rs := [4]) (by kernel_rfl) (by simp) ?_
    refine' AllReadyH.cons (o := _) ?hiy4 (fun K hK => ?_) AllReadyH.nil
    case hiy4 => (simp only [List.getElem?_toArray, List.getElem?_cons_zero, List.getElem?_cons_succ]; rfl)
    go_simp
    go_at_call 47
    refine (CE.out _ hS0).mono ?_
    rintro e Wy2 ⟨rfl, hBy1⟩
    refine hK.out _ _ hBy1 (fun _ => ?_)
    clear hK K
    try simp only [Act.put, List.setIfInBounds_toArray, List.set_cons_zero, List.set_cons_succ]
    refine' wpAnyH_take (i := 5) (oi := _) (v := _) ?hiy5 (by kernel_rfl) ?hfy5 ?hry5 ?hQy5 ?hyy5 hBy1 ?resty5
    case hiy5 => (simp only [List.getElem?_toArray, List.getElem?_cons_zero, List.getElem?_cons_succ]; rfl)
    case hfy5 => kernel_rfl
    case hry5 => kernel_rfl
    case hQy5 => exact fun _ _ _ h => h
    case hyy5 => refine Or.inl ⟨by rfl, ?_⟩; intro W hSw; go_simp; try with_reducible rfl
    try simp only [Act.put, List.setIfInBounds_toArray, List.set_cons_zero, List.set_cons_succ]
    refine' wpAnyH_take (i := 6) (oi := _) (v := _) ?hiy6 (by kernel_rfl) ?hfy6 ?hry6 ?hQy6 ?hyy6 hBy1 ?resty6
    case hiy6 => (simp only [List.getElem?_toArray, List.getElem?_cons_zero, List.getElem?_cons_succ]; rfl)
    case hfy6 => kernel_rfl
    case hry6 => kernel_rfl
    case hQy6 => exact fun _ _ _ h => h
    case hyy6 => refine Or.inl ⟨by rfl, ?_⟩; intro W hSw; go_simp; try with_reducible rfl
    try simp only [Act.put, List.setIfInBounds_toArray, List.set_cons_zero, List.set_cons_succ]
    refine' wpAnyH_take (i := 7) (oi := _) (v := undef) ?hiy7 (by kernel_rfl) ?hfy7 ?hry7 ?hQy7 ?hyy7 hBy1 ?resty7
    case hiy7 => (simp only [List.getElem?_toArray, List.getElem?_cons_zero, List.getElem?_cons_succ]; rfl)
    case hfy7 => kernel_rfl
    case hry7 => kernel_rfl
    case hQy7 => exact fun _ _ _ h => h
    case hyy7 => exact Or.inr ⟨by rfl, rfl⟩
    try simp only [Act.put, List.setIfInBounds_toArray, List.set_cons_zero, List.set_cons_succ]
    refine' wpAnyH_take (i := 8) (oi := _) (v := undef) ?hiy8 (by kernel_rfl) ?hfy8 ?hry8 ?hQy8 ?hyy8 hBy1 ?resty8
    case hiy8 => (simp only [List.getElem?_toArray, List.getElem?_cons_zero, List.getElem?_cons_succ]; rfl)
    case hfy8 => kernel_rfl
    case hry8 => kernel_rfl
    case hQy8 => exact fun _ _ _ h => h
    case hyy8 => exact Or.inr ⟨by rfl, rfl⟩
    try simp only [Act.put, List.setIfInBounds_toArray, List.set_cons_zero, List.set_cons_succ]
    refine' wpAnyH_take (i := 9) (oi := _) (v := undef) ?hiy9 (by kernel_rfl) ?hfy9 ?hry9 ?hQy9 ?hyy9 hBy1 ?resty9
    case hiy9 => (simp only [List.getElem?_toArray, List.getElem?_cons_zero, List.getElem?_cons_succ]; rfl)
    case hfy9 => kernel_rfl
    case hry9 => kernel_rfl
    case hQy9 => exact fun _ _ _ h => h
    case hyy9 => exact Or.inr ⟨by rfl, rfl⟩
    try simp only [Act.put, List.setIfInBounds_toArray, List.set_cons_zero, List.set_cons_succ]
    refine' wpAnyH_take (i := 10) (oi := _) (v := undef) ?hiy10 (by kernel_rfl) ?hfy10 ?hry10 ?hQy10 ?hyy10 hBy1 ?resty10
    case hiy10 => (simp only [List.getElem?_toArray, List.getElem?_cons_zero, List.getElem?_cons_succ]; rfl)
    case hfy10 => kernel_rfl
    case hry10 => kernel_rfl
    case hQy10 => exact fun _ _ _ h => h
    case hyy10 => exact Or.inr ⟨by rfl, rfl⟩
    try simp only [Act.put, List.setIfInBounds_toArray, List.set_cons_zero, List.set_cons_succ]
    refine' wpAnyH_take (i := 11) (oi := _) (v := undef) ?hiy11 (by kernel_rfl) ?hfy11 ?hry11 ?hQy11 ?hyy11 hBy1 ?resty11
    case hiy11 => (simp only [List.getElem?_toArray, List.getElem?_cons_zero, List.getElem?_cons_succ]; rfl)
    case hfy11 => kernel_rfl
    case hry11 => kernel_rfl
    case hQy11 => exact fun _ _ _ h => h
    case hyy11 => exact Or.inr ⟨by rfl, rfl⟩
    try simp only [Act.put, List.setIfInBounds_toArray, List.set_cons_zero, List.set_cons_succ]
    refine' wpAnyH_take (i := 12) (oi := _) (v := undef) ?hiy12 (by kernel_rfl) ?hfy12 ?hry12 ?hQy12 ?hyy12 hBy1 ?resty12
    case hiy12 => (simp only [List.getElem?_toArray, List.getElem?_cons_zero, List.getElem?_cons_succ]; rfl)
    case hfy12 => kernel_rfl
    case hry12 => kernel_rfl
    case hQy12 => exact fun _ _ _ h => h
    case hyy12 => exact Or.inr ⟨by rfl, rfl⟩
    try simp only [Act.put, List.setIfInBounds_toArray, List.set_cons_zero, List.set_cons_succ]
    refine' wpAnyH_take (i := 13) (oi := _) (v := undef) ?hiy13 (by kernel_rfl) ?hfy13 ?hry13 ?hQy13 ?hyy13 hBy1 ?resty13
    case hiy13 => (simp only [List.getElem?_toArray, List.getElem?_cons_zero, List.getElem?_cons_succ]; rfl)
    case hfy13 => kernel_rfl
    case hry13 => kernel_rfl
    case hQy13 => exact fun _ _ _ h => h
    case hyy13 => exact Or.inr ⟨by rfl, rfl⟩
    try simp only [Act.put, List.setIfInBounds_toArray, List.set_cons_zero, List.set_cons_succ]
    refine' wpAnyH_take (i := 14) (oi := _) (v := _) ?hiy14 (by kernel_rfl) ?hfy14 ?hry14 ?hQy14 ?hyy14 hBy1 ?resty14
    case hiy14 => (simp only [List.getElem?_toArray, List.getElem?_cons_zero, List.getElem?_cons_succ]; rfl)
    case hfy14 => kernel_rfl
    case hry14 => kernel_rfl
    case hQy14 => exact fun _ _ _ h => h
    case hyy14 => refine Or.inl ⟨by rfl, ?_⟩; intro W hSw; go_simp; try with_reducible rfl
    try simp only [Act.put, List.setIfInBounds_toArray, List.set_cons_zero, List.set_cons_succ]
    refine' wpAnyH_take (i := 15) (oi := _) (v := _) ?hiy15 (by kernel_rfl) ?hfy15 ?hry15 ?hQy15 ?hyy15 hBy1 ?resty15
    case hiy15 => (simp only [List.getElem?_toArray, List.getElem?_cons_zero, List.getElem?_cons_succ]; rfl)
    case hfy15 => kernel_rfl
    case hry15 => kernel_rfl
    case hQy15 => exact fun _ _ _ h => h
    case hyy15 => refine Or.inl ⟨by rfl, ?_⟩; intro W hSw; go_simp; try with_reducible rfl
    try simp only [Act.put, List.setIfInBounds_toArray, List.set_cons_zero, List.set_cons_succ]
    refine wpAnyH_done (by kernel_rfl) ?_ _
    go_wp2
    go_ret
    exact ⟨rfl, by rw [← HG.out] at *; exact below_on HW.out.2 (Nat.le_refl _) hBy1⟩
end

end Go.Proofs.YtnaebjdccngeoaaDoor
