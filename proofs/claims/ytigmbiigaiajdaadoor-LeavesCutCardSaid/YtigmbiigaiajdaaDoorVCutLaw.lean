/-
  almonerlaw08.LeavesCut, on a list of sums that came in.
-/
import Derived.Test.YtigmbiigaiajdaaDoorVTools
namespace Go.Proofs.YtigmbiigaiajdaaDoor
open Go.RowKit

set_option maxRecDepth 100000 in
set_option maxHeartbeats 4000000 in
theorem cut_else (w : World) (hk : Knows w) (hs : Starts w) (A : Option Addr) (n c : Nat) (h : n = 0 ∨ 200 < n) :
    Calls Tryd.prog 7 #[.slice A n c] w fun e w' => e = .returned (.bool true) ∧ Below w.heap.size w w' := by
  have CA := Lib.hid (fun (W : World) (hW : Below w.heap.size w W) => later (v' := .bool true) hW rfl (alive_any W (hk.below hW) (hs.below hW)))
  have h1 : ((n : Int) != 1) = true := by simp; omega
  clear hk hs
  go_enter Tryd.func7, Tryd.ntmps7
  rcases h with h | h
  · subst h
    go_wp2_with fail
    refine wp_region_held_drew (S := fun W => Below w.heap.size w W) (by kernel_rfl) ((Below.refl _ _).drew) (fun hS0 => ?_)
    change wpAnyH _ _ _ _ _ _ _ _ w.drew
    refine wpAnyH_ready (rs := [0]) (by kernel_rfl) (by simp) ?_
    refine' AllReadyH.cons (o := _) ?hia40 (fun K hK => ?_) AllReadyH.nil
    case hia40 => (simp only [List.getElem?_toArray, List.getElem?_cons_zero]; rfl)
    go_simp
    go_at_call 18
    refine (CA.out _ hS0).mono ?_
    rintro e Wa42 ⟨rfl, hBa41⟩
    refine hK.out _ _ hBa41 (fun _ => ?_)
    clear hK K
    try simp only [Act.put, List.setIfInBounds_toArray, List.set_cons_zero, List.set_cons_succ]
    refine' wpAnyH_take (i := 1) (oi := _) (v := _) ?hia41 (by kernel_rfl) ?hfa41 ?hra41 ?hQa41 ?hya41 hBa41 ?resta41
    case hia41 => (simp only [List.getElem?_toArray, List.getElem?_cons_zero, List.getElem?_cons_succ]; rfl)
    case hfa41 => kernel_rfl
    case hra41 => kernel_rfl
    case hQa41 => exact fun _ _ _ h => h
    case hya41 => refine Or.inl ⟨by rfl, ?_⟩; intro W hSw; go_simp; try with_reducible rfl
    try simp only [Act.put, List.setIfInBounds_toArray, List.set_cons_zero, List.set_cons_succ]
    refine' wpAnyH_take (i := 2) (oi := _) (v := _) ?hia42 (by kernel_rfl) ?hfa42 ?hra42 ?hQa42 ?hya42 hBa41 ?resta42
    case hia42 => (simp only [List.getElem?_toArray, List.getElem?_cons_zero, List.getElem?_cons_succ]; rfl)
    case hfa42 => kernel_rfl
    case hra42 => kernel_rfl
    case hQa42 => exact fun _ _ _ h => h
    case hya42 => refine Or.inl ⟨by rfl, ?_⟩; intro W hSw; go_simp; try with_reducible rfl
    try simp only [Act.put, List.setIfInBounds_toArray, List.set_cons_zero, List.set_cons_succ]
    refine' wpAnyH_take (i := 3) (oi := _) (v := _) ?hia43 (by kernel_rfl) ?hfa43 ?hra43 ?hQa43 ?hya43 hBa41 ?resta43
    case hia43 => (simp only [List.getElem?_toArray, List.getElem?_cons_zero, List.getElem?_cons_succ]; rfl)
    case hfa43 => kernel_rfl
    case hra43 => kernel_rfl
    case hQa43 => exact fun _ _ _ h => h
    case hya43 => refine Or.inl ⟨by rfl, ?_⟩; intro W hSw; go_simp; try with_reducible rfl
    try simp only [Act.put, List.setIfInBounds_toArray, List.set_cons_zero, List.set_cons_succ]
    refine' wpAnyH_take (i := 4) (oi := _) (v := _) ?hia44 (by kernel_rfl) ?hfa44 ?hra44 ?hQa44 ?hya44 hBa41 ?resta44
    case hia44 => (simp only [List.getElem?_toArray, List.getElem?_cons_zero, List.getElem?_cons_succ]; rfl)
    case hfa44 => kernel_rfl
    case hra44 => kernel_rfl
    case hQa44 => exact fun _ _ _ h => h
    case hya44 => refine Or.inl ⟨by rfl, ?_⟩; intro W hSw; go_simp; try with_reducible rfl
    try simp only [Act.put, List.setIfInBounds_toArray, List.set_cons_zero, List.set_cons_succ]
    refine' wpAnyH_take (i := 5) (oi := _) (v := _) ?hia45 (by kernel_rfl) ?hfa45 ?hra45 ?hQa45 ?hya45 hBa41 ?resta45
    case hia45 => (simp only [List.getElem?_toArray, List.getElem?_cons_zero, List.getElem?_cons_succ]; rfl)
    case hfa45 => kernel_rfl
    case hra45 => kernel_rfl
    case hQa45 => exact fun _ _ _ h => h
    case hya45 => refine Or.inl ⟨by rfl, ?_⟩; intro W hSw; go_simp; try with_reducible rfl
    try simp only [Act.put, List.setIfInBounds_toArray, List.set_cons_zero, List.set_cons_succ]
    refine' wpAnyH_take (i := 6) (oi := _) (v := undef) ?hia46 (by kernel_rfl) ?hfa46 ?hra46 ?hQa46 ?hya46 hBa41 ?resta46
    case hia46 => (simp only [List.getElem?_toArray, List.getElem?_cons_zero, List.getElem?_cons_succ]; rfl)
    case hfa46 => kernel_rfl
    case hra46 => kernel_rfl
    case hQa46 => exact fun _ _ _ h => h
    case hya46 => exact Or.inr ⟨by rfl, rfl⟩
    try simp only [Act.put, List.setIfInBounds_toArray, List.set_cons_zero, List.set_cons_succ]
    refine' wpAnyH_take (i := 7) (oi := _) (v := undef) ?hia47 (by kernel_rfl) ?hfa47 ?hra47 ?hQa47 ?hya47 hBa41 ?resta47
    case hia47 => (simp only [List.getElem?_toArray, List.getElem?_cons_zero, List.getElem?_cons_succ]; rfl)
    case hfa47 => kernel_rfl
    case hra47 => kernel_rfl
    case hQa47 => exact fun _ _ _ h => h
    case hya47 => exact Or.inr ⟨by rfl, rfl⟩
    try simp only [Act.put, List.setIfInBounds_toArray, List.set_cons_zero, List.set_cons_succ]
    refine' wpAnyH_take (i := 8) (oi := _) (v := undef) ?hia48 (by kernel_rfl) ?hfa48 ?hra48 ?hQa48 ?hya48 hBa41 ?resta48
    case hia48 => (simp only [List.getElem?_toArray, List.getElem?_cons_zero, List.getElem?_cons_succ]; rfl)
    case hfa48 => kernel_rfl
    case hra48 => kernel_rfl
    case hQa48 => exact fun _ _ _ h => h
    case hya48 => exact Or.inr ⟨by rfl, rfl⟩
    try simp only [Act.put, List.setIfInBounds_toArray, List.set_cons_zero, List.set_cons_succ]
    refine' wpAnyH_take (i := 9) (oi := _) (v := undef) ?hia49 (by kernel_rfl) ?hfa49 ?hra49 ?hQa49 ?hya49 hBa41 ?resta49
    case hia49 => (simp only [List.getElem?_toArray, List.getElem?_cons_zero, List.getElem?_cons_succ]; rfl)
    case hfa49 => kernel_rfl
    case hra49 => kernel_rfl
    case hQa49 => exact fun _ _ _ h => h
    case hya49 => exact Or.inr ⟨by rfl, rfl⟩
    try simp only [Act.put, List.setIfInBounds_toArray, List.set_cons_zero, List.set_cons_succ]
    refine' wpAnyH_take (i := 10) (oi := _) (v := undef) ?hia410 (by kernel_rfl) ?hfa410 ?hra410 ?hQa410 ?hya410 hBa41 ?resta410
    case hia410 => (simp only [List.getElem?_toArray, List.getElem?_cons_zero, List.getElem?_cons_succ]; rfl)
    case hfa410 => kernel_rfl
    case hra410 => kernel_rfl
    case hQa410 => exact fun _ _ _ h => h
    case hya410 => exact Or.inr ⟨by rfl, rfl⟩
    try simp only [Act.put, List.setIfInBounds_toArray, List.set_cons_zero, List.set_cons_succ]
    refine' wpAnyH_take (i := 11) (oi := _) (v := undef) ?hia411 (by kernel_rfl) ?hfa411 ?hra411 ?hQa411 ?hya411 hBa41 ?resta411
    case hia411 => (simp only [List.getElem?_toArray, List.getElem?_cons_zero, List.getElem?_cons_succ]; rfl)
    case hfa411 => kernel_rfl
    case hra411 => kernel_rfl
    case hQa411 => exact fun _ _ _ h => h
    case hya411 => exact Or.inr ⟨by rfl, rfl⟩
    try simp only [Act.put, List.setIfInBounds_toArray, List.set_cons_zero, List.set_cons_succ]
    refine' wpAnyH_take (i := 12) (oi := _) (v := _) ?hia412 (by kernel_rfl) ?hfa412 ?hra412 ?hQa412 ?hya412 hBa41 ?resta412
    case hia412 => (simp only [List.getElem?_toArray, List.getElem?_cons_zero, List.getElem?_cons_succ]; rfl)
    case hfa412 => kernel_rfl
    case hra412 => kernel_rfl
    case hQa412 => exact fun _ _ _ h => h
    case hya412 => refine Or.inl ⟨by rfl, ?_⟩; intro W hSw; go_simp; try with_reducible rfl
    try simp only [Act.put, List.setIfInBounds_toArray, List.set_cons_zero, List.set_cons_succ]
    refine' wpAnyH_take (i := 13) (oi := _) (v := _) ?hia413 (by kernel_rfl) ?hfa413 ?hra413 ?hQa413 ?hya413 hBa41 ?resta413
    case hia413 => (simp only [List.getElem?_toArray, List.getElem?_cons_zero, List.getElem?_cons_succ]; rfl)
    case hfa413 => kernel_rfl
    case hra413 => kernel_rfl
    case hQa413 => exact fun _ _ _ h => h
    case hya413 => refine Or.inl ⟨by rfl, ?_⟩; intro W hSw; go_simp; try with_reducible rfl
    try simp only [Act.put, List.setIfInBounds_toArray, List.set_cons_zero, List.set_cons_succ]
    refine' wpAnyH_take (i := 14) (oi := _) (v := _) ?hia414 (by kernel_rfl) ?hfa414 ?hra414 ?hQa414 ?hya414 hBa41 ?resta414
    case hia414 => (simp only [List.getElem?_toArray, List.getElem?_cons_zero, List.getElem?_cons_succ]; rfl)
    case hfa414 => kernel_rfl
    case hra414 => kernel_rfl
    case hQa414 => exact fun _ _ _ h => h
    case hya414 => refine Or.inl ⟨by rfl, ?_⟩; intro W hSw; go_simp; try with_reducible rfl
    try simp only [Act.put, List.setIfInBounds_toArray, List.set_cons_zero, List.set_cons_succ]
    refine wpAnyH_done (by kernel_rfl) ?_ _
    go_wp2
    go_ret
    exact ⟨rfl, hBa41⟩
  · have h2 : decide ((n : Int) < 2) = false := by simp; omega
    have h3 : decide ((200 : Int) < (n : Int)) = true := by simp; omega
    go_wp2_with fail
    refine wp_region_held_drew (S := fun W => Below w.heap.size w W) (by kernel_rfl) ((Below.refl _ _).drew) (fun hS0 => ?_)
    change wpAnyH _ _ _ _ _ _ _ _ w.drew
    refine wpAnyH_ready (rs := [0]) (by kernel_rfl) (by simp) ?_
    refine' AllReadyH.cons (o := _) ?hib40 (fun K hK => ?_) AllReadyH.nil
    case hib40 => (simp only [List.getElem?_toArray, List.getElem?_cons_zero]; rfl)
    go_simp
    go_at_call 18
    refine (CA.out _ hS0).mono ?_
    rintro e Wb42 ⟨rfl, hBb41⟩
    refine hK.out _ _ hBb41 (fun _ => ?_)
    clear hK K
    try simp only [Act.put, List.setIfInBounds_toArray, List.set_cons_zero, List.set_cons_succ]
    refine' wpAnyH_take (i := 1) (oi := _) (v := _) ?hib41 (by kernel_rfl) ?hfb41 ?hrb41 ?hQb41 ?hyb41 hBb41 ?restb41
    case hib41 => (simp only [List.getElem?_toArray, List.getElem?_cons_zero, List.getElem?_cons_succ]; rfl)
    case hfb41 => kernel_rfl
    case hrb41 => kernel_rfl
    case hQb41 => exact fun _ _ _ h => h
    case hyb41 => refine Or.inl ⟨by rfl, ?_⟩; intro W hSw; go_simp; try with_reducible rfl
    try simp only [Act.put, List.setIfInBounds_toArray, List.set_cons_zero, List.set_cons_succ]
    refine' wpAnyH_take (i := 2) (oi := _) (v := _) ?hib42 (by kernel_rfl) ?hfb42 ?hrb42 ?hQb42 ?hyb42 hBb41 ?restb42
    case hib42 => (simp only [List.getElem?_toArray, List.getElem?_cons_zero, List.getElem?_cons_succ]; rfl)
    case hfb42 => kernel_rfl
    case hrb42 => kernel_rfl
    case hQb42 => exact fun _ _ _ h => h
    case hyb42 => refine Or.inl ⟨by rfl, ?_⟩; intro W hSw; go_simp; try with_reducible rfl
    try simp only [Act.put, List.setIfInBounds_toArray, List.set_cons_zero, List.set_cons_succ]
    refine' wpAnyH_take (i := 3) (oi := _) (v := _) ?hib43 (by kernel_rfl) ?hfb43 ?hrb43 ?hQb43 ?hyb43 hBb41 ?restb43
    case hib43 => (simp only [List.getElem?_toArray, List.getElem?_cons_zero, List.getElem?_cons_succ]; rfl)
    case hfb43 => kernel_rfl
    case hrb43 => kernel_rfl
    case hQb43 => exact fun _ _ _ h => h
    case hyb43 => refine Or.inl ⟨by rfl, ?_⟩; intro W hSw; go_simp; try with_reducible rfl
    try simp only [Act.put, List.setIfInBounds_toArray, List.set_cons_zero, List.set_cons_succ]
    refine' wpAnyH_take (i := 4) (oi := _) (v := _) ?hib44 (by kernel_rfl) ?hfb44 ?hrb44 ?hQb44 ?hyb44 hBb41 ?restb44
    case hib44 => (simp only [List.getElem?_toArray, List.getElem?_cons_zero, List.getElem?_cons_succ]; rfl)
    case hfb44 => kernel_rfl
    case hrb44 => kernel_rfl
    case hQb44 => exact fun _ _ _ h => h
    case hyb44 => refine Or.inl ⟨by rfl, ?_⟩; intro W hSw; go_simp; try with_reducible rfl
    try simp only [Act.put, List.setIfInBounds_toArray, List.set_cons_zero, List.set_cons_succ]
    refine' wpAnyH_take (i := 5) (oi := _) (v := _) ?hib45 (by kernel_rfl) ?hfb45 ?hrb45 ?hQb45 ?hyb45 hBb41 ?restb45
    case hib45 => (simp only [List.getElem?_toArray, List.getElem?_cons_zero, List.getElem?_cons_succ]; rfl)
    case hfb45 => kernel_rfl
    case hrb45 => kernel_rfl
    case hQb45 => exact fun _ _ _ h => h
    case hyb45 => refine Or.inl ⟨by rfl, ?_⟩; intro W hSw; go_simp; try with_reducible rfl
    try simp only [Act.put, List.setIfInBounds_toArray, List.set_cons_zero, List.set_cons_succ]
    refine' wpAnyH_take (i := 6) (oi := _) (v := undef) ?hib46 (by kernel_rfl) ?hfb46 ?hrb46 ?hQb46 ?hyb46 hBb41 ?restb46
    case hib46 => (simp only [List.getElem?_toArray, List.getElem?_cons_zero, List.getElem?_cons_succ]; rfl)
    case hfb46 => kernel_rfl
    case hrb46 => kernel_rfl
    case hQb46 => exact fun _ _ _ h => h
    case hyb46 => exact Or.inr ⟨by rfl, rfl⟩
    try simp only [Act.put, List.setIfInBounds_toArray, List.set_cons_zero, List.set_cons_succ]
    refine' wpAnyH_take (i := 7) (oi := _) (v := undef) ?hib47 (by kernel_rfl) ?hfb47 ?hrb47 ?hQb47 ?hyb47 hBb41 ?restb47
    case hib47 => (simp only [List.getElem?_toArray, List.getElem?_cons_zero, List.getElem?_cons_succ]; rfl)
    case hfb47 => kernel_rfl
    case hrb47 => kernel_rfl
    case hQb47 => exact fun _ _ _ h => h
    case hyb47 => exact Or.inr ⟨by rfl, rfl⟩
    try simp only [Act.put, List.setIfInBounds_toArray, List.set_cons_zero, List.set_cons_succ]
    refine' wpAnyH_take (i := 8) (oi := _) (v := undef) ?hib48 (by kernel_rfl) ?hfb48 ?hrb48 ?hQb48 ?hyb48 hBb41 ?restb48
    case hib48 => (simp only [List.getElem?_toArray, List.getElem?_cons_zero, List.getElem?_cons_succ]; rfl)
    case hfb48 => kernel_rfl
    case hrb48 => kernel_rfl
    case hQb48 => exact fun _ _ _ h => h
    case hyb48 => exact Or.inr ⟨by rfl, rfl⟩
    try simp only [Act.put, List.setIfInBounds_toArray, List.set_cons_zero, List.set_cons_succ]
    refine' wpAnyH_take (i := 9) (oi := _) (v := undef) ?hib49 (by kernel_rfl) ?hfb49 ?hrb49 ?hQb49 ?hyb49 hBb41 ?restb49
    case hib49 => (simp only [List.getElem?_toArray, List.getElem?_cons_zero, List.getElem?_cons_succ]; rfl)
    case hfb49 => kernel_rfl
    case hrb49 => kernel_rfl
    case hQb49 => exact fun _ _ _ h => h
    case hyb49 => exact Or.inr ⟨by rfl, rfl⟩
    try simp only [Act.put, List.setIfInBounds_toArray, List.set_cons_zero, List.set_cons_succ]
    refine' wpAnyH_take (i := 10) (oi := _) (v := undef) ?hib410 (by kernel_rfl) ?hfb410 ?hrb410 ?hQb410 ?hyb410 hBb41 ?restb410
    case hib410 => (simp only [List.getElem?_toArray, List.getElem?_cons_zero, List.getElem?_cons_succ]; rfl)
    case hfb410 => kernel_rfl
    case hrb410 => kernel_rfl
    case hQb410 => exact fun _ _ _ h => h
    case hyb410 => exact Or.inr ⟨by rfl, rfl⟩
    try simp only [Act.put, List.setIfInBounds_toArray, List.set_cons_zero, List.set_cons_succ]
    refine' wpAnyH_take (i := 11) (oi := _) (v := undef) ?hib411 (by kernel_rfl) ?hfb411 ?hrb411 ?hQb411 ?hyb411 hBb41 ?restb411
    case hib411 => (simp only [List.getElem?_toArray, List.getElem?_cons_zero, List.getElem?_cons_succ]; rfl)
    case hfb411 => kernel_rfl
    case hrb411 => kernel_rfl
    case hQb411 => exact fun _ _ _ h => h
    case hyb411 => exact Or.inr ⟨by rfl, rfl⟩
    try simp only [Act.put, List.setIfInBounds_toArray, List.set_cons_zero, List.set_cons_succ]
    refine' wpAnyH_take (i := 12) (oi := _) (v := _) ?hib412 (by kernel_rfl) ?hfb412 ?hrb412 ?hQb412 ?hyb412 hBb41 ?restb412
    case hib412 => (simp only [List.getElem?_toArray, List.getElem?_cons_zero, List.getElem?_cons_succ]; rfl)
    case hfb412 => kernel_rfl
    case hrb412 => kernel_rfl
    case hQb412 => exact fun _ _ _ h => h
    case hyb412 => refine Or.inl ⟨by rfl, ?_⟩; intro W hSw; go_simp; try with_reducible rfl
    try simp only [Act.put, List.setIfInBounds_toArray, List.set_cons_zero, List.set_cons_succ]
    refine' wpAnyH_take (i := 13) (oi := _) (v := _) ?hib413 (by kernel_rfl) ?hfb413 ?hrb413 ?hQb413 ?hyb413 hBb41 ?restb413
    case hib413 => (simp only [List.getElem?_toArray, List.getElem?_cons_zero, List.getElem?_cons_succ]; rfl)
    case hfb413 => kernel_rfl
    case hrb413 => kernel_rfl
    case hQb413 => exact fun _ _ _ h => h
    case hyb413 => refine Or.inl ⟨by rfl, ?_⟩; intro W hSw; go_simp; try with_reducible rfl
    try simp only [Act.put, List.setIfInBounds_toArray, List.set_cons_zero, List.set_cons_succ]
    refine' wpAnyH_take (i := 14) (oi := _) (v := _) ?hib414 (by kernel_rfl) ?hfb414 ?hrb414 ?hQb414 ?hyb414 hBb41 ?restb414
    case hib414 => (simp only [List.getElem?_toArray, List.getElem?_cons_zero, List.getElem?_cons_succ]; rfl)
    case hfb414 => kernel_rfl
    case hrb414 => kernel_rfl
    case hQb414 => exact fun _ _ _ h => h
    case hyb414 => refine Or.inl ⟨by rfl, ?_⟩; intro W hSw; go_simp; try with_reducible rfl
    try simp only [Act.put, List.setIfInBounds_toArray, List.set_cons_zero, List.set_cons_succ]
    refine wpAnyH_done (by kernel_rfl) ?_ _
    go_wp2
    go_ret
    exact ⟨rfl, hBb41⟩

set_option maxRecDepth 100000 in
set_option maxHeartbeats 4000000 in
theorem cut_one (w : World) (hk : Knows w) (hs : Starts w) (A : Option Addr) (n c : Nat) (ys : List Nat) (hc0 : CameS w A n c ys) (h : n = 1) :
    Calls Tryd.prog 7 #[.slice A n c] w fun e w' => e = .returned (.bool true) ∧ Below w.heap.size w w' := by
  have CA := Lib.hid (fun (W : World) (hW : Below w.heap.size w W) => later (v' := .bool true) hW rfl (alive_any W (hk.below hW) (hs.below hW)))
  subst h
  obtain ⟨ad, rfl, hl, hat⟩ := hc0.in_.at_ (show 0 < 1 by omega)
  have hR : rt (nth ys) 0 1 = nth ys 0 := rt_one _ _
  obtain ⟨R, hR0⟩ : ∃ R, nth ys 0 = R := ⟨_, rfl⟩
  rw [hR0] at hR hl hat
  have CR := Lib.hid (fun (W : World) (hW : Below w.heap.size w W) => later (v' := sv R) hW (by rw [hR]) (root_any (some ad) 1 c ys W (hc0.in_.below hW) hc0.lt hc0.cap (by omega) (hk.below hW) (hs.below hW)))
  have HA := Lib.hid (fun (W : World) (hW : Below w.heap.size w W) => hat.below hW)
  have q1 := run_eql_sum R R hl hl
  rw [decide_eq_true rfl] at q1
  have q2 := run_guard_eql
  clear hk hs hc0 hR hR0 hat
  go_enter Tryd.func7, Tryd.ntmps7
  go_wp2_with fail
  refine wp_region_held_drew (S := fun W => Below w.heap.size w W) (by kernel_rfl) ((Below.refl _ _).drew) (fun hS0 => ?_)
  change wpAnyH _ _ _ _ _ _ _ _ w.drew
  refine wpAnyH_ready (rs := [0]) (by kernel_rfl) (by simp) ?_
  refine' AllReadyH.cons (o := _) ?hic0 (fun K hK => ?_) AllReadyH.nil
  case hic0 => (simp only [List.getElem?_toArray, List.getElem?_cons_zero]; rfl)
  go_simp
  go_at_call 18
  refine (CA.out _ hS0).mono ?_
  rintro e Wc2 ⟨rfl, hBc1⟩
  refine hK.out _ _ hBc1 (fun _ => ?_)
  clear hK K
  try simp only [Act.put, List.setIfInBounds_toArray, List.set_cons_zero, List.set_cons_succ]
  refine' wpAnyH_take (i := 1) (oi := _) (v := _) ?hic1 (by kernel_rfl) ?hfc1 ?hrc1 ?hQc1 ?hyc1 hBc1 ?restc1
  case hic1 => (simp only [List.getElem?_toArray, List.getElem?_cons_zero, List.getElem?_cons_succ]; rfl)
  case hfc1 => kernel_rfl
  case hrc1 => kernel_rfl
  case hQc1 => exact fun _ _ _ h => h
  case hyc1 => refine Or.inl ⟨by rfl, ?_⟩; intro W hSw; go_simp; try with_reducible rfl
  try simp only [Act.put, List.setIfInBounds_toArray, List.set_cons_zero, List.set_cons_succ]
  refine' wpAnyH_take (i := 2) (oi := _) (v := _) ?hic2 (by kernel_rfl) ?hfc2 ?hrc2 ?hQc2 ?hyc2 hBc1 ?restc2
  case hic2 => (simp only [List.getElem?_toArray, List.getElem?_cons_zero, List.getElem?_cons_succ]; rfl)
  case hfc2 => kernel_rfl
  case hrc2 => kernel_rfl
  case hQc2 => exact fun _ _ _ h => h
  case hyc2 => refine Or.inl ⟨by rfl, ?_⟩; intro W hSw; go_simp; try with_reducible rfl
  try simp only [Act.put, List.setIfInBounds_toArray, List.set_cons_zero, List.set_cons_succ]
  refine' wpAnyH_take (i := 3) (oi := _) (v := _) ?hic3 (by kernel_rfl) ?hfc3 ?hrc3 ?hQc3 ?hyc3 hBc1 ?restc3
  case hic3 => (simp only [List.getElem?_toArray, List.getElem?_cons_zero, List.getElem?_cons_succ]; rfl)
  case hfc3 => kernel_rfl
  case hrc3 => kernel_rfl
  case hQc3 => exact fun _ _ _ h => h
  case hyc3 => refine Or.inl ⟨by rfl, ?_⟩; intro W hSw; go_simp; try with_reducible rfl
  try simp only [Act.put, List.setIfInBounds_toArray, List.set_cons_zero, List.set_cons_succ]
  refine' wpAnyH_take (i := 4) (oi := _) (v := _) ?hic4 (by kernel_rfl) ?hfc4 ?hrc4 ?hQc4 ?hyc4 hBc1 ?restc4
  case hic4 => (simp only [List.getElem?_toArray, List.getElem?_cons_zero, List.getElem?_cons_succ]; rfl)
  case hfc4 => kernel_rfl
  case hrc4 => kernel_rfl
  case hQc4 => exact fun _ _ _ h => h
  case hyc4 => refine Or.inl ⟨by rfl, ?_⟩; intro W hSw; go_simp; try with_reducible rfl
  try simp only [Act.put, List.setIfInBounds_toArray, List.set_cons_zero, List.set_cons_succ]
  refine' wpAnyH_take (i := 5) (oi := _) (v := _) ?hic5 (by kernel_rfl) ?hfc5 ?hrc5 ?hQc5 ?hyc5 hBc1 ?restc5
  case hic5 => (simp only [List.getElem?_toArray, List.getElem?_cons_zero, List.getElem?_cons_succ]; rfl)
  case hfc5 => kernel_rfl
  case hrc5 => kernel_rfl
  case hQc5 => exact fun _ _ _ h => h
  case hyc5 => refine Or.inl ⟨by rfl, ?_⟩; intro W hSw; go_simp; try with_reducible rfl
  try simp only [Act.put, List.setIfInBounds_toArray, List.set_cons_zero, List.set_cons_succ]
  refine' wpAnyH_take (i := 6) (oi := _) (v := _) ?hic6 (by kernel_rfl) ?hfc6 ?hrc6 ?hQc6 ?hyc6 hBc1 ?restc6
  case hic6 => (simp only [List.getElem?_toArray, List.getElem?_cons_zero, List.getElem?_cons_succ]; rfl)
  case hfc6 => kernel_rfl
  case hrc6 => kernel_rfl
  case hQc6 => exact fun _ _ _ h => h
  case hyc6 => refine Or.inl ⟨by rfl, ?_⟩; intro W hSw; go_simp; try with_reducible rfl
  try simp only [Act.put, List.setIfInBounds_toArray, List.set_cons_zero, List.set_cons_succ]
  refine' wpAnyH_take (i := 8) (oi := _) (v := _) ?hic8 (by kernel_rfl) ?hfc8 ?hrc8 ?hQc8 ?hyc8 hBc1 ?restc8
  case hic8 => (simp only [List.getElem?_toArray, List.getElem?_cons_zero, List.getElem?_cons_succ]; rfl)
  case hfc8 => kernel_rfl
  case hrc8 => kernel_rfl
  case hQc8 => exact fun _ _ _ h => h
  case hyc8 => refine Or.inl ⟨by rfl, ?_⟩; intro W hSw; go_simp; try with_reducible rfl
  try simp only [Act.put, List.setIfInBounds_toArray, List.set_cons_zero, List.set_cons_succ]
  refine' wpAnyH_take (i := 9) (oi := _) (v := _) ?hic9 (by kernel_rfl) ?hfc9 ?hrc9 ?hQc9 ?hyc9 hBc1 ?restc9
  case hic9 => (simp only [List.getElem?_toArray, List.getElem?_cons_zero, List.getElem?_cons_succ]; rfl)
  case hfc9 => kernel_rfl
  case hrc9 => kernel_rfl
  case hQc9 => exact fun _ _ _ h => h
  case hyc9 => refine Or.inl ⟨by rfl, ?_⟩; intro W hSw; go_simp; try with_reducible rfl
  try simp only [Act.put, List.setIfInBounds_toArray, List.set_cons_zero, List.set_cons_succ]
  refine' wpAnyH_take (i := 10) (oi := _) (v := sv (R)) ?hic10 (by kernel_rfl) ?hfc10 ?hrc10 ?hQc10 ?hyc10 hBc1 ?restc10
  case hic10 => (simp only [List.getElem?_toArray, List.getElem?_cons_zero, List.getElem?_cons_succ]; rfl)
  case hfc10 => kernel_rfl
  case hrc10 => kernel_rfl
  case hQc10 => exact fun _ _ _ h => h
  case hyc10 => refine yields_sum ?_ (.tmp 21) rfl (ad.add (0 * 32)) rfl R hl (fun W hSw => HA.out W hSw); rfl
  try simp only [Act.put, List.setIfInBounds_toArray, List.set_cons_zero, List.set_cons_succ]
  refine wpAnyH_ready (rs := [7]) (by kernel_rfl) (by simp) ?_
  refine' AllReadyH.cons (o := _) ?hic7 (fun K hK => ?_) AllReadyH.nil
  case hic7 => (simp only [List.getElem?_toArray, List.getElem?_cons_zero, List.getElem?_cons_succ]; rfl)
  go_simp
  go_at_call 14
  refine (CR.out _ hBc1).mono ?_
  rintro e Wc4 ⟨rfl, hBc3⟩
  refine hK.out _ _ hBc3 (fun _ => ?_)
  clear hK K
  try simp only [Act.put, List.setIfInBounds_toArray, List.set_cons_zero, List.set_cons_succ]
  refine' wpAnyH_take (i := 11) (oi := _) (v := _) ?hic11 (by kernel_rfl) ?hfc11 ?hrc11 ?hQc11 ?hyc11 hBc3 ?restc11
  case hic11 => (simp only [List.getElem?_toArray, List.getElem?_cons_zero, List.getElem?_cons_succ]; rfl)
  case hfc11 => kernel_rfl
  case hrc11 => kernel_rfl
  case hQc11 => exact fun _ _ _ h => h
  case hyc11 => refine Or.inl ⟨by rfl, ?_⟩; intro W hSw; go_simp; try with_reducible rfl
  try simp only [Act.put, List.setIfInBounds_toArray, List.set_cons_zero, List.set_cons_succ]
  refine' wpAnyH_take (i := 12) (oi := _) (v := _) ?hic12 (by kernel_rfl) ?hfc12 ?hrc12 ?hQc12 ?hyc12 hBc3 ?restc12
  case hic12 => (simp only [List.getElem?_toArray, List.getElem?_cons_zero, List.getElem?_cons_succ]; rfl)
  case hfc12 => kernel_rfl
  case hrc12 => kernel_rfl
  case hQc12 => exact fun _ _ _ h => h
  case hyc12 => refine Or.inl ⟨by rfl, ?_⟩; intro W hSw; go_simp; try with_reducible rfl
  try simp only [Act.put, List.setIfInBounds_toArray, List.set_cons_zero, List.set_cons_succ]
  refine' wpAnyH_take (i := 13) (oi := _) (v := _) ?hic13 (by kernel_rfl) ?hfc13 ?hrc13 ?hQc13 ?hyc13 hBc3 ?restc13
  case hic13 => (simp only [List.getElem?_toArray, List.getElem?_cons_zero, List.getElem?_cons_succ]; rfl)
  case hfc13 => kernel_rfl
  case hrc13 => kernel_rfl
  case hQc13 => exact fun _ _ _ h => h
  case hyc13 => refine Or.inl ⟨by rfl, ?_⟩; intro W hSw; go_simp; try with_reducible rfl
  try simp only [Act.put, List.setIfInBounds_toArray, List.set_cons_zero, List.set_cons_succ]
  refine' wpAnyH_take (i := 14) (oi := _) (v := _) ?hic14 (by kernel_rfl) ?hfc14 ?hrc14 ?hQc14 ?hyc14 hBc3 ?restc14
  case hic14 => (simp only [List.getElem?_toArray, List.getElem?_cons_zero, List.getElem?_cons_succ]; rfl)
  case hfc14 => kernel_rfl
  case hrc14 => kernel_rfl
  case hQc14 => exact fun _ _ _ h => h
  case hyc14 => refine Or.inl ⟨by rfl, ?_⟩; intro W hSw; go_simp; try with_reducible rfl
  try simp only [Act.put, List.setIfInBounds_toArray, List.set_cons_zero, List.set_cons_succ]
  refine wpAnyH_done (by kernel_rfl) ?_ _
  go_wp2
  go_ret
  exact ⟨rfl, hBc3⟩

set_option maxRecDepth 100000 in
set_option maxHeartbeats 4000000 in
theorem cut_more (w : World) (hk : Knows w) (hs : Starts w) (A : Option Addr) (n c : Nat) (ys : List Nat) (hc0 : CameS w A n c ys) (h2 : 2 ≤ n) (h200 : n ≤ 200) :
    Calls Tryd.prog 7 #[.slice A n c] w fun e w' => e = .returned (.bool true) ∧ Below w.heap.size w w' := by
  have CA := Lib.hid (fun (W : World) (hW : Below w.heap.size w W) => later (v' := .bool true) hW rfl (alive_any W (hk.below hW) (hs.below hW)))
  obtain ⟨ad, rfl⟩ := hc0.in_.some_ (show 0 < n by omega)
  obtain ⟨K, hK0⟩ : ∃ K, cutN n = K := ⟨_, rfl⟩
  have hKn := cutN_lt h2
  have hKp := cutN_pos n
  rw [hK0] at hKn hKp
  obtain ⟨R, hR⟩ : ∃ R, rt (nth ys) 0 n = R := ⟨_, rfl⟩
  obtain ⟨L1, hL1⟩ : ∃ L1, rt (nth ys) 0 K = L1 := ⟨_, rfl⟩
  obtain ⟨L2, hL2⟩ : ∃ L2, rt (nth ys) K (n - K) = L2 := ⟨_, rfl⟩
  have hN : nodeL L1 L2 = R := by rw [← hR, rt_cut _ 0 h2, hK0, Nat.zero_add, hL1, hL2]
  have hnl : ∀ j, j < n → (nth ys j).length = 32 := fun j hj => nth_length hc0.in_.len hj
  have hnb : ∀ j, ∀ x ∈ nth ys j, x < 256 := fun j x hx => hc0.lt x (List.mem_of_mem_drop (List.mem_of_mem_take hx))
  have hRl : R.length = 32 := by rw [← hR]; exact rt_length _ _ _ fun j hj => hnl _ (by omega)
  have hL1l : L1.length = 32 := by rw [← hL1]; exact rt_length _ _ _ fun j hj => hnl _ (by omega)
  have hL2l : L2.length = 32 := by rw [← hL2]; exact rt_length _ _ _ fun j hj => hnl _ (by omega)
  have hL1b : ∀ x ∈ L1, x < 256 := by rw [← hL1]; exact rt_lt _ _ _ fun j _ => hnb _
  have hL2b : ∀ x ∈ L2, x < 256 := by rw [← hL2]; exact rt_lt _ _ _ fun j _ => hnb _
  have CR := Lib.hid (fun (W : World) (hW : Below w.heap.size w W) => later (v' := sv R) hW (by rw [hR]) (root_any (some ad) n c ys W (hc0.in_.below hW) hc0.lt hc0.cap (by omega) (hk.below hW) (hs.below hW)))
  have C1 := Lib.hid (fun (W : World) (hW : Below w.heap.size w W) => later (v' := sv L1) hW (by rw [rt_take, hL1]) (root_any (some ad) K c (ys.take (32 * K)) W ((hc0.in_.take (by omega)).below hW) (fun x hx => hc0.lt x (List.mem_of_mem_take hx)) (by have := hc0.cap; omega) (by omega) (hk.below hW) (hs.below hW)))
  have C2 := Lib.hid (fun (W : World) (hW : Below w.heap.size w W) => later (v' := sv L2) hW (by rw [rt_drop, hL2]) (root_any (some (ad.add (K * 32))) (n - K) (c - K) (ys.drop (32 * K)) W ((hc0.in_.drop_ K (by omega)).below hW) (fun x hx => hc0.lt x (List.mem_of_mem_drop hx)) (by have := hc0.cap; omega) (by omega) (hk.below hW) (hs.below hW)))
  have CN := Lib.hid (fun (W : World) (hW : Below w.heap.size w W) => later (v' := sv R) hW (by rw [hN]) (node_any L1 L2 W hL1l hL2l hL1b hL2b (hk.below hW) (hs.below hW)))
  have s1 := run_take_sums (ad := ad) (n := n) (c := c) (k := K) (by omega) hc0.cap
  have s2 := run_drop_sums (ad := ad) (n := n) (c := c) (k := K) hKn hc0.cap
  have q1 := run_eql_sum R R hRl hRl
  rw [decide_eq_true rfl] at q1
  have q2 := run_guard_eql
  have H2 := Lib.hid h2
  have HK := Lib.hid (And.intro hK0 (And.intro hKn hKp))
  have i1 : decide ((n : Int) < 2) = false := by simp; omega
  have i2 : decide ((200 : Int) < (n : Int)) = false := by simp; omega
  clear hk hs hc0 hR hL1 hL2 hN hnl hnb hRl hL1l hL2l hL1b hL2b hK0 hKn hKp
  go_enter Tryd.func7, Tryd.ntmps7
  go_wp2_with fail
  go_loopw [3] (fun i wr => ∃ e k : Nat, 2 ^ e = k ∧ k < n ∧ i = .int .i64 (k : Int) ∧ wr = w) (fun i _ => n - (intOf i).toNat)
  case atStart => exact ⟨0, 1, rfl, by omega, rfl, rfl⟩
  case round =>
    obtain ⟨e, k, he, hlt, rfl, rfl⟩ := hrel
    have hw2 : wrap64 (2 * (k : Int)) = 2 * (k : Int) := by simp only [wrap64]; omega
    by_cases hmore : 2 * k < n
    · have hi : decide (2 * (k : Int) < (n : Int)) = true := by simp; omega
      have HP := Lib.hid he
      clear he
      go_wp2
      go_roundw
      case rel => exact ⟨e + 1, 2 * k, by rw [Nat.pow_succ, HP.out, Nat.mul_comm], hmore, by go_num, trivial⟩
      case measure => simp [intOf]; have := Nat.two_pow_pos e; have := HP.out; omega
    · have hi : decide (2 * (k : Int) < (n : Int)) = false := by simp; omega
      obtain rfl : K = k := by rw [← HK.out.1, ← he]; exact cutN_of (by rw [he]; exact hlt) (by rw [he]; omega)
      clear he
      go_wp2_with fail
      refine wp_region_held_drew (S := fun W => Below wr.heap.size wr W) (by kernel_rfl) ((Below.refl _ _).drew) (fun hS0 => ?_)
      change wpAnyH _ _ _ _ _ _ _ _ wr.drew
      refine wpAnyH_ready (rs := [0]) (by kernel_rfl) (by simp) ?_
      refine' AllReadyH.cons (o := _) ?hid0 (fun K hK => ?_) AllReadyH.nil
      case hid0 => (simp only [List.getElem?_toArray, List.getElem?_cons_zero]; rfl)
      go_simp
      go_at_call 18
      refine (CA.out _ hS0).mono ?_
      rintro e Wd2 ⟨rfl, hBd1⟩
      refine hK.out _ _ hBd1 (fun _ => ?_)
      clear hK K
      try simp only [Act.put, List.setIfInBounds_toArray, List.set_cons_zero, List.set_cons_succ]
      refine' wpAnyH_take (i := 1) (oi := _) (v := _) ?hid1 (by kernel_rfl) ?hfd1 ?hrd1 ?hQd1 ?hyd1 hBd1 ?restd1
      case hid1 => (simp only [List.getElem?_toArray, List.getElem?_cons_zero, List.getElem?_cons_succ]; rfl)
      case hfd1 => kernel_rfl
      case hrd1 => kernel_rfl
      case hQd1 => exact fun _ _ _ h => h
      case hyd1 => refine Or.inl ⟨by rfl, ?_⟩; intro W hSw; go_simp; try with_reducible rfl
      try simp only [Act.put, List.setIfInBounds_toArray, List.set_cons_zero, List.set_cons_succ]
      refine' wpAnyH_take (i := 2) (oi := _) (v := _) ?hid2 (by kernel_rfl) ?hfd2 ?hrd2 ?hQd2 ?hyd2 hBd1 ?restd2
      case hid2 => (simp only [List.getElem?_toArray, List.getElem?_cons_zero, List.getElem?_cons_succ]; rfl)
      case hfd2 => kernel_rfl
      case hrd2 => kernel_rfl
      case hQd2 => exact fun _ _ _ h => h
      case hyd2 => refine Or.inl ⟨by rfl, ?_⟩; intro W hSw; go_simp; try with_reducible rfl
      try simp only [Act.put, List.setIfInBounds_toArray, List.set_cons_zero, List.set_cons_succ]
      refine' wpAnyH_take (i := 4) (oi := _) (v := _) ?hid4 (by kernel_rfl) ?hfd4 ?hrd4 ?hQd4 ?hyd4 hBd1 ?restd4
      case hid4 => (simp only [List.getElem?_toArray, List.getElem?_cons_zero, List.getElem?_cons_succ]; rfl)
      case hfd4 => kernel_rfl
      case hrd4 => kernel_rfl
      case hQd4 => exact fun _ _ _ h => h
      case hyd4 => refine Or.inl ⟨by rfl, ?_⟩; intro W hSw; go_simp; try with_reducible rfl
      try simp only [Act.put, List.setIfInBounds_toArray, List.set_cons_zero, List.set_cons_succ]
      refine' wpAnyH_take (i := 5) (oi := _) (v := _) ?hid5 (by kernel_rfl) ?hfd5 ?hrd5 ?hQd5 ?hyd5 hBd1 ?restd5
      case hid5 => (simp only [List.getElem?_toArray, List.getElem?_cons_zero, List.getElem?_cons_succ]; rfl)
      case hfd5 => kernel_rfl
      case hrd5 => kernel_rfl
      case hQd5 => exact fun _ _ _ h => h
      case hyd5 => refine Or.inl ⟨by rfl, ?_⟩; intro W hSw; go_simp; try with_reducible rfl
      try simp only [Act.put, List.setIfInBounds_toArray, List.set_cons_zero, List.set_cons_succ]
      refine' wpAnyH_take (i := 6) (oi := _) (v := _) ?hid6 (by kernel_rfl) ?hfd6 ?hrd6 ?hQd6 ?hyd6 hBd1 ?restd6
      case hid6 => (simp only [List.getElem?_toArray, List.getElem?_cons_zero, List.getElem?_cons_succ]; rfl)
      case hfd6 => kernel_rfl
      case hrd6 => kernel_rfl
      case hQd6 => exact fun _ _ _ h => h
      case hyd6 => refine Or.inl ⟨by rfl, ?_⟩; intro W hSw; go_simp; try with_reducible rfl
      try simp only [Act.put, List.setIfInBounds_toArray, List.set_cons_zero, List.set_cons_succ]
      refine' wpAnyH_take (i := 8) (oi := _) (v := _) ?hid8 (by kernel_rfl) ?hfd8 ?hrd8 ?hQd8 ?hyd8 hBd1 ?restd8
      case hid8 => (simp only [List.getElem?_toArray, List.getElem?_cons_zero, List.getElem?_cons_succ]; rfl)
      case hfd8 => kernel_rfl
      case hrd8 => kernel_rfl
      case hQd8 => exact fun _ _ _ h => h
      case hyd8 => refine Or.inl ⟨by rfl, ?_⟩; intro W hSw; go_simp; try with_reducible rfl
      try simp only [Act.put, List.setIfInBounds_toArray, List.set_cons_zero, List.set_cons_succ]
      refine' wpAnyH_take (i := 9) (oi := _) (v := _) ?hid9 (by kernel_rfl) ?hfd9 ?hrd9 ?hQd9 ?hyd9 hBd1 ?restd9
      case hid9 => (simp only [List.getElem?_toArray, List.getElem?_cons_zero, List.getElem?_cons_succ]; rfl)
      case hfd9 => kernel_rfl
      case hrd9 => kernel_rfl
      case hQd9 => exact fun _ _ _ h => h
      case hyd9 => refine Or.inl ⟨by rfl, ?_⟩; intro W hSw; go_simp; try with_reducible rfl
      try simp only [Act.put, List.setIfInBounds_toArray, List.set_cons_zero, List.set_cons_succ]
      refine' wpAnyH_take (i := 10) (oi := _) (v := _) ?hid10 (by kernel_rfl) ?hfd10 ?hrd10 ?hQd10 ?hyd10 hBd1 ?restd10
      case hid10 => (simp only [List.getElem?_toArray, List.getElem?_cons_zero, List.getElem?_cons_succ]; rfl)
      case hfd10 => kernel_rfl
      case hrd10 => kernel_rfl
      case hQd10 => exact fun _ _ _ h => h
      case hyd10 => refine Or.inl ⟨by rfl, ?_⟩; intro W hSw; go_simp; try with_reducible rfl
      try simp only [Act.put, List.setIfInBounds_toArray, List.set_cons_zero, List.set_cons_succ]
      refine wpAnyH_ready (rs := [3]) (by kernel_rfl) (by simp) ?_
      refine' AllReadyH.cons (o := _) ?hid3 (fun K hK => ?_) AllReadyH.nil
      case hid3 => (simp only [List.getElem?_toArray, List.getElem?_cons_zero, List.getElem?_cons_succ]; rfl)
      go_simp
      go_at_call 14
      refine (CR.out _ hBd1).mono ?_
      rintro e Wd4 ⟨rfl, hBd3⟩
      refine hK.out _ _ hBd3 (fun _ => ?_)
      clear hK K
      try simp only [Act.put, List.setIfInBounds_toArray, List.set_cons_zero, List.set_cons_succ]
      refine wpAnyH_ready (rs := [7]) (by kernel_rfl) (by simp) ?_
      refine' AllReadyH.cons (o := _) ?hid7 (fun K hK => ?_) AllReadyH.nil
      case hid7 => (simp only [List.getElem?_toArray, List.getElem?_cons_zero, List.getElem?_cons_succ]; rfl)
      go_simp
      go_at_call 14
      refine (C1.out _ hBd3).mono ?_
      rintro e Wd6 ⟨rfl, hBd5⟩
      refine hK.out _ _ hBd5 (fun _ => ?_)
      clear hK K
      try simp only [Act.put, List.setIfInBounds_toArray, List.set_cons_zero, List.set_cons_succ]
      refine wpAnyH_ready (rs := [11]) (by kernel_rfl) (by simp) ?_
      refine' AllReadyH.cons (o := _) ?hid11 (fun K hK => ?_) AllReadyH.nil
      case hid11 => (simp only [List.getElem?_toArray, List.getElem?_cons_zero, List.getElem?_cons_succ]; rfl)
      go_simp
      go_at_call 14
      refine (C2.out _ hBd5).mono ?_
      rintro e Wd8 ⟨rfl, hBd7⟩
      refine hK.out _ _ hBd7 (fun _ => ?_)
      clear hK K
      try simp only [Act.put, List.setIfInBounds_toArray, List.set_cons_zero, List.set_cons_succ]
      refine wpAnyH_ready (rs := [12]) (by kernel_rfl) (by simp) ?_
      refine' AllReadyH.cons (o := _) ?hid12 (fun K hK => ?_) AllReadyH.nil
      case hid12 => (simp only [List.getElem?_toArray, List.getElem?_cons_zero, List.getElem?_cons_succ]; rfl)
      go_simp
      go_at_call 12
      refine (CN.out _ hBd7).mono ?_
      rintro e Wd10 ⟨rfl, hBd9⟩
      refine hK.out _ _ hBd9 (fun _ => ?_)
      clear hK K
      try simp only [Act.put, List.setIfInBounds_toArray, List.set_cons_zero, List.set_cons_succ]
      refine' wpAnyH_take (i := 13) (oi := _) (v := _) ?hid13 (by kernel_rfl) ?hfd13 ?hrd13 ?hQd13 ?hyd13 hBd9 ?restd13
      case hid13 => (simp only [List.getElem?_toArray, List.getElem?_cons_zero, List.getElem?_cons_succ]; rfl)
      case hfd13 => kernel_rfl
      case hrd13 => kernel_rfl
      case hQd13 => exact fun _ _ _ h => h
      case hyd13 => refine Or.inl ⟨by rfl, ?_⟩; intro W hSw; go_simp; try with_reducible rfl
      try simp only [Act.put, List.setIfInBounds_toArray, List.set_cons_zero, List.set_cons_succ]
      refine' wpAnyH_take (i := 14) (oi := _) (v := _) ?hid14 (by kernel_rfl) ?hfd14 ?hrd14 ?hQd14 ?hyd14 hBd9 ?restd14
      case hid14 => (simp only [List.getElem?_toArray, List.getElem?_cons_zero, List.getElem?_cons_succ]; rfl)
      case hfd14 => kernel_rfl
      case hrd14 => kernel_rfl
      case hQd14 => exact fun _ _ _ h => h
      case hyd14 => refine Or.inl ⟨by rfl, ?_⟩; intro W hSw; go_simp; try with_reducible rfl
      try simp only [Act.put, List.setIfInBounds_toArray, List.set_cons_zero, List.set_cons_succ]
      refine' wpAnyH_take (i := 15) (oi := _) (v := _) ?hid15 (by kernel_rfl) ?hfd15 ?hrd15 ?hQd15 ?hyd15 hBd9 ?restd15
      case hid15 => (simp only [List.getElem?_toArray, List.getElem?_cons_zero, List.getElem?_cons_succ]; rfl)
      case hfd15 => kernel_rfl
      case hrd15 => kernel_rfl
      case hQd15 => exact fun _ _ _ h => h
      case hyd15 => refine Or.inl ⟨by rfl, ?_⟩; intro W hSw; go_simp; try with_reducible rfl
      try simp only [Act.put, List.setIfInBounds_toArray, List.set_cons_zero, List.set_cons_succ]
      refine wpAnyH_done (by kernel_rfl) ?_ _
      go_wp2
      go_ret
      exact ⟨rfl, hBd9⟩

theorem leavesCut_law (w : World) (hk : Knows w) (hs : Starts w) {A : Option Addr} {n c : Nat} {ys : List Nat} (h : CameS w A n c ys) :
    Calls Tryd.prog 7 #[.slice A n c] w fun e w' => e = .returned (.bool true) ∧ Below w.heap.size w w' := by
  by_cases h1 : n = 0 ∨ 200 < n
  · exact cut_else w hk hs A n c h1
  · by_cases h2 : n = 1
    · exact cut_one w hk hs A n c ys h h2
    · exact cut_more w hk hs A n c ys h (by omega) (by omega)

end Go.Proofs.YtigmbiigaiajdaaDoor
