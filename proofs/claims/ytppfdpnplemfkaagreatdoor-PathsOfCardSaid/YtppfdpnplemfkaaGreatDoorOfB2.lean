/-
  Several texts in one: WRefPath, WRefOf, WRefLead, LSameSums, WOfLaw, ShaLaidZ.
-/
import Derived.Test.YtppfdpnplemfkaaGreatDoorOfB1
import Derived.Test.YtppfdpnplemfkaaGreatDoorVRefB
import Derived.Test.YtppfdpnplemfkaaGreatDoorLSum
import Derived.Deep.QuietTactic
import Derived.BigQuiet
import Derived.Test.YtppfdpnplemfkaaGreatDoorLSums
import Derived.Test.YtppfdpnplemfkaaGreatDoorVTwin
import Derived.Test.YtppfdpnplemfkaaGreatDoorShaLaid
import Derived.LaidSub
/-
  almonerref10.path, Of.
-/
namespace Go.Proofs.YtppfdpnplemfkaaGreatDoor
open Go.RowKit

set_option maxRecDepth 100000 in
set_option maxHeartbeats 1000000 in
theorem refCut_all (n : Nat) (w : World) (h2 : 2 ≤ n) (hn : n < 18446744073709551616) :
    Calls Tryz.prog 47 #[.int .u64 (n : Int)] w fun e w' => e = .returned (.int .u64 (cutN n : Int)) ∧ w' = w := by
  go_enter Tryz.func47, Tryz.ntmps47
  go_wp2
  go_loopw [3] (fun i wr => ∃ e k : Nat, 2 ^ e = k ∧ k < n ∧ i = .int .u64 (k : Int) ∧ wr = w) (fun i _ => n - (intOf i).toNat)
  case atStart => exact ⟨0, 1, rfl, by omega, rfl, rfl⟩
  case round =>
    obtain ⟨e, k, he, hlt, rfl, rfl⟩ := hrel
    obtain ⟨d, hd⟩ : ∃ d, n - k = d := ⟨_, rfl⟩
    have hsub : (n : Int) - (k : Int) = (d : Int) := by omega
    have hw1 : IntKind.u64.wrap (d : Int) = (d : Int) := by rw [IntKind.wrap_u64]; omega
    by_cases hmore : k < d
    · have hw2 : IntKind.u64.wrap (2 * (k : Int)) = 2 * (k : Int) := by rw [IntKind.wrap_u64]; omega
      have hi : decide ((k : Int) < (d : Int)) = true := by simp; omega
      have HP := Lib.hid (And.intro he hd)
      clear he hd
      go_wp2
      go_roundw
      case rel => exact ⟨e + 1, 2 * k, by rw [Nat.pow_succ, HP.out.1, Nat.mul_comm], by have := HP.out.2; omega, by go_num, trivial⟩
      case measure => simp [intOf]; have := Nat.two_pow_pos e; have := HP.out; omega
    · have hi : decide ((k : Int) < (d : Int)) = false := by simp; omega
      have hc : cutN n = k := by rw [← he]; exact cutN_of (by rw [he]; exact hlt) (by rw [he]; omega)
      have HC := Lib.hid hc
      clear he hc hd
      go_wp2
      go_ret
      exact ⟨by rw [HC.out]; rfl, rfl⟩

section
variable {w : World} {n c at_ : Nat} {A : Option Addr} {ys : List Nat}

set_option maxRecDepth 100000 in
set_option maxHeartbeats 1000000 in
theorem refPath_one : Calls Tryz.prog 14 #[.slice A 1 c, .int .i64 (at_ : Int)] w (GivesS w.heap.size w 0 []) := by
  go_enter Tryz.func14, Tryz.ntmps14
  go_wp2_with fail
  go_ret
  exact ⟨none, 0, rfl, own_none _ _ _ _, Below.refl _ _⟩

set_option maxRecDepth 100000 in
set_option maxHeartbeats 2000000 in
theorem refPath_low {ad : Addr} {k m d : Nat} {L R : List Nat} (hc : n ≤ c) (hn : n ≤ 65536) (h2 : 2 ≤ n) (hk0 : cutN n = k) (hm0 : n - k = m) (ha : at_ < k) (hd : d ≤ 64) (hRl : R.length = 32)
    (ci : ∀ W : World, Below w.heap.size w W → Calls Tryz.prog 14 #[.slice (some ad) k c, .int .i64 (at_ : Int)] W (GivesS W.heap.size W d L))
    (cr : ∀ W : World, Below w.heap.size w W → Calls Tryz.prog 48 #[.slice (some (ad.add (k * 32))) m (c - k)] W fun e w' => e = .returned (sv R) ∧ Below W.heap.size W w') :
    Calls Tryz.prog 14 #[.slice (some ad) n c, .int .i64 (at_ : Int)] w (GivesS w.heap.size w (d + 1) (L ++ R)) := by
  have hcl := cutN_lt h2
  have hcp := cutN_pos n
  rw [hk0] at hcl hcp
  have hai : (at_ : Int) < (k : Int) := by omega
  have CM := Lib.hid (refCut_all n w h2 (by omega))
  rw [hk0] at CM
  have ht := run_take_sums (ad := ad) (n := n) (c := c) (k := k) (by omega) hc
  have hr := run_drop_sums (ad := ad) (n := n) (c := c) (k := k) hcl hc
  rw [hm0] at hr
  have CI := Lib.hid ci
  have CR := Lib.hid cr
  have hd9 : d + 1 ≤ 1000000000 := by omega
  have n1 : ((n : Int) == 1) = false := by simp; omega
  have wn : IntKind.u64.wrap (n : Int) = (n : Int) := by rw [IntKind.wrap_u64]; omega
  have wk : IntKind.i64.wrap (k : Int) = (k : Int) := by rw [IntKind.wrap_i64]; omega
  have wk2 : wrap64 (k : Int) = (k : Int) := by simp only [wrap64]; omega
  clear ci cr hcl hcp hc hn h2 hk0 hm0 hd ha
  go_enter Tryz.func14, Tryz.ntmps14
  go_wp2_with fail
  refine CM.out.mono ?_
  rintro e w1 ⟨rfl, hw⟩
  rw [hw]
  clear hw w1
  go_upto_region 5 with fail
  refine wp_region_held_drew (S := fun W => Below w.heap.size w W) (by kernel_rfl) ((Below.refl _ _).drew) (fun hT0 => ?_)
  change wpAnyH _ _ _ _ _ _ _ _ w.drew
  refine' wpAnyH_take (i := 0) (oi := _) (v := _) ?hip0 (by kernel_rfl) ?hfp0 ?hrp0 ?hQp0 ?hyp0 hT0 ?restp0
  case hip0 => (simp only [List.getElem?_toArray, List.getElem?_cons_zero]; rfl)
  case hfp0 => kernel_rfl
  case hrp0 => kernel_rfl
  case hQp0 => exact fun _ _ _ h => h
  case hyp0 => refine Or.inl ⟨by rfl, ?_⟩; intro W hSw; go_simp; try with_reducible rfl
  try simp only [Act.put, List.setIfInBounds_toArray, List.set_cons_zero, List.set_cons_succ]
  refine' wpAnyH_take (i := 1) (oi := _) (v := _) ?hip1 (by kernel_rfl) ?hfp1 ?hrp1 ?hQp1 ?hyp1 hT0 ?restp1
  case hip1 => (simp only [List.getElem?_toArray, List.getElem?_cons_zero, List.getElem?_cons_succ]; rfl)
  case hfp1 => kernel_rfl
  case hrp1 => kernel_rfl
  case hQp1 => exact fun _ _ _ h => h
  case hyp1 => refine Or.inl ⟨by rfl, ?_⟩; intro W hSw; go_simp; try with_reducible rfl
  try simp only [Act.put, List.setIfInBounds_toArray, List.set_cons_zero, List.set_cons_succ]
  refine' wpAnyH_take (i := 2) (oi := _) (v := _) ?hip2 (by kernel_rfl) ?hfp2 ?hrp2 ?hQp2 ?hyp2 hT0 ?restp2
  case hip2 => (simp only [List.getElem?_toArray, List.getElem?_cons_zero, List.getElem?_cons_succ]; rfl)
  case hfp2 => kernel_rfl
  case hrp2 => kernel_rfl
  case hQp2 => exact fun _ _ _ h => h
  case hyp2 => refine Or.inl ⟨by rfl, ?_⟩; intro W hSw; go_simp; try with_reducible rfl
  try simp only [Act.put, List.setIfInBounds_toArray, List.set_cons_zero, List.set_cons_succ]
  refine' wpAnyH_take (i := 3) (oi := _) (v := _) ?hip3 (by kernel_rfl) ?hfp3 ?hrp3 ?hQp3 ?hyp3 hT0 ?restp3
  case hip3 => (simp only [List.getElem?_toArray, List.getElem?_cons_zero, List.getElem?_cons_succ]; rfl)
  case hfp3 => kernel_rfl
  case hrp3 => kernel_rfl
  case hQp3 => exact fun _ _ _ h => h
  case hyp3 => refine Or.inl ⟨by rfl, ?_⟩; intro W hSw; go_simp; try with_reducible rfl
  try simp only [Act.put, List.setIfInBounds_toArray, List.set_cons_zero, List.set_cons_succ]
  refine' wpAnyH_take (i := 5) (oi := _) (v := _) ?hip5 (by kernel_rfl) ?hfp5 ?hrp5 ?hQp5 ?hyp5 hT0 ?restp5
  case hip5 => (simp only [List.getElem?_toArray, List.getElem?_cons_zero, List.getElem?_cons_succ]; rfl)
  case hfp5 => kernel_rfl
  case hrp5 => kernel_rfl
  case hQp5 => exact fun _ _ _ h => h
  case hyp5 => refine Or.inl ⟨by rfl, ?_⟩; intro W hSw; go_simp; try with_reducible rfl
  try simp only [Act.put, List.setIfInBounds_toArray, List.set_cons_zero, List.set_cons_succ]
  refine' wpAnyH_take (i := 6) (oi := _) (v := _) ?hip6 (by kernel_rfl) ?hfp6 ?hrp6 ?hQp6 ?hyp6 hT0 ?restp6
  case hip6 => (simp only [List.getElem?_toArray, List.getElem?_cons_zero, List.getElem?_cons_succ]; rfl)
  case hfp6 => kernel_rfl
  case hrp6 => kernel_rfl
  case hQp6 => exact fun _ _ _ h => h
  case hyp6 => refine Or.inl ⟨by rfl, ?_⟩; intro W hSw; go_simp; try with_reducible rfl
  try simp only [Act.put, List.setIfInBounds_toArray, List.set_cons_zero, List.set_cons_succ]
  refine' wpAnyH_take (i := 7) (oi := _) (v := _) ?hip7 (by kernel_rfl) ?hfp7 ?hrp7 ?hQp7 ?hyp7 hT0 ?restp7
  case hip7 => (simp only [List.getElem?_toArray, List.getElem?_cons_zero, List.getElem?_cons_succ]; rfl)
  case hfp7 => kernel_rfl
  case hrp7 => kernel_rfl
  case hQp7 => exact fun _ _ _ h => h
  case hyp7 => refine Or.inl ⟨by rfl, ?_⟩; intro W hSw; go_simp; try with_reducible rfl
  try simp only [Act.put, List.setIfInBounds_toArray, List.set_cons_zero, List.set_cons_succ]
  refine wpAnyH_ready (rs := [4]) (by kernel_rfl) (by simp) ?_
  refine' AllReadyH.cons (o := _) ?hip4 (fun K hK => ?_) AllReadyH.nil
  case hip4 => (simp only [List.getElem?_toArray, List.getElem?_cons_zero, List.getElem?_cons_succ]; rfl)
  go_simp
  go_at_call 14
  refine (CI.out _ hT0).mono ?_
  rintro e w2 ⟨A2, c2, rfl, ho2, hb2⟩
  have hB2 := below_on hT0 (Nat.le_refl _) hb2
  have HO2 := Lib.hid ho2
  clear ho2
  refine hK.out _ _ hB2 (fun _ => ?_)
  clear hK K
  try simp only [Act.put, List.setIfInBounds_toArray, List.set_cons_zero, List.set_cons_succ]
  refine wpAnyH_ready (rs := [8]) (by kernel_rfl) (by simp) ?_
  refine' AllReadyH.cons (o := _) ?hip8 (fun K hK => ?_) AllReadyH.nil
  case hip8 => (simp only [List.getElem?_toArray, List.getElem?_cons_zero, List.getElem?_cons_succ]; rfl)
  go_simp
  go_at_call 48
  refine (CR.out _ hB2).mono ?_
  rintro e w3 ⟨rfl, hb3⟩
  have hB3 := below_on hB2 (Nat.le_refl _) hb3
  have o3 := own_on HO2.out hb3
  refine hK.out _ _ hB3 (fun _ => ?_)
  clear hK K
  try simp only [Act.put, List.setIfInBounds_toArray, List.set_cons_zero, List.set_cons_succ]
  refine wpAnyH_ready (rs := [9]) (by kernel_rfl) (by simp) ?_
  refine' AllReadyH.cons (o := _) ?hip9 (fun K hK => ?_) AllReadyH.nil
  case hip9 => (simp only [List.getElem?_toArray, List.getElem?_cons_zero, List.getElem?_cons_succ]; rfl)
  rw [if_pos (by rfl)]
  refine wp_sums _ [R] 1 rfl rfl (by simp <;> rfl) (by intro q hq; simp at hq; rw [hq]; exact hRl) (by decide) (by decide) ?_
  rw [show [R].flatten = R by simp]
  have o4 := own_on o3 (below_alloc w3 (.cells (bvs R).toArray 24))
  have hB4 := hB3.alloc hB3.size (.cells (bvs R).toArray 24)
  have i4 : InS (w3.alloc (.cells (bvs R).toArray 24)) (some ⟨w3.heap.size, 0, none⟩) 1 R := InS.of_own (own_sum w3 R 0 hRl (Nat.zero_le _))
  refine hK.out _ _ hB4 (fun _ => ?_)
  clear hK K
  try simp only [Act.put, List.setIfInBounds_toArray, List.set_cons_zero, List.set_cons_succ]
  refine wpAnyH_ready (rs := [10]) (by kernel_rfl) (by simp) ?_
  refine' AllReadyH.cons (o := _) ?hip10 (fun K hK => ?_) AllReadyH.nil
  case hip10 => (simp only [List.getElem?_toArray, List.getElem?_cons_zero, List.getElem?_cons_succ]; rfl)
  refine step_sapp (K := K) (by rfl) _ _ (by rfl) w.heap.size A2 d c2 L (by rfl) o4 (some ⟨w3.heap.size, 0, none⟩) 1 1 R (by rfl) i4 (fun h => by cases h) hd9 hB4.size ?_
  intro A5 c5 w5 o5 nx5
  have hB5 := nx5.below o4 hB4 (Nat.le_refl _) hB4.size
  refine hK.out _ _ hB5 (fun _ => ?_)
  clear hK K
  try simp only [Act.put, List.setIfInBounds_toArray, List.set_cons_zero, List.set_cons_succ]
  refine' wpAnyH_take (i := 11) (oi := _) (v := _) ?hip11 (by kernel_rfl) ?hfp11 ?hrp11 ?hQp11 ?hyp11 hB5 ?restp11
  case hip11 => (simp only [List.getElem?_toArray, List.getElem?_cons_zero, List.getElem?_cons_succ]; rfl)
  case hfp11 => kernel_rfl
  case hrp11 => kernel_rfl
  case hQp11 => exact fun _ _ _ h => h
  case hyp11 => refine Or.inl ⟨by rfl, ?_⟩; intro W hSw; go_simp; try with_reducible rfl
  try simp only [Act.put, List.setIfInBounds_toArray, List.set_cons_zero, List.set_cons_succ]
  refine wpAnyH_done (by kernel_rfl) ?_ _
  go_wp2
  go_ret
  exact ⟨A5, c5, rfl, o5, hB5⟩
  

set_option maxRecDepth 100000 in
set_option maxHeartbeats 2000000 in
theorem refPath_high {ad : Addr} {k m a d : Nat} {L R : List Nat} (hc : n ≤ c) (hn : n ≤ 65536) (h2 : 2 ≤ n) (hk0 : cutN n = k) (hm0 : n - k = m) (ha : ¬ at_ < k) (ha0 : at_ - k = a) (hat : at_ < n) (hd : d ≤ 64) (hRl : R.length = 32)
    (ci : ∀ W : World, Below w.heap.size w W → Calls Tryz.prog 14 #[.slice (some (ad.add (k * 32))) m (c - k), .int .i64 (a : Int)] W (GivesS W.heap.size W d L))
    (cr : ∀ W : World, Below w.heap.size w W → Calls Tryz.prog 48 #[.slice (some ad) k c] W fun e w' => e = .returned (sv R) ∧ Below W.heap.size W w') :
    Calls Tryz.prog 14 #[.slice (some ad) n c, .int .i64 (at_ : Int)] w (GivesS w.heap.size w (d + 1) (L ++ R)) := by
  have hcl := cutN_lt h2
  have hcp := cutN_pos n
  rw [hk0] at hcl hcp
  have hai : ¬ (at_ : Int) < (k : Int) := by omega
  have CM := Lib.hid (refCut_all n w h2 (by omega))
  rw [hk0] at CM
  have ht := run_take_sums (ad := ad) (n := n) (c := c) (k := k) (by omega) hc
  have hr := run_drop_sums (ad := ad) (n := n) (c := c) (k := k) hcl hc
  rw [hm0] at hr
  have CI := Lib.hid ci
  have CR := Lib.hid cr
  have hd9 : d + 1 ≤ 1000000000 := by omega
  have n1 : ((n : Int) == 1) = false := by simp; omega
  have wn : IntKind.u64.wrap (n : Int) = (n : Int) := by rw [IntKind.wrap_u64]; omega
  have wk : IntKind.i64.wrap (k : Int) = (k : Int) := by rw [IntKind.wrap_i64]; omega
  have ea : (at_ : Int) - (k : Int) = (a : Int) := by omega
  have wa2 : IntKind.i64.wrap (a : Int) = (a : Int) := by rw [IntKind.wrap_i64]; omega
  have wa : wrap64 (a : Int) = (a : Int) := by simp only [wrap64]; omega
  have wk2 : wrap64 (k : Int) = (k : Int) := by simp only [wrap64]; omega
  clear ci cr hcl hcp hc hn h2 hk0 hm0 hd ha ha0 hat
  go_enter Tryz.func14, Tryz.ntmps14
  go_wp2_with fail
  refine CM.out.mono ?_
  rintro e w1 ⟨rfl, hw⟩
  rw [hw]
  clear hw w1
  go_upto_region 6 with fail
  refine wp_region_held_drew (S := fun W => Below w.heap.size w W) (by kernel_rfl) ((Below.refl _ _).drew) (fun hT0 => ?_)
  change wpAnyH _ _ _ _ _ _ _ _ w.drew
  refine' wpAnyH_take (i := 0) (oi := _) (v := _) ?hiq0 (by kernel_rfl) ?hfq0 ?hrq0 ?hQq0 ?hyq0 hT0 ?restq0
  case hiq0 => (simp only [List.getElem?_toArray, List.getElem?_cons_zero]; rfl)
  case hfq0 => kernel_rfl
  case hrq0 => kernel_rfl
  case hQq0 => exact fun _ _ _ h => h
  case hyq0 => refine Or.inl ⟨by rfl, ?_⟩; intro W hSw; go_simp; try with_reducible rfl
  try simp only [Act.put, List.setIfInBounds_toArray, List.set_cons_zero, List.set_cons_succ]
  refine' wpAnyH_take (i := 1) (oi := _) (v := _) ?hiq1 (by kernel_rfl) ?hfq1 ?hrq1 ?hQq1 ?hyq1 hT0 ?restq1
  case hiq1 => (simp only [List.getElem?_toArray, List.getElem?_cons_zero, List.getElem?_cons_succ]; rfl)
  case hfq1 => kernel_rfl
  case hrq1 => kernel_rfl
  case hQq1 => exact fun _ _ _ h => h
  case hyq1 => refine Or.inl ⟨by rfl, ?_⟩; intro W hSw; go_simp; try with_reducible rfl
  try simp only [Act.put, List.setIfInBounds_toArray, List.set_cons_zero, List.set_cons_succ]
  refine' wpAnyH_take (i := 2) (oi := _) (v := _) ?hiq2 (by kernel_rfl) ?hfq2 ?hrq2 ?hQq2 ?hyq2 hT0 ?restq2
  case hiq2 => (simp only [List.getElem?_toArray, List.getElem?_cons_zero, List.getElem?_cons_succ]; rfl)
  case hfq2 => kernel_rfl
  case hrq2 => kernel_rfl
  case hQq2 => exact fun _ _ _ h => h
  case hyq2 => refine Or.inl ⟨by rfl, ?_⟩; intro W hSw; go_simp; try with_reducible rfl
  try simp only [Act.put, List.setIfInBounds_toArray, List.set_cons_zero, List.set_cons_succ]
  refine' wpAnyH_take (i := 3) (oi := _) (v := _) ?hiq3 (by kernel_rfl) ?hfq3 ?hrq3 ?hQq3 ?hyq3 hT0 ?restq3
  case hiq3 => (simp only [List.getElem?_toArray, List.getElem?_cons_zero, List.getElem?_cons_succ]; rfl)
  case hfq3 => kernel_rfl
  case hrq3 => kernel_rfl
  case hQq3 => exact fun _ _ _ h => h
  case hyq3 => refine Or.inl ⟨by rfl, ?_⟩; intro W hSw; go_simp; try with_reducible rfl
  try simp only [Act.put, List.setIfInBounds_toArray, List.set_cons_zero, List.set_cons_succ]
  refine' wpAnyH_take (i := 4) (oi := _) (v := _) ?hiq4 (by kernel_rfl) ?hfq4 ?hrq4 ?hQq4 ?hyq4 hT0 ?restq4
  case hiq4 => (simp only [List.getElem?_toArray, List.getElem?_cons_zero, List.getElem?_cons_succ]; rfl)
  case hfq4 => kernel_rfl
  case hrq4 => kernel_rfl
  case hQq4 => exact fun _ _ _ h => h
  case hyq4 => refine Or.inl ⟨by rfl, ?_⟩; intro W hSw; go_simp; try with_reducible rfl
  try simp only [Act.put, List.setIfInBounds_toArray, List.set_cons_zero, List.set_cons_succ]
  refine' wpAnyH_take (i := 5) (oi := _) (v := _) ?hiq5 (by kernel_rfl) ?hfq5 ?hrq5 ?hQq5 ?hyq5 hT0 ?restq5
  case hiq5 => (simp only [List.getElem?_toArray, List.getElem?_cons_zero, List.getElem?_cons_succ]; rfl)
  case hfq5 => kernel_rfl
  case hrq5 => kernel_rfl
  case hQq5 => exact fun _ _ _ h => h
  case hyq5 => refine Or.inl ⟨by rfl, ?_⟩; intro W hSw; go_simp; try with_reducible rfl
  try simp only [Act.put, List.setIfInBounds_toArray, List.set_cons_zero, List.set_cons_succ]
  refine' wpAnyH_take (i := 7) (oi := _) (v := _) ?hiq7 (by kernel_rfl) ?hfq7 ?hrq7 ?hQq7 ?hyq7 hT0 ?restq7
  case hiq7 => (simp only [List.getElem?_toArray, List.getElem?_cons_zero, List.getElem?_cons_succ]; rfl)
  case hfq7 => kernel_rfl
  case hrq7 => kernel_rfl
  case hQq7 => exact fun _ _ _ h => h
  case hyq7 => refine Or.inl ⟨by rfl, ?_⟩; intro W hSw; go_simp; try with_reducible rfl
  try simp only [Act.put, List.setIfInBounds_toArray, List.set_cons_zero, List.set_cons_succ]
  refine' wpAnyH_take (i := 8) (oi := _) (v := _) ?hiq8 (by kernel_rfl) ?hfq8 ?hrq8 ?hQq8 ?hyq8 hT0 ?restq8
  case hiq8 => (simp only [List.getElem?_toArray, List.getElem?_cons_zero, List.getElem?_cons_succ]; rfl)
  case hfq8 => kernel_rfl
  case hrq8 => kernel_rfl
  case hQq8 => exact fun _ _ _ h => h
  case hyq8 => refine Or.inl ⟨by rfl, ?_⟩; intro W hSw; go_simp; try with_reducible rfl
  try simp only [Act.put, List.setIfInBounds_toArray, List.set_cons_zero, List.set_cons_succ]
  refine' wpAnyH_take (i := 9) (oi := _) (v := _) ?hiq9 (by kernel_rfl) ?hfq9 ?hrq9 ?hQq9 ?hyq9 hT0 ?restq9
  case hiq9 => (simp only [List.getElem?_toArray, List.getElem?_cons_zero, List.getElem?_cons_succ]; rfl)
  case hfq9 => kernel_rfl
  case hrq9 => kernel_rfl
  case hQq9 => exact fun _ _ _ h => h
  case hyq9 => refine Or.inl ⟨by rfl, ?_⟩; intro W hSw; go_simp; try with_reducible rfl
  try simp only [Act.put, List.setIfInBounds_toArray, List.set_cons_zero, List.set_cons_succ]
  refine wpAnyH_ready (rs := [6]) (by kernel_rfl) (by simp) ?_
  refine' AllReadyH.cons (o := _) ?hiq6 (fun K hK => ?_) AllReadyH.nil
  case hiq6 => (simp only [List.getElem?_toArray, List.getElem?_cons_zero, List.getElem?_cons_succ]; rfl)
  go_simp
  go_at_call 14
  refine (CI.out _ hT0).mono ?_
  rintro e w2 ⟨A2, c2, rfl, ho2, hb2⟩
  have hB2 := below_on hT0 (Nat.le_refl _) hb2
  have HO2 := Lib.hid ho2
  clear ho2
  refine hK.out _ _ hB2 (fun _ => ?_)
  clear hK K
  try simp only [Act.put, List.setIfInBounds_toArray, List.set_cons_zero, List.set_cons_succ]
  refine wpAnyH_ready (rs := [10]) (by kernel_rfl) (by simp) ?_
  refine' AllReadyH.cons (o := _) ?hiq10 (fun K hK => ?_) AllReadyH.nil
  case hiq10 => (simp only [List.getElem?_toArray, List.getElem?_cons_zero, List.getElem?_cons_succ]; rfl)
  go_simp
  go_at_call 48
  refine (CR.out _ hB2).mono ?_
  rintro e w3 ⟨rfl, hb3⟩
  have hB3 := below_on hB2 (Nat.le_refl _) hb3
  have o3 := own_on HO2.out hb3
  refine hK.out _ _ hB3 (fun _ => ?_)
  clear hK K
  try simp only [Act.put, List.setIfInBounds_toArray, List.set_cons_zero, List.set_cons_succ]
  refine wpAnyH_ready (rs := [11]) (by kernel_rfl) (by simp) ?_
  refine' AllReadyH.cons (o := _) ?hiq11 (fun K hK => ?_) AllReadyH.nil
  case hiq11 => (simp only [List.getElem?_toArray, List.getElem?_cons_zero, List.getElem?_cons_succ]; rfl)
  rw [if_pos (by rfl)]
  refine wp_sums _ [R] 1 rfl rfl (by simp <;> rfl) (by intro q hq; simp at hq; rw [hq]; exact hRl) (by decide) (by decide) ?_
  rw [show [R].flatten = R by simp]
  have o4 := own_on o3 (below_alloc w3 (.cells (bvs R).toArray 24))
  have hB4 := hB3.alloc hB3.size (.cells (bvs R).toArray 24)
  have i4 : InS (w3.alloc (.cells (bvs R).toArray 24)) (some ⟨w3.heap.size, 0, none⟩) 1 R := InS.of_own (own_sum w3 R 0 hRl (Nat.zero_le _))
  refine hK.out _ _ hB4 (fun _ => ?_)
  clear hK K
  try simp only [Act.put, List.setIfInBounds_toArray, List.set_cons_zero, List.set_cons_succ]
  refine wpAnyH_ready (rs := [12]) (by kernel_rfl) (by simp) ?_
  refine' AllReadyH.cons (o := _) ?hiq12 (fun K hK => ?_) AllReadyH.nil
  case hiq12 => (simp only [List.getElem?_toArray, List.getElem?_cons_zero, List.getElem?_cons_succ]; rfl)
  refine step_sapp (K := K) (by rfl) _ _ (by rfl) w.heap.size A2 d c2 L (by rfl) o4 (some ⟨w3.heap.size, 0, none⟩) 1 1 R (by rfl) i4 (fun h => by cases h) hd9 hB4.size ?_
  intro A5 c5 w5 o5 nx5
  have hB5 := nx5.below o4 hB4 (Nat.le_refl _) hB4.size
  refine hK.out _ _ hB5 (fun _ => ?_)
  clear hK K
  try simp only [Act.put, List.setIfInBounds_toArray, List.set_cons_zero, List.set_cons_succ]
  refine' wpAnyH_take (i := 13) (oi := _) (v := _) ?hiq13 (by kernel_rfl) ?hfq13 ?hrq13 ?hQq13 ?hyq13 hB5 ?restq13
  case hiq13 => (simp only [List.getElem?_toArray, List.getElem?_cons_zero, List.getElem?_cons_succ]; rfl)
  case hfq13 => kernel_rfl
  case hrq13 => kernel_rfl
  case hQq13 => exact fun _ _ _ h => h
  case hyq13 => refine Or.inl ⟨by rfl, ?_⟩; intro W hSw; go_simp; try with_reducible rfl
  try simp only [Act.put, List.setIfInBounds_toArray, List.set_cons_zero, List.set_cons_succ]
  refine wpAnyH_done (by kernel_rfl) ?_ _
  go_wp2
  go_ret
  exact ⟨A5, c5, rfl, o5, hB5⟩
  

end

end Go.Proofs.YtppfdpnplemfkaaGreatDoor

/-
  almonerref10.path whole; almonerref10.Of.
-/
namespace Go.Proofs.YtppfdpnplemfkaaGreatDoor
open Go.RowKit

theorem refPath_any : ∀ (n at_ : Nat) (A : Option Addr) (c : Nat) (ys : List Nat) (w : World), InS w A n ys → (∀ x ∈ ys, x < 256) → n ≤ c → n ≤ 65536 → at_ < n →
    Calls Tryz.prog 14 #[.slice A n c, .int .i64 (at_ : Int)] w (GivesS w.heap.size w (dep at_ n) (pathL (nth ys) 0 n at_).flatten) := by
  intro n
  induction n using Nat.strongRecOn with
  | ind n ih =>
    intro at_ A c ys w hin hy hc hn hat
    by_cases h1 : n < 2
    · obtain rfl : n = 1 := by omega
      rw [dep_one h1, pathL_one _ h1]
      exact refPath_one
    · have hcl := cutN_lt (m := n) (by omega)
      have hcp := cutN_pos n
      obtain ⟨ad, rfl⟩ := hin.some_ (by omega)
      have hd := dep_64 (n := n) (at_ := at_) hat (by omega)
      have lk : ∀ {i m : Nat}, i + m ≤ n → (rt (nth ys) i m).length = 32 := fun {i m} h => rt_length _ i m fun j hj => nth_length hin.len (by omega)
      have ytake : ∀ x ∈ ys.take (32 * cutN n), x < 256 := fun x hx => hy x (List.mem_of_mem_take hx)
      have ydrop : ∀ x ∈ ys.drop (32 * cutN n), x < 256 := fun x hx => hy x (List.mem_of_mem_drop hx)
      by_cases ha : at_ < cutN n
      · rw [dep_low (by omega) ha] at hd ⊢
        rw [pathL_low _ (by omega) ha, List.flatten_append, List.flatten_singleton, Nat.zero_add]
        refine refPath_low hc hn (by omega) rfl rfl ha (by omega) (lk (by omega)) ?_ ?_
        · intro W hW
          have := ih (cutN n) hcl at_ (some ad) c (ys.take (32 * cutN n)) W ((hin.take (k := cutN n) (by omega)).below hW) ytake (by omega) (by omega) ha
          rw [pathL_congr (nth (ys.take (32 * cutN n))) (nth ys) (cutN n) 0 0 at_ (fun j hj => by rw [Nat.zero_add]; exact nth_take hj)] at this
          exact this
        · intro W hW
          have := refRoot_any (n - cutN n) (some (ad.add (cutN n * 32))) (c - cutN n) (ys.drop (32 * cutN n)) W ((hin.drop_ _ (by omega)).below hW) ydrop (by omega) (by omega)
          rw [rt_drop] at this
          exact this
      · rw [dep_high (by omega) ha] at hd ⊢
        rw [pathL_high _ (by omega) ha, List.flatten_append, List.flatten_singleton, Nat.zero_add]
        refine refPath_high hc hn (by omega) rfl rfl ha rfl hat (by omega) (lk (by omega)) ?_ ?_
        · intro W hW
          have := ih (n - cutN n) (by omega) (at_ - cutN n) (some (ad.add (cutN n * 32))) (c - cutN n) (ys.drop (32 * cutN n)) W ((hin.drop_ (cutN n) (by omega)).below hW) ydrop (by omega) (by omega) (by omega)
          rw [pathL_congr (nth (ys.drop (32 * cutN n))) (nth ys) (n - cutN n) 0 (cutN n) (at_ - cutN n) (fun j hj => by rw [Nat.zero_add]; exact nth_drop _ _ _)] at this
          exact this
        · intro W hW
          have := refRoot_any (cutN n) (some ad) c (ys.take (32 * cutN n)) W ((hin.take (by omega)).below hW) ytake (by omega) (by omega)
          rw [rt_take] at this
          exact this

set_option maxRecDepth 100000 in
set_option maxHeartbeats 1000000 in
/-- almonerref10.Of at a place that there is not. -/
theorem refOf_no {w : World} {n c : Nat} {A : Option Addr} (z : Int) (h : z < 0 ∨ (n : Int) ≤ z) :
    Calls Tryz.prog 6 #[.slice A n c, .int .i64 z] w fun e w' => e = .returned (.tuple #[.slice none 0 0, .int .i64 1]) ∧ w' = w := by
  by_cases h0 : z < 0
  · go_enter Tryz.func6, Tryz.ntmps6
    go_wp2_with fail
    go_ret2
    exact ⟨rfl, rfl⟩
  · have h1 : (n : Int) ≤ z := by omega
    go_enter Tryz.func6, Tryz.ntmps6
    go_wp2_with fail
    go_ret2
    exact ⟨rfl, rfl⟩

set_option maxRecDepth 100000 in
set_option maxHeartbeats 1000000 in
/-- almonerref10.Of. -/
theorem refOf_yes {w : World} {n c at_ : Nat} {A : Option Addr} {ys : List Nat} (hin : InS w A n ys) (hy : ∀ x ∈ ys, x < 256) (hc : n ≤ c) (hn : n ≤ 65536) (hat : at_ < n) :
    Calls Tryz.prog 6 #[.slice A n c, .int .i64 (at_ : Int)] w fun e w' => ∃ A' c', e = .returned (.tuple #[.slice A' (dep at_ n) c', .int .i64 0]) ∧ w'.ownsRow w.heap.size 24 32 (.slice A' (dep at_ n) c') (dep at_ n) (bvs (pathL (nth ys) 0 n at_).flatten) ∧ Below w.heap.size w w' := by
  have C := Lib.hid (refPath_any n at_ A c ys w hin hy hc hn hat)
  have h0 : ¬ (at_ : Int) < 0 := by omega
  have h1 : ¬ (n : Int) ≤ (at_ : Int) := by omega
  clear hin hy hc hn hat
  go_enter Tryz.func6, Tryz.ntmps6
  go_wp2_with fail
  refine C.out.mono ?_
  rintro e w1 ⟨A', c', rfl, ho, hb⟩
  go_wp2_with fail
  go_ret2
  exact ⟨A', c', rfl, ho, hb⟩

end Go.Proofs.YtppfdpnplemfkaaGreatDoor

/-
  almonerref10.leads, Check.
-/
namespace Go.Proofs.YtppfdpnplemfkaaGreatDoor
open Go.RowKit

/-- What the document's own way leads to: the last sum first. -/
def leadsR (f : Nat → List Nat) (leaf : List Nat) (at_ size n : Nat) : List Nat × Bool :=
  if _ : size < 2 then (leaf, decide (n = 0))
  else if n = 0 then (zero32, false)
  else if at_ < cutN size then (nodeL (leadsR f leaf at_ (cutN size) (n - 1)).1 (f (n - 1)), (leadsR f leaf at_ (cutN size) (n - 1)).2)
  else (nodeL (f (n - 1)) (leadsR f leaf (at_ - cutN size) (size - cutN size) (n - 1)).1, (leadsR f leaf (at_ - cutN size) (size - cutN size) (n - 1)).2)
termination_by size
decreasing_by
  · exact cutN_lt (by omega)
  · have := cutN_pos size; omega
section
variable (f : Nat → List Nat) (leaf : List Nat) {at_ size n : Nat}
theorem leadsR_one (h : size < 2) : leadsR f leaf at_ size n = (leaf, decide (n = 0)) := by rw [leadsR, dif_pos h]
theorem leadsR_nil (h : 2 ≤ size) (h0 : n = 0) : leadsR f leaf at_ size n = (zero32, false) := by rw [leadsR, dif_neg (by omega), if_pos h0]
theorem leadsR_low (h : 2 ≤ size) (h0 : 0 < n) (ha : at_ < cutN size) : leadsR f leaf at_ size n = (nodeL (leadsR f leaf at_ (cutN size) (n - 1)).1 (f (n - 1)), (leadsR f leaf at_ (cutN size) (n - 1)).2) := by
  rw [leadsR, dif_neg (by omega), if_neg (by omega), if_pos ha]
theorem leadsR_high (h : 2 ≤ size) (h0 : 0 < n) (ha : ¬ at_ < cutN size) : leadsR f leaf at_ size n = (nodeL (f (n - 1)) (leadsR f leaf (at_ - cutN size) (size - cutN size) (n - 1)).1, (leadsR f leaf (at_ - cutN size) (size - cutN size) (n - 1)).2) := by
  rw [leadsR, dif_neg (by omega), if_neg (by omega), if_neg ha]
end
theorem leadsR_congr (f g : Nat → List Nat) (leaf : List Nat) : ∀ (size at_ n : Nat), (∀ i, i < n → f i = g i) → leadsR f leaf at_ size n = leadsR g leaf at_ size n := by
  intro size
  induction size using Nat.strongRecOn with
  | ind size ih =>
    intro at_ n h
    by_cases h2 : size < 2
    · rw [leadsR_one f leaf h2, leadsR_one g leaf h2]
    · by_cases h0 : n = 0
      · rw [leadsR_nil f leaf (by omega) h0, leadsR_nil g leaf (by omega) h0]
      · have a := cutN_lt (m := size) (by omega)
        have b := cutN_pos size
        by_cases ha : at_ < cutN size
        · rw [leadsR_low f leaf (by omega) (by omega) ha, leadsR_low g leaf (by omega) (by omega) ha, h _ (by omega), ih _ a _ _ (fun i hi => h i (by omega))]
        · rw [leadsR_high f leaf (by omega) (by omega) ha, leadsR_high g leaf (by omega) (by omega) ha, h _ (by omega), ih _ (by omega) _ _ (fun i hi => h i (by omega))]
theorem leadsR_of {P : List Nat → Prop} (hz : P zero32) (hs : ∀ xs, P (sha xs)) (f : Nat → List Nat) (leaf : List Nat) (hl : P leaf) (at_ size n : Nat) : P (leadsR f leaf at_ size n).1 := by
  by_cases h2 : size < 2
  · rw [leadsR_one f leaf h2]; exact hl
  · by_cases h0 : n = 0
    · rw [leadsR_nil f leaf (by omega) h0]; exact hz
    · by_cases ha : at_ < cutN size
      · rw [leadsR_low f leaf (by omega) (by omega) ha]; exact hs _
      · rw [leadsR_high f leaf (by omega) (by omega) ha]; exact hs _
theorem leadsR_length (f : Nat → List Nat) (leaf : List Nat) (hl : leaf.length = 32) (at_ size n : Nat) : (leadsR f leaf at_ size n).1.length = 32 := leadsR_of (P := fun l => l.length = 32) rfl sha_length f leaf hl at_ size n
theorem zero32_lt : ∀ x ∈ zero32, x < 256 := by intro x hx; rw [List.eq_of_mem_replicate hx]; omega
theorem leadsR_lt (f : Nat → List Nat) (leaf : List Nat) (hl : ∀ x ∈ leaf, x < 256) (at_ size n : Nat) : ∀ x ∈ (leadsR f leaf at_ size n).1, x < 256 := leadsR_of (P := fun l => ∀ x ∈ l, x < 256) zero32_lt sha_lt f leaf hl at_ size n
theorem leadsR_eq (f : Nat → List Nat) (leaf : List Nat) : ∀ (size at_ n : Nat), (leadsR f leaf at_ size n).2 = decide (dep at_ size = n) ∧ (dep at_ size = n → (leadsR f leaf at_ size n).1 = leadF f leaf at_ size 0) := by
  intro size
  induction size using Nat.strongRecOn with
  | ind size ih =>
    intro at_ n
    by_cases h2 : size < 2
    · rw [leadsR_one f leaf h2, dep_one h2, leadF_one f leaf h2]
      exact ⟨by simp [eq_comm], fun _ => rfl⟩
    · have a := cutN_lt (m := size) (by omega)
      have b := cutN_pos size
      by_cases ha : at_ < cutN size
      · rw [dep_low (by omega) ha, leadF_low f leaf (by omega) ha]
        by_cases h0 : n = 0
        · rw [leadsR_nil f leaf (by omega) h0]
          exact ⟨by rw [decide_eq_false (by omega)], fun e => by omega⟩
        · rw [leadsR_low f leaf (by omega) (by omega) ha]
          have := ih _ a at_ (n - 1)
          refine ⟨?_, fun e => ?_⟩
          · rw [this.1, decide_eq_decide]; omega
          · show nodeL _ _ = _
            rw [this.2 (by omega), Nat.zero_add, show n - 1 = dep at_ (cutN size) by omega]
      · rw [dep_high (by omega) ha, leadF_high f leaf (by omega) ha]
        by_cases h0 : n = 0
        · rw [leadsR_nil f leaf (by omega) h0]
          exact ⟨by rw [decide_eq_false (by omega)], fun e => by omega⟩
        · rw [leadsR_high f leaf (by omega) (by omega) ha]
          have := ih (size - cutN size) (by omega) (at_ - cutN size) (n - 1)
          refine ⟨?_, fun e => ?_⟩
          · rw [this.1, decide_eq_decide]; omega
          · show nodeL _ _ = _
            rw [this.2 (by omega), Nat.zero_add, show n - 1 = dep (at_ - cutN size) (size - cutN size) by omega]

section
variable {w : World} {n c : Nat} {A : Option Addr} {ys leaf : List Nat} {at_ size : Nat}

set_option maxRecDepth 100000 in
set_option maxHeartbeats 2000000 in
theorem refLead_one (hl : leaf.length = 32) :
    Calls Tryz.prog 16 #[sv leaf, .int .u64 (at_ : Int), .int .u64 1, .slice A n c] w fun e w' => e = .returned (.tuple #[sv leaf, .bool (decide (n = 0))]) ∧ Below w.heap.size w w' := by
  have e0 : (bvs zero32).toArray = #[.int .u8 0, .int .u8 0, .int .u8 0, .int .u8 0, .int .u8 0, .int .u8 0, .int .u8 0, .int .u8 0, .int .u8 0, .int .u8 0, .int .u8 0, .int .u8 0, .int .u8 0, .int .u8 0, .int .u8 0, .int .u8 0, .int .u8 0, .int .u8 0, .int .u8 0, .int .u8 0, .int .u8 0, .int .u8 0, .int .u8 0, .int .u8 0, .int .u8 0, .int .u8 0, .int .u8 0, .int .u8 0, .int .u8 0, .int .u8 0, .int .u8 0, .int .u8 0] := rfl
  have h1 := leadIn_of w leaf
  rw [e0] at h1
  clear e0
  have H1 := Lib.hid h1
  obtain ⟨b, hb0⟩ : ∃ b, decide (n = 0) = b := ⟨_, rfl⟩
  have hnb : ((n : Int) == 0) = b := by
    rw [← hb0]
    by_cases he : n = 0
    · simp [he]
    · simp [he]
  rw [hb0]
  clear h1 hb0
  unfold sv
  go_enter Tryz.func16, Tryz.ntmps16
  go_upto_region 1 with fail
  obtain ⟨w1, hw1⟩ : ∃ w1, w1 = (w.alloc (.cells (bvs leaf).toArray 24)).alloc (.cells #[.int .u8 0, .int .u8 0, .int .u8 0, .int .u8 0, .int .u8 0, .int .u8 0, .int .u8 0, .int .u8 0, .int .u8 0, .int .u8 0, .int .u8 0, .int .u8 0, .int .u8 0, .int .u8 0, .int .u8 0, .int .u8 0, .int .u8 0, .int .u8 0, .int .u8 0, .int .u8 0, .int .u8 0, .int .u8 0, .int .u8 0, .int .u8 0, .int .u8 0, .int .u8 0, .int .u8 0, .int .u8 0, .int .u8 0, .int .u8 0, .int .u8 0, .int .u8 0] 24) := ⟨_, rfl⟩
  rw [← hw1] at H1 ⊢
  clear hw1
  have HZ32 := Lib.hid (show zero32.length = 32 from rfl)
  have hA := Lib.hid H1.out.leaf.at_
  have f1 := H1.out.res
  go_wp2_with (first | with_reducible refine wpList_load_sum rfl (.tmp 4) rfl ⟨w.heap.size, 0, none⟩ rfl leaf hl hA.out ?_ | with_reducible refine wpList_store_sum rfl (.tmp 8) (.tmp 18) rfl (w.heap.size + 1) rfl zero32 leaf HZ32 hl f1 rfl ?_)
  refine bodyPost_ret_by (v := .tuple #[sv leaf, .bool b]) (results_cell_tmp (p := 8) (q := 9) (ty := 24) (by kernel_rfl) _ _ ⟨w.heap.size + 1, 0, none⟩ (sv leaf) rfl (run_load_sum _ _ leaf hl (f1.setRow leaf).at_)) rfl ?_
  exact ⟨rfl, below_setRow H1.out.below (by omega) _⟩

set_option maxRecDepth 100000 in
set_option maxHeartbeats 2000000 in
theorem refLead_nil (h2 : 2 ≤ size) :
    Calls Tryz.prog 16 #[sv leaf, .int .u64 (at_ : Int), .int .u64 (size : Int), .slice A 0 c] w fun e w' => e = .returned (.tuple #[sv zero32, .bool false]) ∧ Below w.heap.size w w' := by
  have e0 : (bvs zero32).toArray = #[.int .u8 0, .int .u8 0, .int .u8 0, .int .u8 0, .int .u8 0, .int .u8 0, .int .u8 0, .int .u8 0, .int .u8 0, .int .u8 0, .int .u8 0, .int .u8 0, .int .u8 0, .int .u8 0, .int .u8 0, .int .u8 0, .int .u8 0, .int .u8 0, .int .u8 0, .int .u8 0, .int .u8 0, .int .u8 0, .int .u8 0, .int .u8 0, .int .u8 0, .int .u8 0, .int .u8 0, .int .u8 0, .int .u8 0, .int .u8 0, .int .u8 0, .int .u8 0] := rfl
  have h1 := leadIn_of w leaf
  rw [e0] at h1
  clear e0
  have H1 := Lib.hid h1
  have hs1 : ((size : Int) == 1) = false := by simp; omega
  clear h1
  unfold sv
  go_enter Tryz.func16, Tryz.ntmps16
  go_upto_region 1 with fail
  obtain ⟨w1, hw1⟩ : ∃ w1, w1 = (w.alloc (.cells (bvs leaf).toArray 24)).alloc (.cells #[.int .u8 0, .int .u8 0, .int .u8 0, .int .u8 0, .int .u8 0, .int .u8 0, .int .u8 0, .int .u8 0, .int .u8 0, .int .u8 0, .int .u8 0, .int .u8 0, .int .u8 0, .int .u8 0, .int .u8 0, .int .u8 0, .int .u8 0, .int .u8 0, .int .u8 0, .int .u8 0, .int .u8 0, .int .u8 0, .int .u8 0, .int .u8 0, .int .u8 0, .int .u8 0, .int .u8 0, .int .u8 0, .int .u8 0, .int .u8 0, .int .u8 0, .int .u8 0] 24) := ⟨_, rfl⟩
  rw [← hw1] at H1 ⊢
  clear hw1
  have f1 := H1.out.res
  go_wp2_with (refine wpList_store_nought rfl (.tmp 8) (.tmp 25) rfl (w.heap.size + 1) rfl f1 rfl ?_; intro w2 f2 on2)
  refine bodyPost_ret_by (v := .tuple #[sv zero32, .bool false]) (results_cell_tmp (p := 8) (q := 9) (ty := 24) (by kernel_rfl) _ _ ⟨w.heap.size + 1, 0, none⟩ (sv zero32) rfl (run_load_sum _ _ zero32 rfl f2.at_)) rfl ?_
  exact ⟨rfl, Only.below H1.out.below (Nat.le_succ _) (Nat.le_refl _) on2⟩

set_option maxRecDepth 100000 in
set_option maxHeartbeats 4000000 in
theorem refLead_low {ad : Addr} {k q : Nat} {L s : List Nat} {ok : Bool} (hl : leaf.length = 32) (hc : n ≤ c) (hn : n ≤ 1000000) (h0 : 0 < n) (h2 : 2 ≤ size) (hz : size < 18446744073709551616) (_hat : at_ < size) (hk0 : cutN size = k) (ha : at_ < k) (hq : n - 1 = q)
    (hLl : L.length = 32) (hLb : ∀ x ∈ L, x < 256) (hsl : s.length = 32) (hsb : ∀ x ∈ s, x < 256) (hat_ : At w (ad.add (q * 32)) s)
    (ih : ∀ W : World, Below w.heap.size w W → Calls Tryz.prog 16 #[sv leaf, .int .u64 (at_ : Int), .int .u64 (k : Int), .slice (some ad) q c] W fun e w' => e = .returned (.tuple #[sv L, .bool ok]) ∧ Below W.heap.size W w') :
    Calls Tryz.prog 16 #[sv leaf, .int .u64 (at_ : Int), .int .u64 (size : Int), .slice (some ad) n c] w fun e w' => e = .returned (.tuple #[sv (nodeL L s), .bool ok]) ∧ Below w.heap.size w w' := by
  have e0 : (bvs zero32).toArray = #[.int .u8 0, .int .u8 0, .int .u8 0, .int .u8 0, .int .u8 0, .int .u8 0, .int .u8 0, .int .u8 0, .int .u8 0, .int .u8 0, .int .u8 0, .int .u8 0, .int .u8 0, .int .u8 0, .int .u8 0, .int .u8 0, .int .u8 0, .int .u8 0, .int .u8 0, .int .u8 0, .int .u8 0, .int .u8 0, .int .u8 0, .int .u8 0, .int .u8 0, .int .u8 0, .int .u8 0, .int .u8 0, .int .u8 0, .int .u8 0, .int .u8 0, .int .u8 0] := rfl
  have h1 := leadIn_of w leaf
  rw [e0] at h1
  clear e0
  have hcl := cutN_lt h2
  have hcp := cutN_pos size
  rw [hk0] at hcl hcp
  obtain ⟨w1, hw1⟩ : ∃ w1, w1 = (w.alloc (.cells (bvs leaf).toArray 24)).alloc (.cells #[.int .u8 0, .int .u8 0, .int .u8 0, .int .u8 0, .int .u8 0, .int .u8 0, .int .u8 0, .int .u8 0, .int .u8 0, .int .u8 0, .int .u8 0, .int .u8 0, .int .u8 0, .int .u8 0, .int .u8 0, .int .u8 0, .int .u8 0, .int .u8 0, .int .u8 0, .int .u8 0, .int .u8 0, .int .u8 0, .int .u8 0, .int .u8 0, .int .u8 0, .int .u8 0, .int .u8 0, .int .u8 0, .int .u8 0, .int .u8 0, .int .u8 0, .int .u8 0] 24) := ⟨_, rfl⟩
  rw [← hw1] at h1
  have H1 := Lib.hid h1
  have HW := Lib.hid hw1
  have ht := run_take_sums (ad := ad) (n := n) (c := c) (k := q) (by omega) hc
  have HAs := Lib.hid (hat_.below h1.below)
  have HL := Lib.hid (And.intro hLl (And.intro hLb (And.intro hsl hsb)))
  have IH := Lib.hid ih
  obtain ⟨N, hN⟩ : ∃ N, nodeL L s = N := ⟨_, rfl⟩
  have hNl : N.length = 32 := by rw [← hN]; exact nodeL_length _ _
  have CN := Lib.hid (fun (W : World) => (refNode_any L s W hLl hsl hLb hsb).mono (R' := fun e w' => e = .returned (sv N) ∧ Below W.heap.size W w') fun e w' ⟨he, hb⟩ => ⟨by rw [he, hN], hb⟩)
  rw [hN]
  have hs1 : ((size : Int) == 1) = false := by simp; omega
  have n0 : ((n : Int) == 0) = false := by simp; omega
  have hai : (at_ : Int) < (k : Int) := by omega
  have CM := Lib.hid (fun (W : World) => refCut_all size W h2 hz)
  rw [hk0] at CM
  have hq0 : (0 : Int) ≤ (q : Int) := by omega
  have hqn : (q : Int) < (n : Int) := by omega
  have nsub : (n : Int) - 1 = (q : Int) := by omega
  have wq : wrap64 (q : Int) = (q : Int) := by simp only [wrap64]; omega
  clear h1 hw1 ih hN hcl hcp hc hn h0 h2 hz hk0 ha hq hLl hLb hsb hat_
  unfold sv
  go_enter Tryz.func16, Tryz.ntmps16
  go_upto_region 1 with fail
  rw [← HW.out]
  go_upto_region 6 with (first | with_reducible refine wpList_load_sum rfl (.tmp 30) rfl (ad.add (q * 32)) rfl s hsl HAs.out ?_ | with_reducible refine wpList_store_new w1 _ rfl rfl (.tmp 10) (.tmp 31) rfl rfl s hsl rfl ?_)
  have b2 := below_alloc w1 (.cells (bvs s).toArray 24)
  have g2 := BArr.new w1 24 s
  obtain ⟨w2, hw2⟩ : ∃ w2, w2 = w1.alloc (.cells (bvs s).toArray 24) := ⟨_, rfl⟩
  rw [← hw2] at b2 g2 ⊢
  have H2 := Lib.hid (And.intro (below_on H1.out.below (Nat.le_refl _) b2) (And.intro (H1.out.leaf.below b2) (And.intro (H1.out.res.below b2) g2)))
  clear hw2 b2 g2
  have hAl := Lib.hid H2.out.2.1.at_
  go_wp2_with fail
  refine (CM.out w2).mono ?_
  rintro e w3 ⟨rfl, hw3⟩
  rw [hw3]
  clear hw3 w3
  go_wp2_with (with_reducible refine wpList_load_sum rfl (.tmp 4) rfl ⟨w.heap.size, 0, none⟩ rfl leaf hl hAl.out ?_)
  refine (IH.out w2 H2.out.1).mono ?_
  rintro e w3 ⟨rfl, hb3⟩
  have hLl := HL.out.1
  go_upto_region 10 with (with_reducible refine wpList_store_new w3 _ rfl rfl (.tmp 12) (.tmp 48) rfl rfl L hLl rfl ?_)
  have b4 := below_alloc w3 (.cells (bvs L).toArray 24)
  have g4 := BArr.new w3 24 L
  obtain ⟨w4, hw4⟩ : ∃ w4, w4 = w3.alloc (.cells (bvs L).toArray 24) := ⟨_, rfl⟩
  rw [← hw4] at b4 g4 ⊢
  have b34 := below_on hb3 (Nat.le_refl _) b4
  have H4 := Lib.hid (And.intro (below_on H2.out.1 (Nat.le_refl _) b34) (And.intro (H2.out.2.2.1.below b34) (And.intro (H2.out.2.2.2.below b34) g4)))
  clear hw4 b4 g4 hb3 b34
  have hAL := Lib.hid H4.out.2.2.2.at_
  have hAS := Lib.hid H4.out.2.2.1.at_
  go_wp2_with (first | with_reducible refine wpList_load_sum rfl (.tmp 12) rfl ⟨w3.heap.size, 0, none⟩ rfl L hLl hAL.out ?_ | with_reducible refine wpList_load_sum rfl (.tmp 10) rfl ⟨w1.heap.size, 0, none⟩ rfl s hsl hAS.out ?_)
  refine (CN.out w4).mono ?_
  rintro e w5 ⟨rfl, hb5⟩
  have f5 := H4.out.2.1.below hb5
  have HZ32 := Lib.hid (show zero32.length = 32 from rfl)
  go_wp2_with (with_reducible refine wpList_store_sum rfl (.tmp 8) (.tmp 52) rfl (w.heap.size + 1) rfl zero32 N HZ32 hNl f5 rfl ?_)
  refine bodyPost_ret_by (v := .tuple #[sv N, .bool ok]) (results_cell_tmp (p := 8) (q := 9) (ty := 24) (by kernel_rfl) _ _ ⟨w.heap.size + 1, 0, none⟩ (sv N) rfl (run_load_sum _ _ N hNl (f5.setRow N).at_)) rfl ?_
  exact ⟨rfl, below_setRow (below_on H4.out.1 (Nat.le_refl _) hb5) (Nat.le_succ _) _⟩

set_option maxRecDepth 100000 in
set_option maxHeartbeats 4000000 in
theorem refLead_high {ad : Addr} {k a m q : Nat} {L s : List Nat} {ok : Bool} (hl : leaf.length = 32) (hc : n ≤ c) (hn : n ≤ 1000000) (h0 : 0 < n) (h2 : 2 ≤ size) (hz : size < 18446744073709551616) (hat : at_ < size) (hk0 : cutN size = k) (ha : ¬ at_ < k) (ha0 : at_ - k = a) (hm0 : size - k = m) (hq : n - 1 = q)
    (hLl : L.length = 32) (hLb : ∀ x ∈ L, x < 256) (hsl : s.length = 32) (hsb : ∀ x ∈ s, x < 256) (hat_ : At w (ad.add (q * 32)) s)
    (ih : ∀ W : World, Below w.heap.size w W → Calls Tryz.prog 16 #[sv leaf, .int .u64 (a : Int), .int .u64 (m : Int), .slice (some ad) q c] W fun e w' => e = .returned (.tuple #[sv L, .bool ok]) ∧ Below W.heap.size W w') :
    Calls Tryz.prog 16 #[sv leaf, .int .u64 (at_ : Int), .int .u64 (size : Int), .slice (some ad) n c] w fun e w' => e = .returned (.tuple #[sv (nodeL s L), .bool ok]) ∧ Below w.heap.size w w' := by
  have e0 : (bvs zero32).toArray = #[.int .u8 0, .int .u8 0, .int .u8 0, .int .u8 0, .int .u8 0, .int .u8 0, .int .u8 0, .int .u8 0, .int .u8 0, .int .u8 0, .int .u8 0, .int .u8 0, .int .u8 0, .int .u8 0, .int .u8 0, .int .u8 0, .int .u8 0, .int .u8 0, .int .u8 0, .int .u8 0, .int .u8 0, .int .u8 0, .int .u8 0, .int .u8 0, .int .u8 0, .int .u8 0, .int .u8 0, .int .u8 0, .int .u8 0, .int .u8 0, .int .u8 0, .int .u8 0] := rfl
  have h1 := leadIn_of w leaf
  rw [e0] at h1
  clear e0
  have hcl := cutN_lt h2
  have hcp := cutN_pos size
  rw [hk0] at hcl hcp
  obtain ⟨w1, hw1⟩ : ∃ w1, w1 = (w.alloc (.cells (bvs leaf).toArray 24)).alloc (.cells #[.int .u8 0, .int .u8 0, .int .u8 0, .int .u8 0, .int .u8 0, .int .u8 0, .int .u8 0, .int .u8 0, .int .u8 0, .int .u8 0, .int .u8 0, .int .u8 0, .int .u8 0, .int .u8 0, .int .u8 0, .int .u8 0, .int .u8 0, .int .u8 0, .int .u8 0, .int .u8 0, .int .u8 0, .int .u8 0, .int .u8 0, .int .u8 0, .int .u8 0, .int .u8 0, .int .u8 0, .int .u8 0, .int .u8 0, .int .u8 0, .int .u8 0, .int .u8 0] 24) := ⟨_, rfl⟩
  rw [← hw1] at h1
  have H1 := Lib.hid h1
  have HW := Lib.hid hw1
  have ht := run_take_sums (ad := ad) (n := n) (c := c) (k := q) (by omega) hc
  have HAs := Lib.hid (hat_.below h1.below)
  have HL := Lib.hid (And.intro hLl (And.intro hLb (And.intro hsl hsb)))
  have IH := Lib.hid ih
  obtain ⟨N, hN⟩ : ∃ N, nodeL s L = N := ⟨_, rfl⟩
  have hNl : N.length = 32 := by rw [← hN]; exact nodeL_length _ _
  have CN := Lib.hid (fun (W : World) => (refNode_any s L W hsl hLl hsb hLb).mono (R' := fun e w' => e = .returned (sv N) ∧ Below W.heap.size W w') fun e w' ⟨he, hb⟩ => ⟨by rw [he, hN], hb⟩)
  rw [hN]
  have hs1 : ((size : Int) == 1) = false := by simp; omega
  have n0 : ((n : Int) == 0) = false := by simp; omega
  have hai : ¬ (at_ : Int) < (k : Int) := by omega
  have CM := Lib.hid (fun (W : World) => refCut_all size W h2 hz)
  rw [hk0] at CM
  have hq0 : (0 : Int) ≤ (q : Int) := by omega
  have hqn : (q : Int) < (n : Int) := by omega
  have nsub : (n : Int) - 1 = (q : Int) := by omega
  have ea : IntKind.u64.wrap ((at_ : Int) - (k : Int)) = (a : Int) := by rw [IntKind.wrap_u64]; omega
  have em : IntKind.u64.wrap ((size : Int) - (k : Int)) = (m : Int) := by rw [IntKind.wrap_u64]; omega
  have wq : wrap64 (q : Int) = (q : Int) := by simp only [wrap64]; omega
  clear h1 hw1 ih hN hcl hcp hc hn h0 h2 hz hat hk0 ha hq hLl hLb hsb hat_ ha0 hm0
  unfold sv
  go_enter Tryz.func16, Tryz.ntmps16
  go_upto_region 1 with fail
  rw [← HW.out]
  go_upto_region 6 with (first | with_reducible refine wpList_load_sum rfl (.tmp 30) rfl (ad.add (q * 32)) rfl s hsl HAs.out ?_ | with_reducible refine wpList_store_new w1 _ rfl rfl (.tmp 10) (.tmp 31) rfl rfl s hsl rfl ?_)
  have b2 := below_alloc w1 (.cells (bvs s).toArray 24)
  have g2 := BArr.new w1 24 s
  obtain ⟨w2, hw2⟩ : ∃ w2, w2 = w1.alloc (.cells (bvs s).toArray 24) := ⟨_, rfl⟩
  rw [← hw2] at b2 g2 ⊢
  have H2 := Lib.hid (And.intro (below_on H1.out.below (Nat.le_refl _) b2) (And.intro (H1.out.leaf.below b2) (And.intro (H1.out.res.below b2) g2)))
  clear hw2 b2 g2
  have hAl := Lib.hid H2.out.2.1.at_
  go_wp2_with fail
  refine (CM.out w2).mono ?_
  rintro e w3 ⟨rfl, hw3⟩
  rw [hw3]
  clear hw3 w3
  go_wp2_with (with_reducible refine wpList_load_sum rfl (.tmp 4) rfl ⟨w.heap.size, 0, none⟩ rfl leaf hl hAl.out ?_)
  refine (IH.out w2 H2.out.1).mono ?_
  rintro e w3 ⟨rfl, hb3⟩
  have hLl := HL.out.1
  go_upto_region 12 with (with_reducible refine wpList_store_new w3 _ rfl rfl (.tmp 14) (.tmp 64) rfl rfl L hLl rfl ?_)
  have b4 := below_alloc w3 (.cells (bvs L).toArray 24)
  have g4 := BArr.new w3 24 L
  obtain ⟨w4, hw4⟩ : ∃ w4, w4 = w3.alloc (.cells (bvs L).toArray 24) := ⟨_, rfl⟩
  rw [← hw4] at b4 g4 ⊢
  have b34 := below_on hb3 (Nat.le_refl _) b4
  have H4 := Lib.hid (And.intro (below_on H2.out.1 (Nat.le_refl _) b34) (And.intro (H2.out.2.2.1.below b34) (And.intro (H2.out.2.2.2.below b34) g4)))
  clear hw4 b4 g4 hb3 b34
  have hAL := Lib.hid H4.out.2.2.2.at_
  have hAS := Lib.hid H4.out.2.2.1.at_
  go_wp2_with (first | with_reducible refine wpList_load_sum rfl (.tmp 14) rfl ⟨w3.heap.size, 0, none⟩ rfl L hLl hAL.out ?_ | with_reducible refine wpList_load_sum rfl (.tmp 10) rfl ⟨w1.heap.size, 0, none⟩ rfl s hsl hAS.out ?_)
  refine (CN.out w4).mono ?_
  rintro e w5 ⟨rfl, hb5⟩
  have f5 := H4.out.2.1.below hb5
  have HZ32 := Lib.hid (show zero32.length = 32 from rfl)
  go_wp2_with (with_reducible refine wpList_store_sum rfl (.tmp 8) (.tmp 68) rfl (w.heap.size + 1) rfl zero32 N HZ32 hNl f5 rfl ?_)
  refine bodyPost_ret_by (v := .tuple #[sv N, .bool ok]) (results_cell_tmp (p := 8) (q := 9) (ty := 24) (by kernel_rfl) _ _ ⟨w.heap.size + 1, 0, none⟩ (sv N) rfl (run_load_sum _ _ N hNl (f5.setRow N).at_)) rfl ?_
  exact ⟨rfl, below_setRow (below_on H4.out.1 (Nat.le_refl _) hb5) (Nat.le_succ _) _⟩

end

theorem refLead_any : ∀ (size at_ n : Nat) (A : Option Addr) (c : Nat) (ys leaf : List Nat) (w : World), InS w A n ys → (∀ x ∈ ys, x < 256) → n ≤ c → n ≤ 1000000 → leaf.length = 32 → (∀ x ∈ leaf, x < 256) → size < 18446744073709551616 → at_ < size →
    Calls Tryz.prog 16 #[sv leaf, .int .u64 (at_ : Int), .int .u64 (size : Int), .slice A n c] w fun e w' => e = .returned (.tuple #[sv (leadsR (nth ys) leaf at_ size n).1, .bool (leadsR (nth ys) leaf at_ size n).2]) ∧ Below w.heap.size w w' := by
  intro size
  induction size using Nat.strongRecOn with
  | ind size ih =>
    intro at_ n A c ys leaf w hin hy hc hn hl hb hz hat
    by_cases h2 : size < 2
    · obtain rfl : size = 1 := by omega
      rw [leadsR_one _ _ h2]
      exact refLead_one hl
    · by_cases h0 : n = 0
      · subst h0
        rw [leadsR_nil _ _ (by omega) rfl]
        exact refLead_nil (by omega)
      · have hcl := cutN_lt (m := size) (by omega)
        have hcp := cutN_pos size
        obtain ⟨ad, hA, hsl, hat2⟩ := hin.at_ (k := n - 1) (by omega)
        subst hA
        have cg : ∀ sz a, leadsR (nth (ys.take (32 * (n - 1)))) leaf a sz (n - 1) = leadsR (nth ys) leaf a sz (n - 1) := fun sz a => leadsR_congr _ _ leaf sz a (n - 1) fun i hi => nth_take hi
        have it := hin.take (k := n - 1) (by omega)
        have yt : ∀ x ∈ ys.take (32 * (n - 1)), x < 256 := fun x hx => hy x (List.mem_of_mem_take hx)
        by_cases ha : at_ < cutN size
        · rw [leadsR_low _ _ (by omega) (by omega) ha]
          refine refLead_low hl hc hn (by omega) (by omega) hz hat rfl ha rfl (leadsR_length _ _ hl _ _ _) (leadsR_lt _ _ hb _ _ _) hsl (nth_lt hy _) hat2 fun W hW => ?_
          have := ih (cutN size) hcl at_ (n - 1) (some ad) c _ leaf W (it.below hW) yt (by omega) (by omega) hl hb (by omega) ha
          rw [cg] at this
          exact this
        · rw [leadsR_high _ _ (by omega) (by omega) ha]
          refine refLead_high hl hc hn (by omega) (by omega) hz hat rfl ha rfl rfl rfl (leadsR_length _ _ hl _ _ _) (leadsR_lt _ _ hb _ _ _) hsl (nth_lt hy _) hat2 fun W hW => ?_
          have := ih (size - cutN size) (by omega) (at_ - cutN size) (n - 1) (some ad) c _ leaf W (it.below hW) yt (by omega) (by omega) hl hb (by omega) (by omega)
          rw [cg] at this
          exact this

section
variable {w : World} {n c : Nat} {A : Option Addr} {ys leaf root : List Nat} {at_ size : Nat}

set_option maxRecDepth 100000 in
set_option maxHeartbeats 2000000 in
theorem refCheck_far (hge : size ≤ at_) :
    Calls Tryz.prog 9 #[sv leaf, .int .u64 (at_ : Int), .int .u64 (size : Int), .slice A n c, sv root] w fun e w' => e = .returned (.bool false) ∧ Below w.heap.size w w' := by
  have H1 := Lib.hid (checkIn_of w leaf root)
  have hi : (size : Int) ≤ (at_ : Int) := by omega
  unfold sv
  go_enter Tryz.func9, Tryz.ntmps9
  go_wp2_with fail
  go_ret
  exact ⟨rfl, H1.out.below⟩

set_option maxRecDepth 100000 in
set_option maxHeartbeats 2000000 in
theorem refCheck_at (b : Bool) (hm : n ≤ 64) (s : List Nat) (hsl : s.length = 32) (hl : leaf.length = 32) (hr : root.length = 32) (hlt : at_ < size)
    (ce : ∀ w' : World, Below w.heap.size w w' → Calls Tryz.prog 16 #[sv leaf, .int .u64 (at_ : Int), .int .u64 (size : Int), .slice A n c] w' fun e w'' => e = .returned (.tuple #[sv s, .bool b]) ∧ Below w'.heap.size w' w'') :
    Calls Tryz.prog 9 #[sv leaf, .int .u64 (at_ : Int), .int .u64 (size : Int), .slice A n c, sv root] w fun e w' => e = .returned (.bool (b && decide (s = root))) ∧ Below w.heap.size w w' := by
  have e0 : (bvs zero32).toArray = #[.int .u8 0, .int .u8 0, .int .u8 0, .int .u8 0, .int .u8 0, .int .u8 0, .int .u8 0, .int .u8 0, .int .u8 0, .int .u8 0, .int .u8 0, .int .u8 0, .int .u8 0, .int .u8 0, .int .u8 0, .int .u8 0, .int .u8 0, .int .u8 0, .int .u8 0, .int .u8 0, .int .u8 0, .int .u8 0, .int .u8 0, .int .u8 0, .int .u8 0, .int .u8 0, .int .u8 0, .int .u8 0, .int .u8 0, .int .u8 0, .int .u8 0, .int .u8 0] := rfl
  obtain ⟨w1, hw1⟩ : ∃ w1, w1 = (w.alloc (.cells (bvs leaf).toArray 24)).alloc (.cells (bvs root).toArray 24) := ⟨_, rfl⟩
  have h1 := checkIn_of w leaf root
  rw [← hw1] at h1
  have H1 := Lib.hid h1
  have HW := Lib.hid hw1
  have CE := Lib.hid (ce w1 h1.below)
  have hi : ¬ (size : Int) ≤ (at_ : Int) := by omega
  have hj : ¬ (64 : Int) < (n : Int) := by omega
  have hA := Lib.hid h1.leaf.at_
  have HR := Lib.hid hr
  clear h1 hw1 ce hlt e0 hr hm
  unfold sv
  go_enter Tryz.func9, Tryz.ntmps9
  go_upto_region 1 with fail
  rw [← HW.out]
  go_wp2_with (with_reducible refine wpList_load_sum rfl (.tmp 5) rfl ⟨w.heap.size, 0, none⟩ rfl leaf hl hA.out ?_)
  refine CE.out.mono ?_
  rintro e w2 ⟨rfl, hb2⟩
  go_upto_region 4 with (with_reducible refine wpList_store_new w2 _ rfl rfl (.tmp 11) (.tmp 27) rfl rfl s hsl rfl ?_)
  have b3 := below_alloc w2 (.cells (bvs s).toArray 24)
  have g3 := BArr.new w2 24 s
  obtain ⟨w3, hw3⟩ : ∃ w3, w3 = w2.alloc (.cells (bvs s).toArray 24) := ⟨_, rfl⟩
  rw [← hw3] at b3 g3 ⊢
  clear hw3
  have gr := Lib.hid ((H1.out.root.below hb2).below b3).at_
  have gs := Lib.hid g3.at_
  have HB := Lib.hid ((below_on H1.out.below (Nat.le_refl _) hb2).trans (b3.mono (below_on H1.out.below (Nat.le_refl _) hb2).size))
  have hrl := HR.out
  have q1 := run_eql_sum s root hsl hrl
  have q2 := fun x y => run_guard_eql x y s root
  clear b3 g3 hb2
  cases b
  · go_wp2_with fail
    go_ret
    exact ⟨rfl, HB.out⟩
  · go_wp2_with (first | with_reducible refine wpList_load_sum_g rfl (.tmp 11) rfl ⟨w2.heap.size, 0, none⟩ rfl s hsl gs.out ?_ | with_reducible refine wpList_load_sum_g rfl (.tmp 9) rfl ⟨w.heap.size + 1, 0, none⟩ rfl root hrl gr.out ?_)
    go_ret
    exact ⟨rfl, HB.out⟩

set_option maxRecDepth 100000 in
set_option maxHeartbeats 2000000 in
theorem refCheck_many (hlt : at_ < size) (hm : 64 < n) :
    Calls Tryz.prog 9 #[sv leaf, .int .u64 (at_ : Int), .int .u64 (size : Int), .slice A n c, sv root] w fun e w' => e = .returned (.bool false) ∧ Below w.heap.size w w' := by
  have H1 := Lib.hid (checkIn_of w leaf root)
  have hi : ¬ (size : Int) ≤ (at_ : Int) := by omega
  have hj : (64 : Int) < (n : Int) := by omega
  unfold sv
  go_enter Tryz.func9, Tryz.ntmps9
  go_wp2_with fail
  go_ret
  exact ⟨rfl, H1.out.below⟩


theorem refCheck_any (hin : InS w A n ys) (hy : ∀ x ∈ ys, x < 256) (hc : n ≤ c) (hl : leaf.length = 32) (hb : ∀ x ∈ leaf, x < 256) (hr : root.length = 32) (hz : size < 18446744073709551616) :
    Calls Tryz.prog 9 #[sv leaf, .int .u64 (at_ : Int), .int .u64 (size : Int), .slice A n c, sv root] w fun e w' => e = .returned (.bool (inTree ys leaf root n at_ size)) ∧ Below w.heap.size w w' := by
  unfold inTree
  by_cases hat : at_ < size
  · rw [decide_eq_true hat, Bool.true_and]
    by_cases hm : n ≤ 64
    · have he := leadsR_eq (nth ys) leaf size at_ n
      have := refCheck_at (w := w) (n := n) (c := c) (A := A) (root := root) (leadsR (nth ys) leaf at_ size n).2 hm (leadsR (nth ys) leaf at_ size n).1 (leadsR_length _ _ hl _ _ _) hl hr hat fun w' hb' => refLead_any size at_ n A c ys leaf w' (hin.below hb') hy hc (by omega) hl hb hz hat
      rw [he.1] at this
      by_cases hd : dep at_ size = n
      · rw [he.2 hd] at this; exact this
      · rw [decide_eq_false hd, Bool.false_and] at this ⊢; exact this
    · have := dep_64 (n := size) (at_ := at_) hat (by omega)
      rw [decide_eq_false (p := dep at_ size = n) (by omega), Bool.false_and]
      exact refCheck_many hat (by omega)
  · rw [decide_eq_false hat, Bool.false_and]
    exact refCheck_far (by omega)
end

end Go.Proofs.YtppfdpnplemfkaaGreatDoor

/-
  SameSums.
-/
namespace Go.Proofs.YtppfdpnplemfkaaGreatDoor
open Go.RowKit

set_option maxRecDepth 100000 in
set_option maxHeartbeats 1000000 in
theorem sameSums_yes (A A2 : Option Addr) (n c c2 : Nat) (ys : List Nat) (w : World) (hin : InS w A n ys) (hin2 : InS w A2 n ys) (hn : n ≤ 200000000000000) :
    Calls Tryz.prog 7 #[.slice A n c, .slice A2 n c2] w fun e w' => e = .returned (.bool true) ∧ ∃ q, w' = w.drewN q := by
  have dn : ((n : Int) != (n : Int)) = false := by simp
  go_enter Tryz.func7, Tryz.ntmps7
  go_wp2
  go_loopw [5] (fun i wr => ∃ j : Nat, j ≤ n ∧ i = .int .i64 (j : Int) ∧ ∃ q, wr = w.drewN q) (fun i _ => n - (intOf i).toNat)
  case atStart => exact ⟨0, Nat.zero_le _, rfl, 0, rfl⟩
  case round =>
    obtain ⟨j, hj, rfl, q, rfl⟩ := hrel
    by_cases hlt : j < n
    · obtain ⟨ad, rfl, hl, hat⟩ := hin.at_ hlt
      obtain ⟨ad2, rfl, _, hat2⟩ := hin2.at_ hlt
      have i1 : (j : Int) < (n : Int) := by omega
      go_wp2
      refine wp_region_quiet_lit (by kernel_rfl) (by kernel_rfl) ?_
      iterate 3 quiet_step (fail)
      refine wpQuiet_step (fun K hK => ?_)
      refine quiet_load_sum rfl (.tmp 19) rfl (ad.add (j * 32)) rfl (nth ys j) hl (fun W hW => by obtain ⟨m, rfl⟩ := hW; exact hat) ?_
      go_simp
      refine hK _ ?_
      clear hK K
      iterate 3 quiet_step (fail)
      refine wpQuiet_step (fun K hK => ?_)
      refine quiet_load_sum rfl (.tmp 23) rfl (ad2.add (j * 32)) rfl (nth ys j) hl (fun W hW => by obtain ⟨m, rfl⟩ := hW; exact hat2) ?_
      go_simp
      refine hK _ ?_
      clear hK K
      have hne := run_neq_sum (nth ys j) (nth ys j) hl hl
      simp only [decide_true, Bool.not_true] at hne
      have hgd := fun x y => run_guard_neq x y (nth ys j) (nth ys j)
      quiet_step (fail)
      refine wpQuiet_nil ?_
      rintro _ ⟨nq, rfl⟩
      rw [World.drewN_drewN]
      clear hne hgd
      go_wp2
      go_roundw
      case rel => exact ⟨j + 1, by omega, by go_num, q + nq, rfl⟩
      case measure => simp [intOf]; omega
    · go_wp2
      go_ret
      exact ⟨rfl, q, rfl⟩

end Go.Proofs.YtppfdpnplemfkaaGreatDoor

/-
  almonerlaw10.PathsOf.
-/
namespace Go.Proofs.YtppfdpnplemfkaaGreatDoor
open Go.RowKit

section
variable {w : World} {leaf root ys zs : List Nat} {at_ size n c m d : Nat} {A B : Option Addr} {z : Int}

set_option maxRecDepth 100000 in
set_option maxHeartbeats 4000000 in
theorem of_else (hl : leaf.length = 32) (h : 100 < n ∨ 200 < m) :
    Calls Tryz.prog 3 #[.slice A n c, .int .i64 z, .agg (saidL leaf at_ size B m d root).toArray] w fun e w' => e = .returned (.bool true) ∧ Below w.heap.size w w' := by
  obtain ⟨w1, hw1⟩ : ∃ w1, w1 = w.alloc (.cells (saidL leaf at_ size B m d root).toArray 27) := ⟨_, rfl⟩
  have s1 : SaidAt w1 w.heap.size leaf at_ size B m d root := by rw [hw1]; exact said_new w hl
  have b1 : Below w.heap.size w w1 := by rw [hw1]; exact below_alloc _ _
  obtain ⟨S, hS⟩ : ∃ S, (saidL leaf at_ size B m d root).toArray = S := ⟨_, rfl⟩
  rw [hS] at hw1 ⊢
  clear hS
  have c4 := s1.path
  have HW := Lib.hid hw1
  have HB := Lib.hid b1
  clear hw1 s1 b1 hl
  by_cases h1 : 100 < n
  · have hi : (100 : Int) < (n : Int) := by omega
    go_enter Tryz.func3, Tryz.ntmps3
    go_upto_region 1 with fail
    rw [← HW.out]
    go_wp2_with fail
    go_ret
    exact ⟨rfl, HB.out⟩
  · have hi : ¬ (100 : Int) < (n : Int) := by omega
    have hj : (200 : Int) < (m : Int) := by omega
    go_enter Tryz.func3, Tryz.ntmps3
    go_upto_region 1 with fail
    rw [← HW.out]
    go_wp2_with fail
    go_ret
    exact ⟨rfl, HB.out⟩

set_option maxRecDepth 100000 in
set_option maxHeartbeats 8000000 in
theorem of_main (hk : Knows w) (hs : Starts w) (cm : CameS w A n c ys) (cz : CameS w B m d zs) (hl : leaf.length = 32) (hb : ∀ x ∈ leaf, x < 256) (h1 : at_ < 18446744073709551616) (h2 : size < 18446744073709551616) (hr : root.length = 32) (hn : n ≤ 100) (hm : m ≤ 200)
    (dd : Nat) (E : Int) (P : List Nat) (hdd : dd ≤ 64) (hE : (E != E) = false)
    (co : ∀ (W : World) (ad : Addr) (c' : Nat), Below w.heap.size w W → InS W (some ad) n ys → n ≤ c' → Calls Tryz.prog 5 #[.slice (some ad) n c', .int .i64 z] W fun e w' => ∃ A' c', e = .returned (.tuple #[.slice A' dd c', .int .i64 E]) ∧ w'.ownsRow W.heap.size 24 32 (.slice A' dd c') dd (bvs P) ∧ Below W.heap.size W w')
    (cr : ∀ W : World, Below w.heap.size w W → Calls Tryz.prog 6 #[.slice A n c, .int .i64 z] W fun e w' => ∃ A' c', e = .returned (.tuple #[.slice A' dd c', .int .i64 E]) ∧ w'.ownsRow W.heap.size 24 32 (.slice A' dd c') dd (bvs P) ∧ Below W.heap.size W w') :
    Calls Tryz.prog 3 #[.slice A n c, .int .i64 z, .agg (saidL leaf at_ size B m d root).toArray] w fun e w' => e = .returned (.bool true) ∧ Below w.heap.size w w' := by
  obtain ⟨w1, hw1⟩ : ∃ w1, w1 = w.alloc (.cells (saidL leaf at_ size B m d root).toArray 27) := ⟨_, rfl⟩
  have s1 : SaidAt w1 w.heap.size leaf at_ size B m d root := by rw [hw1]; exact said_new w hl
  have b1 : Below w.heap.size w w1 := by rw [hw1]; exact below_alloc _ _
  obtain ⟨S, hS⟩ : ∃ S, (saidL leaf at_ size B m d root).toArray = S := ⟨_, rfl⟩
  rw [hS] at hw1 ⊢
  clear hS
  have HW := Lib.hid hw1
  have H1 := Lib.hid (And.intro b1 s1)
  have CO := Lib.hid co
  have CR := Lib.hid cr
  have HE := Lib.hid hE
  have c4 := s1.path
  have HF := Lib.hid (And.intro cm (And.intro cz (And.intro hl (And.intro hb (And.intro hr (And.intro hn (And.intro hm (And.intro hdd (And.intro h1 h2)))))))))
  have hi : ¬ (100 : Int) < (n : Int) := by omega
  have hj : ¬ (200 : Int) < (m : Int) := by omega
  have CT := Lib.hid (twinSums_own A n c ys w1 (cm.in_.below b1) (by omega))
  clear hw1 s1 b1 co cr hE cm cz hb h1 h2 hn hm hdd
  go_enter Tryz.func3, Tryz.ntmps3
  go_upto_region 1 with fail
  rw [← HW.out]
  go_wp2_with fail
  refine CT.out.mono ?_
  rintro e w2 ⟨ad1, c1, rfl, tw1, hb2, ow1⟩
  have B2 := Lib.hid (below_on H1.out.1 (Nat.le_refl _) hb2)
  have T1 := Lib.hid (And.intro tw1 ow1)
  have S2 := Lib.hid (H1.out.2.below hb2)
  have G1 := Lib.hid (And.intro hb2.size H1.out.1.size)
  have c4 := S2.out.path
  have CU := Lib.hid (twinSums_own B m d zs w2 (HF.out.2.1.in_.below B2.out) (by have := HF.out; omega))
  clear tw1 ow1 hb2 CT
  go_wp2_with fail
  refine CU.out.mono ?_
  rintro e w3 ⟨ad2, c2, rfl, tw2, hb3, ow2⟩
  have B3 := Lib.hid (below_on B2.out (Nat.le_refl _) hb3)
  have T2 := Lib.hid (And.intro (And.intro (T1.out.1.below hb3) (own_on T1.out.2 hb3)) (And.intro tw2 ow2))
  have S3 := Lib.hid (S2.out.below hb3)
  have G2 := Lib.hid (And.intro G1.out.1 (And.intro G1.out.2 hb3.size))
  have F1 := Lib.hid T1.out.2
  clear tw2 ow2 hb3 CU S2 T1 G1 c4
  go_wp2_with fail
  refine (CO.out w3 ad1 c1 B3.out T2.out.1.1.in_ (by have := T2.out.1.1.cap; omega)).mono ?_
  rintro e w4 ⟨A4, c4, rfl, ow4, hb4⟩
  have B4 := Lib.hid (below_on B3.out (Nat.le_refl _) hb4)
  have T3 := Lib.hid (And.intro (And.intro (T2.out.1.1.below hb4) (own_on T2.out.1.2 hb4)) (And.intro (And.intro (T2.out.2.1.below hb4) (own_on T2.out.2.2 hb4)) ow4))
  have S4 := Lib.hid (S3.out.below hb4)
  have F2 := Lib.hid T2.out.2.2
  have G3 := Lib.hid (And.intro G2.out hb4.size)
  clear ow4 hb4 S3 T2 G2
  go_wp2_with fail
  refine (CR.out w4 B4.out).mono ?_
  rintro e w5 ⟨A5, c5, rfl, ow5, hb5⟩
  have B5 := Lib.hid (below_on B4.out (Nat.le_refl _) hb5)
  have T5 := Lib.hid (And.intro (And.intro (T3.out.1.1.below hb5) (own_on T3.out.1.2 hb5)) (And.intro (And.intro (T3.out.2.1.1.below hb5) (own_on T3.out.2.1.2 hb5)) (And.intro (own_on T3.out.2.2 hb5) (InS.of_own ow5))))
  have S5 := Lib.hid (S4.out.below hb5)
  clear ow5 hb5 S4 T3 CO CR
  obtain ⟨q, hq⟩ : ∃ q, inTree zs leaf root m at_ size = q := ⟨_, rfl⟩
  have C1 := Lib.hid (fun (W : World) (hW : Below w5.heap.size w5 W) => later (v' := .bool q) hW (by rw [hq]) (check_any (A := some ad2) (c := c2) (at_ := at_) (size := size) (T5.out.2.1.1.in_.below hW) HF.out.2.1.lt (by have := T5.out.2.1.1.cap; omega) (by have := HF.out; omega) HF.out.2.2.1 HF.out.2.2.2.1 HF.out.2.2.2.2.1 HF.out.2.2.2.2.2.2.2.2.2 (hk.below (below_on B5.out (Nat.le_refl _) hW)) (hs.below (below_on B5.out (Nat.le_refl _) hW))))
  have C2 := Lib.hid (fun (W : World) (hW : Below w5.heap.size w5 W) => later (v' := .bool q) hW (by rw [hq]) (refCheck_any (A := B) (c := d) (at_ := at_) (size := size) (HF.out.2.1.in_.below (below_on B5.out (Nat.le_refl _) hW)) HF.out.2.1.lt HF.out.2.1.cap HF.out.2.2.1 HF.out.2.2.2.1 HF.out.2.2.2.2.1 HF.out.2.2.2.2.2.2.2.2.2))
  have C3 := Lib.hid (fun (W : World) (hW : Below w5.heap.size w5 W) => later (v' := .bool true) hW rfl (leftSums_yes A ad1 n c1 c ys W (T5.out.1.1.below hW) (HF.out.1.in_.below (below_on B5.out (Nat.le_refl _) hW)) (by have := HF.out; omega)))
  have C4 := Lib.hid (fun (W : World) (hW : Below w5.heap.size w5 W) => later (v' := .bool true) hW rfl (leftSums_yes B ad2 m c2 d zs W (T5.out.2.1.1.below hW) (HF.out.2.1.in_.below (below_on B5.out (Nat.le_refl _) hW)) (by have := HF.out; omega)))
  have hl := HF.out.2.2.1
  have hr := HF.out.2.2.2.2.1
  have hE := HE.out
  have KS := Lib.hid (fun (W : World) (hW : Below w5.heap.size w5 W) => S5.out.below hW)
  obtain ⟨b, hb0⟩ : ∃ b, w.heap.size = b := ⟨_, rfl⟩
  have HB0 := Lib.hid hb0
  have KS2 : Hid (∀ W : World, Below w5.heap.size w5 W → SaidAt W b leaf at_ size B m d root) := by rw [← hb0]; exact KS
  clear hq KS hb0 hk hs
  go_upto_region 7 with fail
  try rw [HB0.out]
  refine wp_region_held_drew (S := fun W => Below w5.heap.size w5 W) (by kernel_rfl) ((Below.refl _ _).drew) (fun hT0 => ?_)
  change wpAnyH _ _ _ _ _ _ _ _ w5.drew
  refine' wpAnyH_take (i := 0) (oi := _) (v := _) ?hip0 (by kernel_rfl) ?hfp0 ?hrp0 ?hQp0 ?hyp0 hT0 ?restp0
  case hip0 => (simp only [List.getElem?_toArray, List.getElem?_cons_zero]; rfl)
  case hfp0 => kernel_rfl
  case hrp0 => kernel_rfl
  case hQp0 => exact fun _ _ _ h => h
  case hyp0 => refine Or.inl ⟨by rfl, ?_⟩; intro W hSw; go_simp; try with_reducible rfl
  try simp only [Act.put, List.setIfInBounds_toArray, List.set_cons_zero, List.set_cons_succ]
  refine' wpAnyH_take (i := 1) (oi := _) (v := _) ?hip1 (by kernel_rfl) ?hfp1 ?hrp1 ?hQp1 ?hyp1 hT0 ?restp1
  case hip1 => (simp only [List.getElem?_toArray, List.getElem?_cons_zero, List.getElem?_cons_succ]; rfl)
  case hfp1 => kernel_rfl
  case hrp1 => kernel_rfl
  case hQp1 => exact fun _ _ _ h => h
  case hyp1 => refine Or.inl ⟨by rfl, ?_⟩; intro W hSw; go_simp; try with_reducible rfl
  try simp only [Act.put, List.setIfInBounds_toArray, List.set_cons_zero, List.set_cons_succ]
  refine' wpAnyH_take (i := 2) (oi := _) (v := _) ?hip2 (by kernel_rfl) ?hfp2 ?hrp2 ?hQp2 ?hyp2 hT0 ?restp2
  case hip2 => (simp only [List.getElem?_toArray, List.getElem?_cons_zero, List.getElem?_cons_succ]; rfl)
  case hfp2 => kernel_rfl
  case hrp2 => kernel_rfl
  case hQp2 => exact fun _ _ _ h => h
  case hyp2 => refine Or.inl ⟨by rfl, ?_⟩; intro W hSw; go_simp; try with_reducible rfl
  try simp only [Act.put, List.setIfInBounds_toArray, List.set_cons_zero, List.set_cons_succ]
  refine' wpAnyH_take (i := 3) (oi := _) (v := _) ?hip3 (by kernel_rfl) ?hfp3 ?hrp3 ?hQp3 ?hyp3 hT0 ?restp3
  case hip3 => (simp only [List.getElem?_toArray, List.getElem?_cons_zero, List.getElem?_cons_succ]; rfl)
  case hfp3 => kernel_rfl
  case hrp3 => kernel_rfl
  case hQp3 => exact fun _ _ _ h => h
  case hyp3 => refine Or.inl ⟨by rfl, ?_⟩; intro W hSw; go_simp; try with_reducible rfl
  try simp only [Act.put, List.setIfInBounds_toArray, List.set_cons_zero, List.set_cons_succ]
  refine' wpAnyH_take (i := 4) (oi := _) (v := _) ?hip4 (by kernel_rfl) ?hfp4 ?hrp4 ?hQp4 ?hyp4 hT0 ?restp4
  case hip4 => (simp only [List.getElem?_toArray, List.getElem?_cons_zero, List.getElem?_cons_succ]; rfl)
  case hfp4 => kernel_rfl
  case hrp4 => kernel_rfl
  case hQp4 => exact fun _ _ _ h => h
  case hyp4 => refine Or.inl ⟨by rfl, ?_⟩; intro W hSw; go_simp; try with_reducible rfl
  try simp only [Act.put, List.setIfInBounds_toArray, List.set_cons_zero, List.set_cons_succ]
  refine' wpAnyH_take (i := 5) (oi := _) (v := _) ?hip5 (by kernel_rfl) ?hfp5 ?hrp5 ?hQp5 ?hyp5 hT0 ?restp5
  case hip5 => (simp only [List.getElem?_toArray, List.getElem?_cons_zero, List.getElem?_cons_succ]; rfl)
  case hfp5 => kernel_rfl
  case hrp5 => kernel_rfl
  case hQp5 => exact fun _ _ _ h => h
  case hyp5 => refine Or.inl ⟨by rfl, ?_⟩; intro W hSw; go_simp; try with_reducible rfl
  try simp only [Act.put, List.setIfInBounds_toArray, List.set_cons_zero, List.set_cons_succ]
  have CS6 := Lib.hid (sameSums_yes A4 A5 dd c4 c5 P w5.drew (((InS.of_own T5.out.2.2.1)).below hT0) (T5.out.2.2.2.below hT0) (by have := HF.out; omega))
  refine wpAnyH_ready (rs := [6]) (by kernel_rfl) (by simp) ?_
  refine' AllReadyH.cons (o := _) ?hip6 (fun K hK => ?_) AllReadyH.nil
  case hip6 => (simp only [List.getElem?_toArray, List.getElem?_cons_zero, List.getElem?_cons_succ]; rfl)
  go_simp
  go_at_call 7
  refine CS6.out.mono ?_
  rintro e WS6 ⟨rfl, qS, hqS⟩
  have hBp1 : Below w5.heap.size w5 WS6 := by rw [hqS]; exact ⟨hT0.os, hT0.tape, hT0.output, hT0.size, hT0.block⟩
  clear hqS
  refine hK.out _ _ hBp1 (fun _ => ?_)
  clear hK K CS6
  try simp only [Act.put, List.setIfInBounds_toArray, List.set_cons_zero, List.set_cons_succ]
  refine' wpAnyH_take (i := 7) (oi := _) (v := _) ?hip7 (by kernel_rfl) ?hfp7 ?hrp7 ?hQp7 ?hyp7 hBp1 ?restp7
  case hip7 => (simp only [List.getElem?_toArray, List.getElem?_cons_zero, List.getElem?_cons_succ]; rfl)
  case hfp7 => kernel_rfl
  case hrp7 => kernel_rfl
  case hQp7 => exact fun _ _ _ h => h
  case hyp7 => refine Or.inl ⟨by rfl, ?_⟩; intro W hSw; go_simp; try with_reducible rfl
  try simp only [Act.put, List.setIfInBounds_toArray, List.set_cons_zero, List.set_cons_succ]
  refine' wpAnyH_take (i := 8) (oi := _) (v := _) ?hip8 (by kernel_rfl) ?hfp8 ?hrp8 ?hQp8 ?hyp8 hBp1 ?restp8
  case hip8 => (simp only [List.getElem?_toArray, List.getElem?_cons_zero, List.getElem?_cons_succ]; rfl)
  case hfp8 => kernel_rfl
  case hrp8 => kernel_rfl
  case hQp8 => exact fun _ _ _ h => h
  case hyp8 => refine Or.inl ⟨by rfl, ?_⟩; intro W hSw; go_simp; try with_reducible rfl
  try simp only [Act.put, List.setIfInBounds_toArray, List.set_cons_zero, List.set_cons_succ]
  refine' wpAnyH_take (i := 9) (oi := _) (v := _) ?hip9 (by kernel_rfl) ?hfp9 ?hrp9 ?hQp9 ?hyp9 hBp1 ?restp9
  case hip9 => (simp only [List.getElem?_toArray, List.getElem?_cons_zero, List.getElem?_cons_succ]; rfl)
  case hfp9 => kernel_rfl
  case hrp9 => kernel_rfl
  case hQp9 => exact fun _ _ _ h => h
  case hyp9 => refine Or.inl ⟨by rfl, ?_⟩; intro W hSw; go_simp; try with_reducible rfl
  try simp only [Act.put, List.setIfInBounds_toArray, List.set_cons_zero, List.set_cons_succ]
  refine' wpAnyH_take (i := 10) (oi := _) (v := _) ?hip10 (by kernel_rfl) ?hfp10 ?hrp10 ?hQp10 ?hyp10 hBp1 ?restp10
  case hip10 => (simp only [List.getElem?_toArray, List.getElem?_cons_zero, List.getElem?_cons_succ]; rfl)
  case hfp10 => kernel_rfl
  case hrp10 => kernel_rfl
  case hQp10 => exact fun _ _ _ h => h
  case hyp10 => refine Or.inl ⟨by rfl, ?_⟩; intro W hSw; go_simp; try with_reducible rfl
  try simp only [Act.put, List.setIfInBounds_toArray, List.set_cons_zero, List.set_cons_succ]
  refine' wpAnyH_take (i := 11) (oi := _) (v := sv (leaf)) ?hip11 (by kernel_rfl) ?hfp11 ?hrp11 ?hQp11 ?hyp11 hBp1 ?restp11
  case hip11 => (simp only [List.getElem?_toArray, List.getElem?_cons_zero, List.getElem?_cons_succ]; rfl)
  case hfp11 => kernel_rfl
  case hrp11 => kernel_rfl
  case hQp11 => exact fun _ _ _ h => h
  case hyp11 => refine yields_sum ?_ (.tmp 50) rfl ⟨b, 0, none⟩ rfl leaf hl (fun W hSw => (KS2.out W hSw).leaf); rfl
  try simp only [Act.put, List.setIfInBounds_toArray, List.set_cons_zero, List.set_cons_succ]
  refine' wpAnyH_take (i := 12) (oi := _) (v := _) ?hip12 (by kernel_rfl) ?hfp12 ?hrp12 ?hQp12 ?hyp12 hBp1 ?restp12
  case hip12 => (simp only [List.getElem?_toArray, List.getElem?_cons_zero, List.getElem?_cons_succ]; rfl)
  case hfp12 => kernel_rfl
  case hrp12 => kernel_rfl
  case hQp12 => exact fun _ _ _ h => h
  case hyp12 => refine Or.inl ⟨by rfl, ?_⟩; intro W hSw; go_simp; try with_reducible rfl
  try simp only [Act.put, List.setIfInBounds_toArray, List.set_cons_zero, List.set_cons_succ]
  refine' wpAnyH_take (i := 13) (oi := _) (v := _) ?hip13 (by kernel_rfl) ?hfp13 ?hrp13 ?hQp13 ?hyp13 hBp1 ?restp13
  case hip13 => (simp only [List.getElem?_toArray, List.getElem?_cons_zero, List.getElem?_cons_succ]; rfl)
  case hfp13 => kernel_rfl
  case hrp13 => kernel_rfl
  case hQp13 => exact fun _ _ _ h => h
  case hyp13 => refine Or.inl ⟨by rfl, ?_⟩; intro W hSw; have hcc := (KS2.out W hSw).at_; go_simp; try with_reducible rfl
  try simp only [Act.put, List.setIfInBounds_toArray, List.set_cons_zero, List.set_cons_succ]
  refine' wpAnyH_take (i := 14) (oi := _) (v := _) ?hip14 (by kernel_rfl) ?hfp14 ?hrp14 ?hQp14 ?hyp14 hBp1 ?restp14
  case hip14 => (simp only [List.getElem?_toArray, List.getElem?_cons_zero, List.getElem?_cons_succ]; rfl)
  case hfp14 => kernel_rfl
  case hrp14 => kernel_rfl
  case hQp14 => exact fun _ _ _ h => h
  case hyp14 => refine Or.inl ⟨by rfl, ?_⟩; intro W hSw; go_simp; try with_reducible rfl
  try simp only [Act.put, List.setIfInBounds_toArray, List.set_cons_zero, List.set_cons_succ]
  refine' wpAnyH_take (i := 15) (oi := _) (v := _) ?hip15 (by kernel_rfl) ?hfp15 ?hrp15 ?hQp15 ?hyp15 hBp1 ?restp15
  case hip15 => (simp only [List.getElem?_toArray, List.getElem?_cons_zero, List.getElem?_cons_succ]; rfl)
  case hfp15 => kernel_rfl
  case hrp15 => kernel_rfl
  case hQp15 => exact fun _ _ _ h => h
  case hyp15 => refine Or.inl ⟨by rfl, ?_⟩; intro W hSw; have hcc := (KS2.out W hSw).size; go_simp; try with_reducible rfl
  try simp only [Act.put, List.setIfInBounds_toArray, List.set_cons_zero, List.set_cons_succ]
  refine' wpAnyH_take (i := 16) (oi := _) (v := _) ?hip16 (by kernel_rfl) ?hfp16 ?hrp16 ?hQp16 ?hyp16 hBp1 ?restp16
  case hip16 => (simp only [List.getElem?_toArray, List.getElem?_cons_zero, List.getElem?_cons_succ]; rfl)
  case hfp16 => kernel_rfl
  case hrp16 => kernel_rfl
  case hQp16 => exact fun _ _ _ h => h
  case hyp16 => refine Or.inl ⟨by rfl, ?_⟩; intro W hSw; go_simp; try with_reducible rfl
  try simp only [Act.put, List.setIfInBounds_toArray, List.set_cons_zero, List.set_cons_succ]
  refine' wpAnyH_take (i := 17) (oi := _) (v := _) ?hip17 (by kernel_rfl) ?hfp17 ?hrp17 ?hQp17 ?hyp17 hBp1 ?restp17
  case hip17 => (simp only [List.getElem?_toArray, List.getElem?_cons_zero, List.getElem?_cons_succ]; rfl)
  case hfp17 => kernel_rfl
  case hrp17 => kernel_rfl
  case hQp17 => exact fun _ _ _ h => h
  case hyp17 => refine Or.inl ⟨by rfl, ?_⟩; intro W hSw; go_simp; try with_reducible rfl
  try simp only [Act.put, List.setIfInBounds_toArray, List.set_cons_zero, List.set_cons_succ]
  refine' wpAnyH_take (i := 18) (oi := _) (v := sv (root)) ?hip18 (by kernel_rfl) ?hfp18 ?hrp18 ?hQp18 ?hyp18 hBp1 ?restp18
  case hip18 => (simp only [List.getElem?_toArray, List.getElem?_cons_zero, List.getElem?_cons_succ]; rfl)
  case hfp18 => kernel_rfl
  case hrp18 => kernel_rfl
  case hQp18 => exact fun _ _ _ h => h
  case hyp18 => refine yields_sum ?_ (.tmp 57) rfl ⟨b, 35, none⟩ rfl root hr (fun W hSw => (KS2.out W hSw).root); rfl
  try simp only [Act.put, List.setIfInBounds_toArray, List.set_cons_zero, List.set_cons_succ]
  refine' wpAnyH_take (i := 20) (oi := _) (v := _) ?hip20 (by kernel_rfl) ?hfp20 ?hrp20 ?hQp20 ?hyp20 hBp1 ?restp20
  case hip20 => (simp only [List.getElem?_toArray, List.getElem?_cons_zero, List.getElem?_cons_succ]; rfl)
  case hfp20 => kernel_rfl
  case hrp20 => kernel_rfl
  case hQp20 => exact fun _ _ _ h => h
  case hyp20 => refine Or.inl ⟨by rfl, ?_⟩; intro W hSw; go_simp; try with_reducible rfl
  try simp only [Act.put, List.setIfInBounds_toArray, List.set_cons_zero, List.set_cons_succ]
  refine' wpAnyH_take (i := 21) (oi := _) (v := sv (leaf)) ?hip21 (by kernel_rfl) ?hfp21 ?hrp21 ?hQp21 ?hyp21 hBp1 ?restp21
  case hip21 => (simp only [List.getElem?_toArray, List.getElem?_cons_zero, List.getElem?_cons_succ]; rfl)
  case hfp21 => kernel_rfl
  case hrp21 => kernel_rfl
  case hQp21 => exact fun _ _ _ h => h
  case hyp21 => refine yields_sum ?_ (.tmp 60) rfl ⟨b, 0, none⟩ rfl leaf hl (fun W hSw => (KS2.out W hSw).leaf); rfl
  try simp only [Act.put, List.setIfInBounds_toArray, List.set_cons_zero, List.set_cons_succ]
  refine' wpAnyH_take (i := 22) (oi := _) (v := _) ?hip22 (by kernel_rfl) ?hfp22 ?hrp22 ?hQp22 ?hyp22 hBp1 ?restp22
  case hip22 => (simp only [List.getElem?_toArray, List.getElem?_cons_zero, List.getElem?_cons_succ]; rfl)
  case hfp22 => kernel_rfl
  case hrp22 => kernel_rfl
  case hQp22 => exact fun _ _ _ h => h
  case hyp22 => refine Or.inl ⟨by rfl, ?_⟩; intro W hSw; go_simp; try with_reducible rfl
  try simp only [Act.put, List.setIfInBounds_toArray, List.set_cons_zero, List.set_cons_succ]
  refine' wpAnyH_take (i := 23) (oi := _) (v := _) ?hip23 (by kernel_rfl) ?hfp23 ?hrp23 ?hQp23 ?hyp23 hBp1 ?restp23
  case hip23 => (simp only [List.getElem?_toArray, List.getElem?_cons_zero, List.getElem?_cons_succ]; rfl)
  case hfp23 => kernel_rfl
  case hrp23 => kernel_rfl
  case hQp23 => exact fun _ _ _ h => h
  case hyp23 => refine Or.inl ⟨by rfl, ?_⟩; intro W hSw; have hcc := (KS2.out W hSw).at_; go_simp; try with_reducible rfl
  try simp only [Act.put, List.setIfInBounds_toArray, List.set_cons_zero, List.set_cons_succ]
  refine' wpAnyH_take (i := 24) (oi := _) (v := _) ?hip24 (by kernel_rfl) ?hfp24 ?hrp24 ?hQp24 ?hyp24 hBp1 ?restp24
  case hip24 => (simp only [List.getElem?_toArray, List.getElem?_cons_zero, List.getElem?_cons_succ]; rfl)
  case hfp24 => kernel_rfl
  case hrp24 => kernel_rfl
  case hQp24 => exact fun _ _ _ h => h
  case hyp24 => refine Or.inl ⟨by rfl, ?_⟩; intro W hSw; go_simp; try with_reducible rfl
  try simp only [Act.put, List.setIfInBounds_toArray, List.set_cons_zero, List.set_cons_succ]
  refine' wpAnyH_take (i := 25) (oi := _) (v := _) ?hip25 (by kernel_rfl) ?hfp25 ?hrp25 ?hQp25 ?hyp25 hBp1 ?restp25
  case hip25 => (simp only [List.getElem?_toArray, List.getElem?_cons_zero, List.getElem?_cons_succ]; rfl)
  case hfp25 => kernel_rfl
  case hrp25 => kernel_rfl
  case hQp25 => exact fun _ _ _ h => h
  case hyp25 => refine Or.inl ⟨by rfl, ?_⟩; intro W hSw; have hcc := (KS2.out W hSw).size; go_simp; try with_reducible rfl
  try simp only [Act.put, List.setIfInBounds_toArray, List.set_cons_zero, List.set_cons_succ]
  refine' wpAnyH_take (i := 26) (oi := _) (v := _) ?hip26 (by kernel_rfl) ?hfp26 ?hrp26 ?hQp26 ?hyp26 hBp1 ?restp26
  case hip26 => (simp only [List.getElem?_toArray, List.getElem?_cons_zero, List.getElem?_cons_succ]; rfl)
  case hfp26 => kernel_rfl
  case hrp26 => kernel_rfl
  case hQp26 => exact fun _ _ _ h => h
  case hyp26 => refine Or.inl ⟨by rfl, ?_⟩; intro W hSw; go_simp; try with_reducible rfl
  try simp only [Act.put, List.setIfInBounds_toArray, List.set_cons_zero, List.set_cons_succ]
  refine' wpAnyH_take (i := 27) (oi := _) (v := _) ?hip27 (by kernel_rfl) ?hfp27 ?hrp27 ?hQp27 ?hyp27 hBp1 ?restp27
  case hip27 => (simp only [List.getElem?_toArray, List.getElem?_cons_zero, List.getElem?_cons_succ]; rfl)
  case hfp27 => kernel_rfl
  case hrp27 => kernel_rfl
  case hQp27 => exact fun _ _ _ h => h
  case hyp27 => refine Or.inl ⟨by rfl, ?_⟩; intro W hSw; have hcc := (KS2.out W hSw).path; go_simp; try with_reducible rfl
  try simp only [Act.put, List.setIfInBounds_toArray, List.set_cons_zero, List.set_cons_succ]
  refine' wpAnyH_take (i := 28) (oi := _) (v := _) ?hip28 (by kernel_rfl) ?hfp28 ?hrp28 ?hQp28 ?hyp28 hBp1 ?restp28
  case hip28 => (simp only [List.getElem?_toArray, List.getElem?_cons_zero, List.getElem?_cons_succ]; rfl)
  case hfp28 => kernel_rfl
  case hrp28 => kernel_rfl
  case hQp28 => exact fun _ _ _ h => h
  case hyp28 => refine Or.inl ⟨by rfl, ?_⟩; intro W hSw; go_simp; try with_reducible rfl
  try simp only [Act.put, List.setIfInBounds_toArray, List.set_cons_zero, List.set_cons_succ]
  refine' wpAnyH_take (i := 29) (oi := _) (v := sv (root)) ?hip29 (by kernel_rfl) ?hfp29 ?hrp29 ?hQp29 ?hyp29 hBp1 ?restp29
  case hip29 => (simp only [List.getElem?_toArray, List.getElem?_cons_zero, List.getElem?_cons_succ]; rfl)
  case hfp29 => kernel_rfl
  case hrp29 => kernel_rfl
  case hQp29 => exact fun _ _ _ h => h
  case hyp29 => refine yields_sum ?_ (.tmp 68) rfl ⟨b, 35, none⟩ rfl root hr (fun W hSw => (KS2.out W hSw).root); rfl
  try simp only [Act.put, List.setIfInBounds_toArray, List.set_cons_zero, List.set_cons_succ]
  refine wpAnyH_ready (rs := [19]) (by kernel_rfl) (by simp) ?_
  refine' AllReadyH.cons (o := _) ?hip19 (fun K hK => ?_) AllReadyH.nil
  case hip19 => (simp only [List.getElem?_toArray, List.getElem?_cons_zero, List.getElem?_cons_succ]; rfl)
  go_simp
  go_at_call 8
  refine (C1.out _ hBp1).mono ?_
  rintro e Wp3 ⟨rfl, hBp2⟩
  refine hK.out _ _ hBp2 (fun _ => ?_)
  clear hK K
  try simp only [Act.put, List.setIfInBounds_toArray, List.set_cons_zero, List.set_cons_succ]
  refine wpAnyH_ready (rs := [30]) (by kernel_rfl) (by simp) ?_
  refine' AllReadyH.cons (o := _) ?hip30 (fun K hK => ?_) AllReadyH.nil
  case hip30 => (simp only [List.getElem?_toArray, List.getElem?_cons_zero, List.getElem?_cons_succ]; rfl)
  go_simp
  go_at_call 9
  refine (C2.out _ hBp2).mono ?_
  rintro e Wp5 ⟨rfl, hBp4⟩
  refine hK.out _ _ hBp4 (fun _ => ?_)
  clear hK K
  try simp only [Act.put, List.setIfInBounds_toArray, List.set_cons_zero, List.set_cons_succ]
  refine' wpAnyH_take (i := 31) (oi := _) (v := _) ?hip31 (by kernel_rfl) ?hfp31 ?hrp31 ?hQp31 ?hyp31 hBp4 ?restp31
  case hip31 => (simp only [List.getElem?_toArray, List.getElem?_cons_zero, List.getElem?_cons_succ]; rfl)
  case hfp31 => kernel_rfl
  case hrp31 => kernel_rfl
  case hQp31 => exact fun _ _ _ h => h
  case hyp31 => refine Or.inl ⟨by rfl, ?_⟩; intro W hSw; go_simp; try with_reducible rfl
  try simp only [Act.put, List.setIfInBounds_toArray, List.set_cons_zero, List.set_cons_succ]
  refine' wpAnyH_take (i := 32) (oi := _) (v := _) ?hip32 (by kernel_rfl) ?hfp32 ?hrp32 ?hQp32 ?hyp32 hBp4 ?restp32
  case hip32 => (simp only [List.getElem?_toArray, List.getElem?_cons_zero, List.getElem?_cons_succ]; rfl)
  case hfp32 => kernel_rfl
  case hrp32 => kernel_rfl
  case hQp32 => exact fun _ _ _ h => h
  case hyp32 => refine Or.inl ⟨by rfl, ?_⟩; intro W hSw; go_simp; try with_reducible rfl
  try simp only [Act.put, List.setIfInBounds_toArray, List.set_cons_zero, List.set_cons_succ]
  refine' wpAnyH_take (i := 33) (oi := _) (v := _) ?hip33 (by kernel_rfl) ?hfp33 ?hrp33 ?hQp33 ?hyp33 hBp4 ?restp33
  case hip33 => (simp only [List.getElem?_toArray, List.getElem?_cons_zero, List.getElem?_cons_succ]; rfl)
  case hfp33 => kernel_rfl
  case hrp33 => kernel_rfl
  case hQp33 => exact fun _ _ _ h => h
  case hyp33 => refine Or.inl ⟨by rfl, ?_⟩; intro W hSw; go_simp; try with_reducible rfl
  try simp only [Act.put, List.setIfInBounds_toArray, List.set_cons_zero, List.set_cons_succ]
  refine' wpAnyH_take (i := 34) (oi := _) (v := _) ?hip34 (by kernel_rfl) ?hfp34 ?hrp34 ?hQp34 ?hyp34 hBp4 ?restp34
  case hip34 => (simp only [List.getElem?_toArray, List.getElem?_cons_zero, List.getElem?_cons_succ]; rfl)
  case hfp34 => kernel_rfl
  case hrp34 => kernel_rfl
  case hQp34 => exact fun _ _ _ h => h
  case hyp34 => refine Or.inl ⟨by rfl, ?_⟩; intro W hSw; go_simp; try with_reducible rfl
  try simp only [Act.put, List.setIfInBounds_toArray, List.set_cons_zero, List.set_cons_succ]
  refine' wpAnyH_take (i := 35) (oi := _) (v := _) ?hip35 (by kernel_rfl) ?hfp35 ?hrp35 ?hQp35 ?hyp35 hBp4 ?restp35
  case hip35 => (simp only [List.getElem?_toArray, List.getElem?_cons_zero, List.getElem?_cons_succ]; rfl)
  case hfp35 => kernel_rfl
  case hrp35 => kernel_rfl
  case hQp35 => exact fun _ _ _ h => h
  case hyp35 => refine Or.inl ⟨by rfl, ?_⟩; intro W hSw; go_simp; try with_reducible rfl
  try simp only [Act.put, List.setIfInBounds_toArray, List.set_cons_zero, List.set_cons_succ]
  refine wpAnyH_ready (rs := [36]) (by kernel_rfl) (by simp) ?_
  refine' AllReadyH.cons (o := _) ?hip36 (fun K hK => ?_) AllReadyH.nil
  case hip36 => (simp only [List.getElem?_toArray, List.getElem?_cons_zero, List.getElem?_cons_succ]; rfl)
  go_simp
  go_at_call 10
  refine (C3.out _ hBp4).mono ?_
  rintro e Wp7 ⟨rfl, hBp6⟩
  refine hK.out _ _ hBp6 (fun _ => ?_)
  clear hK K
  try simp only [Act.put, List.setIfInBounds_toArray, List.set_cons_zero, List.set_cons_succ]
  refine' wpAnyH_take (i := 37) (oi := _) (v := _) ?hip37 (by kernel_rfl) ?hfp37 ?hrp37 ?hQp37 ?hyp37 hBp6 ?restp37
  case hip37 => (simp only [List.getElem?_toArray, List.getElem?_cons_zero, List.getElem?_cons_succ]; rfl)
  case hfp37 => kernel_rfl
  case hrp37 => kernel_rfl
  case hQp37 => exact fun _ _ _ h => h
  case hyp37 => refine Or.inl ⟨by rfl, ?_⟩; intro W hSw; go_simp; try with_reducible rfl
  try simp only [Act.put, List.setIfInBounds_toArray, List.set_cons_zero, List.set_cons_succ]
  refine' wpAnyH_take (i := 38) (oi := _) (v := _) ?hip38 (by kernel_rfl) ?hfp38 ?hrp38 ?hQp38 ?hyp38 hBp6 ?restp38
  case hip38 => (simp only [List.getElem?_toArray, List.getElem?_cons_zero, List.getElem?_cons_succ]; rfl)
  case hfp38 => kernel_rfl
  case hrp38 => kernel_rfl
  case hQp38 => exact fun _ _ _ h => h
  case hyp38 => refine Or.inl ⟨by rfl, ?_⟩; intro W hSw; go_simp; try with_reducible rfl
  try simp only [Act.put, List.setIfInBounds_toArray, List.set_cons_zero, List.set_cons_succ]
  refine' wpAnyH_take (i := 39) (oi := _) (v := _) ?hip39 (by kernel_rfl) ?hfp39 ?hrp39 ?hQp39 ?hyp39 hBp6 ?restp39
  case hip39 => (simp only [List.getElem?_toArray, List.getElem?_cons_zero, List.getElem?_cons_succ]; rfl)
  case hfp39 => kernel_rfl
  case hrp39 => kernel_rfl
  case hQp39 => exact fun _ _ _ h => h
  case hyp39 => refine Or.inl ⟨by rfl, ?_⟩; intro W hSw; go_simp; try with_reducible rfl
  try simp only [Act.put, List.setIfInBounds_toArray, List.set_cons_zero, List.set_cons_succ]
  refine' wpAnyH_take (i := 40) (oi := _) (v := _) ?hip40 (by kernel_rfl) ?hfp40 ?hrp40 ?hQp40 ?hyp40 hBp6 ?restp40
  case hip40 => (simp only [List.getElem?_toArray, List.getElem?_cons_zero, List.getElem?_cons_succ]; rfl)
  case hfp40 => kernel_rfl
  case hrp40 => kernel_rfl
  case hQp40 => exact fun _ _ _ h => h
  case hyp40 => refine Or.inl ⟨by rfl, ?_⟩; intro W hSw; go_simp; try with_reducible rfl
  try simp only [Act.put, List.setIfInBounds_toArray, List.set_cons_zero, List.set_cons_succ]
  refine' wpAnyH_take (i := 41) (oi := _) (v := _) ?hip41 (by kernel_rfl) ?hfp41 ?hrp41 ?hQp41 ?hyp41 hBp6 ?restp41
  case hip41 => (simp only [List.getElem?_toArray, List.getElem?_cons_zero, List.getElem?_cons_succ]; rfl)
  case hfp41 => kernel_rfl
  case hrp41 => kernel_rfl
  case hQp41 => exact fun _ _ _ h => h
  case hyp41 => refine Or.inl ⟨by rfl, ?_⟩; intro W hSw; go_simp; try with_reducible rfl
  try simp only [Act.put, List.setIfInBounds_toArray, List.set_cons_zero, List.set_cons_succ]
  refine' wpAnyH_take (i := 42) (oi := _) (v := _) ?hip42 (by kernel_rfl) ?hfp42 ?hrp42 ?hQp42 ?hyp42 hBp6 ?restp42
  case hip42 => (simp only [List.getElem?_toArray, List.getElem?_cons_zero, List.getElem?_cons_succ]; rfl)
  case hfp42 => kernel_rfl
  case hrp42 => kernel_rfl
  case hQp42 => exact fun _ _ _ h => h
  case hyp42 => refine Or.inl ⟨by rfl, ?_⟩; intro W hSw; have hcc := (KS2.out W hSw).path; go_simp; try with_reducible rfl
  try simp only [Act.put, List.setIfInBounds_toArray, List.set_cons_zero, List.set_cons_succ]
  refine wpAnyH_ready (rs := [43]) (by kernel_rfl) (by simp) ?_
  refine' AllReadyH.cons (o := _) ?hip43 (fun K hK => ?_) AllReadyH.nil
  case hip43 => (simp only [List.getElem?_toArray, List.getElem?_cons_zero, List.getElem?_cons_succ]; rfl)
  go_simp
  go_at_call 10
  refine (C4.out _ hBp6).mono ?_
  rintro e Wp9 ⟨rfl, hBp8⟩
  refine hK.out _ _ hBp8 (fun _ => ?_)
  clear hK K
  try simp only [Act.put, List.setIfInBounds_toArray, List.set_cons_zero, List.set_cons_succ]
  refine' wpAnyH_take (i := 44) (oi := _) (v := _) ?hip44 (by kernel_rfl) ?hfp44 ?hrp44 ?hQp44 ?hyp44 hBp8 ?restp44
  case hip44 => (simp only [List.getElem?_toArray, List.getElem?_cons_zero, List.getElem?_cons_succ]; rfl)
  case hfp44 => kernel_rfl
  case hrp44 => kernel_rfl
  case hQp44 => exact fun _ _ _ h => h
  case hyp44 => refine Or.inl ⟨by rfl, ?_⟩; intro W hSw; go_simp; try with_reducible rfl
  try simp only [Act.put, List.setIfInBounds_toArray, List.set_cons_zero, List.set_cons_succ]
  refine' wpAnyH_take (i := 45) (oi := _) (v := _) ?hip45 (by kernel_rfl) ?hfp45 ?hrp45 ?hQp45 ?hyp45 hBp8 ?restp45
  case hip45 => (simp only [List.getElem?_toArray, List.getElem?_cons_zero, List.getElem?_cons_succ]; rfl)
  case hfp45 => kernel_rfl
  case hrp45 => kernel_rfl
  case hQp45 => exact fun _ _ _ h => h
  case hyp45 => refine Or.inl ⟨by rfl, ?_⟩; intro W hSw; go_simp; try with_reducible rfl
  try simp only [Act.put, List.setIfInBounds_toArray, List.set_cons_zero, List.set_cons_succ]
  refine wpAnyH_done (by kernel_rfl) ?_ _
  have B8 := Lib.hid (below_on B5.out (Nat.le_refl _) hBp8)
  have T8 := Lib.hid (And.intro (own_on T5.out.1.2 hBp8) (And.intro (own_on T5.out.2.1.2 hBp8) (own_on T5.out.2.2.1 hBp8)))
  have HN := Lib.hid (And.intro HF.out.2.2.2.2.2.1 (And.intro HF.out.2.2.2.2.2.2.1 HF.out.2.2.2.2.2.2.2.1))
  clear C1 C2 C3 C4 KS2 S5 hE HE hl hr HF T5 B5 
  obtain ⟨w8, hw8⟩ : ∃ w8, w8 = Wp9 := ⟨_, rfl⟩
  rw [← hw8] at T8 B8 ⊢
  clear hw8
  go_upto_region 10 with fail
  have K0 := book_new w w8 B8.out
  have bb := below_alloc w8 (.cells #[.int .i64 0, .slice none 0 0, .slice none 0 0, .slice none 0 0, .slice none 0 0, .slice none 0 0, .slice none 0 0, .slice none 0 0, .slice none 0 0, .slice none 0 0] 44)
  have o1 := own_on T8.out.1 bb
  have o2 := own_on T8.out.2.1 bb
  have o3 := own_on T8.out.2.2 bb
  obtain ⟨wb, hwb⟩ : ∃ wb, wb = w8.alloc (.cells #[.int .i64 0, .slice none 0 0, .slice none 0 0, .slice none 0 0, .slice none 0 0, .slice none 0 0, .slice none 0 0, .slice none 0 0, .slice none 0 0, .slice none 0 0] 44) := ⟨_, rfl⟩
  rw [← hwb] at K0 bb o1 o2 o3 ⊢
  clear hwb bb
  have l1 := fun b (hb : (Value.slice (some ad1) n c1).ownBlock = some b) => (T8.out.1.lt b hb).2
  have l2 := fun b (hb : (Value.slice (some ad2) m c2).ownBlock = some b) => (T8.out.2.1.lt b hb).2
  have l3 := fun b (hb : (Value.slice A4 dd c4).ownBlock = some b) => (T8.out.2.2.lt b hb).2
  have f1 := fun b (hb : (Value.slice (some ad1) n c1).ownBlock = some b) => (F1.out.lt b hb).2
  have f2 := fun b (hb : (Value.slice (some ad2) m c2).ownBlock = some b) => (F2.out.lt b hb).2
  obtain ⟨kb, hkb⟩ : ∃ kb, w8.heap.size = kb := ⟨_, rfl⟩
  rw [hkb] at K0 l1 l2 l3 ⊢
  clear hkb
  have g01 : w.heap.size ≤ w1.heap.size := G3.out.1.2.1
  have g12 : w1.heap.size ≤ w2.heap.size := G3.out.1.1
  have g23 : w2.heap.size ≤ w3.heap.size := G3.out.1.2.2
  have far1 := held_far (q := 0 + 1) [] (held_none w2.heap.size) f1
  have far2 := held_far (q := 0 + 1 + 1) ([] ++ [(⟨some ad1, n, c1, none, 0, 0, 0 + 1⟩ : Held)]) (fun i k hk b hb => Nat.lt_of_lt_of_le (far1 i k hk b hb) g23) f2
  have CB1 := Lib.hid (book_more K0 o1 g01 (held_none _) (by have := HN.out; omega) (by omega))
  have HH := Lib.hid (And.intro o2 (And.intro o3 (And.intro l2 l3)))
  have HG := Lib.hid (And.intro far1 (And.intro far2 (And.intro (Nat.le_trans g01 g12) (Nat.le_trans (Nat.le_trans g01 g12) g23))))
  clear K0 o1 o2 o3 l1 l2 l3 f1 f2 g01 g12 g23 far1 far2 G3 F1 F2 T8 B8
  go_wp2_with fail
  refine CB1.out.mono ?_
  rintro e x1 ⟨rfl, ⟨ss1, hB1⟩, hu1⟩
  have CB2 := Lib.hid (book_more hB1 (own_kept_but HH.out.1 hu1 (fun b hb h => by have := HH.out.2.2.1 b hb; omega)) HG.out.2.2.1 HG.out.1 (by have := HN.out; omega) (by omega))
  have HX := Lib.hid (own_kept_but HH.out.2.1 hu1 (fun b hb h => by have := HH.out.2.2.2 b hb; omega))
  clear CB1 hB1 hu1
  go_wp2_with fail
  refine CB2.out.mono ?_
  rintro e x2 ⟨rfl, ⟨ss2, hB2⟩, hu2⟩
  have CB3 := Lib.hid (book_more hB2 (own_kept_but HX.out hu2 (fun b hb h => by have := HH.out.2.2.2 b hb; omega)) HG.out.2.2.2 HG.out.2.1 (by have := HN.out; omega) (by omega))
  clear CB2 hB2 hu2 HX
  go_wp2_with fail
  refine CB3.out.mono ?_
  rintro e x3 ⟨rfl, ⟨ss3, hB3⟩, hu3⟩
  have CA := Lib.hid (apart_any kb _ w.heap.size 0 _ (.slice none 0 0) ss3 [] _ x3 hB3.kept)
  have HBL := Lib.hid hB3.bel
  clear CB3 hB3 hu3
  go_wp2_with fail
  refine CA.out.mono ?_
  rintro e x4 ⟨rfl, hb4⟩
  go_wp2_with fail
  go_ret
  refine ⟨rfl, ?_⟩
  first
    | exact HBL.out.trans hb4
    | (rw [← HB0.out]; exact HBL.out.trans hb4)
end

theorem pathsOf_law (w : World) (hk : Knows w) (hs : Starts w) {A B : Option Addr} {n c at_ size m d : Nat} {ys leaf zs root : List Nat} (cm : CameS w A n c ys) (z : Int) (hl : leaf.length = 32) (hb : ∀ x ∈ leaf, x < 256) (h1 : at_ < 18446744073709551616) (h2 : size < 18446744073709551616) (cz : CameS w B m d zs) (hr : root.length = 32) (_ : ∀ x ∈ root, x < 256) :
    Calls Tryz.prog 3 #[.slice A n c, .int .i64 z, .agg (saidL leaf at_ size B m d root).toArray] w fun e w' => e = .returned (.bool true) ∧ Below w.heap.size w w' := by
  by_cases h : 100 < n ∨ 200 < m
  · exact of_else hl h
  · by_cases hz : z < 0 ∨ (n : Int) ≤ z
    · refine of_main hk hs cm cz hl hb h1 h2 hr (by omega) (by omega) 0 1 [] (by omega) (by decide) (fun W ad c' hW hi hc => ?_) (fun W hW => ?_)
      · exact (pof_no (w := W) (n := n) (c := c') (A := some ad) z hz).mono fun e w' ⟨he, hw⟩ => ⟨none, 0, he, own_none _ _ _ _, by rw [hw]; exact Below.refl _ _⟩
      · exact (refOf_no (w := W) (n := n) (c := c) (A := A) z hz).mono fun e w' ⟨he, hw⟩ => ⟨none, 0, he, own_none _ _ _ _, by rw [hw]; exact Below.refl _ _⟩
    · obtain ⟨k, rfl⟩ := Int.eq_ofNat_of_zero_le (a := z) (by omega)
      have hkn : k < n := by omega
      refine of_main hk hs cm cz hl hb h1 h2 hr (by omega) (by omega) (dep k n) 0 (pathL (nth ys) 0 n k).flatten (dep_64 hkn (by omega)) (by decide) (fun W ad c' hW hi hc => ?_) (fun W hW => ?_)
      · exact pof_yes hi cm.lt hc (by omega) hkn (hk.below hW) (hs.below hW)
      · exact refOf_yes (cm.in_.below hW) cm.lt cm.cap (by omega) hkn

end Go.Proofs.YtppfdpnplemfkaaGreatDoor

/-
  Five listed variables: two of them are package shas'.
-/
namespace Go.Proofs.YtppfdpnplemfkaaGreatDoor
open Go.ChangeShapes Go.WideShapes Go.ChangeAt Go.RowKit

def laid5 : List (String × DataW Unit) := [("math/bits.deBruijn32tab", Rows.laid_math_bits_deBruijn32tab), ("math/bits.deBruijn64tab", Rows.laid_math_bits_deBruijn64tab), ("internal/strconv.uint64pow10", Rows.laid_internal_strconv_uint64pow10), ("almoner/shas.start", Rows.laid_almoner_shas_start), ("almoner/shas.added", Rows.laid_almoner_shas_added)]
def isShas (x : String × DataW Unit) : Bool := ["almoner/shas.start", "almoner/shas.added"].contains x.1
theorem laid5_shas : laid5.filter isShas = laid2 := by
  unfold laid5 laid2 isShas
  simp [List.filter]

theorem of_laid5 {W : World} (h : laidMetH Tryz.prog laid5 W) : Starts W ∧ Knows W := by
  have h3 := h.filter isShas
  rw [laid5_shas] at h3
  exact of_laid h3

end Go.Proofs.YtppfdpnplemfkaaGreatDoor
