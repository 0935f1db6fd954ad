/-
  almonerlaw14.alive.
-/
import Derived.Test.YtnaebjdccngeoaaDoorJValue
import Derived.Test.YtnaebjdccngeoaaDoorJBit
import Derived.Test.YtnaebjdccngeoaaDoorVTools
namespace Go.Proofs.YtnaebjdccngeoaaDoor
open Go.RowKit

def oneJ (x : Nat) : List Nat := x :: List.replicate 31 0
theorem oneJ_lt {x : Nat} (h : x < 256) : ∀ y ∈ oneJ x, y < 256 := by
  intro y hy
  rcases List.mem_cons.1 hy with rfl | hy
  · exact h
  · rw [List.eq_of_mem_replicate hy]; omega
theorem emptyZ_back {z : Int} {k : Nat} (h : clampN z = k) : emptyZ z = emptyU (256 - k) := by unfold emptyZ; rw [h]

set_option maxRecDepth 100000 in
set_option maxHeartbeats 4000000 in
theorem jalive_any (w : World) (hk : Knows w) (hs : Starts w) :
    Calls Tryd.prog 28 #[] w fun e w' => e = .returned (.bool true) ∧ Below w.heap.size w w' := by
  obtain ⟨E, hE⟩ : ∃ E, emptyU 0 = E := ⟨_, rfl⟩
  have lE : E.length = 32 := by rw [← hE]; exact emptyU_length 0
  obtain ⟨E1, hE1⟩ : ∃ x, sideL E E = x := ⟨_, rfl⟩
  have lE1 : E1.length = 32 := by rw [← hE1]; exact sideL_length _ _
  obtain ⟨E0, hE0⟩ : ∃ x, emptyU 256 = x := ⟨_, rfl⟩
  have lE0 : E0.length = 32 := by rw [← hE0]; exact emptyU_length _
  have CE := fun (z : Int) (s : List Nat) (hz : -1000 ≤ z ∧ z ≤ 1000) (he : emptyZ z = s) => Lib.hid (fun (W : World) (hW : Below w.heap.size w W) => show Calls Tryd.prog 21 #[.int .i64 z] W fun e w' => e = .returned (sv s) ∧ Below W.heap.size W w' from by
    rw [← he]; exact jempty_any z W (hk.below hW) (hs.below hW) (by omega))
  have CE256 := CE 256 E (by omega) (by rw [emptyZ_back (clamp_big (by omega)), ← hE])
  have CE300 := CE 300 E (by omega) (by rw [emptyZ_back (clamp_big (by omega)), ← hE])
  have CE255 := CE 255 E1 (by omega) (by rw [emptyZ_back (k := 255) (by rw [clamp_mid (by omega) (by omega)]; rfl), ← hE1, ← hE]; rfl)
  have CEm1 := CE (-1) E0 (by omega) (by rw [emptyZ_back (clamp_neg (by omega)), ← hE0])
  have CEz := CE 0 E0 (by omega) (by rw [emptyZ_back (k := 0) (by rw [clamp_mid (by omega) (by omega)]; rfl), ← hE0])
  clear CE
  have CB := fun (x : Nat) (z : Int) (b : Nat) (hx : x < 256) (hz : -1000 ≤ z ∧ z ≤ 1000) (he : bitZ (oneJ x) z = b) => Lib.hid (fun (W : World) => show Calls Tryd.prog 19 #[sv (oneJ x), .int .i64 z] W fun e w' => e = .returned (.int .i64 (b : Int)) ∧ Below W.heap.size W w' from by
    rw [← he]; exact jbit_any (oneJ x) z W rfl (oneJ_lt hx) (by omega))
  have B1 := CB 128 0 1 (by omega) (by omega) (by decide)
  have B2 := CB 128 1 0 (by omega) (by omega) (by decide)
  have B3 := CB 1 7 1 (by omega) (by omega) (by decide)
  have B4 := CB 255 256 0 (by omega) (by omega) (by decide)
  have B5 := CB 255 (-1) 0 (by omega) (by omega) (by decide)
  clear CB
  rw [show sv (oneJ 128) = .agg #[.int .u8 128, .int .u8 0, .int .u8 0, .int .u8 0, .int .u8 0, .int .u8 0, .int .u8 0, .int .u8 0, .int .u8 0, .int .u8 0, .int .u8 0, .int .u8 0, .int .u8 0, .int .u8 0, .int .u8 0, .int .u8 0, .int .u8 0, .int .u8 0, .int .u8 0, .int .u8 0, .int .u8 0, .int .u8 0, .int .u8 0, .int .u8 0, .int .u8 0, .int .u8 0, .int .u8 0, .int .u8 0, .int .u8 0, .int .u8 0, .int .u8 0, .int .u8 0] from rfl] at B1 B2
  rw [show sv (oneJ 1) = .agg #[.int .u8 1, .int .u8 0, .int .u8 0, .int .u8 0, .int .u8 0, .int .u8 0, .int .u8 0, .int .u8 0, .int .u8 0, .int .u8 0, .int .u8 0, .int .u8 0, .int .u8 0, .int .u8 0, .int .u8 0, .int .u8 0, .int .u8 0, .int .u8 0, .int .u8 0, .int .u8 0, .int .u8 0, .int .u8 0, .int .u8 0, .int .u8 0, .int .u8 0, .int .u8 0, .int .u8 0, .int .u8 0, .int .u8 0, .int .u8 0, .int .u8 0, .int .u8 0] from rfl] at B3
  rw [show sv (oneJ 255) = .agg #[.int .u8 255, .int .u8 0, .int .u8 0, .int .u8 0, .int .u8 0, .int .u8 0, .int .u8 0, .int .u8 0, .int .u8 0, .int .u8 0, .int .u8 0, .int .u8 0, .int .u8 0, .int .u8 0, .int .u8 0, .int .u8 0, .int .u8 0, .int .u8 0, .int .u8 0, .int .u8 0, .int .u8 0, .int .u8 0, .int .u8 0, .int .u8 0, .int .u8 0, .int .u8 0, .int .u8 0, .int .u8 0, .int .u8 0, .int .u8 0, .int .u8 0, .int .u8 0] from rfl] at B4 B5
  have CV := Lib.hid (fun (W : World) (hW : Below w.heap.size w W) => show Calls Tryd.prog 23 #[.agg #[.int .u8 1, .int .u8 0, .int .u8 0, .int .u8 0, .int .u8 0, .int .u8 0, .int .u8 0, .int .u8 0, .int .u8 0, .int .u8 0, .int .u8 0, .int .u8 0, .int .u8 0, .int .u8 0, .int .u8 0, .int .u8 0, .int .u8 0, .int .u8 0, .int .u8 0, .int .u8 0, .int .u8 0, .int .u8 0, .int .u8 0, .int .u8 0, .int .u8 0, .int .u8 0, .int .u8 0, .int .u8 0, .int .u8 0, .int .u8 0, .int .u8 0, .int .u8 0], .slice none 0 0] W fun e w' => e = .returned (sv E) ∧ Below W.heap.size W w' from by
    have := jvalue_any (oneJ 1) none 0 0 [] W rfl (oneJ_lt (by omega)) ⟨In.none_ _ _, (by intro x hx; cases hx), fun _ => rfl, Nat.le_refl _⟩ (by omega) (hk.below hW) (hs.below hW)
    rw [show valueL (oneJ 1) [] = E by unfold valueL; rw [if_pos rfl, hE]] at this
    exact this)
  have CS := Lib.hid (fun (W : World) (hW : Below w.heap.size w W) => show Calls Tryd.prog 25 #[sv E, sv E] W fun e w' => e = .returned (sv E1) ∧ Below W.heap.size W w' from by
    rw [← hE1]; exact jside_any E E W lE lE (by rw [← hE]; exact emptyU_lt 0) (by rw [← hE]; exact emptyU_lt 0) (hk.below hW) (hs.below hW))
  have CO := Lib.hid (fun (W : World) (hW : Below w.heap.size w W) (ad : Addr) (hin : In W (some ad) 1 [2]) => show Calls Tryd.prog 30 #[.slice (some ad) 1 1] W fun e w' => e = .returned (sv E) ∧ Below W.heap.size W w' from by
    rw [← hE]; exact of_any (some ad) 1 1 [2] W hin (by intro y hy; simp at hy; omega) (Nat.le_refl _) (hk.below hW) (hs.below hW) (by omega))
  clear hE hE1 hE0 hk hs
  go_enter Tryd.func28, Tryd.ntmps28
  go_wp2_with fail
  refine (CE256.out w (Below.refl _ _)).mono ?_
  rintro e w1 ⟨rfl, hb1⟩
  obtain ⟨w2, hw2⟩ : ∃ w2, w2 = w1.alloc (.cells (bvs E).toArray 36) := ⟨_, rfl⟩
  have bel : Below w.heap.size w w2 := by rw [hw2]; exact below_on hb1 (Nat.le_refl _) (below_alloc _ _)
  have fe : BArr w2 w1.heap.size 36 E := by rw [hw2]; exact BArr.new _ _ _
  obtain ⟨p, hp⟩ : ∃ p, w1.heap.size = p := ⟨_, rfl⟩
  rw [hp] at fe
  have HW2 := Lib.hid (And.intro hw2 hp)
  have H0 := Lib.hid (And.intro bel fe)
  clear bel fe hw2 hp hb1 CE256
  go_upto_region 2 with (with_reducible refine wpList_store_new w1 _ (by simp) rfl (.tmp 1) (.tmp 2) rfl rfl E lE rfl ?_; rw [← HW2.out.1])
  rw [HW2.out.2]
  clear HW2
  have HA := Lib.hid (fun (W : World) (hW : Below w2.heap.size w2 W) => show At W ⟨p, 0, none⟩ E from (H0.out.2.below hW).at_)
  go_wp2_with fail
  have hSa1 : Below w2.heap.size w2 w2.drew := (Below.refl _ _).drew
  refine wp_region_held_drew (S := fun W => Below w2.heap.size w2 W) (by kernel_rfl) (hSa1) (fun _ => ?_)
  change wpAnyH _ _ _ _ _ _ _ _ w2.drew
  generalize w2.drew = Wa2 at hSa1 ⊢
  refine' wpAnyH_take (i := 0) (oi := _) (v := .agg #[.int .u8 128, .int .u8 0, .int .u8 0, .int .u8 0, .int .u8 0, .int .u8 0, .int .u8 0, .int .u8 0, .int .u8 0, .int .u8 0, .int .u8 0, .int .u8 0, .int .u8 0, .int .u8 0, .int .u8 0, .int .u8 0, .int .u8 0, .int .u8 0, .int .u8 0, .int .u8 0, .int .u8 0, .int .u8 0, .int .u8 0, .int .u8 0, .int .u8 0, .int .u8 0, .int .u8 0, .int .u8 0, .int .u8 0, .int .u8 0, .int .u8 0, .int .u8 0]) ?hia3 (by kernel_rfl) ?hfa3 ?hra3 ?hQa3 ?hya3 (hSa1) ?resta3
  case hia3 => (simp only [List.getElem?_toArray, List.getElem?_cons_zero]; rfl)
  case hfa3 => kernel_rfl
  case hra3 => kernel_rfl
  case hQa3 => exact fun _ _ _ h => h
  case hya3 => refine Or.inl ⟨by rfl, ?_⟩; intro W hSw; go_simp; try with_reducible rfl
  try simp only [Act.put, List.setIfInBounds_toArray, List.set_cons_zero, List.set_cons_succ]
  refine wpAnyH_ready (rs := [1]) (by kernel_rfl) (by simp) ?_
  refine' (AllReadyH.cons (o := _) ?hia4 (fun K hK => ?_) AllReadyH.nil)
  case hia4 => (simp only [List.getElem?_toArray, List.getElem?_cons_zero, List.getElem?_cons_succ]; rfl)
  go_simp
  go_at_call 19
  refine (B1.out Wa2).mono ?_
  rintro e Wa7 ⟨rfl, hba5⟩
  have hBa6 := below_on hSa1 (Nat.le_refl _) hba5
  refine hK.out _ _ (hBa6) (fun _ => ?_)
  clear hK K
  try simp only [Act.put, List.setIfInBounds_toArray, List.set_cons_zero, List.set_cons_succ]
  refine' wpAnyH_take (i := 2) (oi := _) (v := _) ?hia8 (by kernel_rfl) ?hfa8 ?hra8 ?hQa8 ?hya8 (hBa6) ?resta8
  case hia8 => (simp only [List.getElem?_toArray, List.getElem?_cons_zero, List.getElem?_cons_succ]; rfl)
  case hfa8 => kernel_rfl
  case hra8 => kernel_rfl
  case hQa8 => exact fun _ _ _ h => h
  case hya8 => refine Or.inl ⟨by rfl, ?_⟩; intro W hSw; go_simp; try with_reducible rfl
  try simp only [Act.put, List.setIfInBounds_toArray, List.set_cons_zero, List.set_cons_succ]
  refine' wpAnyH_take (i := 3) (oi := _) (v := _) ?hia9 (by kernel_rfl) ?hfa9 ?hra9 ?hQa9 ?hya9 (hBa6) ?resta9
  case hia9 => (simp only [List.getElem?_toArray, List.getElem?_cons_zero, List.getElem?_cons_succ]; rfl)
  case hfa9 => kernel_rfl
  case hra9 => kernel_rfl
  case hQa9 => exact fun _ _ _ h => h
  case hya9 => refine Or.inl ⟨by rfl, ?_⟩; intro W hSw; go_simp; try with_reducible rfl
  try simp only [Act.put, List.setIfInBounds_toArray, List.set_cons_zero, List.set_cons_succ]
  refine' wpAnyH_take (i := 4) (oi := _) (v := .agg #[.int .u8 128, .int .u8 0, .int .u8 0, .int .u8 0, .int .u8 0, .int .u8 0, .int .u8 0, .int .u8 0, .int .u8 0, .int .u8 0, .int .u8 0, .int .u8 0, .int .u8 0, .int .u8 0, .int .u8 0, .int .u8 0, .int .u8 0, .int .u8 0, .int .u8 0, .int .u8 0, .int .u8 0, .int .u8 0, .int .u8 0, .int .u8 0, .int .u8 0, .int .u8 0, .int .u8 0, .int .u8 0, .int .u8 0, .int .u8 0, .int .u8 0, .int .u8 0]) ?hia10 (by kernel_rfl) ?hfa10 ?hra10 ?hQa10 ?hya10 (hBa6) ?resta10
  case hia10 => (simp only [List.getElem?_toArray, List.getElem?_cons_zero, List.getElem?_cons_succ]; rfl)
  case hfa10 => kernel_rfl
  case hra10 => kernel_rfl
  case hQa10 => exact fun _ _ _ h => h
  case hya10 => refine Or.inl ⟨by rfl, ?_⟩; intro W hSw; go_simp; try with_reducible rfl
  try simp only [Act.put, List.setIfInBounds_toArray, List.set_cons_zero, List.set_cons_succ]
  refine wpAnyH_ready (rs := [5]) (by kernel_rfl) (by simp) ?_
  refine' (AllReadyH.cons (o := _) ?hia11 (fun K hK => ?_) AllReadyH.nil)
  case hia11 => (simp only [List.getElem?_toArray, List.getElem?_cons_zero, List.getElem?_cons_succ]; rfl)
  go_simp
  go_at_call 19
  refine (B2.out Wa7).mono ?_
  rintro e Wa14 ⟨rfl, hba12⟩
  have hBa13 := below_on hBa6 (Nat.le_refl _) hba12
  refine hK.out _ _ (hBa13) (fun _ => ?_)
  clear hK K
  try simp only [Act.put, List.setIfInBounds_toArray, List.set_cons_zero, List.set_cons_succ]
  refine' wpAnyH_take (i := 6) (oi := _) (v := _) ?hia15 (by kernel_rfl) ?hfa15 ?hra15 ?hQa15 ?hya15 (hBa13) ?resta15
  case hia15 => (simp only [List.getElem?_toArray, List.getElem?_cons_zero, List.getElem?_cons_succ]; rfl)
  case hfa15 => kernel_rfl
  case hra15 => kernel_rfl
  case hQa15 => exact fun _ _ _ h => h
  case hya15 => refine Or.inl ⟨by rfl, ?_⟩; intro W hSw; go_simp; try with_reducible rfl
  try simp only [Act.put, List.setIfInBounds_toArray, List.set_cons_zero, List.set_cons_succ]
  refine' wpAnyH_take (i := 7) (oi := _) (v := _) ?hia16 (by kernel_rfl) ?hfa16 ?hra16 ?hQa16 ?hya16 (hBa13) ?resta16
  case hia16 => (simp only [List.getElem?_toArray, List.getElem?_cons_zero, List.getElem?_cons_succ]; rfl)
  case hfa16 => kernel_rfl
  case hra16 => kernel_rfl
  case hQa16 => exact fun _ _ _ h => h
  case hya16 => refine Or.inl ⟨by rfl, ?_⟩; intro W hSw; go_simp; try with_reducible rfl
  try simp only [Act.put, List.setIfInBounds_toArray, List.set_cons_zero, List.set_cons_succ]
  refine' wpAnyH_take (i := 8) (oi := _) (v := _) ?hia17 (by kernel_rfl) ?hfa17 ?hra17 ?hQa17 ?hya17 (hBa13) ?resta17
  case hia17 => (simp only [List.getElem?_toArray, List.getElem?_cons_zero, List.getElem?_cons_succ]; rfl)
  case hfa17 => kernel_rfl
  case hra17 => kernel_rfl
  case hQa17 => exact fun _ _ _ h => h
  case hya17 => refine Or.inl ⟨by rfl, ?_⟩; intro W hSw; go_simp; try with_reducible rfl
  try simp only [Act.put, List.setIfInBounds_toArray, List.set_cons_zero, List.set_cons_succ]
  refine' wpAnyH_take (i := 9) (oi := _) (v := .agg #[.int .u8 1, .int .u8 0, .int .u8 0, .int .u8 0, .int .u8 0, .int .u8 0, .int .u8 0, .int .u8 0, .int .u8 0, .int .u8 0, .int .u8 0, .int .u8 0, .int .u8 0, .int .u8 0, .int .u8 0, .int .u8 0, .int .u8 0, .int .u8 0, .int .u8 0, .int .u8 0, .int .u8 0, .int .u8 0, .int .u8 0, .int .u8 0, .int .u8 0, .int .u8 0, .int .u8 0, .int .u8 0, .int .u8 0, .int .u8 0, .int .u8 0, .int .u8 0]) ?hia18 (by kernel_rfl) ?hfa18 ?hra18 ?hQa18 ?hya18 (hBa13) ?resta18
  case hia18 => (simp only [List.getElem?_toArray, List.getElem?_cons_zero, List.getElem?_cons_succ]; rfl)
  case hfa18 => kernel_rfl
  case hra18 => kernel_rfl
  case hQa18 => exact fun _ _ _ h => h
  case hya18 => refine Or.inl ⟨by rfl, ?_⟩; intro W hSw; go_simp; try with_reducible rfl
  try simp only [Act.put, List.setIfInBounds_toArray, List.set_cons_zero, List.set_cons_succ]
  refine wpAnyH_ready (rs := [10]) (by kernel_rfl) (by simp) ?_
  refine' (AllReadyH.cons (o := _) ?hia19 (fun K hK => ?_) AllReadyH.nil)
  case hia19 => (simp only [List.getElem?_toArray, List.getElem?_cons_zero, List.getElem?_cons_succ]; rfl)
  go_simp
  go_at_call 19
  refine (B3.out Wa14).mono ?_
  rintro e Wa22 ⟨rfl, hba20⟩
  have hBa21 := below_on hBa13 (Nat.le_refl _) hba20
  refine hK.out _ _ (hBa21) (fun _ => ?_)
  clear hK K
  try simp only [Act.put, List.setIfInBounds_toArray, List.set_cons_zero, List.set_cons_succ]
  refine' wpAnyH_take (i := 11) (oi := _) (v := _) ?hia23 (by kernel_rfl) ?hfa23 ?hra23 ?hQa23 ?hya23 (hBa21) ?resta23
  case hia23 => (simp only [List.getElem?_toArray, List.getElem?_cons_zero, List.getElem?_cons_succ]; rfl)
  case hfa23 => kernel_rfl
  case hra23 => kernel_rfl
  case hQa23 => exact fun _ _ _ h => h
  case hya23 => refine Or.inl ⟨by rfl, ?_⟩; intro W hSw; go_simp; try with_reducible rfl
  try simp only [Act.put, List.setIfInBounds_toArray, List.set_cons_zero, List.set_cons_succ]
  refine' wpAnyH_take (i := 12) (oi := _) (v := _) ?hia24 (by kernel_rfl) ?hfa24 ?hra24 ?hQa24 ?hya24 (hBa21) ?resta24
  case hia24 => (simp only [List.getElem?_toArray, List.getElem?_cons_zero, List.getElem?_cons_succ]; rfl)
  case hfa24 => kernel_rfl
  case hra24 => kernel_rfl
  case hQa24 => exact fun _ _ _ h => h
  case hya24 => refine Or.inl ⟨by rfl, ?_⟩; intro W hSw; go_simp; try with_reducible rfl
  try simp only [Act.put, List.setIfInBounds_toArray, List.set_cons_zero, List.set_cons_succ]
  refine' wpAnyH_take (i := 13) (oi := _) (v := _) ?hia25 (by kernel_rfl) ?hfa25 ?hra25 ?hQa25 ?hya25 (hBa21) ?resta25
  case hia25 => (simp only [List.getElem?_toArray, List.getElem?_cons_zero, List.getElem?_cons_succ]; rfl)
  case hfa25 => kernel_rfl
  case hra25 => kernel_rfl
  case hQa25 => exact fun _ _ _ h => h
  case hya25 => refine Or.inl ⟨by rfl, ?_⟩; intro W hSw; go_simp; try with_reducible rfl
  try simp only [Act.put, List.setIfInBounds_toArray, List.set_cons_zero, List.set_cons_succ]
  refine' wpAnyH_take (i := 14) (oi := _) (v := .agg #[.int .u8 255, .int .u8 0, .int .u8 0, .int .u8 0, .int .u8 0, .int .u8 0, .int .u8 0, .int .u8 0, .int .u8 0, .int .u8 0, .int .u8 0, .int .u8 0, .int .u8 0, .int .u8 0, .int .u8 0, .int .u8 0, .int .u8 0, .int .u8 0, .int .u8 0, .int .u8 0, .int .u8 0, .int .u8 0, .int .u8 0, .int .u8 0, .int .u8 0, .int .u8 0, .int .u8 0, .int .u8 0, .int .u8 0, .int .u8 0, .int .u8 0, .int .u8 0]) ?hia26 (by kernel_rfl) ?hfa26 ?hra26 ?hQa26 ?hya26 (hBa21) ?resta26
  case hia26 => (simp only [List.getElem?_toArray, List.getElem?_cons_zero, List.getElem?_cons_succ]; rfl)
  case hfa26 => kernel_rfl
  case hra26 => kernel_rfl
  case hQa26 => exact fun _ _ _ h => h
  case hya26 => refine Or.inl ⟨by rfl, ?_⟩; intro W hSw; go_simp; try with_reducible rfl
  try simp only [Act.put, List.setIfInBounds_toArray, List.set_cons_zero, List.set_cons_succ]
  refine wpAnyH_ready (rs := [15]) (by kernel_rfl) (by simp) ?_
  refine' (AllReadyH.cons (o := _) ?hia27 (fun K hK => ?_) AllReadyH.nil)
  case hia27 => (simp only [List.getElem?_toArray, List.getElem?_cons_zero, List.getElem?_cons_succ]; rfl)
  go_simp
  go_at_call 19
  refine (B4.out Wa22).mono ?_
  rintro e Wa30 ⟨rfl, hba28⟩
  have hBa29 := below_on hBa21 (Nat.le_refl _) hba28
  refine hK.out _ _ (hBa29) (fun _ => ?_)
  clear hK K
  try simp only [Act.put, List.setIfInBounds_toArray, List.set_cons_zero, List.set_cons_succ]
  refine' wpAnyH_take (i := 16) (oi := _) (v := _) ?hia31 (by kernel_rfl) ?hfa31 ?hra31 ?hQa31 ?hya31 (hBa29) ?resta31
  case hia31 => (simp only [List.getElem?_toArray, List.getElem?_cons_zero, List.getElem?_cons_succ]; rfl)
  case hfa31 => kernel_rfl
  case hra31 => kernel_rfl
  case hQa31 => exact fun _ _ _ h => h
  case hya31 => refine Or.inl ⟨by rfl, ?_⟩; intro W hSw; go_simp; try with_reducible rfl
  try simp only [Act.put, List.setIfInBounds_toArray, List.set_cons_zero, List.set_cons_succ]
  refine' wpAnyH_take (i := 17) (oi := _) (v := _) ?hia32 (by kernel_rfl) ?hfa32 ?hra32 ?hQa32 ?hya32 (hBa29) ?resta32
  case hia32 => (simp only [List.getElem?_toArray, List.getElem?_cons_zero, List.getElem?_cons_succ]; rfl)
  case hfa32 => kernel_rfl
  case hra32 => kernel_rfl
  case hQa32 => exact fun _ _ _ h => h
  case hya32 => refine Or.inl ⟨by rfl, ?_⟩; intro W hSw; go_simp; try with_reducible rfl
  try simp only [Act.put, List.setIfInBounds_toArray, List.set_cons_zero, List.set_cons_succ]
  refine' wpAnyH_take (i := 18) (oi := _) (v := _) ?hia33 (by kernel_rfl) ?hfa33 ?hra33 ?hQa33 ?hya33 (hBa29) ?resta33
  case hia33 => (simp only [List.getElem?_toArray, List.getElem?_cons_zero, List.getElem?_cons_succ]; rfl)
  case hfa33 => kernel_rfl
  case hra33 => kernel_rfl
  case hQa33 => exact fun _ _ _ h => h
  case hya33 => refine Or.inl ⟨by rfl, ?_⟩; intro W hSw; go_simp; try with_reducible rfl
  try simp only [Act.put, List.setIfInBounds_toArray, List.set_cons_zero, List.set_cons_succ]
  refine' wpAnyH_take (i := 19) (oi := _) (v := .agg #[.int .u8 255, .int .u8 0, .int .u8 0, .int .u8 0, .int .u8 0, .int .u8 0, .int .u8 0, .int .u8 0, .int .u8 0, .int .u8 0, .int .u8 0, .int .u8 0, .int .u8 0, .int .u8 0, .int .u8 0, .int .u8 0, .int .u8 0, .int .u8 0, .int .u8 0, .int .u8 0, .int .u8 0, .int .u8 0, .int .u8 0, .int .u8 0, .int .u8 0, .int .u8 0, .int .u8 0, .int .u8 0, .int .u8 0, .int .u8 0, .int .u8 0, .int .u8 0]) ?hia34 (by kernel_rfl) ?hfa34 ?hra34 ?hQa34 ?hya34 (hBa29) ?resta34
  case hia34 => (simp only [List.getElem?_toArray, List.getElem?_cons_zero, List.getElem?_cons_succ]; rfl)
  case hfa34 => kernel_rfl
  case hra34 => kernel_rfl
  case hQa34 => exact fun _ _ _ h => h
  case hya34 => refine Or.inl ⟨by rfl, ?_⟩; intro W hSw; go_simp; try with_reducible rfl
  try simp only [Act.put, List.setIfInBounds_toArray, List.set_cons_zero, List.set_cons_succ]
  refine wpAnyH_ready (rs := [20]) (by kernel_rfl) (by simp) ?_
  refine' (AllReadyH.cons (o := _) ?hia35 (fun K hK => ?_) AllReadyH.nil)
  case hia35 => (simp only [List.getElem?_toArray, List.getElem?_cons_zero, List.getElem?_cons_succ]; rfl)
  go_simp
  go_at_call 19
  refine (B5.out Wa30).mono ?_
  rintro e Wa38 ⟨rfl, hba36⟩
  have hBa37 := below_on hBa29 (Nat.le_refl _) hba36
  refine hK.out _ _ (hBa37) (fun _ => ?_)
  clear hK K
  try simp only [Act.put, List.setIfInBounds_toArray, List.set_cons_zero, List.set_cons_succ]
  refine' wpAnyH_take (i := 21) (oi := _) (v := _) ?hia39 (by kernel_rfl) ?hfa39 ?hra39 ?hQa39 ?hya39 (hBa37) ?resta39
  case hia39 => (simp only [List.getElem?_toArray, List.getElem?_cons_zero, List.getElem?_cons_succ]; rfl)
  case hfa39 => kernel_rfl
  case hra39 => kernel_rfl
  case hQa39 => exact fun _ _ _ h => h
  case hya39 => refine Or.inl ⟨by rfl, ?_⟩; intro W hSw; go_simp; try with_reducible rfl
  try simp only [Act.put, List.setIfInBounds_toArray, List.set_cons_zero, List.set_cons_succ]
  refine' wpAnyH_take (i := 22) (oi := _) (v := _) ?hia40 (by kernel_rfl) ?hfa40 ?hra40 ?hQa40 ?hya40 (hBa37) ?resta40
  case hia40 => (simp only [List.getElem?_toArray, List.getElem?_cons_zero, List.getElem?_cons_succ]; rfl)
  case hfa40 => kernel_rfl
  case hra40 => kernel_rfl
  case hQa40 => exact fun _ _ _ h => h
  case hya40 => refine Or.inl ⟨by rfl, ?_⟩; intro W hSw; go_simp; try with_reducible rfl
  try simp only [Act.put, List.setIfInBounds_toArray, List.set_cons_zero, List.set_cons_succ]
  refine' wpAnyH_take (i := 23) (oi := _) (v := _) ?hia41 (by kernel_rfl) ?hfa41 ?hra41 ?hQa41 ?hya41 (hBa37) ?resta41
  case hia41 => (simp only [List.getElem?_toArray, List.getElem?_cons_zero, List.getElem?_cons_succ]; rfl)
  case hfa41 => kernel_rfl
  case hra41 => kernel_rfl
  case hQa41 => exact fun _ _ _ h => h
  case hya41 => refine Or.inl ⟨by rfl, ?_⟩; intro W hSw; go_simp; try with_reducible rfl
  try simp only [Act.put, List.setIfInBounds_toArray, List.set_cons_zero, List.set_cons_succ]
  refine' wpAnyH_take (i := 24) (oi := _) (v := sv E) ?hia42 (by kernel_rfl) ?hfa42 ?hra42 ?hQa42 ?hya42 (hBa37) ?resta42
  case hia42 => (simp only [List.getElem?_toArray, List.getElem?_cons_zero, List.getElem?_cons_succ]; rfl)
  case hfa42 => kernel_rfl
  case hra42 => kernel_rfl
  case hQa42 => exact fun _ _ _ h => h
  case hya42 => refine Or.inl ⟨by rfl, ?_⟩; intro W hSw; exact jload_sum_op (.tmp 1) (by rfl) (by rfl) lE (HA.out W hSw)
  try simp only [Act.put, List.setIfInBounds_toArray, List.set_cons_zero, List.set_cons_succ]
  refine wpAnyH_ready (rs := [25]) (by kernel_rfl) (by simp) ?_
  refine' (AllReadyH.cons (o := _) ?hia43 (fun K hK => ?_) AllReadyH.nil)
  case hia43 => (simp only [List.getElem?_toArray, List.getElem?_cons_zero, List.getElem?_cons_succ]; rfl)
  go_simp
  have hBa44 := Below.alloc hBa37 (Below.size hBa37) (.cells #[.int .u8 2] 5)
  have hQa46 := (show In (Wa38.alloc (.cells #[.int .u8 2] 5)) (some ⟨Wa38.heap.size, 0, none⟩) 1 [2] from In.new' Wa38 [2] _)
  have hba47 := below_alloc Wa38 (.cells #[.int .u8 2] 5)
  clear hba47
  refine hK.out _ _ (hBa44) (fun _ => ?_)
  clear hK K
  try simp only [Act.put, List.setIfInBounds_toArray, List.set_cons_zero, List.set_cons_succ]
  generalize (Wa38.alloc (.cells #[.int .u8 2] 5)) = Wa45 at hBa44 hQa46 ⊢
  refine wpAnyH_ready (rs := [26]) (by kernel_rfl) (by simp) ?_
  refine' (AllReadyH.cons (o := _) ?hia48 (fun K hK => ?_) AllReadyH.nil)
  case hia48 => (simp only [List.getElem?_toArray, List.getElem?_cons_zero, List.getElem?_cons_succ]; rfl)
  go_simp
  go_at_call 30
  refine (CO.out Wa45 (below_on H0.out.1 (Nat.le_refl _) hBa44) _ hQa46).mono ?_
  rintro e Wa51 ⟨rfl, hba49⟩
  have hBa50 := below_on hBa44 (Nat.le_refl _) hba49
  have hQa52 := hQa46.below hba49
  refine hK.out _ _ (hBa50) (fun _ => ?_)
  clear hK K
  try simp only [Act.put, List.setIfInBounds_toArray, List.set_cons_zero, List.set_cons_succ]
  refine' wpAnyH_take (i := 27) (oi := _) (v := .bool true) ?hia53 (by kernel_rfl) ?hfa53 ?hra53 ?hQa53 ?hya53 (hBa50) ?resta53
  case hia53 => (simp only [List.getElem?_toArray, List.getElem?_cons_zero, List.getElem?_cons_succ]; rfl)
  case hfa53 => kernel_rfl
  case hra53 => kernel_rfl
  case hQa53 => exact fun _ _ _ h => h
  case hya53 => refine Or.inl ⟨by rfl, ?_⟩; intro W hSw; exact jeql_op (.tmp 27) (.tmp 29) (by rfl) (by rfl) (by rfl) lE
  try simp only [Act.put, List.setIfInBounds_toArray, List.set_cons_zero, List.set_cons_succ]
  refine' wpAnyH_take (i := 28) (oi := _) (v := _) ?hia54 (by kernel_rfl) ?hfa54 ?hra54 ?hQa54 ?hya54 (hBa50) ?resta54
  case hia54 => (simp only [List.getElem?_toArray, List.getElem?_cons_zero, List.getElem?_cons_succ]; rfl)
  case hfa54 => kernel_rfl
  case hra54 => kernel_rfl
  case hQa54 => exact fun _ _ _ h => h
  case hya54 => refine Or.inl ⟨by rfl, ?_⟩; intro W hSw; go_simp; try with_reducible rfl
  try simp only [Act.put, List.setIfInBounds_toArray, List.set_cons_zero, List.set_cons_succ]
  refine' wpAnyH_take (i := 29) (oi := _) (v := _) ?hia55 (by kernel_rfl) ?hfa55 ?hra55 ?hQa55 ?hya55 (hBa50) ?resta55
  case hia55 => (simp only [List.getElem?_toArray, List.getElem?_cons_zero, List.getElem?_cons_succ]; rfl)
  case hfa55 => kernel_rfl
  case hra55 => kernel_rfl
  case hQa55 => exact fun _ _ _ h => h
  case hya55 => refine Or.inl ⟨by rfl, ?_⟩; intro W hSw; go_simp; try with_reducible rfl
  try simp only [Act.put, List.setIfInBounds_toArray, List.set_cons_zero, List.set_cons_succ]
  refine' wpAnyH_take (i := 31) (oi := _) (v := sv E) ?hia56 (by kernel_rfl) ?hfa56 ?hra56 ?hQa56 ?hya56 (hBa50) ?resta56
  case hia56 => (simp only [List.getElem?_toArray, List.getElem?_cons_zero, List.getElem?_cons_succ]; rfl)
  case hfa56 => kernel_rfl
  case hra56 => kernel_rfl
  case hQa56 => exact fun _ _ _ h => h
  case hya56 => refine Or.inl ⟨by rfl, ?_⟩; intro W hSw; exact jload_sum_op (.tmp 1) (by rfl) (by rfl) lE (HA.out W hSw)
  try simp only [Act.put, List.setIfInBounds_toArray, List.set_cons_zero, List.set_cons_succ]
  refine' wpAnyH_take (i := 32) (oi := _) (v := sv E) ?hia57 (by kernel_rfl) ?hfa57 ?hra57 ?hQa57 ?hya57 (hBa50) ?resta57
  case hia57 => (simp only [List.getElem?_toArray, List.getElem?_cons_zero, List.getElem?_cons_succ]; rfl)
  case hfa57 => kernel_rfl
  case hra57 => kernel_rfl
  case hQa57 => exact fun _ _ _ h => h
  case hya57 => refine Or.inl ⟨by rfl, ?_⟩; intro W hSw; exact jload_sum_op (.tmp 1) (by rfl) (by rfl) lE (HA.out W hSw)
  try simp only [Act.put, List.setIfInBounds_toArray, List.set_cons_zero, List.set_cons_succ]
  refine wpAnyH_ready (rs := [30]) (by kernel_rfl) (by simp) ?_
  refine' (AllReadyH.cons (o := _) ?hia58 (fun K hK => ?_) AllReadyH.nil)
  case hia58 => (simp only [List.getElem?_toArray, List.getElem?_cons_zero, List.getElem?_cons_succ]; rfl)
  go_simp
  go_at_call 21
  refine (CE255.out Wa51 (below_on H0.out.1 (Nat.le_refl _) hBa50)).mono ?_
  rintro e Wa61 ⟨rfl, hba59⟩
  have hBa60 := below_on hBa50 (Nat.le_refl _) hba59
  have hQa62 := hQa52.below hba59
  refine hK.out _ _ (hBa60) (fun _ => ?_)
  clear hK K
  try simp only [Act.put, List.setIfInBounds_toArray, List.set_cons_zero, List.set_cons_succ]
  refine wpAnyH_ready (rs := [33]) (by kernel_rfl) (by simp) ?_
  refine' (AllReadyH.cons (o := _) ?hia63 (fun K hK => ?_) AllReadyH.nil)
  case hia63 => (simp only [List.getElem?_toArray, List.getElem?_cons_zero, List.getElem?_cons_succ]; rfl)
  go_simp
  go_at_call 25
  refine (CS.out Wa61 (below_on H0.out.1 (Nat.le_refl _) hBa60)).mono ?_
  rintro e Wa66 ⟨rfl, hba64⟩
  have hBa65 := below_on hBa60 (Nat.le_refl _) hba64
  have hQa67 := hQa62.below hba64
  refine hK.out _ _ (hBa65) (fun _ => ?_)
  clear hK K
  try simp only [Act.put, List.setIfInBounds_toArray, List.set_cons_zero, List.set_cons_succ]
  refine' wpAnyH_take (i := 34) (oi := _) (v := .bool true) ?hia68 (by kernel_rfl) ?hfa68 ?hra68 ?hQa68 ?hya68 (hBa65) ?resta68
  case hia68 => (simp only [List.getElem?_toArray, List.getElem?_cons_zero, List.getElem?_cons_succ]; rfl)
  case hfa68 => kernel_rfl
  case hra68 => kernel_rfl
  case hQa68 => exact fun _ _ _ h => h
  case hya68 => refine Or.inl ⟨by rfl, ?_⟩; intro W hSw; exact jeql_op (.tmp 33) (.tmp 36) (by rfl) (by rfl) (by rfl) lE1
  try simp only [Act.put, List.setIfInBounds_toArray, List.set_cons_zero, List.set_cons_succ]
  refine' wpAnyH_take (i := 35) (oi := _) (v := _) ?hia69 (by kernel_rfl) ?hfa69 ?hra69 ?hQa69 ?hya69 (hBa65) ?resta69
  case hia69 => (simp only [List.getElem?_toArray, List.getElem?_cons_zero, List.getElem?_cons_succ]; rfl)
  case hfa69 => kernel_rfl
  case hra69 => kernel_rfl
  case hQa69 => exact fun _ _ _ h => h
  case hya69 => refine Or.inl ⟨by rfl, ?_⟩; intro W hSw; go_simp; try with_reducible rfl
  try simp only [Act.put, List.setIfInBounds_toArray, List.set_cons_zero, List.set_cons_succ]
  refine' wpAnyH_take (i := 36) (oi := _) (v := _) ?hia70 (by kernel_rfl) ?hfa70 ?hra70 ?hQa70 ?hya70 (hBa65) ?resta70
  case hia70 => (simp only [List.getElem?_toArray, List.getElem?_cons_zero, List.getElem?_cons_succ]; rfl)
  case hfa70 => kernel_rfl
  case hra70 => kernel_rfl
  case hQa70 => exact fun _ _ _ h => h
  case hya70 => refine Or.inl ⟨by rfl, ?_⟩; intro W hSw; go_simp; try with_reducible rfl
  try simp only [Act.put, List.setIfInBounds_toArray, List.set_cons_zero, List.set_cons_succ]
  refine' wpAnyH_take (i := 38) (oi := _) (v := sv E) ?hia71 (by kernel_rfl) ?hfa71 ?hra71 ?hQa71 ?hya71 (hBa65) ?resta71
  case hia71 => (simp only [List.getElem?_toArray, List.getElem?_cons_zero, List.getElem?_cons_succ]; rfl)
  case hfa71 => kernel_rfl
  case hra71 => kernel_rfl
  case hQa71 => exact fun _ _ _ h => h
  case hya71 => refine Or.inl ⟨by rfl, ?_⟩; intro W hSw; exact jload_sum_op (.tmp 1) (by rfl) (by rfl) lE (HA.out W hSw)
  try simp only [Act.put, List.setIfInBounds_toArray, List.set_cons_zero, List.set_cons_succ]
  refine wpAnyH_ready (rs := [37]) (by kernel_rfl) (by simp) ?_
  refine' (AllReadyH.cons (o := _) ?hia72 (fun K hK => ?_) AllReadyH.nil)
  case hia72 => (simp only [List.getElem?_toArray, List.getElem?_cons_zero, List.getElem?_cons_succ]; rfl)
  go_simp
  go_at_call 21
  refine (CE300.out Wa66 (below_on H0.out.1 (Nat.le_refl _) hBa65)).mono ?_
  rintro e Wa75 ⟨rfl, hba73⟩
  have hBa74 := below_on hBa65 (Nat.le_refl _) hba73
  have hQa76 := hQa67.below hba73
  refine hK.out _ _ (hBa74) (fun _ => ?_)
  clear hK K
  try simp only [Act.put, List.setIfInBounds_toArray, List.set_cons_zero, List.set_cons_succ]
  refine' wpAnyH_take (i := 39) (oi := _) (v := .bool true) ?hia77 (by kernel_rfl) ?hfa77 ?hra77 ?hQa77 ?hya77 (hBa74) ?resta77
  case hia77 => (simp only [List.getElem?_toArray, List.getElem?_cons_zero, List.getElem?_cons_succ]; rfl)
  case hfa77 => kernel_rfl
  case hra77 => kernel_rfl
  case hQa77 => exact fun _ _ _ h => h
  case hya77 => refine Or.inl ⟨by rfl, ?_⟩; intro W hSw; exact jeql_op (.tmp 40) (.tmp 41) (by rfl) (by rfl) (by rfl) lE
  try simp only [Act.put, List.setIfInBounds_toArray, List.set_cons_zero, List.set_cons_succ]
  refine' wpAnyH_take (i := 40) (oi := _) (v := _) ?hia78 (by kernel_rfl) ?hfa78 ?hra78 ?hQa78 ?hya78 (hBa74) ?resta78
  case hia78 => (simp only [List.getElem?_toArray, List.getElem?_cons_zero, List.getElem?_cons_succ]; rfl)
  case hfa78 => kernel_rfl
  case hra78 => kernel_rfl
  case hQa78 => exact fun _ _ _ h => h
  case hya78 => refine Or.inl ⟨by rfl, ?_⟩; intro W hSw; go_simp; try with_reducible rfl
  try simp only [Act.put, List.setIfInBounds_toArray, List.set_cons_zero, List.set_cons_succ]
  refine' wpAnyH_take (i := 41) (oi := _) (v := _) ?hia79 (by kernel_rfl) ?hfa79 ?hra79 ?hQa79 ?hya79 (hBa74) ?resta79
  case hia79 => (simp only [List.getElem?_toArray, List.getElem?_cons_zero, List.getElem?_cons_succ]; rfl)
  case hfa79 => kernel_rfl
  case hra79 => kernel_rfl
  case hQa79 => exact fun _ _ _ h => h
  case hya79 => refine Or.inl ⟨by rfl, ?_⟩; intro W hSw; go_simp; try with_reducible rfl
  try simp only [Act.put, List.setIfInBounds_toArray, List.set_cons_zero, List.set_cons_succ]
  refine wpAnyH_ready (rs := [42]) (by kernel_rfl) (by simp) ?_
  refine' (AllReadyH.cons (o := _) ?hia80 (fun K hK => ?_) AllReadyH.nil)
  case hia80 => (simp only [List.getElem?_toArray, List.getElem?_cons_zero, List.getElem?_cons_succ]; rfl)
  go_simp
  go_at_call 21
  refine (CEm1.out Wa75 (below_on H0.out.1 (Nat.le_refl _) hBa74)).mono ?_
  rintro e Wa83 ⟨rfl, hba81⟩
  have hBa82 := below_on hBa74 (Nat.le_refl _) hba81
  have hQa84 := hQa76.below hba81
  refine hK.out _ _ (hBa82) (fun _ => ?_)
  clear hK K
  try simp only [Act.put, List.setIfInBounds_toArray, List.set_cons_zero, List.set_cons_succ]
  refine wpAnyH_ready (rs := [43]) (by kernel_rfl) (by simp) ?_
  refine' (AllReadyH.cons (o := _) ?hia85 (fun K hK => ?_) AllReadyH.nil)
  case hia85 => (simp only [List.getElem?_toArray, List.getElem?_cons_zero, List.getElem?_cons_succ]; rfl)
  go_simp
  go_at_call 21
  refine (CEz.out Wa83 (below_on H0.out.1 (Nat.le_refl _) hBa82)).mono ?_
  rintro e Wa88 ⟨rfl, hba86⟩
  have hBa87 := below_on hBa82 (Nat.le_refl _) hba86
  have hQa89 := hQa84.below hba86
  refine hK.out _ _ (hBa87) (fun _ => ?_)
  clear hK K
  try simp only [Act.put, List.setIfInBounds_toArray, List.set_cons_zero, List.set_cons_succ]
  refine' wpAnyH_take (i := 44) (oi := _) (v := .bool true) ?hia90 (by kernel_rfl) ?hfa90 ?hra90 ?hQa90 ?hya90 (hBa87) ?resta90
  case hia90 => (simp only [List.getElem?_toArray, List.getElem?_cons_zero, List.getElem?_cons_succ]; rfl)
  case hfa90 => kernel_rfl
  case hra90 => kernel_rfl
  case hQa90 => exact fun _ _ _ h => h
  case hya90 => refine Or.inl ⟨by rfl, ?_⟩; intro W hSw; exact jeql_op (.tmp 45) (.tmp 46) (by rfl) (by rfl) (by rfl) lE0
  try simp only [Act.put, List.setIfInBounds_toArray, List.set_cons_zero, List.set_cons_succ]
  refine' wpAnyH_take (i := 45) (oi := _) (v := _) ?hia91 (by kernel_rfl) ?hfa91 ?hra91 ?hQa91 ?hya91 (hBa87) ?resta91
  case hia91 => (simp only [List.getElem?_toArray, List.getElem?_cons_zero, List.getElem?_cons_succ]; rfl)
  case hfa91 => kernel_rfl
  case hra91 => kernel_rfl
  case hQa91 => exact fun _ _ _ h => h
  case hya91 => refine Or.inl ⟨by rfl, ?_⟩; intro W hSw; go_simp; try with_reducible rfl
  try simp only [Act.put, List.setIfInBounds_toArray, List.set_cons_zero, List.set_cons_succ]
  refine' wpAnyH_take (i := 46) (oi := _) (v := _) ?hia92 (by kernel_rfl) ?hfa92 ?hra92 ?hQa92 ?hya92 (hBa87) ?resta92
  case hia92 => (simp only [List.getElem?_toArray, List.getElem?_cons_zero, List.getElem?_cons_succ]; rfl)
  case hfa92 => kernel_rfl
  case hra92 => kernel_rfl
  case hQa92 => exact fun _ _ _ h => h
  case hya92 => refine Or.inl ⟨by rfl, ?_⟩; intro W hSw; go_simp; try with_reducible rfl
  try simp only [Act.put, List.setIfInBounds_toArray, List.set_cons_zero, List.set_cons_succ]
  refine' wpAnyH_take (i := 47) (oi := _) (v := .agg #[.int .u8 1, .int .u8 0, .int .u8 0, .int .u8 0, .int .u8 0, .int .u8 0, .int .u8 0, .int .u8 0, .int .u8 0, .int .u8 0, .int .u8 0, .int .u8 0, .int .u8 0, .int .u8 0, .int .u8 0, .int .u8 0, .int .u8 0, .int .u8 0, .int .u8 0, .int .u8 0, .int .u8 0, .int .u8 0, .int .u8 0, .int .u8 0, .int .u8 0, .int .u8 0, .int .u8 0, .int .u8 0, .int .u8 0, .int .u8 0, .int .u8 0, .int .u8 0]) ?hia93 (by kernel_rfl) ?hfa93 ?hra93 ?hQa93 ?hya93 (hBa87) ?resta93
  case hia93 => (simp only [List.getElem?_toArray, List.getElem?_cons_zero, List.getElem?_cons_succ]; rfl)
  case hfa93 => kernel_rfl
  case hra93 => kernel_rfl
  case hQa93 => exact fun _ _ _ h => h
  case hya93 => refine Or.inl ⟨by rfl, ?_⟩; intro W hSw; go_simp; try with_reducible rfl
  try simp only [Act.put, List.setIfInBounds_toArray, List.set_cons_zero, List.set_cons_succ]
  refine' wpAnyH_take (i := 49) (oi := _) (v := sv E) ?hia94 (by kernel_rfl) ?hfa94 ?hra94 ?hQa94 ?hya94 (hBa87) ?resta94
  case hia94 => (simp only [List.getElem?_toArray, List.getElem?_cons_zero, List.getElem?_cons_succ]; rfl)
  case hfa94 => kernel_rfl
  case hra94 => kernel_rfl
  case hQa94 => exact fun _ _ _ h => h
  case hya94 => refine Or.inl ⟨by rfl, ?_⟩; intro W hSw; exact jload_sum_op (.tmp 1) (by rfl) (by rfl) lE (HA.out W hSw)
  try simp only [Act.put, List.setIfInBounds_toArray, List.set_cons_zero, List.set_cons_succ]
  refine wpAnyH_ready (rs := [48]) (by kernel_rfl) (by simp) ?_
  refine' (AllReadyH.cons (o := _) ?hia95 (fun K hK => ?_) AllReadyH.nil)
  case hia95 => (simp only [List.getElem?_toArray, List.getElem?_cons_zero, List.getElem?_cons_succ]; rfl)
  go_simp
  go_at_call 23
  refine (CV.out Wa88 (below_on H0.out.1 (Nat.le_refl _) hBa87)).mono ?_
  rintro e Wa98 ⟨rfl, hba96⟩
  have hBa97 := below_on hBa87 (Nat.le_refl _) hba96
  have hQa99 := hQa89.below hba96
  refine hK.out _ _ (hBa97) (fun _ => ?_)
  clear hK K
  try simp only [Act.put, List.setIfInBounds_toArray, List.set_cons_zero, List.set_cons_succ]
  refine' wpAnyH_take (i := 50) (oi := _) (v := .bool true) ?hia100 (by kernel_rfl) ?hfa100 ?hra100 ?hQa100 ?hya100 (hBa97) ?resta100
  case hia100 => (simp only [List.getElem?_toArray, List.getElem?_cons_zero, List.getElem?_cons_succ]; rfl)
  case hfa100 => kernel_rfl
  case hra100 => kernel_rfl
  case hQa100 => exact fun _ _ _ h => h
  case hya100 => refine Or.inl ⟨by rfl, ?_⟩; intro W hSw; exact jeql_op (.tmp 51) (.tmp 52) (by rfl) (by rfl) (by rfl) lE
  try simp only [Act.put, List.setIfInBounds_toArray, List.set_cons_zero, List.set_cons_succ]
  refine' wpAnyH_take (i := 51) (oi := _) (v := _) ?hia101 (by kernel_rfl) ?hfa101 ?hra101 ?hQa101 ?hya101 (hBa97) ?resta101
  case hia101 => (simp only [List.getElem?_toArray, List.getElem?_cons_zero, List.getElem?_cons_succ]; rfl)
  case hfa101 => kernel_rfl
  case hra101 => kernel_rfl
  case hQa101 => exact fun _ _ _ h => h
  case hya101 => refine Or.inl ⟨by rfl, ?_⟩; intro W hSw; go_simp; try with_reducible rfl
  try simp only [Act.put, List.setIfInBounds_toArray, List.set_cons_zero, List.set_cons_succ]
  refine' wpAnyH_take (i := 52) (oi := _) (v := _) ?hia102 (by kernel_rfl) ?hfa102 ?hra102 ?hQa102 ?hya102 (hBa97) ?resta102
  case hia102 => (simp only [List.getElem?_toArray, List.getElem?_cons_zero, List.getElem?_cons_succ]; rfl)
  case hfa102 => kernel_rfl
  case hra102 => kernel_rfl
  case hQa102 => exact fun _ _ _ h => h
  case hya102 => refine Or.inl ⟨by rfl, ?_⟩; intro W hSw; go_simp; try with_reducible rfl
  try simp only [Act.put, List.setIfInBounds_toArray, List.set_cons_zero]
  refine wpAnyH_done (by kernel_rfl) ?_ _
  go_wp2_with fail
  go_ret
  exact ⟨rfl, (below_on H0.out.1 (Nat.le_refl _) hBa97)⟩

end Go.Proofs.YtnaebjdccngeoaaDoor
