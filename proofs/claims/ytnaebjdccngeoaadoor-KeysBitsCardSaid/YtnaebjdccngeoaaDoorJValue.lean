/-
  keys.Value.
-/
import Derived.Test.YtnaebjdccngeoaaDoorJEmpty
import Derived.Test.YtnaebjdccngeoaaDoorVLeaf
namespace Go.Proofs.YtnaebjdccngeoaaDoor
open Go.RowKit

theorem rows_keyed {W : World} {b g n c : Nat} {A : Option Addr} {l v : List Nat} (ll : ∀ x ∈ l, x < 256)
    (h0 : W.cell? ⟨b, 0, none⟩ = some (.slice (some ⟨g, 0, none⟩) 32 32)) (h1 : W.cell? ⟨b, 1, none⟩ = some (.slice A n c))
    (hg : In W (some ⟨g, 0, none⟩) 32 l) (hv : Came W A n c v) (hn : n ≤ 140737488355328) : CameRows W (some ⟨b, 0, none⟩) 2 [l, v] :=
  ⟨rfl, fun k xs hx => by
    have hk := (List.getElem?_eq_some_iff.1 hx).1
    obtain rfl | rfl : k = 0 ∨ k = 1 := by simp at hk; omega
    · cases hx
      exact ⟨_, _, 32, 32, rfl, h0, ⟨hg, ll, (fun h => by cases h), Nat.le_refl _⟩, by omega⟩
    · cases hx
      exact ⟨_, _, _, _, rfl, h1, hv, by omega⟩⟩

set_option maxRecDepth 100000 in
set_option maxHeartbeats 2000000 in
theorem jvalue_any (k : List Nat) (A : Option Addr) (n c : Nat) (v : List Nat) (w : World) (hl : k.length = 32) (hkb : ∀ x ∈ k, x < 256) (hv : Came w A n c v) (hn : n ≤ 700000000) (hk : Knows w) (hs : Starts w) :
    Calls Tryd.prog 23 #[sv k, .slice A n c] w fun e w' => e = .returned (sv (valueL k v)) ∧ Below w.heap.size w w' := by
  obtain ⟨g, hg⟩ : ∃ g, w.heap.size = g := ⟨_, rfl⟩
  have e0 : (bvs zero32).toArray = #[.int .u8 0, .int .u8 0, .int .u8 0, .int .u8 0, .int .u8 0, .int .u8 0, .int .u8 0, .int .u8 0, .int .u8 0, .int .u8 0, .int .u8 0, .int .u8 0, .int .u8 0, .int .u8 0, .int .u8 0, .int .u8 0, .int .u8 0, .int .u8 0, .int .u8 0, .int .u8 0, .int .u8 0, .int .u8 0, .int .u8 0, .int .u8 0, .int .u8 0, .int .u8 0, .int .u8 0, .int .u8 0, .int .u8 0, .int .u8 0, .int .u8 0, .int .u8 0] := rfl
  have f0 := BArr.new w 36 k
  have b0 := below_alloc w (.cells (bvs k).toArray 36)
  obtain ⟨w0, hw0⟩ : ∃ w0, w0 = w.alloc (.cells (bvs k).toArray 36) := ⟨_, rfl⟩
  rw [← hw0] at f0 b0
  have s0 : w0.heap.size = g + 1 := by rw [hw0]; simp [hg]
  have f1 := BArr.new w0 36 zero32
  have b1 := below_alloc w0 (.cells (bvs zero32).toArray 36)
  rw [e0] at f1 b1
  obtain ⟨w1, hw1⟩ : ∃ w1, w1 = w0.alloc (.cells #[.int .u8 0, .int .u8 0, .int .u8 0, .int .u8 0, .int .u8 0, .int .u8 0, .int .u8 0, .int .u8 0, .int .u8 0, .int .u8 0, .int .u8 0, .int .u8 0, .int .u8 0, .int .u8 0, .int .u8 0, .int .u8 0, .int .u8 0, .int .u8 0, .int .u8 0, .int .u8 0, .int .u8 0, .int .u8 0, .int .u8 0, .int .u8 0, .int .u8 0, .int .u8 0, .int .u8 0, .int .u8 0, .int .u8 0, .int .u8 0, .int .u8 0, .int .u8 0] 36) := ⟨_, rfl⟩
  rw [← hw1] at f1 b1
  have s1 : w1.heap.size = g + 2 := by rw [hw1]; simp [s0]
  have fk := f0.below b1
  have hb := below_on b0 (Nat.le_refl _) b1
  rw [s0] at f1
  have HW := Lib.hid (show w1 = (w.alloc (.cells (bvs k).toArray 36)).alloc (.cells #[.int .u8 0, .int .u8 0, .int .u8 0, .int .u8 0, .int .u8 0, .int .u8 0, .int .u8 0, .int .u8 0, .int .u8 0, .int .u8 0, .int .u8 0, .int .u8 0, .int .u8 0, .int .u8 0, .int .u8 0, .int .u8 0, .int .u8 0, .int .u8 0, .int .u8 0, .int .u8 0, .int .u8 0, .int .u8 0, .int .u8 0, .int .u8 0, .int .u8 0, .int .u8 0, .int .u8 0, .int .u8 0, .int .u8 0, .int .u8 0, .int .u8 0, .int .u8 0] 36) by rw [hw1, hw0])
  have hkw := hk.below hb
  have hsw := hs.below hb
  have hv1 := hv.below hb
  rw [hg] at fk hb
  have HF := Lib.hid (And.intro fk (And.intro f1 hb))
  have HG := Lib.hid hg
  have hZ := Lib.hid (show zero32.length = 32 from rfl)
  have hsl := run_arr_all Tryd.underlying36
  rw [hg]
  have hvl := hv.in_.len
  unfold sv
  by_cases h0 : n = 0
  · have ev : v = [] := List.length_eq_zero_iff.1 (by omega)
    have CE := Lib.hid (jempty_any 256 w1 hkw hsw (by omega))
    have em : emptyZ 256 = valueL k v := by unfold valueL; rw [if_pos ev]; unfold emptyZ; rw [clamp_big (by omega)]
    rw [em] at CE
    have hlv := valueL_length k v
    have hn0 : ((n : Int) == 0) = true := by simp; omega
    obtain ⟨s, hs0⟩ : ∃ s, valueL k v = s := ⟨_, rfl⟩
    rw [hs0] at CE hlv
    have HS0 := Lib.hid hs0
    clear em hs0 e0 f0 b0 hw0 s0 f1 b1 hw1 s1 fk hb hkw hsw hv1 hg hv hk hs hvl
    go_enter Tryd.func23, Tryd.ntmps23
    go_upto_region 1 with fail
    rw [← HW.out]
    rw [HG.out]
    go_wp2_with fail
    refine CE.out.mono ?_
    rintro e w4 ⟨rfl, hb4⟩
    have f4 := HF.out.2.1.below hb4
    have B4 := Lib.hid (below_on HF.out.2.2 (Nat.le_of_eq HG.out.symm) hb4)
    go_wp2_with (with_reducible refine wpList_store_sum rfl (.tmp 4) (.tmp 8) rfl (g + 1) rfl zero32 s hZ hlv f4 rfl ?_)
    refine bodyPost_ret_by (results_cell_row (p := 4) (ty := 36) (by kernel_rfl) _ _ (g + 1) 36 (bvs s).toArray (0, 0) _ rfl (f4.setRow _) Tryd.underlying36 rfl (by rw [List.size_toArray, bvs_length, hlv]; exact sizeSum)) rfl ?_
    exact ⟨by rw [HS0.out] <;> rfl, below_setRow B4.out (by omega) _⟩
  · obtain ⟨W, hW⟩ : ∃ W, W = w1.alloc (.cells #[.slice (some ⟨g, 0, none⟩) 32 32, .slice A n c] 23) := ⟨_, rfl⟩
    have hbW : Below w1.heap.size w1 W := by rw [hW]; exact below_alloc _ _
    have hc2 := cell_two w1 (.slice (some ⟨g, 0, none⟩) 32 32) (.slice A n c) 23
    rw [← hW] at hc2
    have CM := Lib.hid (jmarked_any 3 (some ⟨w1.heap.size, 0, none⟩) 2 2 [k, v] W (by omega) (rows_keyed hkb hc2.1 hc2.2 ⟨hl, fun j x hx => ⟨_, rfl, (fk.below hbW).at_ j x hx⟩⟩ (hv1.below hbW) (by omega)) (hkw.below hbW) (hsw.below hbW) (by simp [tot]; omega) (by omega))
    have em : sha (3 :: [k, v].flatten) = valueL k v := by unfold valueL; rw [if_neg (by intro e; rw [e] at hvl; exact h0 hvl.symm)]; simp
    rw [em] at CM
    have hlv := valueL_length k v
    have hn0 : ((n : Int) == 0) = false := by simp; omega
    obtain ⟨s, hs0⟩ : ∃ s, valueL k v = s := ⟨_, rfl⟩
    rw [hs0] at CM hlv
    have HS0 := Lib.hid hs0
    have HX := Lib.hid (And.intro hbW hW)
    clear em hs0 e0 f0 b0 hw0 s0 f1 b1 hw1 s1 fk hb hkw hsw hv1 hg hv hk hs hvl hbW hc2 hW
    go_enter Tryd.func23, Tryd.ntmps23
    go_upto_region 1 with fail
    rw [← HW.out]
    rw [HG.out]
    go_wp2_with fail
    rw [← HX.out.2]
    refine CM.out.mono ?_
    rintro e w4 ⟨rfl, hb4⟩
    have b14 := below_on HX.out.1 (Nat.le_refl _) hb4
    have f4 := HF.out.2.1.below b14
    have B4 := Lib.hid (below_on HF.out.2.2 (Nat.le_of_eq HG.out.symm) b14)
    clear b14 hb4
    go_wp2_with (with_reducible refine wpList_store_sum rfl (.tmp 4) (.tmp 12) rfl (g + 1) rfl zero32 s hZ hlv f4 rfl ?_)
    refine bodyPost_ret_by (results_cell_row (p := 4) (ty := 36) (by kernel_rfl) _ _ (g + 1) 36 (bvs s).toArray (0, 0) _ rfl (f4.setRow _) Tryd.underlying36 rfl (by rw [List.size_toArray, bvs_length, hlv]; exact sizeSum)) rfl ?_
    exact ⟨by rw [HS0.out] <;> rfl, below_setRow B4.out (by omega) _⟩

end Go.Proofs.YtnaebjdccngeoaaDoor
