/-
  TwinBytes: a copy in memory of its own, a mark behind it.
-/
import Derived.Test.YtigmbiigaiajdaaDoorLMem
import Derived.Deep.QuietTactic
import Derived.BigQuiet
namespace Go.Proofs.YtigmbiigaiajdaaDoor
open Go.RowKit

/-- '.slice A n (n + 1)' is a copy of xs, the mark 77 behind it: block g is just these cells. -/
def Twin (w : World) (g n : Nat) (xs : List Nat) : Prop := xs.length = n ∧ w.heap[g]? = some (.cells (bvs (xs ++ [77])).toArray 5 (0, 0))

theorem Twin.below {w w' : World} {g n : Nat} {xs : List Nat} (h : Twin w g n xs) (hb : Below w.heap.size w w') : Twin w' g n xs :=
  ⟨h.1, (hb.block g (Array.getElem?_eq_some_iff.1 h.2).1).trans h.2⟩
theorem Twin.in_ {w : World} {g n : Nat} {xs : List Nat} (h : Twin w g n xs) : In w (some ⟨g, 0, none⟩) n xs :=
  ⟨h.1, fun j x hx => ⟨_, rfl, by
    rw [show (⟨g, 0, none⟩ : Addr).add j = ⟨g, j, none⟩ from by unfold Addr.add; split <;> simp_all]
    have hj := (List.getElem?_eq_some_iff.1 hx).1
    rw [cell_of_row _ g j _ 5 (0, 0) h.2, List.getElem?_toArray, bvs_get, List.getElem?_append_left hj, hx]
    rfl⟩⟩
theorem Twin.last {w : World} {g n : Nat} {xs : List Nat} (h : Twin w g n xs) : w.cell? ⟨g, n, none⟩ = some (.int .u8 77) := by
  rw [cell_of_row _ g n _ 5 (0, 0) h.2, List.getElem?_toArray, bvs_get, List.getElem?_append_right (by rw [h.1]; omega), h.1]
  simp [bv]
theorem Twin.lt {w : World} {g n : Nat} {xs : List Nat} (h : Twin w g n xs) : g < w.heap.size := (Array.getElem?_eq_some_iff.1 h.2).1

set_option maxRecDepth 100000 in
set_option maxHeartbeats 1000000 in
theorem twinBytes_any (A : Option Addr) (n c : Nat) (xs : List Nat) (w : World) (hin : In w A n xs) (hn : n ≤ 1000000000) :
    Calls Tryd.prog 8 #[.slice A n c] w fun e w' => e = .returned (.slice (some ⟨w.heap.size, 0, none⟩) n (n + 1)) ∧ Twin w' w.heap.size n xs ∧ Below w.heap.size w w' := by
  obtain ⟨i0, hi, hz0, hz1, hz2⟩ := info_parts infoByte
  have hm : n + 1 ≤ maxLen := by unfold maxLen; omega
  go_enter Tryd.func8, Tryd.ntmps8
  go_wp2_with (at_make; refine wpList_make_own _ rfl _ _ 22 rfl w.heap.size 5 i0 _ 1 Tryd.underlying22 hi hz0 hz1 _ _ _ (n + 1) rfl rfl (by omega) (by rw [hz2]; omega) hm (Nat.le_refl _) ?_; intro w1 hown1 hgrow1)
  have hb1 : Below w.heap.size w w1 := (Below.refl _ w).grown hgrow1 (Nat.le_refl _) (fun k hk => by cases hk)
  go_loopw [3, 4] (fun t i wr => ∃ j : Nat, j ≤ n ∧ i = .int .i64 (j : Int) ∧ t = .slice (some ⟨w.heap.size, 0, none⟩) j (n + 1) ∧
      wr.ownsRow w.heap.size 5 1 (.slice (some ⟨w.heap.size, 0, none⟩) j (n + 1)) j (bvs (xs.take j)) ∧ Below w.heap.size w wr) (fun _ i _ => n - (intOf i).toNat)
  case atStart => exact ⟨0, Nat.zero_le _, rfl, rfl, hown1, hb1⟩
  case round =>
    obtain ⟨j, hj, rfl, rfl, hown, hbw⟩ := hrel
    have z1 := hbw.size
    by_cases hlt : j < n
    · obtain ⟨ad, x, rfl, hx, hcell⟩ := (hin.below hbw).at_ hlt
      have HX := Lib.hid hx
      clear hx
      go_wp2_with (at_builtin; refine wpList_append_fits _ rfl _ _ 22 rfl w.heap.size 5 i0 1 Tryd.underlying22 hi hz1 w.heap.size j (n + 1) _ rfl (hown.alloc _) ⟨wr.heap.size, 0, none⟩ 1 1 [.int .u8 (x : Int)] rfl rfl (cell_one_new _ _ _) (by simp [Value.oneCell']) (by omega) ?_; intro w2 hown2 hgrow2)
      go_roundw
      case rel =>
        refine ⟨j + 1, by omega, by go_num, rfl, ?_, (hbw.alloc z1 _).grown hgrow2 (by simp; omega) (fun k hk => by cases hk; exact Nat.le_refl _)⟩
        rw [take_snoc_of HX.out, bvs_append]
        exact hown2
      case measure => simp [intOf]; omega
    · obtain rfl : j = n := by omega
      go_wp2_with (at_builtin; refine wpList_append_fits _ rfl _ _ 22 rfl w.heap.size 5 i0 1 Tryd.underlying22 hi hz1 w.heap.size j (j + 1) _ rfl (hown.alloc _) ⟨wr.heap.size, 0, none⟩ 1 1 [.int .u8 77] rfl rfl (cell_one_new _ _ _) (by simp [Value.oneCell']) (by omega) ?_; intro w2 hown2 hgrow2)
      go_ret
      refine ⟨rfl, ⟨hin.len, ?_⟩, (hbw.alloc z1 _).grown hgrow2 (by simp; omega) (fun k hk => by cases hk; exact Nat.le_refl _)⟩
      rw [List.take_of_length_le (by rw [hin.len]; omega)] at hown2
      rcases hown2.2 with ⟨e1, _⟩ | ⟨g, cap, cur, e1, _, hg, _, _, hs, ht⟩
      · cases e1
      · cases e1
        rw [hg, bvs_append]
        rw [List.take_of_length_le (by rw [Array.length_toList, hs]; omega)] at ht
        have e2 : cur = (bvs xs ++ [Value.int .u8 77]).toArray := by rw [← ht]
        rw [e2]
        rfl

end Go.Proofs.YtigmbiigaiajdaaDoor
