/-
  keys.Bit.
-/
import Derived.Test.YtnaebjdccngeoaaDoorJPure
namespace Go.Proofs.YtnaebjdccngeoaaDoor
open Go.RowKit

set_option maxRecDepth 100000 in
set_option maxHeartbeats 2000000 in
theorem jbit_any (k : List Nat) (z : Int) (w : World) (hl : k.length = 32) (hb : ∀ x ∈ k, x < 256) (hz : -9223372036854775808 ≤ z ∧ z ≤ 9223372036854775807) :
    Calls Tryd.prog 19 #[sv k, .int .i64 z] w fun e w' => e = .returned (.int .i64 (bitZ k z : Int)) ∧ Below w.heap.size w w' := by
  have hbl := below_alloc w (.cells (bvs k).toArray 36)
  have f1 := BArr.new w 36 k
  have HF := Lib.hid (And.intro f1 hbl)
  clear f1 hbl
  by_cases hneg : z < 0
  · have hv : bitZ k z = 0 := by unfold bitZ; rw [if_pos (.inl hneg)]
    rw [hv]
    unfold sv
    go_enter Tryd.func19, Tryd.ntmps19
    go_wp2_with fail
    go_ret
    exact ⟨rfl, HF.out.2⟩
  · by_cases hbig : 256 ≤ z
    · have hv : bitZ k z = 0 := by unfold bitZ; rw [if_pos (.inr hbig)]
      rw [hv]
      unfold sv
      go_enter Tryd.func19, Tryd.ntmps19
      go_wp2_with fail
      go_ret
      exact ⟨rfl, HF.out.2⟩
    · obtain ⟨d, rfl⟩ := Int.eq_ofNat_of_zero_le (Int.not_lt.1 hneg)
      have hd : d < 256 := by omega
      have hv : bitZ k (d : Int) = bitN k d := by unfold bitZ; rw [if_neg (by omega)]; rfl
      obtain ⟨q, hq⟩ : ∃ q, d / 8 = q := ⟨_, rfl⟩
      obtain ⟨r, hr⟩ : ∃ r, d % 8 = r := ⟨_, rfl⟩
      have hq32 : q < 32 := by omega
      have hr8 : r < 8 := by omega
      have m1 : Int.tmod (d : Int) 8 = (r : Int) := by rw [← hr]; rfl
      have m2 : Int.tdiv (d : Int) 8 = (q : Int) := by rw [← hq]; rfl
      obtain ⟨s, hs⟩ : ∃ s, 7 - r = s := ⟨_, rfl⟩
      have m3 : (7 : Int) - (r : Int) = (s : Int) := by omega
      have hs7 : s ≤ 7 := by omega
      obtain ⟨x, hx⟩ : ∃ x, k.getD q 0 = x := ⟨_, rfl⟩
      have hx256 : x < 256 := by rw [← hx, List.getD_eq_getElem?_getD, List.getElem?_eq_getElem (by omega)]; exact hb _ (List.getElem_mem _)
      obtain ⟨y, hy⟩ : ∃ y, x / 2 ^ s = y := ⟨_, rfl⟩
      have hy256 : y < 256 := by rw [← hy]; exact Nat.lt_of_le_of_lt (Nat.div_le_self _ _) hx256
      obtain ⟨b, hb2⟩ : ∃ b, y % 2 = b := ⟨_, rfl⟩
      have hN : bitN k d = b := by unfold bitN; rw [hq, hr, hs, hx, hy, hb2]
      have m4 := and_one_of hy256 hb2
      have hb1 : b < 2 := by omega
      have m5 : (d : Int) / 8 = (q : Int) := by omega
      have m6 : (d : Int) % 8 = (r : Int) := by omega
      rw [hv, hN]
      unfold sv
      have hcell : (w.alloc (.cells (bvs k).toArray 36)).cell? ⟨w.heap.size, q, none⟩ = some (.int .u8 (x : Int)) := by rw [← hx]; exact HF.out.1.cell (by omega)
      have m7 : (x : Int) / 2 ^ s = (y : Int) := by rw [← hy, Int.natCast_ediv]; simp
      clear hq hr hs hy hx hN hv hb hb2
      go_enter Tryd.func19, Tryd.ntmps19
      go_wp2_with fail
      go_ret
      exact ⟨rfl, HF.out.2⟩

end Go.Proofs.YtnaebjdccngeoaaDoor
