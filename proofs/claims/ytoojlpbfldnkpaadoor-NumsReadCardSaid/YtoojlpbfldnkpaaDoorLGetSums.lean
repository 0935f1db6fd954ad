/-
  nums.GetSums.
-/
import Derived.Test.YtoojlpbfldnkpaaDoorLGet
import Derived.Test.YtoojlpbfldnkpaaDoorLSum
import Derived.StillTailTactics
namespace Go.Proofs.YtoojlpbfldnkpaaDoor
open Go.RowKit

set_option maxRecDepth 100000 in
set_option maxHeartbeats 400000 in
theorem getSums_short2 (A : Option Addr) (n c : Nat) (w : World) (h : n < 2) :
    Calls Tryd.prog 10 #[.slice A n c] w (Short3 w) := by
  go_enter Tryd.func10, Tryd.ntmps10
  go_wp2_with fail
  refine (get_short A n c 2 w (by omega) h).mono ?_
  rintro e w1 ⟨rfl, rfl⟩
  go_wp2_with fail
  go_ret3
  exact ⟨rfl, rfl⟩

set_option maxRecDepth 100000 in
set_option maxHeartbeats 400000 in
theorem getSums_short (A : Option Addr) (n c m : Nat) (xs : List Nat) (w : World) (hin : In w A n xs) (hb : ∀ x ∈ xs, x < 256) (h : 2 ≤ n) (hc : n ≤ c) (hm : val (xs.take 2) = m) (hs : n - 2 < 32 * m) (hmax : n ≤ 200000000000000) (hm2 : m < 65536) :
    Calls Tryd.prog 10 #[.slice A n c] w (Short3 w) := by
  have C := Lib.hid (get_ok A n c 2 xs w hin hb (by omega) h hc)
  rw [hm] at C
  clear hb hm
  obtain ⟨ad, x, rfl, _⟩ := hin.at_ (show 0 < n by omega)
  go_enter Tryd.func10, Tryd.ntmps10
  go_wp2_with fail
  refine (C.out).mono ?_
  rintro e w1 ⟨rfl, rfl⟩
  go_wp2_with fail
  all_goals
    go_ret3
    exact ⟨rfl, rfl⟩

set_option maxRecDepth 100000 in
set_option maxHeartbeats 400000 in
theorem getSums_ok (A : Option Addr) (n c m : Nat) (xs : List Nat) (w : World) (hin : In w A n xs) (hb : ∀ x ∈ xs, x < 256) (h : 2 ≤ n) (hc : n ≤ c) (hm : val (xs.take 2) = m) (hs : 32 * m ≤ n - 2) (hmax : n ≤ 200000000000000) (hm2 : m < 65536) :
    Calls Tryd.prog 10 #[.slice A n c] w (GivesSums w.heap.size w m ((xs.drop 2).take (32 * m)) (2 + 32 * (m : Int))) := by
  have C := Lib.hid (get_ok A n c 2 xs w hin hb (by omega) h hc)
  rw [hm] at C
  clear hb hm
  obtain ⟨ad, x, rfl, _⟩ := hin.at_ (show 0 < n by omega)
  have hmk := make_sums m hm2
  obtain ⟨M, hM⟩ : ∃ M : List Value, (madeCells (Array.replicate 32 (.int .u8 0)) (m * 32)).toList = M := ⟨_, rfl⟩
  have hMl : M.length = m * 32 := by rw [← hM, Array.length_toList, size_madeCells]
  have hM' : madeCells (Array.replicate 32 (.int .u8 0)) (m * 32) = M.toArray := by rw [← hM]
  rw [hM'] at hmk
  clear hM hM'
  have h0 : SumsAt w w.heap.size m 0 (xs.drop 2) (w.alloc (.cells M.toArray 54)) := ⟨M, hMl, World.alloc_heap_new w _, by simp [bvs], (Below.refl _ w).alloc (Nat.le_refl _) _⟩
  have HM := Lib.hid hMl
  clear hMl
  have d1 : decide (((n - 2 : Nat) : Int) < 32 * (m : Int)) = false := by simp; omega
  have hfin : ∀ wr, SumsAt w w.heap.size m m (xs.drop 2) wr → wr.ownsRow w.heap.size 54 32 (.slice (some ⟨w.heap.size, 0, none⟩) m m) m (bvs ((xs.drop 2).take (32 * m))) ∧ Below w.heap.size w wr := by
    rintro wr ⟨cur, hl, hh, ht, hb⟩
    have hlen : (bvs ((xs.drop 2).take (32 * m))).length = m * 32 := by rw [bvs_length, List.length_take, List.length_drop, hin.len]; omega
    exact ⟨⟨hlen, .inr ⟨w.heap.size, m, cur.toArray, rfl, Nat.le_refl _, hh, Nat.le_refl _, by unfold maxLen; omega, by rw [List.size_toArray, hl], by rw [← ht, Nat.mul_comm]⟩⟩, hb⟩
  have HF := Lib.hid hfin
  clear hfin
  by_cases hc2 : c = 2
  · subst hc2
    obtain rfl : n = 2 := by omega
    obtain rfl : m = 0 := by omega
    rw [show ((0 : Nat) : Int) = 0 from rfl] at hmk C
    go_enter Tryd.func10, Tryd.ntmps10
    go_wp2_with fail
    refine (C.out).mono ?_
    rintro e w1 ⟨rfl, rfl⟩
    go_wp2_with fail
    go_loopw [30] (fun i wr => i = .int .i64 0 ∧ SumsAt w w.heap.size 0 0 (xs.drop 2) wr) (fun _ _ => 0)
    case atStart => exact ⟨rfl, h0⟩
    case round =>
      obtain ⟨rfl, hsa⟩ := hrel
      go_wp2
      go_ret3
      exact ⟨_, _, rfl, HF.out _ hsa⟩
  · go_enter Tryd.func10, Tryd.ntmps10
    go_wp2_with fail
    refine (C.out).mono ?_
    rintro e w1 ⟨rfl, rfl⟩
    go_wp2_with fail
    go_loopw [30] (fun i wr => ∃ j : Nat, j ≤ m ∧ i = .int .i64 (j : Int) ∧ SumsAt w w.heap.size m j (xs.drop 2) wr) (fun i _ => m - (intOf i).toNat)
    case atStart => exact ⟨0, Nat.zero_le _, rfl, h0⟩
    case round =>
      obtain ⟨j, hj, rfl, hsa⟩ := hrel
      by_cases hlt : j < m
      · have j1 : (j : Int) < (m : Int) := by omega
        have j2 : ¬ c - 2 = 32 * j := by omega
        obtain ⟨cur, hl, hh, ht, hbw⟩ := hsa
        have hin2 := (hin.below hbw).drop_take (k := 2 + 32 * j) (m := 32) (by omega)
        rw [add_pos ad (by omega), ← Nat.add_assoc, ← List.drop_drop] at hin2
        have hcl : (bvs (((xs.drop 2).drop (32 * j)).take 32)).length = 32 := by rw [bvs_length, hin2.len]
        have HN : Hid ((bvs (((xs.drop 2).drop (32 * j)).take 32)).length = Nat.min (n - 2 - 32 * j) 32) := by
          show _ = _
          rw [hcl]
          exact (Nat.min_eq_right (by omega)).symm
        have hpos : 0 < (bvs (((xs.drop 2).drop (32 * j)).take 32)).length → (some ⟨w.heap.size, j * 32, none⟩ : Option Addr) = some ⟨w.heap.size, j * 32, none⟩ ∧ ∃ ad', (some ⟨ad.block, ad.off + 2 + 32 * j, none⟩ : Option Addr) = some ad' ∧ ∀ j' v, (bvs (((xs.drop 2).drop (32 * j)).take 32))[j']? = some v → wr.drew.cell? (ad'.add j') = some v := by
          intro _
          refine ⟨rfl, _, rfl, fun j' v hv => ?_⟩
          rw [bvs_get] at hv
          obtain ⟨y, hy, rfl⟩ := Option.map_eq_some_iff.1 hv
          obtain ⟨ad', e, hc'⟩ := hin2.rd j' y hy
          cases e
          exact hc'
        have hfit : j * 32 + (bvs (((xs.drop 2).drop (32 * j)).take 32)).length ≤ cur.length := by rw [hcl, hl]; omega
        have ST : Hid (∀ w', Hid (w'.heap[w.heap.size]? = some (.cells (splice cur (j * 32) (bvs (((xs.drop 2).drop (32 * j)).take 32))).toArray 54 (0, 0))) → Below w.heap.size w w' → SumsAt w w.heap.size m (j + 1) (xs.drop 2) w') :=
          fun w' h1 h2 => sums_step hlt hl ht hcl h1 h2
        have HP := Lib.hid hpos
        have HFt := Lib.hid hfit
        have HH := Lib.hid hh
        have HB := Lib.hid hbw
        clear hpos hfit hh hbw hl ht hcl hin2
        have j3 : 32 * j ≤ n - 2 := by omega
        have j4 : n - 2 ≤ c - 2 := by omega
        have k1 : IntKind.i64.wrap (32 * (j : Int)) = 32 * (j : Int) := IntWalk.i64_in _ (by omega)
        have k2 : 0 ≤ 32 * (j : Int) := by omega
        have k3 : (32 * (j : Int)).toNat = 32 * j := by omega
        have k4 : 32 * (j : Int) ≤ ((n - 2 : Nat) : Int) := by omega
        go_wp2
        go_still_tail 8, (by kernel_rfl)
        refine wpList_copy_splice (w := wr.drew) rfl (.tmp 36) (.tmp 40) 22 22 rfl 5 Tryd.underlying22 sizeByte (some ⟨w.heap.size, j * 32, none⟩) (some ⟨ad.block, ad.off + 2 + 32 * j, none⟩) 32 32 (n - 2 - 32 * j) (c - 2 - 32 * j) rfl rfl w.heap.size (j * 32) cur 54 HH.out (bvs (((xs.drop 2).drop (32 * j)).take 32)) HN.out (fun h => ⟨rfl, (HP.out h).2⟩) HFt.out (bvs_oneCell _) w.heap.size w HB.out.drew (Nat.le_refl _) ?_
        intro w2 hw2 hb2
        have hs2 := ST.out w2 hw2 hb2
        clear k1 k2 k3 k4 hw2 hb2
        go_wp2
        go_roundw
        case rel => exact ⟨j + 1, by omega, by go_num, hs2⟩
        case measure => simp [intOf]; omega
      · obtain rfl : j = m := by omega
        go_wp2
        go_ret3
        exact ⟨_, _, rfl, HF.out _ hsa⟩

end Go.Proofs.YtoojlpbfldnkpaaDoor
