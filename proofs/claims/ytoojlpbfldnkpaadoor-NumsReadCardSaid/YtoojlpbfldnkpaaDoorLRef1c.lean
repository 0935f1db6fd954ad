/-
  The document's own answers of layer 1: GetSums.
-/
import Derived.Test.YtoojlpbfldnkpaaDoorLRef1b
import Derived.Test.YtoojlpbfldnkpaaDoorLSum
import Derived.StillTailTactics
namespace Go.Proofs.YtoojlpbfldnkpaaDoor
open Go.RowKit

/-- The first y bytes of block g have been laid. -/
def BytesAt (w : World) (g m y : Nat) (ys : List Nat) (wr : World) : Prop :=
  ∃ cur : Array Value, cur.size = m * 32 ∧ wr.heap[g]? = some (.cells cur 54 (0, 0)) ∧ cur.toList.take y = bvs (ys.take y) ∧ Below g w wr

theorem BytesAt.cell {w wr : World} {g m y i : Nat} {ys : List Nat} (h : BytesAt w g m y ys wr) (hi : i < m * 32) : (∃ u, wr.cell? ⟨g, i, none⟩ = some u) ∧ wr.frozen? ⟨g, i, none⟩ = false := by
  obtain ⟨cur, hl, hh, _, _⟩ := h
  exact ⟨⟨cur[i], by rw [cell_of_row _ g i _ _ (0, 0) hh]; exact Array.getElem?_eq_getElem (by omega)⟩, frozen_of_row _ g i _ _ hh⟩

theorem BytesAt.set {w wr : World} {g m y x : Nat} {ys : List Nat} (h : BytesAt w g m y ys wr) (hy : y < m * 32) (hx : ys[y]? = some x) : BytesAt w g m (y + 1) ys (wr.drew.setCell ⟨g, y, none⟩ (.int .u8 (x : Int))) := by
  obtain ⟨cur, hl, hh, ht, hb⟩ := h
  refine ⟨cur.setIfInBounds y (.int .u8 (x : Int)), by simp [hl], heap_setCell_same wr.drew g y cur _ _ hh, ?_, hb.drew.setCell (p := ⟨g, y, none⟩) (Nat.le_refl _) _⟩
  rw [take_snoc_of hx, bvs_append, ← ht, Array.toList_setIfInBounds, List.take_add_one]
  have e1 : (cur.toList.set y (.int .u8 (x : Int))).take y = cur.toList.take y := by rw [List.take_set, List.set_eq_of_length_le (by rw [List.length_take]; omega)]
  have e2 : (cur.toList.set y (.int .u8 (x : Int)))[y]? = some (.int .u8 (x : Int)) := by rw [List.getElem?_set_self]; rw [Array.length_toList]; omega
  rw [e1, e2]
  rfl

set_option maxRecDepth 100000 in
set_option maxHeartbeats 400000 in
theorem refGetSums_short (A : Option Addr) (n c : Nat) (xs : List Nat) (w : World) (hin : In w A n xs) (hb : ∀ x ∈ xs, x < 256) (hmax : n ≤ 1000000000) (hs : n < 2 ∨ n < 2 + 32 * val (xs.take 2)) :
    Calls Tryd.prog 16 #[.slice A n c] w (Short3b w) := by
  by_cases h4 : n < 2
  · go_enter Tryd.func16, Tryd.ntmps16
    go_wp2_with fail
    refine (there_short A n c 2 32 w h4 (by omega) (by omega)).mono ?_
    rintro e w1 ⟨rfl, hb1⟩
    go_wp2_with fail
    go_ret3
    exact ⟨rfl, hb1⟩
  · obtain ⟨m, hm⟩ : ∃ m, val (xs.take 2) = m := ⟨_, rfl⟩
    rw [hm] at hs
    have hl : m < 256 ^ 2 := by
      have h1 := val_lt (xs.take 2) (fun x hx => hb x (List.mem_of_mem_take hx))
      rw [List.length_take, hin.len, Nat.min_eq_left (by omega), hm] at h1
      exact h1
    have C := Lib.hid (there_ok A n c 2 32 m (2 + m * 32) xs w hin hb (by omega) (by omega) (by omega) hm (by omega) rfl hmax)
    rw [show decide (2 + m * 32 ≤ n) = false by simp; omega] at C
    generalize 2 + m * 32 = E at C
    clear hm hb
    go_enter Tryd.func16, Tryd.ntmps16
    go_wp2_with fail
    refine (C.out).mono ?_
    rintro e w1 ⟨rfl, hb1⟩
    go_wp2_with fail
    go_ret3
    exact ⟨rfl, hb1⟩

set_option maxRecDepth 100000 in
set_option maxHeartbeats 1000000 in
theorem refGetSums_ok (A : Option Addr) (n c m : Nat) (xs : List Nat) (w : World) (hin : In w A n xs) (hb : ∀ x ∈ xs, x < 256) (hmax : n ≤ 1000000000) (h2 : 2 ≤ n) (hm : val (xs.take 2) = m) (hm2 : m < 65536) (hs : 2 + 32 * m ≤ n) :
    Calls Tryd.prog 16 #[.slice A n c] w (GivesSums w.heap.size w m ((xs.drop 2).take (32 * m)) (2 + 32 * (m : Int))) := by
  have C := Lib.hid (there_ok A n c 2 32 m (2 + 32 * m) xs w hin hb (by omega) (by omega) (by omega) hm (by omega) (by omega) hmax)
  rw [show decide (2 + 32 * m ≤ n) = true by simp; omega, show ((2 + 32 * m : Nat) : Int) = 2 + 32 * (m : Int) by omega] at C
  clear hm hb
  have hmk := make_sums m hm2
  obtain ⟨M, hM⟩ : ∃ M : Array Value, madeCells (Array.replicate 32 (.int .u8 0)) (m * 32) = M := ⟨_, rfl⟩
  have hMl : M.size = m * 32 := by rw [← hM, size_madeCells]
  rw [hM] at hmk
  clear hM
  have HM := Lib.hid hMl
  clear hMl
  have hlen : (xs.drop 2).length = n - 2 := by rw [List.length_drop, hin.len]
  have HLen := Lib.hid hlen
  clear hlen
  go_enter Tryd.func16, Tryd.ntmps16
  go_wp2_with fail
  refine (C.out).mono ?_
  rintro e w1 ⟨rfl, hb1⟩
  have h0 : BytesAt w1 w1.heap.size m 0 (xs.drop 2) (w1.alloc (.cells M 54)) := ⟨M, HM.out, World.alloc_heap_new w1 _, by simp [bvs], below_alloc w1 _⟩
  have i1 := hin.below hb1
  go_wp2_with fail
  go_loopw [9] (fun i wr => ∃ y : Nat, y ≤ 32 * m ∧ i = .int .i64 (2 + (y : Int)) ∧ BytesAt w1 w1.heap.size m y (xs.drop 2) wr) (fun i _ => 2 + 32 * m - (intOf i).toNat)
  case atStart => exact ⟨0, Nat.zero_le _, rfl, h0⟩
  case round =>
    obtain ⟨y, hy, rfl, hba⟩ := hrel
    by_cases hlt : y < 32 * m
    · obtain ⟨cur0, _, _, _, hbw⟩ := id hba
      obtain ⟨ad, x, rfl, hx, hcell⟩ := (i1.below hbw).at_ (show 2 + y < n by omega)
      have hx2 : (xs.drop 2)[y]? = some x := by rw [List.getElem?_drop]; exact hx
      obtain ⟨⟨u, hcu⟩, hfz⟩ := hba.cell (i := y) (by omega)
      have hst := hba.set (by omega) hx2
      clear hx hx2 hba hbw
      obtain ⟨a, r, hyr, hr, ha⟩ : ∃ a r : Nat, y = a * 32 + r ∧ r < 32 ∧ a < m := ⟨y / 32, y % 32, by omega, by omega, by omega⟩
      have k1 : IntKind.i64.wrap (2 + (y : Int) - 2) = (y : Int) := by rw [show 2 + (y : Int) - 2 = (y : Int) by omega]; exact IntWalk.i64_in _ (by omega)
      have q1 : (y : Int).tdiv 32 = (a : Int) := by rw [Int.tdiv_eq_ediv_of_nonneg (by omega)]; omega
      have q2 : (y : Int).tmod 32 = (r : Int) := by rw [Int.tmod_eq_emod_of_nonneg (by omega)]; omega
      have q3 : IntKind.i64.wrap (a : Int) = (a : Int) := IntWalk.i64_in _ (by omega)
      have q4 : IntKind.i64.wrap (r : Int) = (r : Int) := IntWalk.i64_in _ (by omega)
      have a1 : (a : Int) < (m : Int) := by omega
      have r1 : (r : Int) < 32 := by omega
      have y1 : 2 + (y : Int) < (n : Int) := by omega
      have y2 : 0 ≤ 2 + (y : Int) := by omega
      have y3 : (2 + (y : Int)).toNat = 2 + y := by omega
      have HY := Lib.hid hyr
      have hst2 : BytesAt w1 w1.heap.size m (y + 1) (xs.drop 2) (wr.drew.setCell ⟨w1.heap.size, a * 32 + r, none⟩ (.int .u8 (x : Int))) := by rw [← hyr]; exact hst
      clear hst
      rw [hyr] at hcu hfz
      clear hyr
      go_wp2
      go_still_tail 13, (by kernel_rfl)
      change wpList _ _ _ _ _ wr.drew
      clear k1 q1 q2 q3 q4 y1 y2 y3
      go_wp2
      go_roundw
      case rel => exact ⟨y + 1, by omega, by go_num, hst2⟩
      case measure => simp [intOf]; omega
    · obtain rfl : y = 32 * m := by omega
      obtain ⟨cur, hl, hh, ht, hbw⟩ := hba
      have hfin : wr.ownsRow w.heap.size 54 32 (.slice (some ⟨w1.heap.size, 0, none⟩) m m) m (bvs ((xs.drop 2).take (32 * m))) :=
        ⟨by rw [bvs_length, List.length_take, HLen.out]; omega, .inr ⟨w1.heap.size, m, cur, rfl, hb1.size, hh, Nat.le_refl _, by unfold maxLen; omega, hl, by rw [Nat.mul_comm, ht]⟩⟩
      have hfb := below_on hb1 (Nat.le_refl _) hbw
      clear hl hh ht hbw
      go_wp2
      go_ret3
      exact ⟨_, _, rfl, hfin, hfb⟩

end Go.Proofs.YtoojlpbfldnkpaaDoor
