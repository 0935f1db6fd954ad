/-
  sums.added: both numbers behind a piece, not divided.
-/
import Derived.Test.YthbgcijkpincfaaGreatDoorSumNum
namespace Go.Proofs.YthbgcijkpincfaaGreatDoor
open Go.RowKit

theorem sm_le {xs : List Nat} (h : ∀ x ∈ xs, x < 256) : sm xs ≤ xs.length * 255 := by
  induction xs with
  | nil => simp [sm]
  | cons x xs ih =>
    have h1 := h x (by simp)
    have h2 := ih (fun y hy => h y (by simp [hy]))
    rw [sm_cons, List.length_cons, Nat.add_mul]
    omega
theorem wt_le {xs : List Nat} (h : ∀ x ∈ xs, x < 256) : 2 * wt xs ≤ xs.length * (xs.length + 1) * 255 := by
  induction xs with
  | nil => simp [wt]
  | cons x xs ih =>
    have h1 := h x (by simp)
    have h2 := ih (fun y hy => h y (by simp [hy]))
    rw [wt, List.length_cons]
    have h3 : (xs.length + 1) * x ≤ (xs.length + 1) * 255 := Nat.mul_le_mul_left _ (by omega)
    have e : (xs.length + 1) * (xs.length + 1 + 1) = xs.length * (xs.length + 1) + 2 * (xs.length + 1) := by
      rw [Nat.mul_add (xs.length + 1), Nat.mul_one, Nat.mul_comm (xs.length + 1) (xs.length + 1), Nat.add_mul xs.length, Nat.one_mul]
      omega
    generalize (xs.length + 1) * x = p at h3 ⊢
    rw [e]
    generalize xs.length * (xs.length + 1) = q at h2 ⊢
    omega
/-- What both numbers come to within a piece. -/
def lo (a : Nat) (xs : List Nat) : Nat := a + sm xs
def hi (a b : Nat) (xs : List Nat) : Nat := b + xs.length * a + wt xs
theorem lo_lt {a : Nat} {xs : List Nat} (ha : a < 65521) (h : ∀ x ∈ xs, x < 256) (hl : xs.length ≤ 5552) : lo a xs < 4294967296 := by
  have := sm_le h
  unfold lo
  omega
theorem hi_lt {a b : Nat} {xs : List Nat} (ha : a < 65521) (hb : b < 65521) (h : ∀ x ∈ xs, x < 256) (hl : xs.length ≤ 5552) : hi a b xs < 4294967296 := by
  have h1 := wt_le h
  have h2 : xs.length * a ≤ 5552 * 65520 := Nat.mul_le_mul hl (by omega)
  have h3 : xs.length * (xs.length + 1) ≤ 5552 * 5553 := Nat.mul_le_mul hl (by omega)
  unfold hi
  omega
theorem ad_piece {a b : Nat} (ha : a < 65521) (hb : b < 65521) (xs : List Nat) : ad (a, b) xs = (lo a xs % 65521, hi a b xs % 65521) := ad_closed a b ha hb xs
theorem lo_snoc (a : Nat) (xs : List Nat) (x : Nat) : lo a (xs ++ [x]) = lo a xs + x := by unfold lo; rw [sm_snoc]; omega
theorem hi_snoc (a b : Nat) (xs : List Nat) (x : Nat) : hi a b (xs ++ [x]) = hi a b xs + lo a (xs ++ [x]) := by
  unfold hi lo
  rw [wt_snoc, sm_snoc, List.length_append, List.length_singleton, Nat.add_mul, Nat.one_mul]
  omega

set_option maxRecDepth 100000 in
set_option maxHeartbeats 1000000 in
theorem added_any (a b : Nat) (ha : a < 65521) (hb : b < 65521) (A : Option Addr) (n c : Nat) (xs : List Nat) (w : World) (hin : In w A n xs) (hx : ∀ x ∈ xs, x < 256) (hn : n ≤ 5552) :
    Calls Tryz.prog 278 #[pv a b, .slice A n c] w fun e w' => e = .returned (pv (lo a xs) (hi a b xs)) ∧ Below w.heap.size w w' := by
  unfold pv
  go_enter Tryz.func278, Tryz.ntmps278
  go_wp2
  have q1 := (Pair.new w a b).alloc (.cells #[.int .u32 0, .int .u32 0] 324)
  have q2 := Pair.new (w.alloc (.cells #[.int .u32 (a : Int), .int .u32 (b : Int)] 324)) 0 0
  rw [World.size_alloc] at q2
  have hb0 := (below_alloc w (.cells #[.int .u32 (a : Int), .int .u32 (b : Int)] 324)).alloc (by simp) (.cells #[.int .u32 0, .int .u32 0] 324)
  go_loopw [9] (fun i wr => ∃ (j : Nat), j ≤ n ∧ i = .int .i64 (j : Int) ∧ Pair wr w.heap.size (lo a (xs.take j)) (hi a b (xs.take j)) ∧ Pair wr (w.heap.size + 1) 0 0 ∧ Below w.heap.size w wr) (fun i _ => n - (intOf i).toNat)
  case atStart => exact ⟨0, by omega, rfl, by simpa [lo, hi, sm, wt] using q1, q2, hb0⟩
  case round =>
    obtain ⟨j, hj, rfl, p1, p2, bel⟩ := hrel
    by_cases hlt : j < n
    · obtain ⟨ad, x, rfl, hxj, hcell⟩ := (hin.below bel).at_ hlt
      have hx256 : x < 256 := hx x (List.mem_of_getElem? hxj)
      have tk : xs.take (j + 1) = xs.take j ++ [x] := take_snoc_of hxj
      have hlen : (xs.take (j + 1)).length ≤ 5552 := by rw [List.length_take]; omega
      have b1 := lo_lt (a := a) ha (xs := xs.take (j + 1)) (fun y hy => hx y (List.mem_of_mem_take hy)) hlen
      have b2 := hi_lt (a := a) (b := b) ha hb (xs := xs.take (j + 1)) (fun y hy => hx y (List.mem_of_mem_take hy)) hlen
      rw [tk, lo_snoc] at b1
      rw [tk, hi_snoc, lo_snoc] at b2
      have HX := Lib.hid tk
      obtain ⟨l, hl⟩ : ∃ l, lo a (xs.take j) = l := ⟨_, rfl⟩
      obtain ⟨m, hm⟩ : ∃ m, hi a b (xs.take j) = m := ⟨_, rfl⟩
      rw [hl, hm] at p1
      rw [hl] at b1
      rw [hl, hm] at b2
      have HL := Lib.hid hl
      have HM := Lib.hid hm
      clear hl hm tk hxj hlen
      have c0 := p1.low
      have c1 := p1.high
      have f0 := p1.free 0
      have f1 := p1.free 1
      go_wp2
      refine ⟨⟨j + 1, by omega, by go_num, ?_, (p2.other _ _ (by show w.heap.size + 1 ≠ w.heap.size; omega)).other _ _ (by show w.heap.size + 1 ≠ w.heap.size; omega), (bel.setCell (by show w.heap.size ≤ w.heap.size; omega) _).setCell (by show w.heap.size ≤ w.heap.size; omega) _⟩, by simp [intOf]; omega⟩
      rw [HX.out, hi_snoc, lo_snoc, HL.out, HM.out]
      exact (p1.setLow (l + x)).setHigh (m + (l + x))
    · obtain rfl : j = n := by omega
      have c0 := p1.low
      have c1 := p1.high
      have f0 := p2.free 0
      have f1 := p2.free 1
      have hx := p2.low
      have hy := p2.high
      rw [List.take_of_length_le (by rw [hin.len]; omega)] at *
      go_wp2
      exact bodyPost_ret_by (results_cell_row (p := 4) (ty := 324) (by kernel_rfl) _ _ (w.heap.size + 1) 324 _ (0, 0) _ rfl ((p2.setLow _).setHigh _) Tryz.underlying324 rfl size2) rfl ⟨rfl, (bel.setCell (by show w.heap.size ≤ w.heap.size + 1; omega) _).setCell (by show w.heap.size ≤ w.heap.size + 1; omega) _⟩

end Go.Proofs.YthbgcijkpincfaaGreatDoor
