/-
  The document's End: what stands behind so many bytes.
-/
import Derived.Test.YtnaebjdccngeoaaDoorShaEnding
import Derived.Laws.AppendOwn
namespace Go.Proofs.YtnaebjdccngeoaaDoor
open Go.RowKit

/-- A call has answered n bytes, zs, in memory of its own. -/
def GivesB (w : World) (zs : List Nat) (e : Ending) (w' : World) : Prop := ∃ A c, e = .returned (.slice A zs.length c) ∧ w'.ownsRow w.heap.size 5 1 (.slice A zs.length c) zs.length (bvs zs) ∧ Below w.heap.size w w'

theorem noughts_zero (n : Nat) : (n + 1 + noughts n + 8) % 64 = 0 := by rw [noughts]; omega
theorem noughts_least (n k : Nat) (h : k < noughts n) : (n + 1 + k + 8) % 64 ≠ 0 := by rw [noughts] at h; omega

set_option maxRecDepth 100000 in
set_option maxHeartbeats 1000000 in
theorem refEnd_any (n : Nat) (w : World) (hn : n ≤ 1000000000) :
    Calls Tryd.prog 76 #[.int .i64 (n : Int)] w (GivesB w (endL n)) := by
  obtain ⟨z, hz⟩ : ∃ z, noughts n = z := ⟨_, rfl⟩
  have z3 : z < 64 := by rw [← hz, noughts]; omega
  have zz := noughts_zero n
  have zl := noughts_least n
  rw [hz] at zz zl
  have HZ := Lib.hid (And.intro hz (And.intro zz zl))
  clear hz zz zl
  have own1 : (w.alloc (.cells (bvs [128]).toArray 5)).ownsRow w.heap.size 5 1 (.slice (some ⟨w.heap.size, 0, none⟩) 1 1) 1 (bvs [128]) :=
    ⟨rfl, .inr ⟨w.heap.size, 1, (bvs [128]).toArray, rfl, Nat.le_refl _, World.alloc_heap_new w _, Nat.le_refl _, by unfold maxLen; omega, rfl, rfl⟩⟩
  have OWN := Lib.hid own1
  clear own1
  go_enter Tryd.func76, Tryd.ntmps76
  go_wp2
  go_loopw [3] (fun v wr => ∃ (k : Nat) (A : Option Addr) (c : Nat), k ≤ z ∧ v = .slice A (1 + k) c ∧ wr.ownsRow w.heap.size 5 1 (.slice A (1 + k) c) (1 + k) (bvs (128 :: List.replicate k 0)) ∧ Below w.heap.size w wr) (fun v _ => match v with | .slice _ m _ => 100 - m | _ => 0)
  case atStart => exact ⟨0, _, 1, Nat.zero_le _, rfl, OWN.out, below_alloc w _⟩
  case round =>
    clear OWN
    obtain ⟨k, A, c, hk, rfl, hown, hb⟩ := hrel
    have zB := hb.size
    by_cases hlt : k < z
    · have tst : ((((n : Int) + (1 + (k : Int)) + 8) % 64) != 0) = true := by have := HZ.out.2.2 k hlt; simp; omega
      have ib := In.new' wr [0] 5
      have ho5 := hown.alloc (.cells (bvs [0]).toArray 5)
      go_wp2_with (at_builtin; refine wpList_app _ rfl (.tmp 13) (.tmp 14) rfl w.heap.size A (1 + k) c _ rfl ho5 (some ⟨wr.heap.size, 0, none⟩) 1 1 [0] rfl ib (fun h => by cases h) (by omega) (by simp; omega) ?_; intro A4 c4 w4 ho4 hb4)
      go_roundw
      case rel =>
        refine ⟨k + 1, A4, c4, by omega, rfl, ?_, (hb.alloc zB _).trans hb4⟩
        rw [List.cons_append, ← List.replicate_succ'] at ho4
        exact ho4
      case measure => simp; omega
    · obtain rfl : k = z := by omega
      have tst : ((((n : Int) + (1 + (k : Int)) + 8) % 64) != 0) = false := by have := HZ.out.2.1; simp; omega
      obtain ⟨wo, rfl⟩ : ∃ wo : World, wo = wr := ⟨_, rfl⟩
      go_wp2
      go_loopw [3, 4] (fun v i wr => ∃ (j : Nat) (q : Int) (A : Option Addr) (c : Nat), j ≤ 8 ∧ q = 7 - (j : Int) ∧ i = .int .i64 q ∧ v = .slice A (1 + k + j) c ∧ wr.ownsRow w.heap.size 5 1 (.slice A (1 + k + j) c) (1 + k + j) (bvs (128 :: List.replicate k 0 ++ (dg (n * 8) 8).take j)) ∧ Below w.heap.size w wr) (fun _ i _ => (intOf i + 1).toNat)
      case atStart => exact ⟨0, _, A, c, by omega, by omega, rfl, rfl, by rw [List.take_zero, List.append_nil]; exact hown, hb⟩
      case round =>
        clear hown hb
        obtain ⟨j, q, A', c', hj, hq, rfl, rfl, hown, hb⟩ := hrel
        have zB2 := hb.size
        by_cases hl8 : j < 8
        · obtain ⟨p, hp⟩ : ∃ p : Nat, 7 - j = p := ⟨_, rfl⟩
          obtain rfl : q = (p : Int) := by omega
          have hdig := dg_get (n * 8) 8 j hl8
          rw [show 8 - 1 - j = p by omega] at hdig
          obtain ⟨y, hy⟩ : ∃ y, n * 8 / 256 ^ p % 256 = y := ⟨_, rfl⟩
          rw [hy] at hdig
          have ey : (8 * (n : Int)) / 2 ^ (8 * p) % 256 = (y : Int) := by
            rw [← hy, show (8 * (n : Int)) = ((n * 8 : Nat) : Int) by omega, hi_nat]
            omega
          have ib := In.new' wr [y] 5
          have ho5 := hown.alloc (.cells (bvs [y]).toArray 5)
          have HD := Lib.hid (take_snoc_of hdig)
          have HQ := Lib.hid (And.intro hq hp)
          have p7 : p ≤ 7 := by omega
          clear hdig hy hq hp
          go_wp2_with (at_builtin; refine wpList_app _ rfl (.tmp 20) (.tmp 29) rfl w.heap.size A' (1 + k + j) c' _ rfl ho5 (some ⟨wr.heap.size, 0, none⟩) 1 1 [y] rfl ib (fun h => by cases h) (by omega) (by simp; omega) ?_; intro A4 c4 w4 ho4 hb4)
          go_roundw
          case rel =>
            refine ⟨j + 1, _, A4, c4, by omega, by have := HQ.out; omega, rfl, rfl, ?_, (hb.alloc zB2 _).trans hb4⟩
            rw [List.append_assoc, ← HD.out] at ho4
            exact ho4
          case measure => simp [intOf]
        · obtain rfl : j = 8 := by omega
          have hneg : decide (0 ≤ q) = false := by simp; omega
          rw [take_all] at hown
          have hl : (endL n).length = 1 + k + 8 := by rw [endL, HZ.out.1, List.length_cons, List.length_append, List.length_replicate, dg_length]; omega
          have he : (128 :: List.replicate k 0 ++ dg (n * 8) 8) = endL n := by rw [endL, HZ.out.1]; rfl
          rw [he] at hown
          have HO := Lib.hid (And.intro hl hown)
          clear hl he hown
          go_wp2
          go_ret
          exact ⟨A', c', by rw [HO.out.1]; rfl, by rw [HO.out.1]; exact HO.out.2, hb⟩

end Go.Proofs.YtnaebjdccngeoaaDoor
