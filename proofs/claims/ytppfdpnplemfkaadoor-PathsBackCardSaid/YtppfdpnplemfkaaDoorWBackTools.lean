/-
  almonerlaw10.PathsBack.
-/
import Derived.Test.YtppfdpnplemfkaaDoorWAlive
import Derived.Test.YtppfdpnplemfkaaDoorLRowS
import Derived.Test.YtppfdpnplemfkaaDoorLArrArg
namespace Go.Proofs.YtppfdpnplemfkaaDoor
open Go.RowKit

section
variable {w : World} {ys s : List Nat} {z n c : Nat} {A : Option Addr}

set_option maxRecDepth 100000 in
set_option maxHeartbeats 4000000 in
theorem back_else (hk : Knows w) (hs : Starts w) (h : n = 0 ∨ 150 < n) :
    Calls Tryd.prog 3 #[.slice A n c, .int .u8 (z : Int), .agg (bvs s).toArray] w fun e w' => e = .returned (.bool true) ∧ Below w.heap.size w w' := by
  obtain ⟨w1, hw1⟩ : ∃ w1, w1 = w.alloc (.cells (bvs s).toArray 24) := ⟨_, rfl⟩
  have b1 : Below w.heap.size w w1 := by rw [hw1]; exact below_alloc _ _
  have CA := Lib.hid (walive_any w1 (hk.below b1) (hs.below b1))
  have HB := Lib.hid b1
  have HW := Lib.hid hw1
  clear hw1 b1 hk hs
  by_cases h0 : n = 0
  · subst h0
    go_enter Tryd.func3, Tryd.ntmps3
    go_upto_region 1 with fail
    rw [← HW.out]
    go_wp2_with fail
    refine CA.out.mono ?_
    rintro e w2 ⟨rfl, hb2⟩
    go_wp2_with fail
    go_ret
    exact ⟨rfl, below_on HB.out (Nat.le_refl _) hb2⟩
  · have n0 : ((n : Int) == 0) = false := by simp; omega
    have n1 : (150 : Int) < (n : Int) := by omega
    go_enter Tryd.func3, Tryd.ntmps3
    go_upto_region 1 with fail
    rw [← HW.out]
    go_wp2_with fail
    refine CA.out.mono ?_
    rintro e w2 ⟨rfl, hb2⟩
    go_wp2_with fail
    go_ret
    exact ⟨rfl, below_on HB.out (Nat.le_refl _) hb2⟩

/-- What the path says of the leaf; with one more, with one fewer. -/
theorem path_in (h : ys.length = 32 * n) {k d : Nat} (hk : k < n) (hd : dep k n = d) : inTree (pathL (nth ys) 0 n k).flatten (nth ys k) (rt (nth ys) 0 n) d k n = true := by
  have hl := pathL_len32 (nth ys) n 0 k (fun j hj => by rw [Nat.zero_add]; exact nth_length h hj)
  have := lead_path (nth ys) (nth (pathL (nth ys) 0 n k).flatten) n 0 k 0 (by omega) hk (fun j x hx => by rw [Nat.zero_add]; exact nth_flatten _ hl j x hx)
  rw [Nat.zero_add] at this
  unfold inTree
  rw [this, decide_eq_true hk, decide_eq_true hd]
  simp
theorem path_not {k d m : Nat} (P leaf R : List Nat) (hd : dep k n = d) (hm : m ≠ d) : inTree P leaf R m k n = false := by
  unfold inTree
  rw [decide_eq_false (p := dep k n = m) (by omega)]
  simp

end
end Go.Proofs.YtppfdpnplemfkaaDoor
