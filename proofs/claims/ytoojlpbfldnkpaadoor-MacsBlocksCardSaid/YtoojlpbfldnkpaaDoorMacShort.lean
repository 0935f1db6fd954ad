/-
  macs.shortened: a key that fits into a block.
-/
import Derived.Test.YtoojlpbfldnkpaaDoorMacFill
import Derived.Test.YtoojlpbfldnkpaaDoorLRow
namespace Go.Proofs.YtoojlpbfldnkpaaDoor
open Go.RowKit

/-- A key that fits into a block: itself, or its sum. -/
def shortL (xs : List Nat) : List Nat := if xs.length ≤ 64 then xs else sha xs
theorem shortL_lt {xs : List Nat} (h : ∀ x ∈ xs, x < 256) : ∀ x ∈ shortL xs, x < 256 := by
  unfold shortL
  split
  · exact h
  · exact sha_lt xs

def Shortened (w : World) (ys : List Nat) (e : Ending) (w' : World) : Prop := ∃ A n c, e = .returned (.slice A n c) ∧ Came w' A n c ys ∧ Below w.heap.size w w'

set_option maxRecDepth 100000 in
set_option maxHeartbeats 1000000 in
theorem shortened_any (A : Option Addr) (n c : Nat) (xs : List Nat) (w : World) (hx : Came w A n c xs) (hk : Knows w) (hs : Starts w) (hn : n ≤ 900000000) :
    Calls Tryd.prog 61 #[.slice A n c] w (Shortened w (shortL xs)) := by
  have hl := hx.in_.len
  by_cases h : n ≤ 64
  · have HE := Lib.hid (show shortL xs = xs by unfold shortL; rw [if_pos (by omega)])
    clear hl
    go_enter Tryd.func61, Tryd.ntmps61
    have hi : (n : Int) ≤ 64 := by omega
    go_wp2
    go_ret
    exact ⟨A, n, c, rfl, by rw [HE.out]; exact hx, Below.refl _ _⟩
  · have HE := Lib.hid (show shortL xs = sha xs by unfold shortL; rw [if_neg (by omega)])
    clear hl
    have C1 := Lib.hid (of_any A n c xs w hx.in_ hx.lt hx.cap hk hs hn)
    have hsl := run_arr_all Tryd.underlying54
    obtain ⟨s, hs1⟩ : ∃ s, sha xs = s := ⟨_, rfl⟩
    have hl : s.length = 32 := by rw [← hs1]; exact sha_length xs
    have ls : ∀ x ∈ s, x < 256 := by rw [← hs1]; exact sha_lt xs
    rw [hs1] at C1 HE
    have HL := Lib.hid (And.intro hl ls)
    have HX := Lib.hid hx
    clear hs1 hl ls hx
    have hi : decide ((n : Int) ≤ 64) = false := by simp; omega
    go_enter Tryd.func61, Tryd.ntmps61
    go_wp2_with fail
    refine C1.out.mono ?_
    rintro e w1 ⟨rfl, hb1⟩
    go_upto_region 4 with ((with_reducible refine wpList_store_new w1 _ ?_ rfl (.tmp 3) (.tmp 9) rfl rfl s HL.out.1 rfl ?_); · simp)
    obtain ⟨w2, hw2⟩ : ∃ w2, w2 = w1.alloc (.cells (bvs s).toArray 54) := ⟨_, rfl⟩
    have hi2 : In w2 (some ⟨w1.heap.size, 0, none⟩) 32 s := by rw [hw2, ← HL.out.1]; exact In.new' w1 s _
    have hb2 : Below w.heap.size w w2 := by rw [hw2]; exact below_on hb1 (Nat.le_refl _) (below_alloc w1 _)
    rw [← hw2]
    have HB := Lib.hid (And.intro hi2 hb2)
    clear hw2 hi2 hb2 hb1 C1
    go_wp2
    go_ret
    exact ⟨_, 32, 32, rfl, by rw [HE.out]; exact ⟨HB.out.1, HL.out.2, (fun h => by cases h), Nat.le_refl _⟩, HB.out.2⟩

end Go.Proofs.YtoojlpbfldnkpaaDoor
