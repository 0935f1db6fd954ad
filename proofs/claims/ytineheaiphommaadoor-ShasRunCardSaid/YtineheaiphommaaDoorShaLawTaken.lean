/-
  ShasTaken: the sum of any bytes is that of their blocks, taken one by one.
-/
import Derived.Test.YtineheaiphommaaDoorRefOf
import Derived.Test.YtineheaiphommaaDoorLTwin
import Derived.Test.YtineheaiphommaaDoorLRow
namespace Go.Proofs.YtineheaiphommaaDoor
open Go.RowKit

theorem eql_same' (s : List Nat) (hs : s.length = 32) (W : World) : (binOp .eql 51 (sv s) (sv s)).run Tryd.prog W = .ok (.bool true) W := by
  rw [run_eql_sum s s hs hs W, decide_eq_true rfl]

set_option maxRecDepth 100000 in
set_option maxHeartbeats 1000000 in
theorem taken_long (A : Option Addr) (n c : Nat) (w : World) (h : 50000 < n) :
    Calls Tryd.prog 4 #[.slice A n c] w fun e w' => e = .returned (.bool true) ∧ Below w.heap.size w w' := by
  go_enter Tryd.func4, Tryd.ntmps4
  go_wp2
  go_ret
  exact ⟨rfl, Below.refl _ _⟩

set_option maxRecDepth 100000 in
set_option maxHeartbeats 1000000 in
theorem taken_short (A : Option Addr) (n c : Nat) (xs : List Nat) (w : World) (hx : Came w A n c xs) (hk : Knows w) (hs : Starts w) (h : n ≤ 50000) :
    Calls Tryd.prog 4 #[.slice A n c] w fun e w' => e = .returned (.bool true) ∧ Below w.heap.size w w' := by
  have C1 := Lib.hid (twinBytes_any A n c xs w hx.in_ (by omega))
  have q1 := eql_same' (sha xs) (sha_length xs)
  have q4 := run_guard_eql
  obtain ⟨s1, hs1⟩ : ∃ s, sha xs = s := ⟨_, rfl⟩
  rw [hs1] at q1
  have HS := Lib.hid hs1
  clear hs1
  go_enter Tryd.func4, Tryd.ntmps4
  go_wp2_with fail
  refine C1.out.mono ?_
  rintro e w1 ⟨rfl, ht1, hb1⟩
  have C2 := Lib.hid (of_any _ n (n + 1) xs w1 ht1.in_ hx.lt (by omega) (hk.below hb1) (hs.below hb1) (by omega))
  rw [HS.out] at C2
  go_wp2_with fail
  refine C2.out.mono ?_
  rintro e w2 ⟨rfl, hb2⟩
  have b2 := below_on hb1 (Nat.le_refl _) hb2
  have C3 := Lib.hid (refOf_any A n c xs w2 (hx.in_.below b2) hx.lt hx.nil (by omega))
  rw [HS.out] at C3
  go_wp2_with fail
  refine C3.out.mono ?_
  rintro e w3 ⟨rfl, hb3⟩
  have b3 := below_on b2 (Nat.le_refl _) hb3
  have C4 := Lib.hid (leftBytes_yes A w.heap.size n c xs w3 (ht1.below (below_on hb2 (Nat.le_refl _) hb3)) (hx.in_.below b3) (by omega))
  go_wp2_with fail
  refine C4.out.mono ?_
  rintro e w4 ⟨rfl, q, rfl⟩
  go_wp2
  go_ret
  exact ⟨rfl, ⟨b3.os, b3.tape, b3.output, b3.size, b3.block⟩⟩

theorem shasTaken_law (w : World) (hk : Knows w) (hs : Starts w) {A : Option Addr} {n c : Nat} {xs : List Nat} (h1 : Came w A n c xs) :
    Calls Tryd.prog 4 #[.slice A n c] w fun e w' => e = .returned (.bool true) ∧ Below w.heap.size w w' := by
  by_cases h : 50000 < n
  · exact taken_long A n c w h
  · exact taken_short A n c xs w h1 hk hs (by omega)

end Go.Proofs.YtineheaiphommaaDoor
