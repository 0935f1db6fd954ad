/-
  DisksLeft: what is left of a disk.
-/
import Derived.Test.YtolbchknjcipiaaDLeftA
import Derived.Test.YtolbchknjcipiaaDLeftB
namespace Go.Proofs.Ytolbchknjcipiaa
open Go.RowKit

set_option maxRecDepth 100000 in
set_option maxHeartbeats 8000000 in
theorem disksLeft_law (w : World) {A : Option Addr} {n c : Nat} {ws : List (Nat × List Nat)} (hw : CameWrites w A n c ws) {p1 : Nat} (h1 : p1 < 256) {p2 : Nat} (h2 : p2 < 256) :
    Calls Try.prog 4 #[.slice A n c, .int .u8 (p1 : Int), .int .u8 (p2 : Int)] w fun e w' => e = .returned (.bool true) ∧ Below w.heap.size w w' := by
  by_cases hn : n ≤ 100
  · have := Nat.mod_lt p1 (show 0 < n + 1 by omega)
    by_cases hs : p1 % (n + 1) < n
    · exact disksLeft_lt w hw h1 h2 hn hs
    · exact disksLeft_eq w hw h1 h2 hn (by omega)
  · clear h1 h2
    go_enter Try.func4, Try.ntmps4
    go_wp2_with fail
    refine (alive_any w).mono ?_
    rintro e w2 ⟨rfl, b2⟩
    have hni : decide (100 < (n : Int)) = true := by simp; omega
    have hni2 : (100 : Int) < (n : Int) := by omega
    have hni3 : 100 < n := by omega
    go_wp2_with fail
    refine (alive_any w2).mono ?_
    rintro e w3 ⟨rfl, b3⟩
    go_wp2
    go_ret
    exact ⟨rfl, below_on b2 (Nat.le_refl _) b3⟩

end Go.Proofs.Ytolbchknjcipiaa
