/-
  call: the disk is called so, up to what it lets not be.
-/
import Derived.Test.YthbgcijkpincfaaGreatDoorTGet
namespace Go.Proofs.YthbgcijkpincfaaGreatDoor
open Go.RowKit

set_option maxRecDepth 100000 in
theorem call_down {w : World} {g : Nat} {u : Value} (hd : w.cell? ⟨g, 5, none⟩ = some (.bool true)) :
    Calls Tryz.prog 79 #[.pointer (some ⟨g, 0, none⟩), u] w fun e w' => e = .returned (.int .i64 9) ∧ w = w' := by
  go_enter Tryz.func79, Tryz.ntmps79
  go_wp2
  go_ret
  exact ⟨rfl, rfl⟩

set_option maxRecDepth 100000 in
set_option maxHeartbeats 1000000 in
theorem call_go {w : World} {g C n cap : Nat} (cs : List (FuncId × Array Value)) (hn : cs.length = n) (hn4 : n ≤ 4) (P : Nat → World → Prop) (X : Int → World → Prop)
    (hr : ∀ (j : Nat) (f : FuncId) (bd : Array Value), cs[j]? = some (f, bd) → ∀ (zs : Array Value) (W : World), (callFunc f zs).run Tryz.prog W = .ok (.enter f zs) W)
    (hc : ∀ (j : Nat) (W : World) (f : FuncId) (bd : Array Value), P j W → cs[j]? = some (f, bd) → W.cell? ⟨C, j, none⟩ = some (.func (.func f) bd #[]))
    (hs : ∀ (j : Nat) (W : World) (f : FuncId) (bd : Array Value), cs[j]? = some (f, bd) → P j W → Calls Tryz.prog f bd W fun e W' => (e = .returned (.int .i64 0) ∧ P (j + 1) W') ∨ ∃ c : Int, c ≠ 0 ∧ e = .returned (.int .i64 c) ∧ X c W')
    (hd : w.cell? ⟨g, 5, none⟩ = some (.bool false)) (h0 : P 0 w) (hx : ∀ c W, X c W → W.cell? ⟨g, 5, none⟩ = some (.bool false) ∧ W.frozen? ⟨g, 5, none⟩ = false) :
    Calls Tryz.prog 79 #[.pointer (some ⟨g, 0, none⟩), .slice (some ⟨C, 0, none⟩) n cap] w fun e W' =>
      (e = .returned (.int .i64 0) ∧ P n W') ∨ ∃ (c : Int) (W1 : World), c ≠ 0 ∧ e = .returned (.int .i64 c) ∧ X c W1 ∧ W' = W1.setCell ⟨g, 5, none⟩ (.bool true) := by
  have HA := Lib.hid (And.intro hc (And.intro hs (And.intro hx hr)))
  have HN := Lib.hid hn
  clear hc hs hx hr hn
  go_enter Tryz.func79, Tryz.ntmps79
  go_wp2
  go_loopw [14] (fun i wr => ∃ j : Nat, j ≤ n ∧ i = .int .i64 (j : Int) ∧ P j wr) (fun i _ => n - (intOf i).toNat)
  case atStart => exact ⟨0, Nat.zero_le _, rfl, h0⟩
  case round =>
    obtain ⟨j, hj, rfl, hP⟩ := hrel
    by_cases hlt : j < n
    · obtain ⟨⟨f, bd⟩, hf⟩ : ∃ p, cs[j]? = some p := ⟨_, List.getElem?_eq_getElem (by rw [HN.out]; exact hlt)⟩
      have c0 := HA.out.1 j wr f bd hP hf
      have r1 := HA.out.2.2.2 j f bd hf
      have CS := Lib.hid (HA.out.2.1 j wr f bd hf hP)
      have hji : (j : Int) < (n : Int) := by omega
      clear hf hP
      go_wp2_with fail
      refine CS.out.mono ?_
      rintro e w1 (⟨rfl, hP1⟩ | ⟨c, hc0, rfl, hX⟩)
      · clear CS c0 r1
        go_wp2
        go_roundw
        case rel => exact ⟨j + 1, by omega, by go_num, hP1⟩
        case measure => simp [intOf]; omega
      · have hne : (c != 0) = true := by simpa using hc0
        obtain ⟨c5, f5⟩ := HA.out.2.2.1 c w1 hX
        clear CS c0 r1
        go_wp2
        go_ret
        exact .inr ⟨c, w1, hc0, rfl, hX, rfl⟩
    · obtain rfl : j = n := by omega
      have hji : decide ((j : Int) < (j : Int)) = false := by simp
      go_wp2
      go_ret
      exact .inl ⟨rfl, hP⟩

end Go.Proofs.YthbgcijkpincfaaGreatDoor
