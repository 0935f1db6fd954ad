/-
  bytes.Equal.
-/
import Derived.Test.YthbgcijkpincfaaGreatDoorFMark
import Derived.Test.YthbgcijkpincfaaGreatDoorLMem
namespace Go.Proofs.YthbgcijkpincfaaGreatDoor
open Go.RowKit

set_option maxRecDepth 100000 in
theorem equal_any {w : World} {A B : Option Addr} {n m c d : Nat} {xs ys : List Nat} (h1 : In w A n xs) (h2 : In w B m ys) (hx : ∀ x ∈ xs, x < 256) (hy : ∀ x ∈ ys, x < 256) :
    Calls Tryz.prog 143 #[.slice A n c, .slice B m d] w fun e w' => e = .returned (.bool (decide (xs = ys))) ∧ w = w' := by
  have k1 := conv_str h1 hx c
  have k2 := conv_str h2 hy d
  have hd : ((strL xs).toList == (strL ys).toList) = decide (xs = ys) := by
    rw [strL_toList, strL_toList]
    by_cases h : xs = ys
    · simp [h]
    · have : xs.map UInt8.ofNat ≠ ys.map UInt8.ofNat := fun e => h (map_inj hx hy e)
      rw [decide_eq_false h]
      exact beq_eq_false_iff_ne.2 this
  have HD := Lib.hid hd
  clear h1 h2 hx hy hd
  go_enter Tryz.func143, Tryz.ntmps143
  go_wp2
  go_ret
  refine ⟨?_, rfl⟩
  rw [← HD.out]
  rfl

end Go.Proofs.YthbgcijkpincfaaGreatDoor
