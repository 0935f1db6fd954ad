/-
  bytes.Equal, of any two lists of bytes.
-/
import Derived.Test.YtnaebjdccngeoaaDoorLStr
import Derived.Test.YtnaebjdccngeoaaDoorLRow
namespace Go.Proofs.YtnaebjdccngeoaaDoor
open Go.RowKit

set_option maxRecDepth 100000 in
set_option maxHeartbeats 400000 in
theorem equal_any {w : World} {A B : Option Addr} {n c m d : Nat} {xs ys : List Nat} (h1 : Came w A n c xs) (h2 : Came w B m d ys) :
    Calls Tryd.prog 47 #[.slice A n c, .slice B m d] w fun e w' => e = .returned (.bool (decide (xs = ys))) ∧ w' = w := by
  have k1 := conv_str h1.in_ h1.lt c
  have k2 := conv_str h2.in_ h2.lt d
  obtain ⟨s, hs⟩ : ∃ s, strL xs = s := ⟨_, rfl⟩
  obtain ⟨t, ht⟩ : ∃ t, strL ys = t := ⟨_, rfl⟩
  rw [hs] at k1
  rw [ht] at k2
  have he : (s.toList == t.toList) = decide (xs = ys) := by
    rw [← hs, ← ht, strL_toList, strL_toList, Bool.eq_iff_iff, beq_iff_eq, decide_eq_true_iff]
    exact ⟨fun h => map_inj h1.lt h2.lt h, fun h => by rw [h]⟩
  have HE := Lib.hid he
  clear he hs ht h1 h2
  go_enter Tryd.func47, Tryd.ntmps47
  go_wp2
  go_ret
  rw [← HE.out]
  exact ⟨rfl, rfl⟩

end Go.Proofs.YtnaebjdccngeoaaDoor
