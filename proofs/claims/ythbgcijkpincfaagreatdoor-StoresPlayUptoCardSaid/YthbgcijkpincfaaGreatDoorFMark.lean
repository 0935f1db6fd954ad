/-
  takeMark.
-/
import Derived.Test.YthbgcijkpincfaaGreatDoorFParts
import Derived.Test.YthbgcijkpincfaaGreatDoorLStr
namespace Go.Proofs.YthbgcijkpincfaaGreatDoor
open Go.RowKit

set_option maxRecDepth 100000 in
theorem takeMark_yes (E : Errs) (p : Value) (A : Option Addr) (n c : Nat) (xs : List Nat) (w : World) (hE : Laid w E) (hin : In w A n xs) (h : xs = recMark) :
    Calls Tryz.prog 299 #[p, .slice A n c] w fun e w' => e = .returned .nilIface ∧ w = w' := by
  have hc := conv_str hin (by rw [h]; exact recMark_lt) c
  rw [h, show strL recMark = { data := #[82, 69, 67, 49] } from rfl] at hc
  have gf := hE.gf
  clear h hin
  go_enter Tryz.func299, Tryz.ntmps299
  go_wp2
  go_ret
  exact ⟨rfl, rfl⟩

set_option maxRecDepth 100000 in
theorem takeMark_no (E : Errs) (p : Value) (A : Option Addr) (n c : Nat) (xs : List Nat) (w : World) (hE : Laid w E) (hin : In w A n xs) (hx : ∀ x ∈ xs, x < 256) (h : xs ≠ recMark) :
    Calls Tryz.prog 299 #[p, .slice A n c] w fun e w' => e = .returned (E.val .form) ∧ w = w' := by
  have hc := conv_str hin hx c
  have hne : (!(strL xs).toList == [82, 69, 67, 49]) = true := by
    rw [strL_toList, show ([82, 69, 67, 49] : List UInt8) = recMark.map UInt8.ofNat from rfl]
    simp only [Bool.not_eq_true', beq_eq_false_iff_ne, ne_eq]
    exact fun e => h (map_inj hx recMark_lt e)
  have gf := hE.gf
  obtain ⟨s, hs⟩ : ∃ s, strL xs = s := ⟨_, rfl⟩
  rw [hs] at hc hne
  clear h hin hx hs
  go_enter Tryz.func299, Tryz.ntmps299
  go_wp2
  go_ret
  exact ⟨rfl, rfl⟩

end Go.Proofs.YthbgcijkpincfaaGreatDoor
