/-
  An argument of type []byte.
-/
import Derived.Test.YthbgcijkpincfaaGreatDoorLPre
import Derived.ProofKit
import Derived.OpenShut
namespace Go.Proofs.YthbgcijkpincfaaGreatDoor
open Go.ChangeShapes Go.WideShapes Go.ChangeAt Go.RowKit

/-- A slice of bytes that came in reads as the bytes xs. -/
structure Came (w : World) (A : Option Addr) (n c : Nat) (xs : List Nat) : Prop where
  in_ : In w A n xs
  lt : ∀ x ∈ xs, x < 256
  nil : A = none → c = 0
  cap : n ≤ c

theorem came_of {w : World} {a : Option Addr} {len cap : Nat} {zs : List Int}
    (h : (a = none ∧ len = 0 ∧ cap = 0) ∨ ∃ x, a = some x ∧ len ≤ cap ∧ zs.length = cap ∧ (∀ i, i < zs.length → w.cell? (x.add i) = some (.int .u8 (zs.getD i 0))) ∧ ∀ n ∈ zs, (Lit.int .u8 n).wf = true) :
    ∃ xs, Came w a len cap xs := by
  rcases h with ⟨rfl, rfl, rfl⟩ | ⟨x, rfl, hl, hz, hcell, hwf⟩
  · exact ⟨[], In.none_ _ _, (by intro x hx; cases hx), fun _ => rfl, Nat.le_refl _⟩
  · have hb : ∀ n ∈ zs, 0 ≤ n ∧ n ≤ 255 := fun n hn => bounds_u8 (hwf n hn)
    refine ⟨(zs.take len).map Int.toNat, ⟨by rw [List.length_map, List.length_take]; omega, fun j y hy => ⟨x, rfl, ?_⟩⟩, ?_, (fun h => by cases h), hl⟩
    · rw [List.getElem?_map, List.getElem?_take] at hy
      split at hy
      · obtain ⟨n, hn, rfl⟩ := Option.map_eq_some_iff.1 hy
        have hj := (List.getElem?_eq_some_iff.1 hn).1
        have h0 := hb n (List.mem_of_getElem? hn)
        rw [hcell j hj, List.getD_eq_getElem?_getD, hn, bv]
        simp [Int.toNat_of_nonneg h0.1]
      · cases hy
    · intro y hy
      obtain ⟨n, hn, rfl⟩ := List.mem_map.1 hy
      have h0 := hb n (List.mem_of_mem_take hn)
      omega

end Go.Proofs.YthbgcijkpincfaaGreatDoor
