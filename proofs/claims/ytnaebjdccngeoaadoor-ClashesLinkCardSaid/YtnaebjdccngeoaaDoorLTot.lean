/-
  How much lists of bytes hold. No function of the program is named here.
-/
import Derived.Test.YtnaebjdccngeoaaDoorLRows
namespace Go.Proofs.YtnaebjdccngeoaaDoor
open Go.RowKit

def tot (rows : List (List Nat)) : Nat := (rows.map List.length).sum
theorem tot_snoc (rows : List (List Nat)) (xs : List Nat) : tot (rows ++ [xs]) = tot rows + xs.length := by simp [tot]
theorem rows_snoc {rows : List (List Nat)} {j : Nat} {xs : List Nat} (h : rows[j]? = some xs) : rows.take (j + 1) = rows.take j ++ [xs] := by
  rw [List.take_add_one, h]; rfl
theorem tot_take (rows : List (List Nat)) (j : Nat) : tot (rows.take j) ≤ tot rows := by
  have : tot rows = tot (rows.take j) + tot (rows.drop j) := by
    unfold tot
    rw [← List.sum_append_nat, ← List.map_append, List.take_append_drop]
  omega

theorem flat_length (rows : List (List Nat)) : rows.flatten.length = tot rows := by rw [List.length_flatten, tot]
theorem flat_snoc {rows : List (List Nat)} {j : Nat} {xs : List Nat} (h : rows[j]? = some xs) : (rows.take (j + 1)).flatten = (rows.take j).flatten ++ xs := by
  rw [rows_snoc h, List.flatten_append]; simp

end Go.Proofs.YtnaebjdccngeoaaDoor
