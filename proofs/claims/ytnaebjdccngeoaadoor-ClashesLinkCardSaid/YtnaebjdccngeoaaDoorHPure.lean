/-
  A chain: its entries' leaves' sums, and their marks, as plain functions.
-/
import Derived.Test.YtnaebjdccngeoaaDoorWPure
import Derived.Test.YtnaebjdccngeoaaDoorKPure
import Derived.Test.YtnaebjdccngeoaaDoorVList
namespace Go.Proofs.YtnaebjdccngeoaaDoor
open Go.RowKit

/-- The leaf's sum of the j-th entry. -/
def lf (l : List (List Nat)) (j : Nat) : List Nat := leafL (l.getD j [])
/-- All of them, one behind the other. -/
def leavesL (l : List (List Nat)) : List Nat := (l.map leafL).flatten
/-- What all entries come to. -/
def markL (l : List (List Nat)) : List Nat := l.foldl (fun m b => sha (m ++ leafL b)) zero32

theorem markL_nil : markL [] = zero32 := rfl
theorem markL_snoc (l : List (List Nat)) (b : List Nat) : markL (l ++ [b]) = sha (markL l ++ leafL b) := by simp [markL, List.foldl_append]
theorem markL_length (l : List (List Nat)) : (markL l).length = 32 := by
  rcases List.eq_nil_or_concat l with rfl | ⟨l', b, rfl⟩
  · rfl
  · rw [List.concat_eq_append, markL_snoc]; exact sha_length _
theorem zero32_lt : ∀ x ∈ zero32, x < 256 := by
  intro x hx
  rw [List.eq_of_mem_replicate hx]
  omega
theorem markL_lt (l : List (List Nat)) : ∀ x ∈ markL l, x < 256 := by
  rcases List.eq_nil_or_concat l with rfl | ⟨l', b, rfl⟩
  · exact zero32_lt
  · rw [List.concat_eq_append, markL_snoc]; exact sha_lt _

theorem lf_length (l : List (List Nat)) (j : Nat) : (lf l j).length = 32 := leafL_length _
theorem lf_lt (l : List (List Nat)) (j : Nat) : ∀ x ∈ lf l j, x < 256 := leafL_lt _
theorem lf_of {l : List (List Nat)} {j : Nat} {b : List Nat} (h : l[j]? = some b) : lf l j = leafL b := by rw [lf, List.getD_eq_getElem?_getD, h]; rfl
theorem lf_append (l r : List (List Nat)) {j : Nat} (h : j < l.length) : lf (l ++ r) j = lf l j := by
  rw [lf, lf, List.getD_eq_getElem?_getD, List.getD_eq_getElem?_getD, List.getElem?_append_left h]
theorem lf_take (l : List (List Nat)) {j n : Nat} (h : j < n) : lf (l.take n) j = lf l j := by
  rw [lf, lf, List.getD_eq_getElem?_getD, List.getD_eq_getElem?_getD, List.getElem?_take, if_pos h]
theorem lf_snoc (l : List (List Nat)) (b : List Nat) : lf (l ++ [b]) l.length = leafL b := lf_of (by simp)

theorem leavesL_length (l : List (List Nat)) : (leavesL l).length = 32 * l.length := by
  induction l with
  | nil => rfl
  | cons b l ih => rw [leavesL, List.map_cons, List.flatten_cons, List.length_append, leafL_length, List.length_cons]; unfold leavesL at ih; rw [ih]; omega
theorem leavesL_lt (l : List (List Nat)) : ∀ x ∈ leavesL l, x < 256 := by
  intro x hx
  obtain ⟨s, hs, hxs⟩ := List.mem_flatten.1 hx
  obtain ⟨b, _, rfl⟩ := List.mem_map.1 hs
  exact leafL_lt _ x hxs
theorem leavesL_snoc (l : List (List Nat)) (b : List Nat) : leavesL (l ++ [b]) = leavesL l ++ leafL b := by simp [leavesL]
theorem nth_leaves {l : List (List Nat)} {j : Nat} (h : j < l.length) : nth (leavesL l) j = lf l j := by
  refine nth_flatten _ (fun s hs => ?_) j _ ?_
  · obtain ⟨b, _, rfl⟩ := List.mem_map.1 hs
    exact leafL_length _
  · rw [List.getElem?_map, List.getElem?_eq_getElem h, lf, List.getD_eq_getElem?_getD, List.getElem?_eq_getElem h]
    rfl

/-- What is told of the first n of a list hangs on these alone. -/
theorem root_first (l : List (List Nat)) {n : Nat} (h : n ≤ l.length) : rt (nth (leavesL (l.take n))) 0 n = rt (lf l) 0 n := rt_congr _ _ n 0 0 fun j hj => by
  rw [Nat.zero_add, nth_leaves (by rw [List.length_take]; omega), lf_take l hj]
theorem path_first (l : List (List Nat)) {n : Nat} (h : n ≤ l.length) (a : Nat) : pathL (nth (leavesL (l.take n))) 0 n a = pathL (lf l) 0 n a := pathL_congr _ _ n 0 0 a fun j hj => by
  rw [Nat.zero_add, nth_leaves (by rw [List.length_take]; omega), lf_take l hj]
theorem link_first (l : List (List Nat)) {n : Nat} (h : n ≤ l.length) (m : Nat) : linkL (nth (leavesL (l.take n))) 0 n m true = linkL (lf l) 0 n m true := linkL_congr _ _ n 0 0 m true fun j hj => by
  rw [Nat.zero_add, nth_leaves (by rw [List.length_take]; omega), lf_take l hj]
theorem root_begin (l r : List (List Nat)) {n : Nat} (h : n ≤ l.length) : rt (lf (l ++ r)) 0 n = rt (lf l) 0 n := rt_congr _ _ n 0 0 fun j hj => by rw [Nat.zero_add]; exact lf_append l r (by omega)
theorem path_begin (l r : List (List Nat)) {n : Nat} (h : n ≤ l.length) (a : Nat) : pathL (lf (l ++ r)) 0 n a = pathL (lf l) 0 n a := pathL_congr _ _ n 0 0 a fun j hj => by rw [Nat.zero_add]; exact lf_append l r (by omega)
theorem link_begin (l r : List (List Nat)) {n : Nat} (h : n ≤ l.length) (m : Nat) : linkL (lf (l ++ r)) 0 n m true = linkL (lf l) 0 n m true := linkL_congr _ _ n 0 0 m true fun j hj => by rw [Nat.zero_add]; exact lf_append l r (by omega)

end Go.Proofs.YtnaebjdccngeoaaDoor
