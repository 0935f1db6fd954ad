/-
  Clashes, as plain facts: the root of entries, cut in two; and what two nodes of one sum tell of what is below.
-/
import Derived.Test.YtnaebjdccngeoaaDoorHPure
namespace Go.Proofs.YtnaebjdccngeoaaDoor
open Go.RowKit

/-- The root of entries. -/
def rtl (l : List (List Nat)) : List Nat := rt (lf l) 0 l.length
theorem rtl_length (l : List (List Nat)) : (rtl l).length = 32 := rt_length _ _ _ fun _ _ => lf_length _ _
theorem rtl_lt (l : List (List Nat)) : ∀ x ∈ rtl l, x < 256 := rt_lt _ _ _ fun _ _ => lf_lt _ _
theorem rtl_one (b : List Nat) : rtl [b] = leafL b := by
  show rt (lf [b]) 0 1 = _
  rw [rt_one]; rfl
theorem lf_drop (l : List (List Nat)) (k j : Nat) : lf (l.drop k) j = lf l (k + j) := by
  rw [lf, lf, List.getD_eq_getElem?_getD, List.getD_eq_getElem?_getD, List.getElem?_drop]
theorem rtl_cut {l : List (List Nat)} {n : Nat} (hn : l.length = n) (h : 2 ≤ n) : rtl l = nodeL (rtl (l.take (cutN n))) (rtl (l.drop (cutN n))) := by
  subst hn
  have a := cutN_lt h
  have e1 : (l.take (cutN l.length)).length = cutN l.length := by rw [List.length_take]; omega
  have e2 : (l.drop (cutN l.length)).length = l.length - cutN l.length := List.length_drop
  unfold rtl
  rw [e1, e2, rt_cut _ 0 h]
  congr 1
  · exact rt_congr _ _ _ 0 0 fun j hj => by rw [Nat.zero_add]; exact (lf_take l hj).symm
  · exact rt_congr _ _ _ _ 0 fun j _ => by rw [Nat.zero_add, Nat.zero_add]; exact (lf_drop l _ j).symm
theorem rtl_nth (l : List (List Nat)) : rt (nth (leavesL l)) 0 l.length = rtl l := rt_congr _ _ _ 0 0 fun j hj => by
  rw [Nat.zero_add]; exact nth_leaves hj

/-- Two unlike lists of bytes of one sum. -/
def Clashes (xs ys : List Nat) : Prop := xs ≠ ys ∧ sha xs = sha ys
/-- Of one sum they are the same: no clash. -/
def Same (xs ys : List Nat) : Prop := sha xs = sha ys → xs = ys

theorem same_leaf {a b : List Nat} (h : Same (0 :: a) (0 :: b)) : leafL a = leafL b → a = b := fun e => by
  have := h e
  injection this
theorem same_node {l0 r0 l1 r1 : List Nat} (hl : l0.length = l1.length) (h : Same (1 :: (l0 ++ r0)) (1 :: (l1 ++ r1))) : nodeL l0 r0 = nodeL l1 r1 → l0 = l1 ∧ r0 = r1 := fun e => by
  have := h e
  injection this with _ h2
  exact List.append_inj h2 hl

theorem take_drop_eq {α : Type} {a b : List α} {k : Nat} (h1 : a.take k = b.take k) (h2 : a.drop k = b.drop k) : a = b := by
  rw [← List.take_append_drop k a, h1, h2, List.take_append_drop]

/-- Both sides of two trees. -/
theorem lists_cut {a b : List (List Nat)} {n : Nat} (ha : a.length = n) (hb : b.length = n) (hn : 2 ≤ n)
    (h1 : rtl (a.take (cutN n)) = rtl (b.take (cutN n)) → a.take (cutN n) = b.take (cutN n))
    (h2 : rtl (a.drop (cutN n)) = rtl (b.drop (cutN n)) → a.drop (cutN n) = b.drop (cutN n))
    (h : nodeL (rtl (a.take (cutN n))) (rtl (a.drop (cutN n))) = nodeL (rtl (b.take (cutN n))) (rtl (b.drop (cutN n))) → rtl (a.take (cutN n)) = rtl (b.take (cutN n)) ∧ rtl (a.drop (cutN n)) = rtl (b.drop (cutN n))) :
    rtl a = rtl b → a = b := fun e => by
  rw [rtl_cut ha hn, rtl_cut hb hn] at e
  obtain ⟨e1, e2⟩ := h e
  exact take_drop_eq (h1 e1) (h2 e2)

end Go.Proofs.YtnaebjdccngeoaaDoor
