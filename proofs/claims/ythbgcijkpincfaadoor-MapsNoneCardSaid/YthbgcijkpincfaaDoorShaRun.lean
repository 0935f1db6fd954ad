/-
  A run of bytes: what its memory is, and what it is behind some bytes.
-/
import Derived.Test.YthbgcijkpincfaaDoorShaEnding
namespace Go.Proofs.YthbgcijkpincfaaDoor
open Go.RowKit

/-- A run's cells. -/
def runCells (S blk : List Nat) (n : Nat) : List Value := .bool true :: (uvs S ++ (bvs blk ++ [.int .u64 (n : Int)]))
structure RunAt (w : World) (g : Nat) (S blk : List Nat) (n : Nat) : Prop where
  s8 : S.length = 8
  b64 : blk.length = 64
  heap : w.heap[g]? = some (.cells (runCells S blk n).toArray 83 (0, 0))

theorem runCells_length {S blk : List Nat} (hS : S.length = 8) (hb : blk.length = 64) (n : Nat) : (runCells S blk n).length = 74 := by
  simp [runCells, uvs_length, bvs_length, hS, hb]

section
variable {w w' : World} {g n : Nat} {S blk : List Nat}
theorem RunAt.made (h : RunAt w g S blk n) : w.cell? ⟨g, 0, none⟩ = some (.bool true) := by
  rw [cell_of_row _ g 0 _ _ (0, 0) h.heap]; rfl
theorem RunAt.num (h : RunAt w g S blk n) : w.cell? ⟨g, 73, none⟩ = some (.int .u64 (n : Int)) := by
  rw [cell_of_row _ g 73 _ _ (0, 0) h.heap, List.getElem?_toArray, runCells, List.getElem?_cons_succ, List.getElem?_append_right (by rw [uvs_length, h.s8]; omega), uvs_length, h.s8, List.getElem?_append_right (by rw [bvs_length, h.b64]; omega), bvs_length, h.b64]
  rfl
theorem RunAt.free (h : RunAt w g S blk n) (i : Nat) : w.frozen? ⟨g, i, none⟩ = false := frozen_of_row w g i _ _ h.heap
theorem RunAt.eight (h : RunAt w g S blk n) : w.rangeAt g 1 (uvs S) := fun j v hv => by
  have hj : j < 8 := by have := (List.getElem?_eq_some_iff.1 hv).1; rw [uvs_length, h.s8] at this; exact this
  rw [cell_of_row _ g _ _ _ (0, 0) h.heap, List.getElem?_toArray, runCells, Nat.add_comm 1 j, List.getElem?_cons_succ, List.getElem?_append_left (by rw [uvs_length, h.s8]; exact hj), hv]
theorem RunAt.bytes (h : RunAt w g S blk n) : w.rangeAt g 9 (bvs blk) := fun j v hv => by
  have hj : j < 64 := by have := (List.getElem?_eq_some_iff.1 hv).1; rw [bvs_length, h.b64] at this; exact this
  rw [cell_of_row _ g _ _ _ (0, 0) h.heap, List.getElem?_toArray, runCells, show 9 + j = (8 + j) + 1 by omega, List.getElem?_cons_succ, List.getElem?_append_right (by rw [uvs_length, h.s8]; omega), uvs_length, h.s8, show 8 + j - 8 = j by omega, List.getElem?_append_left (by rw [bvs_length, h.b64]; exact hj), hv]
theorem RunAt.there (h : RunAt w g S blk n) (o k : Nat) (hk : o + k ≤ 74) : w.there g o k := fun j hj => by
  refine ⟨?_, h.free _⟩
  rw [cell_of_row _ g _ _ _ (0, 0) h.heap, List.getElem?_toArray, List.getElem?_eq_getElem (by rw [runCells_length h.s8 h.b64]; omega)]
  rfl
theorem RunAt.drew (h : RunAt w g S blk n) : RunAt w.drew g S blk n := ⟨h.s8, h.b64, h.heap⟩
theorem RunAt.below (h : RunAt w g S blk n) (hb : Below w.heap.size w w') : RunAt w' g S blk n := ⟨h.s8, h.b64, (hb.block g (Array.getElem?_eq_some_iff.1 h.heap).1).trans h.heap⟩
theorem RunAt.lt (h : RunAt w g S blk n) : g < w.heap.size := (Array.getElem?_eq_some_iff.1 h.heap).1
theorem runCells_set (hS : S.length = 8) (hb : blk.length = 64) (n m : Nat) : (runCells S blk n).set 73 (.int .u64 (m : Int)) = runCells S blk m := by
  rw [runCells, List.set_cons_succ, List.set_append_right _ _ (by rw [uvs_length, hS]; omega), uvs_length, hS, List.set_append_right _ _ (by rw [bvs_length, hb]; omega), bvs_length, hb]
  rfl
theorem RunAt.setNum (h : RunAt w g S blk n) (m : Nat) : RunAt (w.setCell ⟨g, 73, none⟩ (.int .u64 (m : Int))) g S blk m :=
  ⟨h.s8, h.b64, by rw [heap_setCell_same w g 73 _ _ _ h.heap, List.setIfInBounds_toArray, runCells_set h.s8 h.b64]⟩
theorem heap_setCells (g : Nat) (T : TypeId) (vs : List Value) : ∀ (w : World) (cur : List Value) (o : Nat), w.heap[g]? = some (.cells cur.toArray T (0, 0)) → o + vs.length ≤ cur.length →
    (w.setCells g o vs).heap[g]? = some (.cells (splice cur o vs).toArray T (0, 0)) := by
  induction vs with
  | nil => intro w cur o h _; simp [World.setCells, splice, h]
  | cons v vs ih =>
    intro w cur o h hl
    rw [List.length_cons] at hl
    have e := heap_setCell_same w g o _ T v h
    rw [List.setIfInBounds_toArray] at e
    rw [World.setCells, ih _ _ _ e (by rw [List.length_set]; omega)]
    have hlt : (cur.take o).length = o := by rw [List.length_take]; omega
    have e1 : cur.set o v = cur.take o ++ v :: cur.drop (o + 1) := by rw [List.set_eq_take_append_cons_drop, if_pos (by omega)]
    have e2 : (cur.take o ++ v :: cur.drop (o + 1)).take (o + 1) = cur.take o ++ [v] := by
      rw [List.take_append, hlt, List.take_of_length_le (by omega), show o + 1 - o = 1 by omega]
      rfl
    have e3 : (cur.take o ++ v :: cur.drop (o + 1)).drop (o + 1 + vs.length) = cur.drop (o + (vs.length + 1)) := by
      rw [List.drop_append, hlt, List.drop_of_length_le (by omega), List.nil_append, show o + 1 + vs.length - o = vs.length + 1 by omega, List.drop_succ_cons, List.drop_drop, show o + 1 + vs.length = o + (vs.length + 1) by omega]
    rw [splice, splice, e1, e2, e3, List.length_cons, List.append_assoc]
    rfl
theorem splice_run8 (hS : S.length = 8) {S' : List Nat} (hS' : S'.length = 8) (n : Nat) : splice (runCells S blk n) 1 (uvs S') = runCells S' blk n := by
  have e : (uvs S ++ (bvs blk ++ [Value.int .u64 (n : Int)])).drop 8 = bvs blk ++ [Value.int .u64 (n : Int)] := by
    rw [List.drop_left' (by rw [uvs_length, hS])]
  rw [splice, uvs_length, hS', runCells, runCells, show 1 + 8 = 8 + 1 from rfl, List.drop_succ_cons, e]
  rfl
theorem RunAt.setEight (h : RunAt w g S blk n) {S' : List Nat} (hS' : S'.length = 8) : RunAt (w.setCells g 1 (uvs S')) g S' blk n :=
  ⟨hS', h.b64, by rw [heap_setCells g _ (uvs S') w _ 1 h.heap (by rw [uvs_length, hS', runCells_length h.s8 h.b64]; omega), splice_run8 h.s8 hS']⟩
theorem splice_runB (hS : S.length = 8) (hb : blk.length = 64) (n p : Nat) (zs : List Nat) (hp : p + zs.length ≤ 64) : splice (runCells S blk n) (9 + p) (bvs zs) = runCells S (blk.take p ++ zs ++ blk.drop (p + zs.length)) n := by
  have h8 : (uvs S).length = 8 := by rw [uvs_length, hS]
  have h64 : (bvs blk).length = 64 := by rw [bvs_length, hb]
  simp only [splice, runCells, bvs_length]
  rw [show 9 + p + zs.length = (8 + (p + zs.length)) + 1 by omega, show 9 + p = (8 + p) + 1 by omega, List.take_succ_cons, List.drop_succ_cons, List.take_append, List.drop_append, h8, List.take_of_length_le (by omega), List.drop_of_length_le (by omega), show 8 + p - 8 = p by omega, show 8 + (p + zs.length) - 8 = p + zs.length by omega,
    List.take_append_of_le_length (by omega), List.drop_append_of_le_length (by omega), bvs_append, bvs_append]
  simp [bvs, List.map_take, List.map_drop]
end

/-- The eight numbers behind k blocks of xs. -/
def eaten (S xs : List Nat) : Nat → List Nat
  | 0 => S
  | k + 1 => take16 (eaten S xs k) (words ((xs.drop (64 * k)).take 64))
theorem eaten_append (S xs ys : List Nat) (k : Nat) (h : 64 * k ≤ xs.length) : eaten S (xs ++ ys) k = eaten S xs k := by
  induction k with
  | zero => rfl
  | succ k ih =>
    rw [eaten, eaten, ih (by omega), List.drop_append_of_le_length (by omega), List.take_append_of_le_length (by rw [List.length_drop]; omega)]
theorem eaten_length (S xs : List Nat) (hS : S.length = 8) (k : Nat) : (eaten S xs k).length = 8 := by
  induction k with
  | zero => exact hS
  | succ k ih => exact take16_length _ _ ih
theorem eaten_lt (S xs : List Nat) (hS : ∀ x ∈ S, x < 4294967296) (k : Nat) : ∀ x ∈ eaten S xs k, x < 4294967296 := by
  cases k with
  | zero => exact hS
  | succ k => exact take16_lt _ _

/-- A run to which xs were written. -/
structure Ran (w : World) (g : Nat) (xs blk : List Nat) : Prop where
  at_ : RunAt w g (eaten h0 xs (xs.length / 64)) blk xs.length
  lt : ∀ x ∈ blk, x < 256
  rest : blk.take (xs.length % 64) = xs.drop (64 * (xs.length / 64))

/-- Fewer than a whole block: nothing is taken. -/
theorem ran_part {xs zs blk : List Nat} (hb : blk.length = 64) (hr : blk.take (xs.length % 64) = xs.drop (64 * (xs.length / 64))) (h : xs.length % 64 + zs.length < 64) :
    eaten h0 (xs ++ zs) ((xs ++ zs).length / 64) = eaten h0 xs (xs.length / 64) ∧
    (blk.take (xs.length % 64) ++ zs ++ blk.drop (xs.length % 64 + zs.length)).take ((xs ++ zs).length % 64) = (xs ++ zs).drop (64 * ((xs ++ zs).length / 64)) := by
  have e1 : (xs ++ zs).length / 64 = xs.length / 64 := by rw [List.length_append]; omega
  have e2 : (xs ++ zs).length % 64 = xs.length % 64 + zs.length := by rw [List.length_append]; omega
  refine ⟨by rw [e1, eaten_append _ _ _ _ (by omega)], ?_⟩
  rw [e1, e2, List.drop_append_of_le_length (by omega), ← hr, List.take_left']
  rw [List.length_append, List.length_take, hb]
  omega
/-- A whole block: it is taken. -/
theorem ran_whole {xs zs blk : List Nat} (hb : blk.length = 64) (hr : blk.take (xs.length % 64) = xs.drop (64 * (xs.length / 64))) (h : xs.length % 64 + zs.length = 64) :
    eaten h0 (xs ++ zs) ((xs ++ zs).length / 64) = take16 (eaten h0 xs (xs.length / 64)) (words (blk.take (xs.length % 64) ++ zs ++ blk.drop (xs.length % 64 + zs.length))) ∧
    (xs ++ zs).length % 64 = 0 ∧ (xs ++ zs).drop (64 * ((xs ++ zs).length / 64)) = [] := by
  have e1 : (xs ++ zs).length / 64 = xs.length / 64 + 1 := by rw [List.length_append]; omega
  have e2 : (xs ++ zs).length % 64 = 0 := by rw [List.length_append]; omega
  have e3 : blk.drop (xs.length % 64 + zs.length) = [] := List.drop_of_length_le (by omega)
  refine ⟨?_, e2, List.drop_of_length_le (by omega)⟩
  rw [e1, eaten, eaten_append _ _ _ _ (by omega), e3, List.append_nil, hr, List.drop_append_of_le_length (by omega), List.take_of_length_le]
  rw [List.length_append, List.length_drop]
  omega
theorem ran_lt {zs blk : List Nat} (p : Nat) (hb : ∀ x ∈ blk, x < 256) (hz : ∀ x ∈ zs, x < 256) : ∀ x ∈ blk.take p ++ zs ++ blk.drop (p + zs.length), x < 256 := by
  intro x hx
  rw [List.mem_append, List.mem_append] at hx
  rcases hx with (hx | hx) | hx
  · exact hb x (List.mem_of_mem_take hx)
  · exact hz x hx
  · exact hb x (List.mem_of_mem_drop hx)

end Go.Proofs.YthbgcijkpincfaaDoor
