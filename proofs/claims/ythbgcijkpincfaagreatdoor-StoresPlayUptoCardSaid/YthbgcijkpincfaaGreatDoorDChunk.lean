/-
  Lists of lists of one length, one behind the other; rows of such elements in memory. No function of the program is named here.
-/
import Derived.Test.YthbgcijkpincfaaGreatDoorLBut
import Derived.Test.YthbgcijkpincfaaGreatDoorLBArr
import Derived.Test.YthbgcijkpincfaaGreatDoorLQuietTail
import Derived.Deep.MidRow
import Derived.StillTailTactics
import Derived.Deep.QuietTactic
import Derived.BigQuiet
namespace Go.Proofs.YthbgcijkpincfaaGreatDoor
open Go.RowKit

section
variable {α : Type} {m : Nat} {L : List (List α)}
theorem chunk_len (h : ∀ s ∈ L, s.length = m) : L.flatten.length = L.length * m := by
  induction L with
  | nil => simp
  | cons s L ih =>
    rw [List.flatten_cons, List.length_append, ih (fun x hx => h x (by simp [hx])), h s (by simp), List.length_cons, Nat.add_mul]
    omega
theorem chunk_get (h : ∀ s ∈ L, s.length = m) {k j : Nat} {s : List α} (hk : L[k]? = some s) (hj : j < m) : L.flatten[k * m + j]? = s[j]? := by
  induction L generalizing k with
  | nil => simp at hk
  | cons t L ih =>
    have ht : t.length = m := h t (by simp)
    rw [List.flatten_cons]
    cases k with
    | zero =>
      simp at hk
      subst hk
      rw [Nat.zero_mul, Nat.zero_add, List.getElem?_append_left (by omega)]
    | succ k =>
      have e : (k + 1) * m = m + k * m := by rw [Nat.add_mul]; omega
      rw [e, List.getElem?_append_right (by omega), ht, show m + k * m + j - m = k * m + j by omega]
      exact ih (fun x hx => h x (by simp [hx])) (by simpa using hk)
theorem chunk_set (h : ∀ s ∈ L, s.length = m) {k : Nat} {z : List α} (hk : k < L.length) (hz : z.length = m) : splice L.flatten (k * m) z = (L.set k z).flatten := by
  induction L generalizing k with
  | nil => simp at hk
  | cons t L ih =>
    have ht : t.length = m := h t (by simp)
    cases k with
    | zero =>
      rw [List.set_cons_zero, List.flatten_cons, List.flatten_cons, splice, Nat.zero_mul, List.take_zero, List.nil_append, Nat.zero_add, hz, List.drop_left' ht]
    | succ k =>
      have e : (k + 1) * m = m + k * m := by rw [Nat.add_mul]; omega
      rw [List.set_cons_succ, List.flatten_cons, List.flatten_cons, ← ih (fun x hx => h x (by simp [hx])) (by simpa using hk)]
      simp only [splice]
      rw [e, List.take_append, ht, show m + k * m - m = k * m by omega, List.take_of_length_le (by omega), List.drop_append, ht, List.drop_of_length_le (by omega), show m + k * m + z.length - m = k * m + z.length by omega]
      simp
theorem take_spliceC {xs : List α} {o n : Nat} {z : List α} (h : o + z.length ≤ n) (hn : n ≤ xs.length) : (splice xs o z).take n = splice (xs.take n) o z := by
  apply List.ext_getElem?
  intro i
  rw [List.getElem?_take]
  simp only [splice]
  have hl : (xs.take o).length = o := by rw [List.length_take]; omega
  have hl2 : ((xs.take n).take o).length = o := by rw [List.length_take, List.length_take]; omega
  split
  · rename_i hi
    by_cases h1 : i < o
    · rw [List.getElem?_append_left (by omega), List.getElem?_append_left (by omega), List.getElem?_take, List.getElem?_take, List.getElem?_take, if_pos h1, if_pos h1, if_pos hi]
    · rw [List.getElem?_append_right (l₁ := xs.take o) (by omega), List.getElem?_append_right (l₁ := (xs.take n).take o) (by omega), hl, hl2]
      by_cases h2 : i - o < z.length
      · rw [List.getElem?_append_left h2, List.getElem?_append_left h2]
      · rw [List.getElem?_append_right (by omega), List.getElem?_append_right (by omega), List.getElem?_drop, List.getElem?_drop, List.getElem?_take, if_pos (by omega)]
  · rename_i hi
    symm
    rw [List.getElem?_eq_none]
    simp only [List.length_append, List.length_take, List.length_drop]
    omega
end

theorem setCells_heap (g : Nat) (T : TypeId) (vs : List Value) : ∀ (w : World) (cur : List Value) (o : Nat), w.heap[g]? = some (.cells cur.toArray T (0, 0)) → o + vs.length ≤ cur.length →
    (w.setCells g o vs).heap[g]? = some (.cells (splice cur o vs).toArray T (0, 0)) := by
  induction vs with
  | nil => intro w cur o h _; simp [World.setCells, splice, h]
  | cons v vs ih =>
    intro w cur o h hl
    rw [List.length_cons] at hl
    have e := heap_setCell_same w g o _ T v h
    rw [List.setIfInBounds_toArray] at e
    rw [World.setCells, ih _ _ _ e (by rw [List.length_set]; omega)]
    have hlt : (cur.take o).length = o := by rw [List.length_take]; omega
    have e1 : cur.set o v = cur.take o ++ v :: cur.drop (o + 1) := by rw [List.set_eq_take_append_cons_drop, if_pos (by omega)]
    have e2 : (cur.take o ++ v :: cur.drop (o + 1)).take (o + 1) = cur.take o ++ [v] := by
      rw [List.take_append, hlt, List.take_of_length_le (by omega), show o + 1 - o = 1 by omega]
      rfl
    have e3 : (cur.take o ++ v :: cur.drop (o + 1)).drop (o + 1 + vs.length) = cur.drop (o + (vs.length + 1)) := by
      rw [List.drop_append, hlt, List.drop_of_length_le (by omega), List.nil_append, show o + 1 + vs.length - o = vs.length + 1 by omega, List.drop_succ_cons, List.drop_drop, show o + 1 + vs.length = o + (vs.length + 1) by omega]
    rw [splice, splice, e1, e2, e3, List.length_cons, List.append_assoc]
    rfl
theorem setCells_grown (g : Nat) (vs : List Value) : ∀ (w : World) (o : Nat), w.grownBy (w.setCells g o vs) (some g) := by
  induction vs with
  | nil => intro w o; exact ⟨rfl, rfl, rfl, Nat.le_refl _, fun _ _ _ => rfl⟩
  | cons v vs ih =>
    intro w o
    rw [World.setCells]
    have h := ih (w.setCell ⟨g, o, none⟩ v) (o + 1)
    have hs : (w.setCell ⟨g, o, none⟩ v).heap.size = w.heap.size := by simp [World.setCell]
    exact ⟨h.os, h.tape, h.output, by have := h.size; omega, fun k hk hne => (h.block k (by omega) hne).trans (heap_setCell_other w ⟨g, o, none⟩ k v (fun e => hne (by rw [e])))⟩
theorem setCells_size (g : Nat) (vs : List Value) : ∀ (w : World) (o : Nat), (w.setCells g o vs).heap.size = w.heap.size := by
  induction vs with
  | nil => intro w o; rfl
  | cons v vs ih => intro w o; rw [World.setCells, ih]; simp [World.setCell]
theorem setCell_grown (w : World) (b i : Nat) (v : Value) : w.grownBy (w.setCell ⟨b, i, none⟩ v) (some b) :=
  ⟨rfl, rfl, rfl, by simp [World.setCell], fun k _ hk => heap_setCell_other w ⟨b, i, none⟩ k v (fun e => hk (by rw [e]))⟩

/-! ### Rows of elements of m cells each -/
section
variable {w w' : World} {base : Nat} {e : TypeId} {m n c g : Nat} {L : List (List Value)}
theorem own_block {v : Value} {xs : List Value} (h : w.ownsRow base e m v n xs) (hb : ∀ b, v.ownBlock = some b → w'.heap[b]? = w.heap[b]?) : w'.ownsRow base e m v n xs := by
  refine ⟨h.1, ?_⟩
  rcases h.2 with h0 | ⟨g, cap, cur, e1, r0, r1, r2⟩
  · exact .inl h0
  · exact .inr ⟨g, cap, cur, e1, r0, (hb g (by rw [e1]; rfl)).trans r1, r2⟩
theorem own_base {v : Value} {xs : List Value} (h : w.ownsRow base e m v n xs) : w.ownsRow 0 e m v n xs := by
  refine ⟨h.1, ?_⟩
  rcases h.2 with h0 | ⟨g, cap, cur, e1, r0, r1, r2⟩
  · exact .inl h0
  · exact .inr ⟨g, cap, cur, e1, Nat.zero_le _, r1, r2⟩
theorem own_rebase {v : Value} {xs : List Value} (h : w.ownsRow base e m v n xs) {base' : Nat} (hb : ∀ b, v.ownBlock = some b → base' ≤ b) : w.ownsRow base' e m v n xs := by
  refine ⟨h.1, ?_⟩
  rcases h.2 with h0 | ⟨g, cap, cur, e1, r0, r1, r2⟩
  · exact .inl h0
  · exact .inr ⟨g, cap, cur, e1, hb g (by rw [e1]; rfl), r1, r2⟩
theorem own_lt {v : Value} {xs : List Value} (h : w.ownsRow base e m v n xs) {b : Nat} (hb : v.ownBlock = some b) : b < w.heap.size := by
  rcases h.2 with ⟨rfl, _⟩ | ⟨g, cap, cur, rfl, r0, r1, r2⟩
  · cases hb
  · cases hb; exact (Array.getElem?_eq_some_iff.1 r1).1
theorem own_type {v : Value} {xs : List Value} (h : w.ownsRow base e m v n xs) {b : Nat} (hb : v.ownBlock = some b) : ∃ cur, w.heap[b]? = some (.cells cur e (0, 0)) := by
  rcases h.2 with ⟨rfl, _⟩ | ⟨g, cap, cur, rfl, r0, r1, r2⟩
  · cases hb
  · cases hb; exact ⟨cur, r1⟩
theorem own_range (h : w.ownsRow base e m (.slice (some ⟨g, 0, none⟩) n c) n L.flatten) (hm : ∀ s ∈ L, s.length = m) (hn : L.length = n) {k : Nat} {s : List Value} (hk : L[k]? = some s) : w.rangeAt g (k * m) s := by
  rcases h.2 with ⟨e1, _⟩ | ⟨g, cap, cur, e1, _, hg, _, _, hs, ht⟩
  · cases e1
  · cases e1
    intro j v hv
    have hj : j < m := by have := (List.getElem?_eq_some_iff.1 hv).1; rwa [hm s (List.mem_of_getElem? hk)] at this
    have hk' := (List.getElem?_eq_some_iff.1 hk).1
    have hlt : k * m + j < n * m := by
      have : (k + 1) * m ≤ n * m := Nat.mul_le_mul_right m (by omega)
      rw [Nat.add_mul] at this
      omega
    have h1 := chunk_get hm hk hj
    rw [← ht, List.getElem?_take, if_pos hlt, hv] at h1
    rw [cell_of_row _ g _ _ e (0, 0) hg, ← Array.getElem?_toList]
    exact h1
theorem own_there (h : w.ownsRow base e m (.slice (some ⟨g, 0, none⟩) n c) n L.flatten) {k : Nat} (hk : k < n) : w.there g (k * m) m := by
  rcases h.2 with ⟨e1, _⟩ | ⟨g, cap, cur, e1, _, hg, hc, _, hs, ht⟩
  · cases e1
  · cases e1
    intro j hj
    have hlt : k * m + j < c * m := by
      have : (k + 1) * m ≤ c * m := Nat.mul_le_mul_right m (by omega)
      rw [Nat.add_mul] at this
      omega
    refine ⟨?_, frozen_of_row w g _ _ e hg⟩
    rw [cell_of_row _ g _ _ e (0, 0) hg, Array.getElem?_eq_getElem (by omega)]
    rfl
theorem own_setC (h : w.ownsRow base e m (.slice (some ⟨g, 0, none⟩) n c) n L.flatten) (hm : ∀ s ∈ L, s.length = m) (hn : L.length = n) {k : Nat} (hk : k < n) {z : List Value} (hz : z.length = m) :
    (w.setCells g (k * m) z).ownsRow base e m (.slice (some ⟨g, 0, none⟩) n c) n (L.set k z).flatten := by
  have h0 := h.1
  rcases h.2 with ⟨e1, _⟩ | ⟨g, cap, cur, e1, hb, hg, hc, hx, hs, ht⟩
  · cases e1
  · cases e1
    have hfit : k * m + m ≤ n * m := by
      have : (k + 1) * m ≤ n * m := Nat.mul_le_mul_right m (by omega)
      rwa [Nat.add_mul, Nat.one_mul] at this
    have hnc : n * m ≤ c * m := Nat.mul_le_mul_right m hc
    have hlen : cur.toList.length = c * m := by rw [Array.length_toList, hs]
    have hg' : w.heap[g]? = some (.cells cur.toList.toArray e (0, 0)) := by simpa using hg
    have hH := setCells_heap g e z w cur.toList (k * m) hg' (by omega)
    have hset := chunk_set hm (k := k) (by omega) hz
    refine ⟨?_, .inr ⟨g, c, _, rfl, hb, hH, hc, hx, ?_, ?_⟩⟩
    · rw [← hset, length_splice _ _ _ (by rw [h0]; omega), h0]
    · rw [List.size_toArray, length_splice _ _ _ (by omega), hlen]
    · rw [← hset, ← ht]
      exact take_spliceC (by omega) (by omega)
end

/-! ### Loads of whole elements in a region that draws -/
theorem still_load_mid {ops : Array Oper} {o : Oper} {a : Act} {w : World} {K : Act → Prop} {E : Prop} (hgd : o.guard = none) (ty : TypeId) (x : Operand) (ho : o.op = .load ty x)
    (b off : Nat) (hx : a.eval x = .pointer (some ⟨b, off, none⟩)) (cs : List Value) (d : TypeDesc) (hc : w.rangeAt b off cs)
    (hu : Tryz.prog.underlying ty = some d) (hd : d.isRow = true) (hi : (Tryz.prog.info? ty).map (·.size) = some cs.length) (h : K (a.put o.dst (.agg cs.toArray))) :
    if Region.wanted o (yielded ops a.tmps) = true then o.still Tryz.prog a w K else E := by
  have hw : Region.wanted o (yielded ops a.tmps) = true := by simp [Region.wanted, hgd]
  rw [if_pos hw]
  have hr : (execOp a.eval o).run Tryz.prog w = .ok (.value (.agg cs.toArray)) w := by
    unfold execOp
    simp only [ho, hx, Instr.loadAt, Instr.sureAddr, Sem.run_bind, Sem.run_pure, Result.andThen_ok, run_loadVar_mid w b off ty cs d hc hu hd hi]
  unfold Oper.still
  rw [hr, Oper.stillUpon_value]
  exact h

end Go.Proofs.YthbgcijkpincfaaGreatDoor
