/-
  The Book of the statements: each list of bytes is made longer, mark by mark.
-/
import Derived.Test.YtcdlocbonjgcgaaDoorQFill
namespace Go.Proofs.YtcdlocbonjgcgaaDoor
open Go.RowKit

/-- The beginning of an owned row. -/
theorem sub_row {w : World} {base : Nat} {e : TypeId} {g n m c : Nat} {xs ys : List Value} (h : w.ownsRow base e 1 (.slice (some ⟨g, 0, none⟩) m c) m (xs ++ ys)) (hx : xs.length = n) : w.ownsRow base e 1 (.slice (some ⟨g, 0, none⟩) n c) n xs := by
  rcases h.2 with ⟨e1, _⟩ | ⟨g', cap, cur, e1, hb, hg, hle, hm, hs, ht⟩
  · cases e1
  · cases e1
    have hl := h.1
    rw [List.length_append, hx] at hl
    refine ⟨by omega, .inr ⟨g, c, cur, rfl, hb, hg, by omega, hm, hs, ?_⟩⟩
    have e2 := congrArg (List.take n) ht
    have e3 : List.take n (xs ++ ys) = xs := by
      rw [List.take_append_of_le_length (by omega), List.take_of_length_le (by omega)]
    have e4 : min n (m * 1) = n := by omega
    rw [List.take_take, e4, e3] at e2
    rw [Nat.mul_one]
    exact e2

/-- One byte behind a full row: a new row. -/
theorem run_app_grow (w : World) (ty : TypeId) (base : Nat) (A : Option Addr) (m c : Nat) (xs : List Value) {eL : TypeId} (hown : w.ownsRow base eL 1 (.slice A m c) m xs) (hc : c < m + 1) (hm : m ≤ 2000000000)
    (a : Addr) (u : Value) (hu : w.cell? a = some u) (hbase : base ≤ w.heap.size) :
    ∃ c' w', (Builtin.append_ #[42, 42] ty #[.slice A m c, .slice (some a) 1 1]).run Tryd.prog w = .ok (.slice (some ⟨w.heap.size, 0, none⟩) (m + 1) c') w' ∧
      w'.ownsRow base 5 1 (.slice (some ⟨w.heap.size, 0, none⟩) (m + 1) c') (m + 1) (xs ++ [u]) ∧ Below w.heap.size w w' := by
  obtain ⟨i0, hi, hz0, hz1, hz2⟩ := info_parts infoByte
  have hnews : ∀ j v, [u][j]? = some v → w.cell? (a.add j) = some v := by
    intro j v hv
    cases j with
    | zero => simp at hv; subst hv; simpa [Addr.add] using hu
    | succ j => simp at hv
  have key : ∀ old, old < m + 1 → (w.drew.alloc (.cells (xs.toArray ++ [u].toArray ++ Builtin.zeroCells (Value.int .u8 0).cells (grownCap w (m + 1) old 5 - (m + 1))) 5)).ownsRow base 5 1
      (.slice (some ⟨w.heap.size, 0, none⟩) (m + 1) (grownCap w (m + 1) old 5)) (m + 1) (xs ++ [u]) := by
    intro old ho
    have hge := grownCap_ge w (m + 1) old 5
    have hcm : grownCap w (m + 1) old 5 ≤ maxLen := grownCap_le_maxLen w (m + 1) old 5 (by unfold maxLen; omega)
    have hl := hown.1
    refine ⟨by rw [List.length_append, hl]; rfl, .inr ⟨w.heap.size, _, _, rfl, hbase, heap_alloc_new w.drew _, hge, hcm, ?_, ?_⟩⟩
    · simp only [Array.size_append, List.size_toArray, size_zeroCells, hl, List.length_singleton]
      simp [Value.cells]
      omega
    · simp only [Array.toList_append]
      rw [List.take_append_of_le_length (by simp [hl])]
      rw [List.take_of_length_le (by simp [hl])]
  have hb : ∀ o, Below w.heap.size w (w.drew.alloc o) := fun o => ((Below.refl _ w).drew).alloc (Nat.le_refl _) o
  rcases hown.2 with ⟨e1, h0⟩ | ⟨g, cap, cur, e1, _, _, hle, _, _, _⟩
  · cases e1
    have hx : xs = [] := List.eq_nil_of_length_eq_zero (by have := hown.1; omega)
    subst hx
    have hr := run_append_nil (P := Tryd.prog) w 42 ty 5 i0 _ Tryd.underlying42 hi hz0 a 1 1 [u] (by rw [hz1]; rfl) hnews (by omega) (by omega) (by rw [hz2]; omega)
    have hk := key 0 (by omega)
    simp only [Nat.zero_add, List.nil_append, Array.empty_append] at hk ⊢
    exact ⟨_, _, hr, hk, hb _⟩
  · cases e1
    have hr := run_append_grow (P := Tryd.prog) w 42 ty 5 i0 _ Tryd.underlying42 hi hz0 ⟨g, 0, none⟩ m c xs (by rw [hz1]; exact hown.1) (hown.cells (g := g) rfl) a 1 1 [u] (by rw [hz1]; rfl) hnews (by omega) (by omega)
      (by rw [hz2]; exact growslice_fits (by omega) (by omega))
    exact ⟨_, _, hr, key c (by omega), hb _⟩

theorem run_app_growB (w : World) (ty : TypeId) (base : Nat) (A : Option Addr) (m c : Nat) (xs : List Value) (hown : OwnB w base (.slice A m c) m xs) (hc : c < m + 1) (hm : m ≤ 2000000000)
    (a : Addr) (u : Value) (hu : w.cell? a = some u) (hbase : base ≤ w.heap.size) :
    ∃ c' w', (Builtin.append_ #[42, 42] ty #[.slice A m c, .slice (some a) 1 1]).run Tryd.prog w = .ok (.slice (some ⟨w.heap.size, 0, none⟩) (m + 1) c') w' ∧
      w'.ownsRow base 5 1 (.slice (some ⟨w.heap.size, 0, none⟩) (m + 1) c') (m + 1) (xs ++ [u]) ∧ Below w.heap.size w w' := by
  rcases hown with h | ⟨h, _⟩
  · exact run_app_grow w ty base A m c xs h hc hm a u hu hbase
  · exact run_app_grow w ty base A m c xs h hc hm a u hu hbase

/-- The state of a list that is being made longer: v is as it was; the longer one lies in its block, or in a new one. -/
def Longer (base : Nat) (A : Option Addr) (n c : Nat) (num k : Nat) (wa wi : World) (A2 : Option Addr) (c2 : Nat) : Prop :=
  OwnB wi base (.slice A2 (n + k) c2) (n + k) (List.replicate (n + k) (mk num)) ∧ OwnB wi base (.slice A n c) n (List.replicate n (mk num)) ∧
  But (fun b => (Value.slice A n c).ownBlock = some b) wa wi ∧ ((A2 = A ∧ c2 = c) ∨ ∃ g2, A2 = some ⟨g2, 0, none⟩ ∧ wa.heap.size ≤ g2)

/-- One mark more. -/
theorem run_longer (base : Nat) (A : Option Addr) (n c num k : Nat) (wa w : World) (A2 : Option Addr) (c2 : Nat) (ty : TypeId) (h : Longer base A n c num k wa w A2 c2) (hwa : ∀ b, (Value.slice A n c).ownBlock = some b → b < wa.heap.size) (hn : n + k ≤ 2000000000) (hbase : base ≤ wa.heap.size)
    (a : Addr) (hu : w.cell? a = some (mk num)) :
    ∃ A3 c3 w', (Builtin.append_ #[42, 42] ty #[.slice A2 (n + k) c2, .slice (some a) 1 1]).run Tryd.prog w = .ok (.slice A3 (n + (k + 1)) c3) w' ∧ Longer base A n c num (k + 1) wa w' A3 c3 := by
  obtain ⟨h1, h2, h3, h4⟩ := h
  obtain ⟨i0, hi, hz0, hz1, hz2⟩ := info_parts infoByte
  have hsz := h3.size
  have hrep : List.replicate (n + k) (mk num) ++ [mk num] = List.replicate (n + (k + 1)) (mk num) := by rw [← Nat.add_assoc, List.replicate_succ']
  by_cases hfit : n + k + 1 ≤ c2
  · have h1 := h1.byte (by omega)
    rcases h1.2 with ⟨e1, h0⟩ | ⟨g, cap, cur, e1, _⟩
    · injection e1 with e1 e2 e3
      omega
    · cases e1
      obtain ⟨w', hr, r1, r2⟩ := run_append_fits (P := Tryd.prog) w base 42 ty 5 i0 1 Tryd.underlying42 hi hz1 g (n + k) c2 _ h1 a 1 1 [mk num] rfl (by
        intro j v hv
        cases j with
        | zero => simp at hv; subst hv; simpa [Addr.add] using hu
        | succ j => simp at hv) (by simp [mk, Value.oneCell']) hfit
      rw [hrep] at r1
      refine ⟨_, _, w', hr, .inl r1, ?_, ?_, ?_⟩
      · rcases h4 with ⟨e2, e3⟩ | ⟨g2, e2, hg2⟩
        · subst e3
          rw [← e2]
          refine .inl (sub_row (m := n + (k + 1)) (ys := List.replicate (k + 1) (mk num)) ?_ (by simp))
          rw [← List.replicate_append_replicate] at r1
          exact r1
        · cases e2
          refine h2.kept r2 (.inr ?_)
          intro e5
          have := hwa _ e5
          omega
      · refine h3.grown r2 (fun b e5 hb => ?_)
        cases e5
        rcases h4 with ⟨e2, _⟩ | ⟨g2, e2, hg2⟩
        · rw [← e2]; rfl
        · cases e2; omega
      · rcases h4 with ⟨e2, e3⟩ | ⟨g2, e2, hg2⟩
        · exact .inl ⟨e2, e3⟩
        · exact .inr ⟨g2, e2, hg2⟩
  · obtain ⟨c', w', hr, r1, r2⟩ := run_app_growB w ty base A2 (n + k) c2 _ h1 (by omega) (by omega) a _ hu (by omega)
    rw [hrep] at r1
    exact ⟨_, _, w', hr, .inl r1, own_kept_butB h2 (But.of_below (S := fun _ => False) r2) (fun _ _ h => h), h3.trans (But.of_below r2), .inr ⟨_, rfl, hsz⟩⟩

theorem wpList_longer {ops : Array Oper} {rest : List Oper} {o : Oper} {a : Act} {Q : Exit → Act → World → Prop} (w : World) (hgd : o.guard = none) (s x : Operand)
    (ho : o.op = .call { callee := .builtin .append, args := #[s, x], argTypes := #[42, 42] })
    (base : Nat) (A : Option Addr) (n c num k : Nat) (wa : World) (A2 : Option Addr) (c2 : Nat) (hs : a.eval s = .slice A2 (n + k) c2) (h : Longer base A n c num k wa w A2 c2)
    (hwa : ∀ b, (Value.slice A n c).ownBlock = some b → b < wa.heap.size) (hn : n + k ≤ 2000000000) (hbase : base ≤ wa.heap.size) (ad : Addr) (hx : a.eval x = .slice (some ad) 1 1) (hu : w.cell? ad = some (mk num))
    (hK : ∀ A3 c3 w', Longer base A n c num (k + 1) wa w' A3 c3 → wpList Tryd.prog ops Q rest (a.put o.dst (.slice A3 (n + (k + 1)) c3)) w') : wpList Tryd.prog ops Q (o :: rest) a w := by
  refine wpList_plain hgd fun K hK' => ?_
  obtain ⟨A3, c3, w', hr, h2⟩ := run_longer base A n c num k wa w A2 c2 o.type h hwa hn hbase ad hu
  unfold Oper.wp execOp
  simp only [ho, resolve, invoke, builtin, Sem.run_bind, Sem.run_pure, Result.andThen_ok, List.map_toArray, List.map_cons, List.map_nil, hs, hx, hr]
  exact hK' _ _ (hK A3 c3 w' h2)

end Go.Proofs.YtcdlocbonjgcgaaDoor
