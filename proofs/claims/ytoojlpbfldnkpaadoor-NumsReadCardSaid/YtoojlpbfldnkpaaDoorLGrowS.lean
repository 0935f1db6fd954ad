/-
  The Book of the statements: each list of sums is made longer, mark by mark.
-/
import Derived.Test.YtoojlpbfldnkpaaDoorLFillS
import Derived.Great.BuildSlice
namespace Go.Proofs.YtoojlpbfldnkpaaDoor
open Go.RowKit

/-- The beginning of an owned row of sums. -/
theorem sub_rowS {w : World} {base : Nat} {e : TypeId} {g n m c : Nat} {xs ys : List Value} (h : w.ownsRow base e 32 (.slice (some ⟨g, 0, none⟩) m c) m (xs ++ ys)) (hx : xs.length = n * 32) : w.ownsRow base e 32 (.slice (some ⟨g, 0, none⟩) n c) n xs := by
  rcases h.2 with ⟨e1, _⟩ | ⟨g', cap, cur, e1, hb, hg, hle, hm, hs, ht⟩
  · cases e1
  · cases e1
    have hl := h.1
    rw [List.length_append, hx] at hl
    refine ⟨hx, .inr ⟨g, c, cur, rfl, hb, hg, by omega, hm, hs, ?_⟩⟩
    have e2 := congrArg (List.take (n * 32)) ht
    have e3 : List.take (n * 32) (xs ++ ys) = xs := by
      rw [List.take_append_of_le_length (by omega), List.take_of_length_le (by omega)]
    have e4 : min (n * 32) (m * 32) = n * 32 := by omega
    rw [List.take_take, e4, e3] at e2
    exact e2

/-- One sum behind a full row: a new row. -/
theorem run_app_growS (w : World) (ty : TypeId) (base : Nat) (A : Option Addr) (m c : Nat) (xs news : List Value) (hown : w.ownsRow base 54 32 (.slice A m c) m xs) (hc : c < m + 1) (hm : m ≤ 2000000000)
    (a : Addr) (hnl : news.length = 32) (hnews : ∀ j v, news[j]? = some v → w.cell? (a.add j) = some v) (hbase : base ≤ w.heap.size) :
    ∃ c' w', (Builtin.append_ #[30, 30] ty #[.slice A m c, .slice (some a) 1 1]).run Tryd.prog w = .ok (.slice (some ⟨w.heap.size, 0, none⟩) (m + 1) c') w' ∧
      w'.ownsRow base 54 32 (.slice (some ⟨w.heap.size, 0, none⟩) (m + 1) c') (m + 1) (xs ++ news) ∧ Below w.heap.size w w' := by
  obtain ⟨i0, hi, hz0, hz1, hz2⟩ := info_parts infoSum
  have hzs : (Value.agg (Array.replicate 32 (.int .u8 0))).cells.size = 32 := rfl
  have key : ∀ old, old < m + 1 → (w.drew.alloc (.cells (xs.toArray ++ news.toArray ++ Builtin.zeroCells (Value.agg (Array.replicate 32 (.int .u8 0))).cells (grownCap w (m + 1) old 54 - (m + 1))) 54)).ownsRow base 54 32
      (.slice (some ⟨w.heap.size, 0, none⟩) (m + 1) (grownCap w (m + 1) old 54)) (m + 1) (xs ++ news) := by
    intro old ho
    have hge := grownCap_ge w (m + 1) old 54
    have hcm : grownCap w (m + 1) old 54 ≤ maxLen := grownCap_le_maxLen w (m + 1) old 54 (by unfold maxLen; omega)
    have hl := hown.1
    refine ⟨by rw [List.length_append, hl, hnl]; omega, .inr ⟨w.heap.size, _, _, rfl, hbase, heap_alloc_new w.drew _, hge, hcm, ?_, ?_⟩⟩
    · simp only [Array.size_append, List.size_toArray, size_zeroCells, hl, hnl, hzs]
      omega
    · simp only [Array.toList_append]
      rw [List.take_append_of_le_length (by simp [hl, hnl]; omega)]
      rw [List.take_of_length_le (by simp [hl, hnl]; omega)]
  have hb : ∀ o, Below w.heap.size w (w.drew.alloc o) := fun o => ((Below.refl _ w).drew).alloc (Nat.le_refl _) o
  rcases hown.2 with ⟨e1, h0⟩ | ⟨g, cap, cur, e1, _, _, hle, _, _, _⟩
  · cases e1
    have hx : xs = [] := List.eq_nil_of_length_eq_zero (by have := hown.1; omega)
    subst hx
    have hr := run_append_nil (P := Tryd.prog) w 30 ty 54 i0 _ Tryd.underlying30 hi hz0 a 1 1 news (by rw [hz1, hnl]) hnews (by omega) (by omega) (by rw [hz2]; omega)
    have hk := key 0 (by omega)
    simp only [Nat.zero_add, List.nil_append, Array.empty_append] at hk ⊢
    exact ⟨_, _, hr, hk, hb _⟩
  · cases e1
    have hr := run_append_grow (P := Tryd.prog) w 30 ty 54 i0 _ Tryd.underlying30 hi hz0 ⟨g, 0, none⟩ m c xs (by rw [hz1]; exact hown.1) (hown.cells (g := g) rfl) a 1 1 news (by rw [hz1, hnl]) hnews (by omega) (by omega)
      (by rw [hz2]; exact growslice_fits (by omega) (by omega))
    exact ⟨_, _, hr, key c (by omega), hb _⟩

/-- The state of a list of sums that is being made longer: v is as it was; the longer one lies in its block, or in a new one. -/
def LongerS (base : Nat) (A : Option Addr) (n c : Nat) (num k : Nat) (wa wi : World) (A2 : Option Addr) (c2 : Nat) : Prop :=
  wi.ownsRow base 54 32 (.slice A2 (n + k) c2) (n + k) (marks (n + k) num) ∧ wi.ownsRow base 54 32 (.slice A n c) n (marks n num) ∧
  But (fun b => (Value.slice A n c).ownBlock = some b) wa wi ∧ ((A2 = A ∧ c2 = c) ∨ ∃ g2, A2 = some ⟨g2, 0, none⟩ ∧ wa.heap.size ≤ g2)

/-- One mark more. -/
theorem run_longerS (base : Nat) (A : Option Addr) (n c num k : Nat) (wa w : World) (A2 : Option Addr) (c2 : Nat) (ty : TypeId) (h : LongerS base A n c num k wa w A2 c2) (hwa : ∀ b, (Value.slice A n c).ownBlock = some b → b < wa.heap.size) (hn : n + k ≤ 2000000000) (hbase : base ≤ wa.heap.size)
    (a : Addr) (hu : At w a (mark32 num)) :
    ∃ A3 c3 w', (Builtin.append_ #[30, 30] ty #[.slice A2 (n + k) c2, .slice (some a) 1 1]).run Tryd.prog w = .ok (.slice A3 (n + (k + 1)) c3) w' ∧ LongerS base A n c num (k + 1) wa w' A3 c3 := by
  obtain ⟨h1, h2, h3, h4⟩ := h
  obtain ⟨i0, hi, hz0, hz1, hz2⟩ := info_parts infoSum
  have hsz := h3.size
  have hml : (bvs (mark32 num)).length = 32 := by rw [bvs_length, mark32_length]
  have hrep : marks (n + k) num ++ bvs (mark32 num) = marks (n + (k + 1)) num := by rw [← Nat.add_assoc, marks_snoc]
  have hnews : ∀ j v, (bvs (mark32 num))[j]? = some v → w.cell? (a.add j) = some v := fun j v hv => by
    rw [bvs_get] at hv
    obtain ⟨y, hy, rfl⟩ := Option.map_eq_some_iff.1 hv
    exact hu j y hy
  by_cases hfit : n + k + 1 ≤ c2
  · rcases h1.2 with ⟨e1, h0⟩ | ⟨g, cap, cur, e1, _⟩
    · injection e1 with e1 e2 e3
      omega
    · cases e1
      obtain ⟨w', hr, r1, r2⟩ := run_append_fits (P := Tryd.prog) w base 30 ty 54 i0 32 Tryd.underlying30 hi hz1 g (n + k) c2 _ h1 a 1 1 (bvs (mark32 num)) (by rw [hml]) hnews (bvs_oneCell _) hfit
      rw [hrep] at r1
      refine ⟨_, _, w', hr, r1, ?_, ?_, ?_⟩
      · rcases h4 with ⟨e2, e3⟩ | ⟨g2, e2, hg2⟩
        · subst e3
          rw [← e2]
          refine sub_rowS (m := n + (k + 1)) (ys := marks (k + 1) num) ?_ (marks_length _ _)
          rw [marks_add] at r1
          exact r1
        · cases e2
          refine h2.kept r2 (.inr ?_)
          intro e5
          have := hwa _ e5
          omega
      · refine h3.grown r2 (fun b e5 hb => ?_)
        cases e5
        rcases h4 with ⟨e2, _⟩ | ⟨g2, e2, hg2⟩
        · rw [← e2]; rfl
        · cases e2; omega
      · rcases h4 with ⟨e2, e3⟩ | ⟨g2, e2, hg2⟩
        · exact .inl ⟨e2, e3⟩
        · exact .inr ⟨g2, e2, hg2⟩
  · obtain ⟨c', w', hr, r1, r2⟩ := run_app_growS w ty base A2 (n + k) c2 _ _ h1 (by omega) (by omega) a hml hnews (by omega)
    rw [hrep] at r1
    exact ⟨_, _, w', hr, r1, own_kept_but h2 (But.of_below (S := fun _ => False) r2) (fun _ _ h => h), h3.trans (But.of_below r2), .inr ⟨_, rfl, hsz⟩⟩

theorem wpList_longerS {ops : Array Oper} {rest : List Oper} {o : Oper} {a : Act} {Q : Exit → Act → World → Prop} (w : World) (hgd : o.guard = none) (s x : Operand)
    (ho : o.op = .call { callee := .builtin .append, args := #[s, x], argTypes := #[30, 30] })
    (base : Nat) (A : Option Addr) (n c num k : Nat) (wa : World) (A2 : Option Addr) (c2 : Nat) (hs : a.eval s = .slice A2 (n + k) c2) (h : LongerS base A n c num k wa w A2 c2)
    (hwa : ∀ b, (Value.slice A n c).ownBlock = some b → b < wa.heap.size) (hn : n + k ≤ 2000000000) (hbase : base ≤ wa.heap.size) (ad : Addr) (hx : a.eval x = .slice (some ad) 1 1) (hu : At w ad (mark32 num))
    (hK : ∀ A3 c3 w', LongerS base A n c num (k + 1) wa w' A3 c3 → wpList Tryd.prog ops Q rest (a.put o.dst (.slice A3 (n + (k + 1)) c3)) w') : wpList Tryd.prog ops Q (o :: rest) a w := by
  refine wpList_plain hgd fun K hK' => ?_
  obtain ⟨A3, c3, w', hr, h2⟩ := run_longerS base A n c num k wa w A2 c2 o.type h hwa hn hbase ad hu
  unfold Oper.wp execOp
  simp only [ho, resolve, invoke, builtin, Sem.run_bind, Sem.run_pure, Result.andThen_ok, List.map_toArray, List.map_cons, List.map_nil, hs, hx, hr]
  exact hK' _ _ (hK A3 c3 w' h2)

theorem LongerS.below {base : Nat} {A : Option Addr} {n c num k : Nat} {wa w w' : World} {A2 : Option Addr} {c2 : Nat} (h : LongerS base A n c num k wa w A2 c2) (hb : Below w.heap.size w w') : LongerS base A n c num k wa w' A2 c2 :=
  ⟨own_on h.1 hb, own_on h.2.1 hb, h.2.2.1.trans (But.of_below hb), h.2.2.2⟩

theorem fill_mark (num : Nat) : Instr.fill (fun i => some (i * 32, 32)) ((Array.range (1 * 32)).map ((Array.replicate 32 (Value.int .u8 0))[· % 32]!)) [(0, sv (mark32 num))] = some (bvs (mark32 num)).toArray := by kernel_rfl

end Go.Proofs.YtoojlpbfldnkpaaDoor
