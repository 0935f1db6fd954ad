/-
  Several texts in one: QGrow, QGrow2, QLook, LNil, QNil, QApart, LTwinB, LTwin, TStage, TActEnd, TOpenArg, TSPlay, FLaidZ.
-/
import Derived.Test.YthbgcijkpincfaaGreatDoorSpB2
import Derived.Deep.QuietTactic
import Derived.BigQuiet
import Derived.Test.YthbgcijkpincfaaGreatDoorLMem
import Derived.Deep.RegionHeld3
import Derived.Deep.CutBlock
import Derived.Deep.CutRange
import Derived.Test.YthbgcijkpincfaaGreatDoorFLaid
import Derived.LaidSub
/-
  The Book of the statements: each list of bytes is made longer, mark by mark.
-/
namespace Go.Proofs.YthbgcijkpincfaaGreatDoor
open Go.RowKit

/-- The beginning of an owned row. -/
theorem sub_row {w : World} {base : Nat} {e : TypeId} {g n m c : Nat} {xs ys : List Value} (h : w.ownsRow base e 1 (.slice (some ⟨g, 0, none⟩) m c) m (xs ++ ys)) (hx : xs.length = n) : w.ownsRow base e 1 (.slice (some ⟨g, 0, none⟩) n c) n xs := by
  rcases h.2 with ⟨e1, _⟩ | ⟨g', cap, cur, e1, hb, hg, hle, hm, hs, ht⟩
  · cases e1
  · cases e1
    have hl := h.1
    rw [List.length_append, hx] at hl
    refine ⟨by omega, .inr ⟨g, c, cur, rfl, hb, hg, by omega, hm, hs, ?_⟩⟩
    have e2 := congrArg (List.take n) ht
    have e3 : List.take n (xs ++ ys) = xs := by
      rw [List.take_append_of_le_length (by omega), List.take_of_length_le (by omega)]
    have e4 : min n (m * 1) = n := by omega
    rw [List.take_take, e4, e3] at e2
    rw [Nat.mul_one]
    exact e2

/-- One byte behind a full row: a new row. -/
theorem run_app_grow (w : World) (ty : TypeId) (base : Nat) (A : Option Addr) (m c : Nat) (xs : List Value) {eL : TypeId} (hown : w.ownsRow base eL 1 (.slice A m c) m xs) (hc : c < m + 1) (hm : m ≤ 2000000000)
    (a : Addr) (u : Value) (hu : w.cell? a = some u) (hbase : base ≤ w.heap.size) :
    ∃ c' w', (Builtin.append_ #[50, 50] ty #[.slice A m c, .slice (some a) 1 1]).run Tryz.prog w = .ok (.slice (some ⟨w.heap.size, 0, none⟩) (m + 1) c') w' ∧
      w'.ownsRow base 5 1 (.slice (some ⟨w.heap.size, 0, none⟩) (m + 1) c') (m + 1) (xs ++ [u]) ∧ Below w.heap.size w w' := by
  obtain ⟨i0, hi, hz0, hz1, hz2⟩ := info_parts infoByte
  have hnews : ∀ j v, [u][j]? = some v → w.cell? (a.add j) = some v := by
    intro j v hv
    cases j with
    | zero => simp at hv; subst hv; simpa [Addr.add] using hu
    | succ j => simp at hv
  have key : ∀ old, old < m + 1 → (w.drew.alloc (.cells (xs.toArray ++ [u].toArray ++ Builtin.zeroCells (Value.int .u8 0).cells (grownCap w (m + 1) old 5 - (m + 1))) 5)).ownsRow base 5 1
      (.slice (some ⟨w.heap.size, 0, none⟩) (m + 1) (grownCap w (m + 1) old 5)) (m + 1) (xs ++ [u]) := by
    intro old ho
    have hge := grownCap_ge w (m + 1) old 5
    have hcm : grownCap w (m + 1) old 5 ≤ maxLen := grownCap_le_maxLen w (m + 1) old 5 (by unfold maxLen; omega)
    have hl := hown.1
    refine ⟨by rw [List.length_append, hl]; rfl, .inr ⟨w.heap.size, _, _, rfl, hbase, heap_alloc_new w.drew _, hge, hcm, ?_, ?_⟩⟩
    · simp only [Array.size_append, List.size_toArray, size_zeroCells, hl, List.length_singleton]
      simp [Value.cells]
      omega
    · simp only [Array.toList_append]
      rw [List.take_append_of_le_length (by simp [hl])]
      rw [List.take_of_length_le (by simp [hl])]
  have hb : ∀ o, Below w.heap.size w (w.drew.alloc o) := fun o => ((Below.refl _ w).drew).alloc (Nat.le_refl _) o
  rcases hown.2 with ⟨e1, h0⟩ | ⟨g, cap, cur, e1, _, _, hle, _, _, _⟩
  · cases e1
    have hx : xs = [] := List.eq_nil_of_length_eq_zero (by have := hown.1; omega)
    subst hx
    have hr := run_append_nil (P := Tryz.prog) w 50 ty 5 i0 _ Tryz.underlying50 hi hz0 a 1 1 [u] (by rw [hz1]; rfl) hnews (by omega) (by omega) (by rw [hz2]; omega)
    have hk := key 0 (by omega)
    simp only [Nat.zero_add, List.nil_append, Array.empty_append] at hk ⊢
    exact ⟨_, _, hr, hk, hb _⟩
  · cases e1
    have hr := run_append_grow (P := Tryz.prog) w 50 ty 5 i0 _ Tryz.underlying50 hi hz0 ⟨g, 0, none⟩ m c xs (by rw [hz1]; exact hown.1) (hown.cells (g := g) rfl) a 1 1 [u] (by rw [hz1]; rfl) hnews (by omega) (by omega)
      (by rw [hz2]; exact growslice_fits (by omega) (by omega))
    exact ⟨_, _, hr, key c (by omega), hb _⟩

theorem run_app_growB (w : World) (ty : TypeId) (base : Nat) (A : Option Addr) (m c : Nat) (xs : List Value) (hown : OwnB w base (.slice A m c) m xs) (hc : c < m + 1) (hm : m ≤ 2000000000)
    (a : Addr) (u : Value) (hu : w.cell? a = some u) (hbase : base ≤ w.heap.size) :
    ∃ c' w', (Builtin.append_ #[50, 50] ty #[.slice A m c, .slice (some a) 1 1]).run Tryz.prog w = .ok (.slice (some ⟨w.heap.size, 0, none⟩) (m + 1) c') w' ∧
      w'.ownsRow base 5 1 (.slice (some ⟨w.heap.size, 0, none⟩) (m + 1) c') (m + 1) (xs ++ [u]) ∧ Below w.heap.size w w' := by
  rcases hown with h | ⟨h, _⟩
  · exact run_app_grow w ty base A m c xs h hc hm a u hu hbase
  · exact run_app_grow w ty base A m c xs h hc hm a u hu hbase

/-- The state of a list that is being made longer: v is as it was; the longer one lies in its block, or in a new one. -/
def Longer (base : Nat) (A : Option Addr) (n c : Nat) (num k : Nat) (wa wi : World) (A2 : Option Addr) (c2 : Nat) : Prop :=
  OwnB wi base (.slice A2 (n + k) c2) (n + k) (List.replicate (n + k) (mk num)) ∧ OwnB wi base (.slice A n c) n (List.replicate n (mk num)) ∧
  But (fun b => (Value.slice A n c).ownBlock = some b) wa wi ∧ ((A2 = A ∧ c2 = c) ∨ ∃ g2, A2 = some ⟨g2, 0, none⟩ ∧ wa.heap.size ≤ g2)

/-- One mark more. -/
theorem run_longer (base : Nat) (A : Option Addr) (n c num k : Nat) (wa w : World) (A2 : Option Addr) (c2 : Nat) (ty : TypeId) (h : Longer base A n c num k wa w A2 c2) (hwa : ∀ b, (Value.slice A n c).ownBlock = some b → b < wa.heap.size) (hn : n + k ≤ 2000000000) (hbase : base ≤ wa.heap.size)
    (a : Addr) (hu : w.cell? a = some (mk num)) :
    ∃ A3 c3 w', (Builtin.append_ #[50, 50] ty #[.slice A2 (n + k) c2, .slice (some a) 1 1]).run Tryz.prog w = .ok (.slice A3 (n + (k + 1)) c3) w' ∧ Longer base A n c num (k + 1) wa w' A3 c3 := by
  obtain ⟨h1, h2, h3, h4⟩ := h
  obtain ⟨i0, hi, hz0, hz1, hz2⟩ := info_parts infoByte
  have hsz := h3.size
  have hrep : List.replicate (n + k) (mk num) ++ [mk num] = List.replicate (n + (k + 1)) (mk num) := by rw [← Nat.add_assoc, List.replicate_succ']
  by_cases hfit : n + k + 1 ≤ c2
  · have h1 := h1.byte (by omega)
    rcases h1.2 with ⟨e1, h0⟩ | ⟨g, cap, cur, e1, _⟩
    · injection e1 with e1 e2 e3
      omega
    · cases e1
      obtain ⟨w', hr, r1, r2⟩ := run_append_fits (P := Tryz.prog) w base 50 ty 5 i0 1 Tryz.underlying50 hi hz1 g (n + k) c2 _ h1 a 1 1 [mk num] rfl (by
        intro j v hv
        cases j with
        | zero => simp at hv; subst hv; simpa [Addr.add] using hu
        | succ j => simp at hv) (by simp [mk, Value.oneCell']) hfit
      rw [hrep] at r1
      refine ⟨_, _, w', hr, .inl r1, ?_, ?_, ?_⟩
      · rcases h4 with ⟨e2, e3⟩ | ⟨g2, e2, hg2⟩
        · subst e3
          rw [← e2]
          refine .inl (sub_row (m := n + (k + 1)) (ys := List.replicate (k + 1) (mk num)) ?_ (by simp))
          rw [← List.replicate_append_replicate] at r1
          exact r1
        · cases e2
          refine h2.kept r2 (.inr ?_)
          intro e5
          have := hwa _ e5
          omega
      · refine h3.grown r2 (fun b e5 hb => ?_)
        cases e5
        rcases h4 with ⟨e2, _⟩ | ⟨g2, e2, hg2⟩
        · rw [← e2]; rfl
        · cases e2; omega
      · rcases h4 with ⟨e2, e3⟩ | ⟨g2, e2, hg2⟩
        · exact .inl ⟨e2, e3⟩
        · exact .inr ⟨g2, e2, hg2⟩
  · obtain ⟨c', w', hr, r1, r2⟩ := run_app_growB w ty base A2 (n + k) c2 _ h1 (by omega) (by omega) a _ hu (by omega)
    rw [hrep] at r1
    exact ⟨_, _, w', hr, .inl r1, own_kept_butB h2 (But.of_below (S := fun _ => False) r2) (fun _ _ h => h), h3.trans (But.of_below r2), .inr ⟨_, rfl, hsz⟩⟩

theorem wpList_longer {ops : Array Oper} {rest : List Oper} {o : Oper} {a : Act} {Q : Exit → Act → World → Prop} (w : World) (hgd : o.guard = none) (s x : Operand)
    (ho : o.op = .call { callee := .builtin .append, args := #[s, x], argTypes := #[50, 50] })
    (base : Nat) (A : Option Addr) (n c num k : Nat) (wa : World) (A2 : Option Addr) (c2 : Nat) (hs : a.eval s = .slice A2 (n + k) c2) (h : Longer base A n c num k wa w A2 c2)
    (hwa : ∀ b, (Value.slice A n c).ownBlock = some b → b < wa.heap.size) (hn : n + k ≤ 2000000000) (hbase : base ≤ wa.heap.size) (ad : Addr) (hx : a.eval x = .slice (some ad) 1 1) (hu : w.cell? ad = some (mk num))
    (hK : ∀ A3 c3 w', Longer base A n c num (k + 1) wa w' A3 c3 → wpList Tryz.prog ops Q rest (a.put o.dst (.slice A3 (n + (k + 1)) c3)) w') : wpList Tryz.prog ops Q (o :: rest) a w := by
  refine wpList_plain hgd fun K hK' => ?_
  obtain ⟨A3, c3, w', hr, h2⟩ := run_longer base A n c num k wa w A2 c2 o.type h hwa hn hbase ad hu
  unfold Oper.wp execOp
  simp only [ho, resolve, invoke, builtin, Sem.run_bind, Sem.run_pure, Result.andThen_ok, List.map_toArray, List.map_cons, List.map_nil, hs, hx, hr]
  exact hK' _ _ (hK A3 c3 w' h2)

end Go.Proofs.YthbgcijkpincfaaGreatDoor

/-
  The Book of the statements: growByte, whole.
-/
namespace Go.Proofs.YthbgcijkpincfaaGreatDoor
open Go.RowKit

theorem Longer.alloc {base : Nat} {A : Option Addr} {n c num k : Nat} {wa w : World} {A2 : Option Addr} {c2 : Nat} (h : Longer base A n c num k wa w A2 c2) (o : Obj) : Longer base A n c num k wa (w.alloc o) A2 c2 :=
  ⟨h.1.alloc o, h.2.1.alloc o, h.2.2.1.alloc o, h.2.2.2⟩
theorem Longer.drew {base : Nat} {A : Option Addr} {n c num k : Nat} {wa w : World} {A2 : Option Addr} {c2 : Nat} (h : Longer base A n c num k wa w A2 c2) : Longer base A n c num k wa w.drew A2 c2 :=
  ⟨h.1.drew, h.2.1.drew, h.2.2.1.drew, h.2.2.2⟩

theorem step_longer {ops : Array Oper} {o : Oper} {a : Act} {w : World} {K : Act → World → Prop} {Q : Exit → Act → World → Prop} {E : Prop} (hgd : o.guard = none) (s x : Operand)
    (ho : o.op = .call { callee := .builtin .append, args := #[s, x], argTypes := #[50, 50] })
    (base : Nat) (A : Option Addr) (n c num k : Nat) (wa : World) (A2 : Option Addr) (c2 : Nat) (hs : a.eval s = .slice A2 (n + k) c2) (h : Longer base A n c num k wa w A2 c2)
    (hwa : ∀ b, (Value.slice A n c).ownBlock = some b → b < wa.heap.size) (hn : n + k ≤ 2000000000) (hbase : base ≤ wa.heap.size) (ad : Addr) (hx : a.eval x = .slice (some ad) 1 1) (hu : w.cell? ad = some (mk num))
    (hK : ∀ A3 c3 w', Longer base A n c num (k + 1) wa w' A3 c3 → K (a.put o.dst (.slice A3 (n + (k + 1)) c3)) w') :
    if Region.wanted o (yielded ops a.tmps) = true then Oper.wp Tryz.prog o a w K Q else E := by
  have hw : Region.wanted o (yielded ops a.tmps) = true := by simp [Region.wanted, hgd]
  rw [if_pos hw]
  obtain ⟨A3, c3, w', hr, h2⟩ := run_longer base A n c num k wa w A2 c2 o.type h hwa hn hbase ad hu
  unfold Oper.wp execOp
  simp only [ho, resolve, invoke, builtin, Sem.run_bind, Sem.run_pure, Result.andThen_ok, List.map_toArray, List.map_cons, List.map_nil, hs, hx, hr]
  exact hK A3 c3 w' h2

/-- One cell of an owned row is written. -/
theorem own_setAt {w : World} {base g n cap size k : Nat} {e : TypeId} {xs : List Value} (u : Value) (h : w.ownsRow base e size (.slice (some ⟨g, 0, none⟩) n cap) n xs) : (w.setCell ⟨g, k, none⟩ u).ownsRow base e size (.slice (some ⟨g, 0, none⟩) n cap) n (xs.set k u) := by
  rcases h.2 with ⟨e, _⟩ | ⟨g', cap', cur, e, hb, hg, hle, hm, hs, htk⟩
  · cases e
  · cases e
    refine ⟨by rw [List.length_set]; exact h.1, .inr ⟨g, cap, cur.setIfInBounds k u, rfl, hb, heap_setCell_same w g k cur _ u hg, hle, hm, by simp [hs], ?_⟩⟩
    rw [Array.toList_setIfInBounds, List.take_set, htk]

/-- The longer list of one that is kept is laid down. -/
def Held.lay (h : Held) (A : Option Addr) (n c : Nat) : Held := { h with A2 := A, len2 := n, c2 := c }

theorem heldCells_set {hs : List Held} {i : Nat} {h : Held} (hi : hs[i]? = some h) (A : Option Addr) (n c : Nat) : (heldCells hs).set (i * 3 + 1) (.slice A n c) = heldCells (hs.set i (h.lay A n c)) := by
  induction hs generalizing i with
  | nil => simp at hi
  | cons k hs ih =>
    cases i with
    | zero => simp at hi; subst hi; rfl
    | succ i =>
      have := ih (i := i) (by simpa using hi)
      rw [show (i + 1) * 3 + 1 = (i * 3 + 1) + 1 + 1 + 1 by omega, heldCells_cons, show (k :: hs).set (i + 1) (h.lay A n c) = k :: hs.set i (h.lay A n c) from rfl, heldCells_cons, ← this]
      rfl

/-- One list, before and behind: it has its marks; when done, so has the longer one. -/
structure GrowAt (w wr : World) (base : Nat) (h h' : Held) (done : Prop) : Prop where
  v : h'.v = h.v
  num : h'.num = h.num
  len : h'.len = h.len
  row : OwnB wr base h.v h.len (List.replicate h.len (mk h.num))
  long : done → h'.len2 = h.len + 40 ∧ OwnB wr base h'.long (h.len + 40) (List.replicate (h.len + 40) (mk h.num)) ∧ (h'.long.ownBlock = h.v.ownBlock ∨ ∀ b, h'.long.ownBlock = some b → w.heap.size ≤ b)

def GrownTo (w wr : World) (base : Nat) (hs hs' : List Held) (j : Nat) : Prop :=
  hs'.length = hs.length ∧ ∀ (i : Nat) (h : Held), hs[i]? = some h → ∃ h', hs'[i]? = some h' ∧ GrowAt w wr base h h' (i < j)

theorem GrownTo.step {w wo wf : World} {base : Nat} {hs hs' : List Held} {j : Nat} {h h' : Held} (hg : GrownTo w wo base hs hs' j) (hlist : Lists w base hs) (hh : hs[j]? = some h) (hh' : hs'[j]? = some h') (A3 : Option Addr) (c3 : Nat)
    (hkeep : ∀ v n xs, OwnB wo base v n xs → (∀ b, v.ownBlock = some b → h.v.ownBlock ≠ some b) → OwnB wf base v n xs)
    (r1 : OwnB wf base (.slice A3 (h.len + 40) c3) (h.len + 40) (List.replicate (h.len + 40) (mk h.num))) (r2 : OwnB wf base h.v h.len (List.replicate h.len (mk h.num)))
    (r3 : (Value.slice A3 (h.len + 40) c3).ownBlock = h.v.ownBlock ∨ ∀ b, (Value.slice A3 (h.len + 40) c3).ownBlock = some b → w.heap.size ≤ b) : GrownTo w wf base hs (hs'.set j (h'.lay A3 (h.len + 40) c3)) (j + 1) := by
  have hjl : j < hs'.length := (List.getElem?_eq_some_iff.1 hh').1
  refine ⟨by rw [List.length_set]; exact hg.1, fun i k hk => ?_⟩
  obtain ⟨k', hk', G⟩ := hg.2 i k hk
  by_cases e : i = j
  · subst e
    rw [hh] at hk
    cases hk
    rw [hh'] at hk'
    cases hk'
    exact ⟨h'.lay A3 (h.len + 40) c3, by rw [List.getElem?_set_self hjl], G.v, G.num, G.len, r2, fun _ => ⟨rfl, r1, r3⟩⟩
  · have hap : ∀ b, k.v.ownBlock = some b → h.v.ownBlock ≠ some b := by
      intro b hb hb'
      rcases hlist.apart i j k h hk hh e with h0 | h0
      · rw [h0] at hb; cases hb
      · exact h0 (hb.trans hb'.symm)
    refine ⟨k', by rw [List.getElem?_set_ne (Ne.symm e)]; exact hk', G.v, G.num, G.len, hkeep _ _ _ G.row hap, fun hlt => ?_⟩
    obtain ⟨l1, l2, l3⟩ := G.long (by omega)
    refine ⟨l1, hkeep _ _ _ l2 (fun b hb hb' => ?_), l3⟩
    rcases l3 with l3 | l3
    · exact hap b (l3.symm.trans hb) hb'
    · obtain ⟨xs, hx⟩ := hlist.own j h hh
      have h1 := (hx.lt _ hb').2
      have h2 := l3 b hb
      omega

set_option maxRecDepth 100000 in
set_option maxHeartbeats 2000000 in
theorem growByte_any (kb N base K : Nat) (bs ss : Value) (hs : List Held) (w : World) (hbk : BookAt w kb N bs ss) (hown : w.ownsRow base 187 3 bs K (heldCells hs)) (hlist : Lists w base hs) (hfill : Filled w base hs K)
    (hK : K ≤ 1000000) (hlen : ∀ (i : Nat) (h : Held), hs[i]? = some h → h.len ≤ 1000000000) (hbase : base ≤ w.heap.size) :
    Calls Tryz.prog 110 #[.pointer (some ⟨kb, 0, none⟩)] w fun e w' => e = .returned (.tuple #[]) ∧
      ∃ hs', w'.ownsRow base 187 3 bs K (heldCells hs') ∧ GrownTo w w' base hs hs' K ∧ But (fun b => inLists hs b ∨ bs.ownBlock = some b) w w' := by
  have hKl : hs.length = K := by have := hown.1; rw [heldCells_length] at this; omega
  have HKl := Lib.hid hKl
  clear hKl
  obtain ⟨Ab, cb, rfl⟩ := own_form3 hown
  have h1 := hbk.b
  have start : GrownTo w w base hs hs 0 := ⟨rfl, fun i h hi => ⟨h, hi, rfl, rfl, rfl, by
    obtain ⟨xs, r1, r2⟩ := hfill i h hi
    rw [← r2 (by have := (List.getElem?_eq_some_iff.1 hi).1; rw [HKl.out] at this; exact this)]
    exact r1, fun e => by omega⟩⟩
  have HS := Lib.hid start
  clear start hfill
  go_enter Tryz.func110, Tryz.ntmps110
  go_wp2
  go_loopw [2] (fun i wr => ∃ (j : Nat) (hs' : List Held), j ≤ K ∧ i = .int .i64 (j : Int) ∧ wr.ownsRow base 187 3 (.slice Ab K cb) K (heldCells hs') ∧ GrownTo w wr base hs hs' j ∧ But (fun b => inLists hs b ∨ (Value.slice Ab K cb).ownBlock = some b) w wr) (fun i _ => K - (intOf i).toNat)
  case atStart => exact ⟨0, hs, Nat.zero_le _, rfl, hown, HS.out, But.refl _ _⟩
  case round =>
    obtain ⟨j, hs', hj, rfl, hown2, hgr, hbut⟩ := hrel
    obtain ⟨wo, rfl⟩ : ∃ wo : World, wo = wr := ⟨_, rfl⟩
    have nokb : ¬ (inLists hs kb ∨ (Value.slice Ab K cb).ownBlock = some kb) := by
      rintro (⟨i, h, hi, he⟩ | he)
      · obtain ⟨xs, hx⟩ := hlist.own i h hi
        exact hbk.otherB hx he
      · exact hbk.other (by decide) hown he
    have hbk2 := hbk.but hbut nokb
    have h2 := hbk2.b
    have HG := Lib.hid hgr
    clear hgr
    by_cases hlt : j < K
    · obtain ⟨h0, hh0⟩ : ∃ h, hs[j]? = some h := ⟨_, List.getElem?_eq_getElem (by rw [HKl.out]; exact hlt)⟩
      obtain ⟨h, hh, G⟩ := HG.out.2 j h0 hh0
      obtain ⟨g1, g2, g3⟩ := heldCells_get hh
      rcases hown2.2 with ⟨e, h0⟩ | ⟨gb, cap, cur, e, hbb, hgb, hle, hm, hsz, htk⟩
      · omega
      · cases e
        have p1 : wo.cell? ⟨gb, j * 3, none⟩ = some h.v := by
          have := hown2.cells (g := gb) rfl _ _ g1
          rwa [Addr.add_lit, Nat.zero_add] at this
        have p2 : wo.cell? ⟨gb, j * 3 + 1, none⟩ = some h.long := by
          have := hown2.cells (g := gb) rfl _ _ g2
          rwa [Addr.add_lit, Nat.zero_add] at this
        have p3 : wo.cell? ⟨gb, j * 3 + 2, none⟩ = some (.int .i64 (h.num : Int)) := by
          have := hown2.cells (g := gb) rfl _ _ g3
          rwa [Addr.add_lit, Nat.zero_add] at this
        have i1 : (j : Int) < (K : Int) := by omega
        have hx0 := G.row
        rw [← G.v, ← G.num, ← G.len] at hx0
        have hl0 := hlen j h0 hh0
        rw [← G.len] at hl0
        have hlow : ∀ b, h.v.ownBlock = some b → b < w.heap.size := by
          intro b hb
          rw [G.v] at hb
          obtain ⟨xs, hx⟩ := hlist.own j h0 hh0
          exact (hx.lt _ hb).2
        have HL := Lib.hid hlow
        clear hlow
        have hsz0 := hbut.size
        have hnext : ∀ wi A3 c3, But (fun b => h.v.ownBlock = some b) wo wi → OwnB wi base (.slice A3 (h.len + 40) c3) (h.len + 40) (List.replicate (h.len + 40) (mk h.num)) → OwnB wi base h.v h.len (List.replicate h.len (mk h.num)) →
            ((Value.slice A3 (h.len + 40) c3).ownBlock = h.v.ownBlock ∨ ∀ b, (Value.slice A3 (h.len + 40) c3).ownBlock = some b → w.heap.size ≤ b) →
            ∃ hs2, (wi.setCell ⟨gb, j * 3 + 1, none⟩ (.slice A3 (h.len + 40) c3)).ownsRow base 187 3 (.slice (some ⟨gb, 0, none⟩) K cb) K (heldCells hs2) ∧
              GrownTo w (wi.setCell ⟨gb, j * 3 + 1, none⟩ (.slice A3 (h.len + 40) c3)) base hs hs2 (j + 1) ∧ But (fun b => inLists hs b ∨ (Value.slice (some ⟨gb, 0, none⟩) K cb).ownBlock = some b) w (wi.setCell ⟨gb, j * 3 + 1, none⟩ (.slice A3 (h.len + 40) c3)) := by
          intro wi A3 c3 hbi r1 r2 r3
          have howni : wi.ownsRow base 187 3 (.slice (some ⟨gb, 0, none⟩) K cb) K (heldCells hs') := own_kept_but hown2 hbi (by
            intro b hb hb'
            rcases rows_neB (by decide) (by decide) hx0 hown2 with e0 | e0
            · rw [e0] at hb'; cases hb'
            · exact e0 (hb'.trans hb.symm))
          have off : ∀ v n xs, OwnB wi base v n xs → OwnB (wi.setCell ⟨gb, j * 3 + 1, none⟩ (.slice A3 (h.len + 40) c3)) base v n xs := by
            intro v n xs hv
            refine hv.kept (grown_set wi gb _ _) ?_
            rcases rows_neB (by decide) (by decide) hv howni with e0 | e0
            · left; exact e0
            · right; exact e0
          refine ⟨hs'.set j (h.lay A3 (h0.len + 40) c3), ?_, ?_, ?_⟩
          · have := own_setAt (k := j * 3 + 1) (.slice A3 (h.len + 40) c3) howni
            rw [heldCells_set hh, G.len] at this
            rw [G.len]
            exact this
          · rw [G.len, G.num] at r1
            rw [G.v, G.len, G.num] at r2
            rw [G.len, G.v] at r3
            rw [G.len] at off ⊢
            refine HG.out.step hlist hh0 hh A3 c3 (fun v n xs hv hne => off _ _ _ (own_kept_butB hv hbi (fun b hb hb' => ?_))) (off _ _ _ r1) (off _ _ _ r2) r3
            rw [G.v] at hb'
            exact hne b hb hb'
          · refine (hbut.trans (hbi.mono (fun b _ hb => .inl ⟨j, h0, hh0, ?_⟩))).set _ _ (fun _ => .inr rfl)
            rw [← G.v]
            exact hb
        have HN := Lib.hid hnext
        clear hnext G g1 g2 g3 hh hh0
        obtain ⟨A, n, c, A2, n2, c2, num⟩ := h
        simp only [Held.v, Held.long] at p1 p2 p3 hx0 hl0
        go_wp2
        have hx1 := hx0.alloc (.cells #[.slice A n c, .slice A2 n2 c2, .int .i64 (num : Int)] 187)
        have hlt0 := hx0.lt
        obtain ⟨wa, hwa⟩ : ∃ wa, wo.alloc (.cells #[.slice A n c, .slice A2 n2 c2, .int .i64 (num : Int)] 187) = wa := ⟨_, rfl⟩
        have hba : But (fun b => (Value.slice A n c).ownBlock = some b) wo wa := by rw [← hwa]; exact (But.refl _ _).alloc _
        have hha : wa.heap[wo.heap.size]? = some (.cells #[.slice A n c, .slice A2 n2 c2, .int .i64 (num : Int)] 187 (0, 0)) := by rw [← hwa]; exact World.alloc_heap_new wo _
        rw [hwa] at hx1 ⊢
        have HH := Lib.hid hha
        clear hwa hha
        have q0 : wa.cell? ⟨wo.heap.size, 0, none⟩ = some (.slice A n c) := by rw [cell_of_row _ _ 0 _ _ (0, 0) HH.out]; rfl
        have hsza := hba.size
        have hwa' : ∀ b, (Value.slice A n c).ownBlock = some b → b < wa.heap.size := fun b hb => by have := (hlt0 b hb).2; omega
        go_wp2
        go_loopw [4, 5] (fun L i wi => ∃ (k : Nat) (A3 : Option Addr) (c3 : Nat), k ≤ 40 ∧ i = .int .i64 (k : Int) ∧ L = .slice A3 (n + k) c3 ∧ Longer base A n c num k wa wi A3 c3) (fun _ i _ => 40 - (intOf i).toNat)
        case atStart => exact ⟨0, A, c, Nat.zero_le _, rfl, rfl, hx1, hx1, But.refl _ _, .inl ⟨rfl, rfl⟩⟩
        case round =>
          obtain ⟨k, A3, c3, hk, rfl, rfl, hlg⟩ := hrel
          have hbi := hlg.2.2.1
          have hhi : wr.heap[wo.heap.size]? = some (.cells #[.slice A n c, .slice A2 n2 c2, .int .i64 (num : Int)] 187 (0, 0)) :=
            (hbi.block _ (Array.getElem?_eq_some_iff.1 HH.out).1 (fun e => by have := (hlt0 _ e).2; omega)).trans HH.out
          have q2 : wr.cell? ⟨wo.heap.size, 2, none⟩ = some (.int .i64 (num : Int)) := by rw [cell_of_row _ _ 2 _ _ (0, 0) hhi]; rfl
          clear hhi
          by_cases hlt2 : k < 40
          · have i2 : (k : Int) < 40 := by omega
            go_wp2_with (first
              | (go_at_call 182; refine (markByte_any num _).mono ?_; rintro e w' ⟨rfl, rfl⟩)
              | (at_builtin; refine wpList_longer _ rfl (.tmp 28) (.tmp 32) rfl base A n c num k wa A3 c3 rfl (hlg.alloc _) hwa' (by omega) (by omega) ⟨wr.heap.size, 0, none⟩ rfl (by simp [mk]) ?_; intro A4 c4 w4 hl4))
            go_roundw
            case rel => exact ⟨k + 1, A4, c4, by omega, by go_num, rfl, hl4⟩
            case measure => simp [intOf]; omega
          · obtain rfl : k = 40 := by omega
            have hb2 := hba.trans hbi
            obtain ⟨hs2, n1, n2', n3⟩ := HN.out wr A3 c3 hb2 hlg.1 hlg.2.1 (by
              rcases hlg.2.2.2 with ⟨e2, _⟩ | ⟨g2, e2, hg2⟩
              · left; rw [e2]; cases A <;> rfl
              · right
                intro b hb
                rw [e2] at hb
                obtain rfl : g2 = b := by simpa [Value.ownBlock] using hb
                omega)
            have hbk3 := hbk2.but hb2 (fun e => hbk2.otherB hx0 e)
            have h3 := hbk3.b
            have hgb3 := (hb2.block gb (Array.getElem?_eq_some_iff.1 hgb).1 (fun e => by
              rcases rows_neB (by decide) (by decide) hx0 hown2 with e0 | e0
              · rw [e0] at e; cases e
              · exact e0 e)).trans hgb
            obtain ⟨u, hu3⟩ : ∃ u, wr.cell? ⟨gb, j * 3 + 1, none⟩ = some u := ⟨cur[j * 3 + 1]'(by omega), by rw [cell_of_row _ gb _ _ _ (0, 0) hgb3]; exact Array.getElem?_eq_getElem (by omega)⟩
            have hf3 : wr.frozen? ⟨gb, j * 3 + 1, none⟩ = false := frozen_of_row _ gb _ _ _ hgb3
            clear hgb3 hgb htk
            have HN1 := Lib.hid n1
            have HN2 := Lib.hid n2'
            have HN3 := Lib.hid n3
            clear n1 n2' n3 HN
            go_wp2
            go_roundw
            case rel => exact ⟨j + 1, hs2, by omega, by go_num, HN1.out, HN2.out, HN3.out⟩
            case measure => simp [intOf]; omega
    · obtain rfl : j = K := by omega
      go_wp2
      go_end0
      exact ⟨rfl, hs', hown2, HG.out, hbut⟩

end Go.Proofs.YthbgcijkpincfaaGreatDoor

/-
  The Book of the statements: lookByte.
-/
namespace Go.Proofs.YthbgcijkpincfaaGreatDoor
open Go.RowKit

/-- A callee that leaves the world alone, met in a region that only reads. -/
theorem quiet_first {P : Program} {f : FuncId} {args : Array Value} {w : World} {n : Nat} {v : Value} (h : Calls P f args (w.drewN n) fun e w' => e = .returned v ∧ w' = w.drewN n) :
    Calls P f args (w.drewN n) fun e w'' => e = .returned v ∧ ∃ m, w'' = w.drewN m := h.mono fun _ _ ⟨he, hm⟩ => ⟨he, n, hm⟩

theorem But.drewN {S : Nat → Prop} {a w : World} (h : But S a w) (n : Nat) : But S a (w.drewN n) := ⟨h.os, h.tape, h.output, h.size, h.block⟩

set_option maxRecDepth 100000 in
set_option maxHeartbeats 400000 in
theorem isByte_any (num : Nat) (w : World) : Calls Tryz.prog 191 #[mk num, .int .i64 (num : Int)] w fun e w' => e = .returned (.bool true) ∧ w' = w := by
  unfold mk
  go_enter Tryz.func191, Tryz.ntmps191
  go_wp2
  go_ret
  exact ⟨rfl, rfl⟩

theorem own_mark {w : World} {base n m c k : Nat} {A : Option Addr} {u : Value} {eL : TypeId} (h : w.ownsRow base eL 1 (.slice A m c) n (List.replicate n u)) (hk : k < n) : ∃ g, A = some ⟨g, 0, none⟩ ∧ w.cell? ⟨g, k, none⟩ = some u := by
  rcases h.2 with ⟨e, h0⟩ | ⟨g, cap, cur, e, _⟩
  · omega
  · cases e
    refine ⟨g, rfl, ?_⟩
    have := h.cells (g := g) rfl k u (by rw [List.getElem?_replicate, if_pos hk])
    rwa [Addr.add_lit, Nat.zero_add] at this

theorem own_markB {w : World} {base n m c k : Nat} {A : Option Addr} {u : Value} (h : OwnB w base (.slice A m c) n (List.replicate n u)) (hk : k < n) : ∃ g, A = some ⟨g, 0, none⟩ ∧ w.cell? ⟨g, k, none⟩ = some u := by
  rcases h with h | ⟨h, _⟩
  · exact own_mark h hk
  · exact own_mark h hk

/-- Each list that is kept, and the longer one, has its marks. -/
def Marked (w : World) (base : Nat) (hs : List Held) : Prop := ∀ (i : Nat) (h : Held), hs[i]? = some h →
  h.len2 = h.len + 40 ∧ OwnB w base h.v h.len (List.replicate h.len (mk h.num)) ∧ OwnB w base h.long (h.len + 40) (List.replicate (h.len + 40) (mk h.num)) ∧ h.len ≤ 1000000000

set_option maxRecDepth 100000 in
set_option maxHeartbeats 2000000 in
theorem lookByte_any (kb N base K : Nat) (bs ss : Value) (hs : List Held) (w : World) (hbk : BookAt w kb N bs ss) (hown : w.ownsRow base 187 3 bs K (heldCells hs)) (hmark : Marked w base hs) (hK : K ≤ 1000000) :
    Calls Tryz.prog 119 #[.pointer (some ⟨kb, 0, none⟩)] w fun e w' => e = .returned (.bool true) ∧ But (fun _ => False) w w' := by
  have hKl : hs.length = K := by have := hown.1; rw [heldCells_length] at this; omega
  have HKl := Lib.hid hKl
  have HM := Lib.hid hmark
  clear hKl hmark
  obtain ⟨Ab, cb, rfl⟩ := own_form3 hown
  have h1 := hbk.b
  go_enter Tryz.func119, Tryz.ntmps119
  go_wp2
  go_loopw [3] (fun i wr => ∃ j : Nat, j ≤ K ∧ i = .int .i64 (j : Int) ∧ But (fun _ => False) w wr) (fun i _ => K - (intOf i).toNat)
  case atStart => exact ⟨0, Nat.zero_le _, rfl, But.refl _ _⟩
  case round =>
    obtain ⟨j, hj, rfl, hbut⟩ := hrel
    obtain ⟨wo, rfl⟩ : ∃ wo : World, wo = wr := ⟨_, rfl⟩
    have hbk2 := hbk.but hbut (fun e => e)
    have hown2 := own_kept_but hown hbut (fun _ _ e => e)
    have h2 := hbk2.b
    by_cases hlt : j < K
    · obtain ⟨h, hh⟩ : ∃ h, hs[j]? = some h := ⟨_, List.getElem?_eq_getElem (by rw [HKl.out]; exact hlt)⟩
      obtain ⟨g1, g2, g3⟩ := heldCells_get hh
      obtain ⟨m1, m2, m3, m4⟩ := HM.out j h hh
      rcases hown2.2 with ⟨e, h0⟩ | ⟨gb, cap, cur, e, hbb, hgb, hle, hm, hsz, htk⟩
      · omega
      · cases e
        have p1 : wo.cell? ⟨gb, j * 3, none⟩ = some h.v := by
          have := hown2.cells (g := gb) rfl _ _ g1
          rwa [Addr.add_lit, Nat.zero_add] at this
        have p2 : wo.cell? ⟨gb, j * 3 + 1, none⟩ = some h.long := by
          have := hown2.cells (g := gb) rfl _ _ g2
          rwa [Addr.add_lit, Nat.zero_add] at this
        have p3 : wo.cell? ⟨gb, j * 3 + 2, none⟩ = some (.int .i64 (h.num : Int)) := by
          have := hown2.cells (g := gb) rfl _ _ g3
          rwa [Addr.add_lit, Nat.zero_add] at this
        have i1 : (j : Int) < (K : Int) := by omega
        have hx0 := own_kept_butB m2 hbut (fun _ _ e => e)
        have hy0 := own_kept_butB m3 hbut (fun _ _ e => e)
        clear m2 m3 g1 g2 g3 hh
        obtain ⟨A, n, c, A2, n2, c2, num⟩ := h
        simp only [Held.v, Held.long] at p1 p2 p3 hx0 hy0 m1 m4
        subst m1
        go_wp2
        obtain ⟨wa, hwa⟩ : ∃ wa, wo.alloc (.cells #[.slice A n c, .slice A2 (n + 40) c2, .int .i64 (num : Int)] 187) = wa := ⟨_, rfl⟩
        have hba : But (fun _ => False) wo wa := by rw [← hwa]; exact (But.refl _ _).alloc _
        have hha : wa.heap[wo.heap.size]? = some (.cells #[.slice A n c, .slice A2 (n + 40) c2, .int .i64 (num : Int)] 187 (0, 0)) := by rw [← hwa]; exact World.alloc_heap_new wo _
        rw [hwa]
        have hx1 := own_kept_butB hx0 hba (fun _ _ e => e)
        have hy1 := own_kept_butB hy0 hba (fun _ _ e => e)
        have HH := Lib.hid hha
        clear hwa hha
        have q0 : wa.cell? ⟨wo.heap.size, 0, none⟩ = some (.slice A n c) := by rw [cell_of_row _ _ 0 _ _ (0, 0) HH.out]; rfl
        have q1 : wa.cell? ⟨wo.heap.size, 1, none⟩ = some (.slice A2 (n + 40) c2) := by rw [cell_of_row _ _ 1 _ _ (0, 0) HH.out]; rfl
        have i3 : IntKind.i64.wrap ((n : Int) + 40) = (n : Int) + 40 := by rw [IntKind.wrap_i64]; omega
        go_wp2
        go_loopw [5] (fun i wi => ∃ k : Nat, k ≤ n + 40 ∧ i = .int .i64 (k : Int) ∧ But (fun _ => False) wa wi) (fun i _ => n + 40 - (intOf i).toNat)
        case atStart => exact ⟨0, Nat.zero_le _, rfl, But.refl _ _⟩
        case round =>
          obtain ⟨k, hk, rfl, hbi⟩ := hrel
          have hhi : wr.heap[wo.heap.size]? = some (.cells #[.slice A n c, .slice A2 (n + 40) c2, .int .i64 (num : Int)] 187 (0, 0)) :=
            (hbi.block _ (Array.getElem?_eq_some_iff.1 HH.out).1 (fun e => e)).trans HH.out
          have r0 : wr.cell? ⟨wo.heap.size, 0, none⟩ = some (.slice A n c) := by rw [cell_of_row _ _ 0 _ _ (0, 0) hhi]; rfl
          have r1 : wr.cell? ⟨wo.heap.size, 1, none⟩ = some (.slice A2 (n + 40) c2) := by rw [cell_of_row _ _ 1 _ _ (0, 0) hhi]; rfl
          have r2 : wr.cell? ⟨wo.heap.size, 2, none⟩ = some (.int .i64 (num : Int)) := by rw [cell_of_row _ _ 2 _ _ (0, 0) hhi]; rfl
          clear hhi
          have hx2 := own_kept_butB hx1 hbi (fun _ _ e => e)
          have hy2 := own_kept_butB hy1 hbi (fun _ _ e => e)
          by_cases hlt2 : k < n + 40
          · obtain ⟨gl, rfl, cl⟩ := own_markB hy2 hlt2
            have i2 : (k : Int) < ((n + 40 : Nat) : Int) := by omega
            have C1 := Lib.hid (fun W => isByte_any num W)
            by_cases hin : k < n
            · obtain ⟨gv, rfl, cv⟩ := own_markB hx2 hin
              have i4 : (k : Int) < (n : Int) := by omega
              have i5 : decide ((k : Int) < (n : Int)) = true := by simpa using i4
              go_wp2
              go_quiet ((go_at_call 191; exact quiet_first (C1.out _)))
              go_wp2
              go_roundw
              case rel => exact ⟨k + 1, by omega, by go_num, hbi.drewN _⟩
              case measure => simp [intOf]; omega
            · have i4 : ¬ (k : Int) < (n : Int) := by omega
              have i5 : decide ((k : Int) < (n : Int)) = false := by simpa using i4
              go_wp2
              go_quiet ((go_at_call 191; exact quiet_first (C1.out _)))
              go_wp2
              go_roundw
              case rel => exact ⟨k + 1, by omega, by go_num, hbi.drewN _⟩
              case measure => simp [intOf]; omega
          · obtain rfl : k = n + 40 := by omega
            go_wp2
            go_roundw
            case rel => exact ⟨j + 1, by omega, by go_num, hbut.trans (hba.trans hbi)⟩
            case measure => simp [intOf]; omega
    · obtain rfl : j = K := by omega
      go_wp2
      go_ret
      exact ⟨rfl, hbut⟩

end Go.Proofs.YthbgcijkpincfaaGreatDoor

/-
  The Book of the statements: the kinds of which it keeps no list.
-/
namespace Go.Proofs.YthbgcijkpincfaaGreatDoor
open Go.RowKit

theorem BookAt.noneInt {w : World} {kb N : Nat} {bs ss : Value} (h : BookAt w kb N bs ss) : w.cell? ⟨kb, 2, none⟩ = some (.slice none 0 0) := by rw [cell_of_row _ kb 2 _ _ (0, 0) h]; rfl

theorem BookAt.noneText {w : World} {kb N : Nat} {bs ss : Value} (h : BookAt w kb N bs ss) : w.cell? ⟨kb, 3, none⟩ = some (.slice none 0 0) := by rw [cell_of_row _ kb 3 _ _ (0, 0) h]; rfl

theorem BookAt.noneByteList {w : World} {kb N : Nat} {bs ss : Value} (h : BookAt w kb N bs ss) : w.cell? ⟨kb, 4, none⟩ = some (.slice none 0 0) := by rw [cell_of_row _ kb 4 _ _ (0, 0) h]; rfl

theorem BookAt.nonePair {w : World} {kb N : Nat} {bs ss : Value} (h : BookAt w kb N bs ss) : w.cell? ⟨kb, 6, none⟩ = some (.slice none 0 0) := by rw [cell_of_row _ kb 6 _ _ (0, 0) h]; rfl

theorem BookAt.noneTenant {w : World} {kb N : Nat} {bs ss : Value} (h : BookAt w kb N bs ss) : w.cell? ⟨kb, 7, none⟩ = some (.slice none 0 0) := by rw [cell_of_row _ kb 7 _ _ (0, 0) h]; rfl

theorem BookAt.noneLease {w : World} {kb N : Nat} {bs ss : Value} (h : BookAt w kb N bs ss) : w.cell? ⟨kb, 8, none⟩ = some (.slice none 0 0) := by rw [cell_of_row _ kb 8 _ _ (0, 0) h]; rfl

theorem BookAt.noneEvent {w : World} {kb N : Nat} {bs ss : Value} (h : BookAt w kb N bs ss) : w.cell? ⟨kb, 9, none⟩ = some (.slice none 0 0) := by rw [cell_of_row _ kb 9 _ _ (0, 0) h]; rfl

set_option maxRecDepth 100000 in
set_option maxHeartbeats 400000 in
theorem fillInt_nil {kb N : Nat} {bs ss : Value} {w : World} (hbk : BookAt w kb N bs ss) : Calls Tryz.prog 102 #[.pointer (some ⟨kb, 0, none⟩)] w fun e w' => e = .returned (.tuple #[]) ∧ w' = w := by
  have hc := hbk.noneInt
  clear hbk
  go_enter Tryz.func102, Tryz.ntmps102
  go_wp2
  go_loopw [2] (fun i wr => i = .int .i64 0 ∧ wr = w) (fun _ _ => 0)
  case atStart => exact ⟨rfl, rfl⟩
  case round =>
    obtain ⟨rfl, rfl⟩ := hrel
    go_wp2
    go_end0
    exact ⟨rfl, rfl⟩

set_option maxRecDepth 100000 in
set_option maxHeartbeats 400000 in
theorem growInt_nil {kb N : Nat} {bs ss : Value} {w : World} (hbk : BookAt w kb N bs ss) : Calls Tryz.prog 111 #[.pointer (some ⟨kb, 0, none⟩)] w fun e w' => e = .returned (.tuple #[]) ∧ w' = w := by
  have hc := hbk.noneInt
  clear hbk
  go_enter Tryz.func111, Tryz.ntmps111
  go_wp2
  go_loopw [2] (fun i wr => i = .int .i64 0 ∧ wr = w) (fun _ _ => 0)
  case atStart => exact ⟨rfl, rfl⟩
  case round =>
    obtain ⟨rfl, rfl⟩ := hrel
    go_wp2
    go_end0
    exact ⟨rfl, rfl⟩

set_option maxRecDepth 100000 in
set_option maxHeartbeats 400000 in
theorem lookInt_nil {kb N : Nat} {bs ss : Value} {w : World} (hbk : BookAt w kb N bs ss) : Calls Tryz.prog 120 #[.pointer (some ⟨kb, 0, none⟩)] w fun e w' => e = .returned (.bool true) ∧ w' = w := by
  have hc := hbk.noneInt
  clear hbk
  go_enter Tryz.func120, Tryz.ntmps120
  go_wp2
  go_loopw [3] (fun i wr => i = .int .i64 0 ∧ wr = w) (fun _ _ => 0)
  case atStart => exact ⟨rfl, rfl⟩
  case round =>
    obtain ⟨rfl, rfl⟩ := hrel
    go_wp2
    go_ret
    exact ⟨rfl, rfl⟩

set_option maxRecDepth 100000 in
set_option maxHeartbeats 400000 in
theorem fillText_nil {kb N : Nat} {bs ss : Value} {w : World} (hbk : BookAt w kb N bs ss) : Calls Tryz.prog 103 #[.pointer (some ⟨kb, 0, none⟩)] w fun e w' => e = .returned (.tuple #[]) ∧ w' = w := by
  have hc := hbk.noneText
  clear hbk
  go_enter Tryz.func103, Tryz.ntmps103
  go_wp2
  go_loopw [2] (fun i wr => i = .int .i64 0 ∧ wr = w) (fun _ _ => 0)
  case atStart => exact ⟨rfl, rfl⟩
  case round =>
    obtain ⟨rfl, rfl⟩ := hrel
    go_wp2
    go_end0
    exact ⟨rfl, rfl⟩

set_option maxRecDepth 100000 in
set_option maxHeartbeats 400000 in
theorem growText_nil {kb N : Nat} {bs ss : Value} {w : World} (hbk : BookAt w kb N bs ss) : Calls Tryz.prog 112 #[.pointer (some ⟨kb, 0, none⟩)] w fun e w' => e = .returned (.tuple #[]) ∧ w' = w := by
  have hc := hbk.noneText
  clear hbk
  go_enter Tryz.func112, Tryz.ntmps112
  go_wp2
  go_loopw [2] (fun i wr => i = .int .i64 0 ∧ wr = w) (fun _ _ => 0)
  case atStart => exact ⟨rfl, rfl⟩
  case round =>
    obtain ⟨rfl, rfl⟩ := hrel
    go_wp2
    go_end0
    exact ⟨rfl, rfl⟩

set_option maxRecDepth 100000 in
set_option maxHeartbeats 400000 in
theorem lookText_nil {kb N : Nat} {bs ss : Value} {w : World} (hbk : BookAt w kb N bs ss) : Calls Tryz.prog 121 #[.pointer (some ⟨kb, 0, none⟩)] w fun e w' => e = .returned (.bool true) ∧ w' = w := by
  have hc := hbk.noneText
  clear hbk
  go_enter Tryz.func121, Tryz.ntmps121
  go_wp2
  go_loopw [3] (fun i wr => i = .int .i64 0 ∧ wr = w) (fun _ _ => 0)
  case atStart => exact ⟨rfl, rfl⟩
  case round =>
    obtain ⟨rfl, rfl⟩ := hrel
    go_wp2
    go_ret
    exact ⟨rfl, rfl⟩

set_option maxRecDepth 100000 in
set_option maxHeartbeats 400000 in
theorem fillByteList_nil {kb N : Nat} {bs ss : Value} {w : World} (hbk : BookAt w kb N bs ss) : Calls Tryz.prog 104 #[.pointer (some ⟨kb, 0, none⟩)] w fun e w' => e = .returned (.tuple #[]) ∧ w' = w := by
  have hc := hbk.noneByteList
  clear hbk
  go_enter Tryz.func104, Tryz.ntmps104
  go_wp2
  go_loopw [2] (fun i wr => i = .int .i64 0 ∧ wr = w) (fun _ _ => 0)
  case atStart => exact ⟨rfl, rfl⟩
  case round =>
    obtain ⟨rfl, rfl⟩ := hrel
    go_wp2
    go_end0
    exact ⟨rfl, rfl⟩

set_option maxRecDepth 100000 in
set_option maxHeartbeats 400000 in
theorem growByteList_nil {kb N : Nat} {bs ss : Value} {w : World} (hbk : BookAt w kb N bs ss) : Calls Tryz.prog 113 #[.pointer (some ⟨kb, 0, none⟩)] w fun e w' => e = .returned (.tuple #[]) ∧ w' = w := by
  have hc := hbk.noneByteList
  clear hbk
  go_enter Tryz.func113, Tryz.ntmps113
  go_wp2
  go_loopw [2] (fun i wr => i = .int .i64 0 ∧ wr = w) (fun _ _ => 0)
  case atStart => exact ⟨rfl, rfl⟩
  case round =>
    obtain ⟨rfl, rfl⟩ := hrel
    go_wp2
    go_end0
    exact ⟨rfl, rfl⟩

set_option maxRecDepth 100000 in
set_option maxHeartbeats 400000 in
theorem lookByteList_nil {kb N : Nat} {bs ss : Value} {w : World} (hbk : BookAt w kb N bs ss) : Calls Tryz.prog 122 #[.pointer (some ⟨kb, 0, none⟩)] w fun e w' => e = .returned (.bool true) ∧ w' = w := by
  have hc := hbk.noneByteList
  clear hbk
  go_enter Tryz.func122, Tryz.ntmps122
  go_wp2
  go_loopw [3] (fun i wr => i = .int .i64 0 ∧ wr = w) (fun _ _ => 0)
  case atStart => exact ⟨rfl, rfl⟩
  case round =>
    obtain ⟨rfl, rfl⟩ := hrel
    go_wp2
    go_ret
    exact ⟨rfl, rfl⟩

set_option maxRecDepth 100000 in
set_option maxHeartbeats 400000 in
theorem fillPair_nil {kb N : Nat} {bs ss : Value} {w : World} (hbk : BookAt w kb N bs ss) : Calls Tryz.prog 106 #[.pointer (some ⟨kb, 0, none⟩)] w fun e w' => e = .returned (.tuple #[]) ∧ w' = w := by
  have hc := hbk.nonePair
  clear hbk
  go_enter Tryz.func106, Tryz.ntmps106
  go_wp2
  go_loopw [2] (fun i wr => i = .int .i64 0 ∧ wr = w) (fun _ _ => 0)
  case atStart => exact ⟨rfl, rfl⟩
  case round =>
    obtain ⟨rfl, rfl⟩ := hrel
    go_wp2
    go_end0
    exact ⟨rfl, rfl⟩

set_option maxRecDepth 100000 in
set_option maxHeartbeats 400000 in
theorem growPair_nil {kb N : Nat} {bs ss : Value} {w : World} (hbk : BookAt w kb N bs ss) : Calls Tryz.prog 115 #[.pointer (some ⟨kb, 0, none⟩)] w fun e w' => e = .returned (.tuple #[]) ∧ w' = w := by
  have hc := hbk.nonePair
  clear hbk
  go_enter Tryz.func115, Tryz.ntmps115
  go_wp2
  go_loopw [2] (fun i wr => i = .int .i64 0 ∧ wr = w) (fun _ _ => 0)
  case atStart => exact ⟨rfl, rfl⟩
  case round =>
    obtain ⟨rfl, rfl⟩ := hrel
    go_wp2
    go_end0
    exact ⟨rfl, rfl⟩

set_option maxRecDepth 100000 in
set_option maxHeartbeats 400000 in
theorem lookPair_nil {kb N : Nat} {bs ss : Value} {w : World} (hbk : BookAt w kb N bs ss) : Calls Tryz.prog 124 #[.pointer (some ⟨kb, 0, none⟩)] w fun e w' => e = .returned (.bool true) ∧ w' = w := by
  have hc := hbk.nonePair
  clear hbk
  go_enter Tryz.func124, Tryz.ntmps124
  go_wp2
  go_loopw [3] (fun i wr => i = .int .i64 0 ∧ wr = w) (fun _ _ => 0)
  case atStart => exact ⟨rfl, rfl⟩
  case round =>
    obtain ⟨rfl, rfl⟩ := hrel
    go_wp2
    go_ret
    exact ⟨rfl, rfl⟩

set_option maxRecDepth 100000 in
set_option maxHeartbeats 400000 in
theorem fillTenant_nil {kb N : Nat} {bs ss : Value} {w : World} (hbk : BookAt w kb N bs ss) : Calls Tryz.prog 107 #[.pointer (some ⟨kb, 0, none⟩)] w fun e w' => e = .returned (.tuple #[]) ∧ w' = w := by
  have hc := hbk.noneTenant
  clear hbk
  go_enter Tryz.func107, Tryz.ntmps107
  go_wp2
  go_loopw [2] (fun i wr => i = .int .i64 0 ∧ wr = w) (fun _ _ => 0)
  case atStart => exact ⟨rfl, rfl⟩
  case round =>
    obtain ⟨rfl, rfl⟩ := hrel
    go_wp2
    go_end0
    exact ⟨rfl, rfl⟩

set_option maxRecDepth 100000 in
set_option maxHeartbeats 400000 in
theorem growTenant_nil {kb N : Nat} {bs ss : Value} {w : World} (hbk : BookAt w kb N bs ss) : Calls Tryz.prog 116 #[.pointer (some ⟨kb, 0, none⟩)] w fun e w' => e = .returned (.tuple #[]) ∧ w' = w := by
  have hc := hbk.noneTenant
  clear hbk
  go_enter Tryz.func116, Tryz.ntmps116
  go_wp2
  go_loopw [2] (fun i wr => i = .int .i64 0 ∧ wr = w) (fun _ _ => 0)
  case atStart => exact ⟨rfl, rfl⟩
  case round =>
    obtain ⟨rfl, rfl⟩ := hrel
    go_wp2
    go_end0
    exact ⟨rfl, rfl⟩

set_option maxRecDepth 100000 in
set_option maxHeartbeats 400000 in
theorem lookTenant_nil {kb N : Nat} {bs ss : Value} {w : World} (hbk : BookAt w kb N bs ss) : Calls Tryz.prog 125 #[.pointer (some ⟨kb, 0, none⟩)] w fun e w' => e = .returned (.bool true) ∧ w' = w := by
  have hc := hbk.noneTenant
  clear hbk
  go_enter Tryz.func125, Tryz.ntmps125
  go_wp2
  go_loopw [3] (fun i wr => i = .int .i64 0 ∧ wr = w) (fun _ _ => 0)
  case atStart => exact ⟨rfl, rfl⟩
  case round =>
    obtain ⟨rfl, rfl⟩ := hrel
    go_wp2
    go_ret
    exact ⟨rfl, rfl⟩

set_option maxRecDepth 100000 in
set_option maxHeartbeats 400000 in
theorem fillLease_nil {kb N : Nat} {bs ss : Value} {w : World} (hbk : BookAt w kb N bs ss) : Calls Tryz.prog 108 #[.pointer (some ⟨kb, 0, none⟩)] w fun e w' => e = .returned (.tuple #[]) ∧ w' = w := by
  have hc := hbk.noneLease
  clear hbk
  go_enter Tryz.func108, Tryz.ntmps108
  go_wp2
  go_loopw [2] (fun i wr => i = .int .i64 0 ∧ wr = w) (fun _ _ => 0)
  case atStart => exact ⟨rfl, rfl⟩
  case round =>
    obtain ⟨rfl, rfl⟩ := hrel
    go_wp2
    go_end0
    exact ⟨rfl, rfl⟩

set_option maxRecDepth 100000 in
set_option maxHeartbeats 400000 in
theorem growLease_nil {kb N : Nat} {bs ss : Value} {w : World} (hbk : BookAt w kb N bs ss) : Calls Tryz.prog 117 #[.pointer (some ⟨kb, 0, none⟩)] w fun e w' => e = .returned (.tuple #[]) ∧ w' = w := by
  have hc := hbk.noneLease
  clear hbk
  go_enter Tryz.func117, Tryz.ntmps117
  go_wp2
  go_loopw [2] (fun i wr => i = .int .i64 0 ∧ wr = w) (fun _ _ => 0)
  case atStart => exact ⟨rfl, rfl⟩
  case round =>
    obtain ⟨rfl, rfl⟩ := hrel
    go_wp2
    go_end0
    exact ⟨rfl, rfl⟩

set_option maxRecDepth 100000 in
set_option maxHeartbeats 400000 in
theorem lookLease_nil {kb N : Nat} {bs ss : Value} {w : World} (hbk : BookAt w kb N bs ss) : Calls Tryz.prog 126 #[.pointer (some ⟨kb, 0, none⟩)] w fun e w' => e = .returned (.bool true) ∧ w' = w := by
  have hc := hbk.noneLease
  clear hbk
  go_enter Tryz.func126, Tryz.ntmps126
  go_wp2
  go_loopw [3] (fun i wr => i = .int .i64 0 ∧ wr = w) (fun _ _ => 0)
  case atStart => exact ⟨rfl, rfl⟩
  case round =>
    obtain ⟨rfl, rfl⟩ := hrel
    go_wp2
    go_ret
    exact ⟨rfl, rfl⟩

set_option maxRecDepth 100000 in
set_option maxHeartbeats 400000 in
theorem fillEvent_nil {kb N : Nat} {bs ss : Value} {w : World} (hbk : BookAt w kb N bs ss) : Calls Tryz.prog 109 #[.pointer (some ⟨kb, 0, none⟩)] w fun e w' => e = .returned (.tuple #[]) ∧ w' = w := by
  have hc := hbk.noneEvent
  clear hbk
  go_enter Tryz.func109, Tryz.ntmps109
  go_wp2
  go_loopw [2] (fun i wr => i = .int .i64 0 ∧ wr = w) (fun _ _ => 0)
  case atStart => exact ⟨rfl, rfl⟩
  case round =>
    obtain ⟨rfl, rfl⟩ := hrel
    go_wp2
    go_end0
    exact ⟨rfl, rfl⟩

set_option maxRecDepth 100000 in
set_option maxHeartbeats 400000 in
theorem growEvent_nil {kb N : Nat} {bs ss : Value} {w : World} (hbk : BookAt w kb N bs ss) : Calls Tryz.prog 118 #[.pointer (some ⟨kb, 0, none⟩)] w fun e w' => e = .returned (.tuple #[]) ∧ w' = w := by
  have hc := hbk.noneEvent
  clear hbk
  go_enter Tryz.func118, Tryz.ntmps118
  go_wp2
  go_loopw [2] (fun i wr => i = .int .i64 0 ∧ wr = w) (fun _ _ => 0)
  case atStart => exact ⟨rfl, rfl⟩
  case round =>
    obtain ⟨rfl, rfl⟩ := hrel
    go_wp2
    go_end0
    exact ⟨rfl, rfl⟩

set_option maxRecDepth 100000 in
set_option maxHeartbeats 400000 in
theorem lookEvent_nil {kb N : Nat} {bs ss : Value} {w : World} (hbk : BookAt w kb N bs ss) : Calls Tryz.prog 127 #[.pointer (some ⟨kb, 0, none⟩)] w fun e w' => e = .returned (.bool true) ∧ w' = w := by
  have hc := hbk.noneEvent
  clear hbk
  go_enter Tryz.func127, Tryz.ntmps127
  go_wp2
  go_loopw [3] (fun i wr => i = .int .i64 0 ∧ wr = w) (fun _ _ => 0)
  case atStart => exact ⟨rfl, rfl⟩
  case round =>
    obtain ⟨rfl, rfl⟩ := hrel
    go_wp2
    go_ret
    exact ⟨rfl, rfl⟩

end Go.Proofs.YthbgcijkpincfaaGreatDoor

/-
  The Book of the statements: no list of sums.
-/
namespace Go.Proofs.YthbgcijkpincfaaGreatDoor
open Go.RowKit

set_option maxRecDepth 100000 in
set_option maxHeartbeats 400000 in
theorem fillSum_nil {kb N : Nat} {bs : Value} {w : World} (hbk : BookAt w kb N bs (.slice none 0 0)) : Calls Tryz.prog 105 #[.pointer (some ⟨kb, 0, none⟩)] w fun e w' => e = .returned (.tuple #[]) ∧ w' = w := by
  have hc := hbk.s
  clear hbk
  go_enter Tryz.func105, Tryz.ntmps105
  go_wp2
  go_loopw [2] (fun i wr => i = .int .i64 0 ∧ wr = w) (fun _ _ => 0)
  case atStart => exact ⟨rfl, rfl⟩
  case round =>
    obtain ⟨rfl, rfl⟩ := hrel
    go_wp2
    go_end0
    exact ⟨rfl, rfl⟩

set_option maxRecDepth 100000 in
set_option maxHeartbeats 400000 in
theorem growSum_nil {kb N : Nat} {bs : Value} {w : World} (hbk : BookAt w kb N bs (.slice none 0 0)) : Calls Tryz.prog 114 #[.pointer (some ⟨kb, 0, none⟩)] w fun e w' => e = .returned (.tuple #[]) ∧ w' = w := by
  have hc := hbk.s
  clear hbk
  go_enter Tryz.func114, Tryz.ntmps114
  go_wp2
  go_loopw [2] (fun i wr => i = .int .i64 0 ∧ wr = w) (fun _ _ => 0)
  case atStart => exact ⟨rfl, rfl⟩
  case round =>
    obtain ⟨rfl, rfl⟩ := hrel
    go_wp2
    go_end0
    exact ⟨rfl, rfl⟩

set_option maxRecDepth 100000 in
set_option maxHeartbeats 400000 in
theorem lookSum_nil {kb N : Nat} {bs : Value} {w : World} (hbk : BookAt w kb N bs (.slice none 0 0)) : Calls Tryz.prog 123 #[.pointer (some ⟨kb, 0, none⟩)] w fun e w' => e = .returned (.bool true) ∧ w' = w := by
  have hc := hbk.s
  clear hbk
  go_enter Tryz.func123, Tryz.ntmps123
  go_wp2
  go_loopw [3] (fun i wr => i = .int .i64 0 ∧ wr = w) (fun _ _ => 0)
  case atStart => exact ⟨rfl, rfl⟩
  case round =>
    obtain ⟨rfl, rfl⟩ := hrel
    go_wp2
    go_ret
    exact ⟨rfl, rfl⟩

end Go.Proofs.YthbgcijkpincfaaGreatDoor

/-
  The Book of the statements, lists of bytes alone: Apart: no list shares memory with another one.
-/
namespace Go.Proofs.YthbgcijkpincfaaGreatDoor
open Go.RowKit

theorem nil_same {P : Program} {f : FuncId} {args : Array Value} {w : World} {v : Value} (h : Calls P f args w fun e w' => e = .returned v ∧ w' = w) : Calls P f args w fun e w' => e = .returned v ∧ w = w' := h.mono fun _ _ ⟨h1, h2⟩ => ⟨h1, h2.symm⟩
theorem inLists_ge {w : World} {base : Nat} {hs : List Held} (h : Lists w base hs) : ∀ b, inLists hs b → base ≤ b := by
  rintro b ⟨i, k, hk, hb⟩
  obtain ⟨xs, hx⟩ := h.own i k hk
  exact (hx.lt b hb).1
theorem not_in {w : World} {base b2 : Nat} {hs : List Held} {e : TypeId} {s n : Nat} {v : Value} {xs : List Value} (h : Lists w base hs) (he : 5 ≠ e) (he2 : 137 ≠ e) (hv : w.ownsRow b2 e s v n xs) : ∀ b, v.ownBlock = some b → ¬ inLists hs b := by
  rintro b hb ⟨i, k, hk, hb'⟩
  obtain ⟨ys, hy⟩ := h.own i k hk
  rcases rows_neB he he2 hy hv with e0 | e0
  · rw [e0] at hb'; cases hb'
  · exact e0 (hb'.trans hb.symm)
theorem book_not_in {w : World} {base kb N : Nat} {bs ss : Value} {hs : List Held} (h : Lists w base hs) (hb : BookAt w kb N bs ss) : ¬ inLists hs kb := by
  rintro ⟨i, k, hk, hb'⟩
  obtain ⟨ys, hy⟩ := h.own i k hk
  exact hb.otherB hy hb'
theorem Lists.of_filled {w w' : World} {base K : Nat} {hs : List Held} (h : Lists w base hs) (hf : Filled w' base hs K) : Lists w' base hs :=
  ⟨fun i k hk => by obtain ⟨xs, hx, _⟩ := hf i k hk; exact ⟨xs, hx⟩, h.apart⟩
theorem Lists.but {S : Nat → Prop} {w w' : World} {base : Nat} {hs : List Held} (h : Lists w base hs) (hb : But S w w') (hn : ∀ b, inLists hs b → ¬ S b) : Lists w' base hs :=
  ⟨fun i k hk => by obtain ⟨xs, hx⟩ := h.own i k hk; exact ⟨xs, own_kept_butB hx hb (fun b e => hn b ⟨i, k, hk, e⟩)⟩, h.apart⟩
theorem GrownTo.marked {w w' : World} {base K : Nat} {hs hs' : List Held} (h : GrownTo w w' base hs hs' K) (hK : hs.length = K) (hlen : ∀ (i : Nat) (h : Held), hs[i]? = some h → h.len ≤ 1000000000) : Marked w' base hs' := fun i k' hk' => by
  have hi := (List.getElem?_eq_some_iff.1 hk').1
  rw [h.1] at hi
  obtain ⟨k'', hk'', G⟩ := h.2 i _ (List.getElem?_eq_getElem hi)
  rw [hk'] at hk''
  cases hk''
  obtain ⟨l1, l2, _⟩ := G.long (by omega)
  have l3 := hlen i _ (List.getElem?_eq_getElem hi)
  rw [G.len, G.v, G.num]
  exact ⟨l1, G.row, l2, l3⟩

/-- Block kb is a Book that keeps the lists hs, N of them. -/
structure Keeping (w : World) (base kb N : Nat) (bs : Value) (hs : List Held) : Prop where
  book : BookAt w kb N bs (.slice none 0 0)
  own : w.ownsRow base 187 3 bs N (heldCells hs)
  lists : Lists w base hs
  len : ∀ (i : Nat) (h : Held), hs[i]? = some h → h.len ≤ 1000000000
  le : N ≤ 1000
  kb : base ≤ kb
  base : base ≤ w.heap.size
/-- The blocks that it lies in. -/
def InBook (kb : Nat) (bs : Value) (hs : List Held) (b : Nat) : Prop := b = kb ∨ bs.ownBlock = some b ∨ inLists hs b

theorem Keeping.but {S : Nat → Prop} {w w' : World} {base kb N : Nat} {bs : Value} {hs : List Held} (h : Keeping w base kb N bs hs) (hb : But S w w') (hn : ∀ b, InBook kb bs hs b → ¬ S b) : Keeping w' base kb N bs hs :=
  ⟨h.book.but hb (hn kb (.inl rfl)), own_kept_but h.own hb (fun b e => hn b (.inr (.inl e))), h.lists.but hb (fun b e => hn b (.inr (.inr e))), h.len, h.le, h.kb, Nat.le_trans h.base hb.size⟩
theorem Keeping.below {w w' : World} {base kb N : Nat} {bs : Value} {hs : List Held} (h : Keeping w base kb N bs hs) (hb : Below w.heap.size w w') : Keeping w' base kb N bs hs := h.but (S := fun _ => False) (But.of_below hb) (fun _ _ e => e)
theorem Keeping.lt {w : World} {base kb N : Nat} {bs : Value} {hs : List Held} (h : Keeping w base kb N bs hs) : ∀ b, InBook kb bs hs b → base ≤ b ∧ b < w.heap.size := by
  rintro b (rfl | e | ⟨i, k, hk, e⟩)
  · exact ⟨h.kb, h.book.lt⟩
  · exact h.own.lt b e
  · obtain ⟨xs, hx⟩ := h.lists.own i k hk
    exact hx.lt b e
theorem Keeping.new {w : World} {base : Nat} (hb : base ≤ w.heap.size) :
    Keeping (w.alloc (.cells #[.int .i64 0, .slice none 0 0, .slice none 0 0, .slice none 0 0, .slice none 0 0, .slice none 0 0, .slice none 0 0, .slice none 0 0, .slice none 0 0, .slice none 0 0] 49)) base w.heap.size 0 (.slice none 0 0) [] :=
  ⟨World.alloc_heap_new w _, World.ownsRow_nil _ _ _ _, ⟨fun i k hk => by simp at hk, fun i j a b hi _ _ => by simp at hi⟩, fun i k hk => by simp at hk, by omega, hb, by rw [World.size_alloc]; omega⟩

theorem snoc_get {α : Type} {l : List α} {x y : α} {i : Nat} (h : (l ++ [x])[i]? = some y) : l[i]? = some y ∨ (i = l.length ∧ y = x) := by
  by_cases hi : i < l.length
  · rw [List.getElem?_append_left hi] at h; exact .inl h
  · rw [List.getElem?_append_right (by omega)] at h
    have : i - l.length = 0 := by
      have := (List.getElem?_eq_some_iff.1 h).1
      simp at this
      omega
    rw [this] at h
    simp at h
    exact .inr ⟨by omega, h.symm⟩

/-- A list is kept. -/
theorem book_keep {kb N base : Nat} {bs : Value} {hs : List Held} {A : Option Addr} {n c : Nat} {ys : List Value} {w : World} (H : Keeping w base kb N bs hs) (hv : OwnB w base (.slice A n c) n ys) (hn : n ≤ 1000000000) (hN : N < 1000)
    (off : ∀ b, (Value.slice A n c).ownBlock = some b → ¬ inLists hs b) :
    Calls Tryz.prog 31 #[.pointer (some ⟨kb, 0, none⟩), .slice A n c] w fun e w' => e = .returned (.tuple #[]) ∧
      (∃ bs' hs', Keeping w' base kb (N + 1) bs' hs' ∧ ∀ b, InBook kb bs' hs' b → InBook kb bs hs b ∨ (Value.slice A n c).ownBlock = some b ∨ w.heap.size ≤ b) ∧ But (fun b => b = kb ∨ bs.ownBlock = some b) w w' := by
  refine (bookBytes_at kb N base N bs (.slice none 0 0) (heldCells hs) A n c w H.book H.base H.own (by omega) (by have := H.le; omega)).mono ?_
  rintro e w' ⟨rfl, ⟨bs', bk', ob', nb'⟩, hb⟩
  have keep : ∀ v m zs, OwnB w base v m zs → OwnB w' base v m zs := fun v m zs ho =>
    own_kept_butB ho hb (fun b hbb h => h.elim (fun e => H.book.otherB ho (e ▸ hbb)) (fun e => by
      rcases rows_neB (by decide) (by decide) ho H.own with e0 | e0
      · rw [e0] at hbb; cases hbb
      · exact e0 (hbb.trans e.symm)))
  refine ⟨rfl, ⟨bs', hs ++ [⟨A, n, c, none, 0, 0, N + 1⟩], ⟨bk', by rw [heldCells_append]; exact ob', ⟨fun i k hk => ?_, fun i j k1 k2 hi hj hij => ?_⟩, fun i k hk => ?_, by omega, H.kb, Nat.le_trans H.base hb.size⟩, fun b h => ?_⟩, hb⟩
  · rcases snoc_get hk with h | ⟨_, rfl⟩
    · obtain ⟨xs, hx⟩ := H.lists.own i k h
      exact ⟨xs, keep _ _ _ hx⟩
    · exact ⟨ys, keep _ _ _ hv⟩
  · rcases snoc_get hi with h1 | ⟨e1, rfl⟩
    · rcases snoc_get hj with h2 | ⟨e2, rfl⟩
      · exact H.lists.apart i j k1 k2 h1 h2 hij
      · cases hk : k1.v.ownBlock with
        | none => exact .inl rfl
        | some b => exact .inr fun e => off b e.symm ⟨i, k1, h1, hk⟩
    · rcases snoc_get hj with h2 | ⟨e2, rfl⟩
      · cases hk : (Value.slice A n c).ownBlock with
        | none => exact .inl hk
        | some b => exact .inr fun e => off b hk ⟨j, k2, h2, by rw [← e]; exact hk⟩
      · omega
  · rcases snoc_get hk with h | ⟨_, rfl⟩
    · exact H.len i k h
    · exact hn
  · rcases h with rfl | e | ⟨i, k, hk, hkb⟩
    · exact .inl (.inl rfl)
    · rcases nb' b e with e | e
      · exact .inl (.inr (.inl e))
      · exact .inr (.inr e)
    · rcases snoc_get hk with h | ⟨_, rfl⟩
      · exact .inl (.inr (.inr ⟨i, k, h, hkb⟩))
      · exact .inr (.inl hkb)

set_option maxRecDepth 100000 in
set_option maxHeartbeats 4000000 in
theorem apart_bytes (kb N base : Nat) (bs : Value) (hs : List Held) (w : World) (H : Keeping w base kb N bs hs) :
    Calls Tryz.prog 26 #[.pointer (some ⟨kb, 0, none⟩)] w fun e w' => e = .returned (.bool true) ∧ Below base w w' := by
  have H0 := Lib.hid H
  have hN : N ≤ 1000000 := by have := H.le; omega
  clear H
  go_enter Tryz.func26, Tryz.ntmps26
  go_wp2_with fail
  refine (fillByte_any kb N base N bs _ hs w H0.out.book H0.out.own H0.out.lists hN H0.out.len).mono ?_
  rintro e w1 ⟨rfl, hf1, hb1⟩
  have L1 := Lib.hid (H0.out.lists.of_filled hf1)
  have O1 := Lib.hid (own_kept_but H0.out.own hb1 (not_in H0.out.lists (by decide) (by decide) H0.out.own))
  have K1b := Lib.hid (H0.out.book.but hb1 (book_not_in H0.out.lists H0.out.book))
  have B1 := Lib.hid (hb1.below H0.out.base (inLists_ge H0.out.lists))
  have S1 : Hid (base ≤ w1.heap.size) := Nat.le_trans H0.out.base hb1.size
  have F1 := Lib.hid hf1
  clear hf1 hb1
  go_wp2_with fail
  refine (nil_same (fillInt_nil K1b.out)).mono ?_
  rintro e _ ⟨rfl, rfl⟩
  go_wp2_with fail
  refine (nil_same (fillText_nil K1b.out)).mono ?_
  rintro e _ ⟨rfl, rfl⟩
  go_wp2_with fail
  refine (nil_same (fillByteList_nil K1b.out)).mono ?_
  rintro e _ ⟨rfl, rfl⟩
  go_wp2_with fail
  refine (nil_same (fillSum_nil K1b.out)).mono ?_
  rintro e _ ⟨rfl, rfl⟩
  go_wp2_with fail
  refine (nil_same (fillPair_nil K1b.out)).mono ?_
  rintro e _ ⟨rfl, rfl⟩
  go_wp2_with fail
  refine (nil_same (fillTenant_nil K1b.out)).mono ?_
  rintro e _ ⟨rfl, rfl⟩
  go_wp2_with fail
  refine (nil_same (fillLease_nil K1b.out)).mono ?_
  rintro e _ ⟨rfl, rfl⟩
  go_wp2_with fail
  refine (nil_same (fillEvent_nil K1b.out)).mono ?_
  rintro e _ ⟨rfl, rfl⟩
  go_wp2_with fail
  refine (growByte_any kb N base N bs _ hs w1 K1b.out O1.out L1.out F1.out hN H0.out.len S1.out).mono ?_
  rintro e w3 ⟨rfl, hs1, ho3, hg3, hb3⟩
  have M3 := Lib.hid (hg3.marked (by have := O1.out.1; rw [heldCells_length] at this; omega) H0.out.len)
  have K3b := Lib.hid (K1b.out.but hb3 (fun h => h.elim (book_not_in L1.out K1b.out) (K1b.out.other (by decide) O1.out)))
  have B3 := Lib.hid (B1.out.trans (hb3.below S1.out (fun b h => h.elim (inLists_ge L1.out b) (fun h' => (O1.out.lt b h').1))))
  have O3 := Lib.hid ho3
  have S3 : Hid (base ≤ w3.heap.size) := Nat.le_trans S1.out hb3.size
  clear hg3 hb3 ho3 F1 B1 L1 O1
  go_wp2_with fail
  refine (nil_same (growInt_nil K3b.out)).mono ?_
  rintro e _ ⟨rfl, rfl⟩
  go_wp2_with fail
  refine (nil_same (growText_nil K3b.out)).mono ?_
  rintro e _ ⟨rfl, rfl⟩
  go_wp2_with fail
  refine (nil_same (growByteList_nil K3b.out)).mono ?_
  rintro e _ ⟨rfl, rfl⟩
  go_wp2_with fail
  refine (nil_same (growSum_nil K3b.out)).mono ?_
  rintro e _ ⟨rfl, rfl⟩
  go_wp2_with fail
  refine (nil_same (growPair_nil K3b.out)).mono ?_
  rintro e _ ⟨rfl, rfl⟩
  go_wp2_with fail
  refine (nil_same (growTenant_nil K3b.out)).mono ?_
  rintro e _ ⟨rfl, rfl⟩
  go_wp2_with fail
  refine (nil_same (growLease_nil K3b.out)).mono ?_
  rintro e _ ⟨rfl, rfl⟩
  go_wp2_with fail
  refine (nil_same (growEvent_nil K3b.out)).mono ?_
  rintro e _ ⟨rfl, rfl⟩
  go_wp2_with fail
  refine (lookByte_any kb N base N bs _ hs1 w3 K3b.out O3.out M3.out hN).mono ?_
  rintro e w5 ⟨rfl, hb5⟩
  have K5b := Lib.hid (K3b.out.but hb5 (fun e => e))
  have B5 := Lib.hid (B3.out.trans (hb5.below S3.out (fun _ e => e.elim)))
  clear hb5
  go_wp2_with fail
  refine (nil_same (lookInt_nil K5b.out)).mono ?_
  rintro e _ ⟨rfl, rfl⟩
  go_wp2_with fail
  refine (nil_same (lookText_nil K5b.out)).mono ?_
  rintro e _ ⟨rfl, rfl⟩
  go_wp2_with fail
  refine (nil_same (lookByteList_nil K5b.out)).mono ?_
  rintro e _ ⟨rfl, rfl⟩
  go_wp2_with fail
  refine (nil_same (lookSum_nil K5b.out)).mono ?_
  rintro e _ ⟨rfl, rfl⟩
  go_wp2_with fail
  refine (nil_same (lookPair_nil K5b.out)).mono ?_
  rintro e _ ⟨rfl, rfl⟩
  go_wp2_with fail
  refine (nil_same (lookTenant_nil K5b.out)).mono ?_
  rintro e _ ⟨rfl, rfl⟩
  go_wp2_with fail
  refine (nil_same (lookLease_nil K5b.out)).mono ?_
  rintro e _ ⟨rfl, rfl⟩
  go_wp2_with fail
  refine (nil_same (lookEvent_nil K5b.out)).mono ?_
  rintro e _ ⟨rfl, rfl⟩
  go_wp2
  go_ret
  exact ⟨rfl, B5.out⟩

end Go.Proofs.YthbgcijkpincfaaGreatDoor

/-
  TwinBytes: a copy in memory of its own, a mark behind it.
-/
namespace Go.Proofs.YthbgcijkpincfaaGreatDoor
open Go.RowKit

/-- '.slice A n (n + 1)' is a copy of xs, the mark 77 behind it: block g is just these cells. -/
def Twin (w : World) (g n : Nat) (xs : List Nat) : Prop := xs.length = n ∧ w.heap[g]? = some (.cells (bvs (xs ++ [77])).toArray 5 (0, 0))

theorem Twin.below {w w' : World} {g n : Nat} {xs : List Nat} (h : Twin w g n xs) (hb : Below w.heap.size w w') : Twin w' g n xs :=
  ⟨h.1, (hb.block g (Array.getElem?_eq_some_iff.1 h.2).1).trans h.2⟩
theorem Twin.in_ {w : World} {g n : Nat} {xs : List Nat} (h : Twin w g n xs) : In w (some ⟨g, 0, none⟩) n xs :=
  ⟨h.1, fun j x hx => ⟨_, rfl, by
    rw [show (⟨g, 0, none⟩ : Addr).add j = ⟨g, j, none⟩ from by unfold Addr.add; split <;> simp_all]
    have hj := (List.getElem?_eq_some_iff.1 hx).1
    rw [cell_of_row _ g j _ 5 (0, 0) h.2, List.getElem?_toArray, bvs_get, List.getElem?_append_left hj, hx]
    rfl⟩⟩
theorem Twin.last {w : World} {g n : Nat} {xs : List Nat} (h : Twin w g n xs) : w.cell? ⟨g, n, none⟩ = some (.int .u8 77) := by
  rw [cell_of_row _ g n _ 5 (0, 0) h.2, List.getElem?_toArray, bvs_get, List.getElem?_append_right (by rw [h.1]; omega), h.1]
  simp [bv]
theorem Twin.lt {w : World} {g n : Nat} {xs : List Nat} (h : Twin w g n xs) : g < w.heap.size := (Array.getElem?_eq_some_iff.1 h.2).1

set_option maxRecDepth 100000 in
set_option maxHeartbeats 1000000 in
theorem twinBytes_any (A : Option Addr) (n c : Nat) (xs : List Nat) (w : World) (hin : In w A n xs) (hn : n ≤ 1000000000) :
    Calls Tryz.prog 11 #[.slice A n c] w fun e w' => e = .returned (.slice (some ⟨w.heap.size, 0, none⟩) n (n + 1)) ∧ Twin w' w.heap.size n xs ∧ Below w.heap.size w w' := by
  obtain ⟨i0, hi, hz0, hz1, hz2⟩ := info_parts infoByte
  have hm : n + 1 ≤ maxLen := by unfold maxLen; omega
  go_enter Tryz.func11, Tryz.ntmps11
  go_wp2_with (at_make; refine wpList_make_own _ rfl _ _ 50 rfl w.heap.size 5 i0 _ 1 Tryz.underlying50 hi hz0 hz1 _ _ _ (n + 1) rfl rfl (by omega) (by rw [hz2]; omega) hm (Nat.le_refl _) ?_; intro w1 hown1 hgrow1)
  have hb1 : Below w.heap.size w w1 := (Below.refl _ w).grown hgrow1 (Nat.le_refl _) (fun k hk => by cases hk)
  go_loopw [3, 4] (fun t i wr => ∃ j : Nat, j ≤ n ∧ i = .int .i64 (j : Int) ∧ t = .slice (some ⟨w.heap.size, 0, none⟩) j (n + 1) ∧
      wr.ownsRow w.heap.size 5 1 (.slice (some ⟨w.heap.size, 0, none⟩) j (n + 1)) j (bvs (xs.take j)) ∧ Below w.heap.size w wr) (fun _ i _ => n - (intOf i).toNat)
  case atStart => exact ⟨0, Nat.zero_le _, rfl, rfl, hown1, hb1⟩
  case round =>
    obtain ⟨j, hj, rfl, rfl, hown, hbw⟩ := hrel
    have z1 := hbw.size
    by_cases hlt : j < n
    · obtain ⟨ad, x, rfl, hx, hcell⟩ := (hin.below hbw).at_ hlt
      have HX := Lib.hid hx
      clear hx
      go_wp2_with (at_builtin; refine wpList_append_fits _ rfl _ _ 50 rfl w.heap.size 5 i0 1 Tryz.underlying50 hi hz1 w.heap.size j (n + 1) _ rfl (hown.alloc _) ⟨wr.heap.size, 0, none⟩ 1 1 [.int .u8 (x : Int)] rfl rfl (cell_one_new _ _ _) (by simp [Value.oneCell']) (by omega) ?_; intro w2 hown2 hgrow2)
      go_roundw
      case rel =>
        refine ⟨j + 1, by omega, by go_num, rfl, ?_, (hbw.alloc z1 _).grown hgrow2 (by simp; omega) (fun k hk => by cases hk; exact Nat.le_refl _)⟩
        rw [take_snoc_of HX.out, bvs_append]
        exact hown2
      case measure => simp [intOf]; omega
    · obtain rfl : j = n := by omega
      go_wp2_with (at_builtin; refine wpList_append_fits _ rfl _ _ 50 rfl w.heap.size 5 i0 1 Tryz.underlying50 hi hz1 w.heap.size j (j + 1) _ rfl (hown.alloc _) ⟨wr.heap.size, 0, none⟩ 1 1 [.int .u8 77] rfl rfl (cell_one_new _ _ _) (by simp [Value.oneCell']) (by omega) ?_; intro w2 hown2 hgrow2)
      go_ret
      refine ⟨rfl, ⟨hin.len, ?_⟩, (hbw.alloc z1 _).grown hgrow2 (by simp; omega) (fun k hk => by cases hk; exact Nat.le_refl _)⟩
      rw [List.take_of_length_le (by rw [hin.len]; omega)] at hown2
      rcases hown2.2 with ⟨e1, _⟩ | ⟨g, cap, cur, e1, _, hg, _, _, hs, ht⟩
      · cases e1
      · cases e1
        rw [hg, bvs_append]
        rw [List.take_of_length_le (by rw [Array.length_toList, hs]; omega)] at ht
        have e2 : cur = (bvs xs ++ [Value.int .u8 77]).toArray := by rw [← ht]
        rw [e2]
        rfl

end Go.Proofs.YthbgcijkpincfaaGreatDoor

/-
  LeftBytes: it is still that copy.
-/
namespace Go.Proofs.YthbgcijkpincfaaGreatDoor
open Go.RowKit


set_option maxRecDepth 100000 in
set_option maxHeartbeats 1000000 in
theorem leftBytes_yes (A : Option Addr) (g n c : Nat) (xs : List Nat) (w : World) (ht : Twin w g n xs) (hin2 : In w A n xs) (hn : n ≤ 1000000000) :
    Calls Tryz.prog 25 #[.slice (some ⟨g, 0, none⟩) n (n + 1), .slice A n c] w fun e w' => e = .returned (.bool true) ∧ ∃ q, w' = w.drewN q := by
  have dn : ((n : Int) != (n : Int)) = false := by simp
  have hin := ht.in_
  have hlast := ht.last
  go_enter Tryz.func25, Tryz.ntmps25
  go_wp2
  go_loopw [5] (fun i wr => ∃ j : Nat, j ≤ n ∧ i = .int .i64 (j : Int) ∧ ∃ q, wr = w.drewN q) (fun i _ => n - (intOf i).toNat)
  case atStart => exact ⟨0, Nat.zero_le _, rfl, 0, rfl⟩
  case round =>
    obtain ⟨j, hj, rfl, q, rfl⟩ := hrel
    by_cases hlt : j < n
    · obtain ⟨ad, x, e1, hx, hc1⟩ := hin.at_ hlt
      obtain ⟨ad2, x2, rfl, hx2, hc2⟩ := hin2.at_ hlt
      obtain rfl : x2 = x := by rw [hx] at hx2; injection hx2 with h; exact h.symm
      cases e1
      rw [show (⟨g, 0, none⟩ : Addr).add j = ⟨g, j, none⟩ from by unfold Addr.add; split <;> simp_all] at hc1
      clear hx hx2
      have i1 : (j : Int) < (n : Int) := by omega
      go_wp2
      go_quiet (fail)
      rw [World.drewN_drewN]
      go_wp2
      go_roundw
      case rel => exact ⟨j + 1, by omega, by go_num, q + nq, rfl⟩
      case measure => simp [intOf]; omega
    · obtain rfl : j = n := by omega
      go_wp2
      go_ret
      exact ⟨rfl, q, rfl⟩

end Go.Proofs.YthbgcijkpincfaaGreatDoor

/-
  StoresPlay: what stands between two acts, and within one.
-/
namespace Go.Proofs.YthbgcijkpincfaaGreatDoor
open Go.RowKit

/-- The block of a deed that is looked at. -/
def deedRow (x : Deed) (B : Option Addr) (m k : Nat) (K : Option Addr) (p q : Nat) : Array Value := #[.int .u8 (x.kind : Int), .int .i64 x.n, .slice B m k, .int .i64 x.at_, .int .u8 (x.by_ : Int), .slice K p q]

/-- Between two acts. -/
structure SStage (base : Nat) (w W : World) (kb gd gm sb mb f k : Nat) (s : St) (l : List (List Nat)) (bs : Value) (hs : List Held) (N j : Nat) : Prop where
  pair : SPair base (InBook kb bs hs) W gd gm sb mb f k ⟨s, l, false⟩ ⟨s, l, false⟩
  book : Keeping W base kb N bs hs
  bel : Below base w W
  n_le : N ≤ j
  w_le : s.waits.length ≤ 20 * j

/-- Within an act: all but the disks and the stores. -/
structure Ground (base : Nat) (O : Nat → Prop) (w W : World) (kb : Nat) (bs : Value) (hs : List Held) (N xb tb : Nat) (x : Deed) (B : Option Addr) (m k : Nat) (K : Option Addr) (p q : Nat) : Prop where
  book : Keeping W base kb N bs hs
  bel : Below base w W
  row : W.heap[xb]? = some (.cells (deedRow x B m k K p q) 53 (0, 0))
  twin : Twin W tb m x.xs
  oi : ∀ y, InBook kb bs hs y → O y
  ox : O xb
  ot : O tb
  xn : ¬ InBook kb bs hs xb
  tn : ¬ InBook kb bs hs tb
  bt : base ≤ tb
  ol : ∀ y, O y → y < W.heap.size
  bl : base ≤ W.heap.size

section
variable {base : Nat} {O : Nat → Prop} {w W W' : World} {kb gd gm sb mb f q0 N j xb tb m k p q : Nat} {s : St} {l : List (List Nat)} {bs : Value} {hs : List Held} {x : Deed} {B K : Option Addr}

theorem Ground.act (h : Ground base O w W kb bs hs N xb tb x B m k K p q) (hb : But (Out base O) W W') : Ground base O w W' kb bs hs N xb tb x B m k K p q :=
  ⟨h.book.but hb (fun b e n => n.2 (h.oi b e)), h.bel.trans (hb.below h.bl (fun _ e => e.1)), (hb.block xb (h.ol xb h.ox) (fun n => n.2 h.ox)).trans h.row, ⟨h.twin.1, (hb.block tb h.twin.lt (fun n => n.2 h.ot)).trans h.twin.2⟩, h.oi, h.ox, h.ot, h.xn, h.tn, h.bt, fun y hy => Nat.lt_of_lt_of_le (h.ol y hy) hb.size, Nat.le_trans h.bl hb.size⟩
theorem Ground.below (h : Ground base O w W kb bs hs N xb tb x B m k K p q) (hb : Below W.heap.size W W') : Ground base O w W' kb bs hs N xb tb x B m k K p q := h.act (But.of_below hb)
theorem Ground.c0 (h : Ground base O w W kb bs hs N xb tb x B m k K p q) : W.cell? ⟨xb, 0, none⟩ = some (.int .u8 (x.kind : Int)) := by rw [cell_of_row _ xb 0 _ _ (0, 0) h.row]; rfl
theorem Ground.c1 (h : Ground base O w W kb bs hs N xb tb x B m k K p q) : W.cell? ⟨xb, 1, none⟩ = some (.int .i64 x.n) := by rw [cell_of_row _ xb 1 _ _ (0, 0) h.row]; rfl
theorem Ground.c2 (h : Ground base O w W kb bs hs N xb tb x B m k K p q) : W.cell? ⟨xb, 2, none⟩ = some (.slice B m k) := by rw [cell_of_row _ xb 2 _ _ (0, 0) h.row]; rfl
theorem Ground.c3 (h : Ground base O w W kb bs hs N xb tb x B m k K p q) : W.cell? ⟨xb, 3, none⟩ = some (.int .i64 x.at_) := by rw [cell_of_row _ xb 3 _ _ (0, 0) h.row]; rfl
theorem Ground.c4 (h : Ground base O w W kb bs hs N xb tb x B m k K p q) : W.cell? ⟨xb, 4, none⟩ = some (.int .u8 (x.by_ : Int)) := by rw [cell_of_row _ xb 4 _ _ (0, 0) h.row]; rfl
theorem Ground.c5 (h : Ground base O w W kb bs hs N xb tb x B m k K p q) : W.cell? ⟨xb, 5, none⟩ = some (.slice K p q) := by rw [cell_of_row _ xb 5 _ _ (0, 0) h.row]; rfl

/-- What came in lies below base. -/
theorem came_low {A : Option Addr} {n c : Nat} {ys : List Nat} (h : Came w A n c ys) (hw : w.heap.size = base) (hn : 0 < n) : ∀ ad, A = some ad → ¬ Out base O ad.block := by
  intro ad e
  have hl := h.in_.len
  obtain ⟨ad', e', hc⟩ := h.in_.rd 0 _ (List.getElem?_eq_getElem (by omega))
  rw [e] at e'
  cases e'
  have := World.block_lt_of_cell? w _ hc
  rw [block_add] at this
  exact fun o => by have := o.1; omega
theorem twin_own {n g b : Nat} {ys : List Nat} (h : Twin W g n ys) (hb : b ≤ g) (hn : n ≤ 1000000000) : W.ownsRow b 5 1 (.slice (some ⟨g, 0, none⟩) n (n + 1)) n (bvs ys) :=
  ⟨by rw [bvs_length, h.1]; omega, .inr ⟨g, n + 1, _, rfl, hb, h.2, by omega, by unfold maxLen; omega, by rw [List.size_toArray, bvs_length, List.length_append, h.1]; simp, by
    rw [List.toList_toArray, bvs_append, List.take_append_of_le_length (by rw [bvs_length, h.1]; omega), List.take_of_length_le (by rw [bvs_length, h.1]; omega)]⟩⟩

theorem SStage.below (h : SStage base w W kb gd gm sb mb f q0 s l bs hs N j) (hb : Below W.heap.size W W') : SStage base w W' kb gd gm sb mb f q0 s l bs hs N j :=
  ⟨h.pair.below hb, h.book.below hb, h.bel.trans (hb.mono h.book.base), h.n_le, h.w_le⟩
/-- The act begins. -/
theorem SStage.mid {W1 : World} (h : SStage base w W kb gd gm sb mb f q0 s l bs hs N j) (hrow : W1 = W.alloc (.cells (deedRow x B m k K p q) 53)) (ht : Twin W' W1.heap.size m x.xs) (hb : Below W1.heap.size W1 W') :
    Ground base (fun y => InBook kb bs hs y ∨ y = W.heap.size ∨ y = W1.heap.size) w W' kb bs hs N W.heap.size W1.heap.size x B m k K p q ∧
      SPair base (fun y => InBook kb bs hs y ∨ y = W.heap.size ∨ y = W1.heap.size) W' gd gm sb mb f q0 ⟨s, l, false⟩ ⟨s, l, false⟩ := by
  have e1 : W1.heap.size = W.heap.size + 1 := by rw [hrow, World.size_alloc]
  have hb0 : Below W.heap.size W W1 := hrow ▸ below_alloc W _
  have hb2 : Below W.heap.size W W' := ⟨hb.os.trans hb0.os, hb.tape.trans hb0.tape, hb.output.trans hb0.output, Nat.le_trans hb0.size hb.size, fun x hx => (hb.block x (by omega)).trans (hb0.block x hx)⟩
  have hlt := ht.lt
  have hbk := h.book.lt
  have hbase := h.book.base
  have hp := h.pair.more hb2 (O' := fun y => InBook kb bs hs y ∨ y = W.heap.size ∨ y = W1.heap.size) (fun y hy => hy.imp id (fun e => by rcases e with rfl | rfl <;> omega))
  refine ⟨⟨h.book.below hb2, h.bel.trans (hb2.mono hbase), ?_, ht, fun y hy => .inl hy, .inr (.inl rfl), .inr (.inr rfl), fun e => by have := (hbk _ e).2; omega, fun e => by have := (hbk _ e).2; omega, by omega, hp.ol, hp.bl⟩, hp⟩
  rw [hb.block _ (by omega), hrow]
  exact World.alloc_heap_new W _
/-- The copy is kept: the act is over. -/
theorem Ground.last (h : Ground base O w W kb bs hs N xb tb x B m k K p q) (hp : SPair base O W gd gm sb mb f q0 ⟨s, l, false⟩ ⟨s, l, false⟩) (hm : m ≤ 1000000000) (hN : N < 1000) (hn2 : N ≤ j) (hw : s.waits.length ≤ 20 * (j + 1)) :
    Calls Tryz.prog 31 #[.pointer (some ⟨kb, 0, none⟩), .slice (some ⟨tb, 0, none⟩) m (m + 1)] W fun e W' => e = .returned (.tuple #[]) ∧
      ∃ bs' hs', SStage base w W' kb gd gm sb mb f q0 s l bs' hs' (N + 1) (j + 1) := by
  refine (book_keep h.book (.inl (twin_own h.twin h.bt hm)) hm hN (fun b hb hi => ?_)).mono ?_
  · cases hb
    exact h.tn (.inr (.inr hi))
  rintro e W' ⟨he, ⟨bs', hs', hk, hin⟩, hb⟩
  have hS : ∀ b, (b = kb ∨ bs.ownBlock = some b) → InBook kb bs hs b := fun b e => e.elim .inl (fun e => .inr (.inl e))
  refine ⟨he, bs', hs', hp.turn hb (fun y hy => .inr (h.oi y (hS y hy))) (fun y hy => ?_) (fun y hy => (hk.lt y hy).2), hk, h.bel.trans (hb.below h.bl (fun y hy => (h.book.lt y (hS y hy)).1)), by omega, hw⟩
  rcases hin y hy with e | e | e
  · exact .inl (h.oi y e)
  · cases e
    exact .inl h.ot
  · exact .inr e
/-- What was got is kept. -/
theorem SStage.keep {u : Value} {A : Option Addr} {n c : Nat} {ys : List Value} (h : SStage base w W kb gd gm sb mb f q0 s l bs hs N j) (hu : u = .slice A n c) (ho : W'.ownsRow W.heap.size 5 1 u n ys) (hb : Below W.heap.size W W') (hn : n ≤ 1000000000) (hN : N < 1000) :
    ∀ W2, Below W'.heap.size W' W2 → Calls Tryz.prog 31 #[.pointer (some ⟨kb, 0, none⟩), u] W2 fun e W3 => e = .returned (.tuple #[]) ∧
      ∃ bs' hs', SStage base w W3 kb gd gm sb mb f q0 s l bs' hs' (N + 1) (j + 1) := by
  subst hu
  intro W2 hb2
  have h2 := (h.below hb).below hb2
  have ho2 := own_kept_but (S := fun _ => False) ho (But.of_below hb2) (fun _ _ e => e)
  have hgb : ∀ b, (Value.slice A n c).ownBlock = some b → W.heap.size ≤ b ∧ b < W2.heap.size := fun b e => by have := ho2.lt b e; exact this
  have hbl := h.pair.bl
  have ho3 : W2.ownsRow base 5 1 (.slice A n c) n ys := by
    refine ⟨ho2.1, ?_⟩
    rcases ho2.2 with h | ⟨g, cap, cur, e, hbb, rest⟩
    · exact .inl h
    · exact .inr ⟨g, cap, cur, e, Nat.le_trans hbl hbb, rest⟩
  refine (book_keep h2.book (.inl ho3) hn hN (fun b hb hi => ?_)).mono ?_
  · have := (hgb b hb).1
    have := (h.book.lt b (.inr (.inr hi))).2
    omega
  rintro e W3 ⟨he, ⟨bs', hs', hk, hin⟩, hb3⟩
  have hS : ∀ b, (b = kb ∨ bs.ownBlock = some b) → InBook kb bs hs b := fun b e => e.elim .inl (fun e => .inr (.inl e))
  have hp2 := (h.pair.more hb (O' := fun y => InBook kb bs hs y ∨ (Value.slice A n c).ownBlock = some y) (fun y hy => hy.imp id (fun e => ⟨(hgb y e).1, by have := ho.lt y e; omega⟩))).below hb2
  refine ⟨he, bs', hs', hp2.turn hb3 (fun y hy => .inr (.inl (hS y hy))) (fun y hy => ?_) (fun y hy => (hk.lt y hy).2), hk, h2.bel.trans (hb3.below h2.pair.bl (fun y hy => (h2.book.lt y (hS y hy)).1)), by have := h.n_le; omega, by have := h.w_le; omega⟩
  rcases hin y hy with e | e | e
  · exact .inl (.inl e)
  · exact .inl (.inr e)
  · exact .inr e
/-- The Book is new. -/
theorem sstage_new (h : SPair base (fun _ => False) W gd gm sb mb f q0 ⟨s, l, false⟩ ⟨s, l, false⟩) (hb : Below base w W) (hw : s.waits = []) :
    SStage base w (W.alloc (.cells #[.int .i64 0, .slice none 0 0, .slice none 0 0, .slice none 0 0, .slice none 0 0, .slice none 0 0, .slice none 0 0, .slice none 0 0, .slice none 0 0, .slice none 0 0] 49)) W.heap.size gd gm sb mb f q0 s l (.slice none 0 0) [] 0 0 := by
  have hl := h.bl
  have hb4 := below_alloc W (.cells #[.int .i64 0, .slice none 0 0, .slice none 0 0, .slice none 0 0, .slice none 0 0, .slice none 0 0, .slice none 0 0, .slice none 0 0, .slice none 0 0, .slice none 0 0] 49)
  have hk := Keeping.new (w := W) hl
  refine ⟨h.turn (S := fun _ => False) (But.of_below hb4) (fun _ e => e.elim) (fun y hy => ?_) (fun y hy => (hk.lt y hy).2), hk, hb.trans (hb4.mono hl), by omega, by rw [hw]; exact Nat.le_refl _⟩
  rcases hy with e | e | ⟨i, k, hk, _⟩
  · exact .inr (by omega)
  · cases e
  · simp at hk
end

end Go.Proofs.YthbgcijkpincfaaGreatDoor

/-
  StoresPlay: what the switch leaves.
-/
namespace Go.Proofs.YthbgcijkpincfaaGreatDoor
open Go.RowKit

/-- Behind the act: the disks; and the stores, if they go on. -/
structure ActEnd (base : Nat) (O : Nat → Prop) (w W : World) (kb : Nat) (bs : Value) (hs : List Held) (N xb tb : Nat) (x : Deed) (B : Option Addr) (m bc : Nat) (K : Option Addr) (p q gd gm sb mb f k j : Nat) (co : Int) (an : Bool) (st : St) : Prop where
  g : Ground base O w W kb bs hs N xb tb x B m bc K p q
  d : DPair base O W gd st gm st
  fits : f + k ≤ st.sure.length
  w_le : st.waits.length ≤ 20 * (j + 1)
  go : an = false → co ≠ 9 → ∃ l, SPair base O W gd gm sb mb f k ⟨st, l, false⟩ ⟨st, l, false⟩

section
variable {base : Nat} {O : Nat → Prop} {w W W2 W3 : World} {kb gd gm gd' gm' sb mb f k N j xb tb m bc p q : Nat} {s st : St} {l : List (List Nat)} {bs : Value} {hs : List Held} {x : Deed} {B K : Option Addr} {co : Int} {r : Sm}
theorem actEnd_store (g : Ground base O w W kb bs hs N xb tb x B m bc K p q) (hp : SPair base O W gd gm sb mb f k r r) (hd : co = 9 ∨ r.down = false) (hw : r.st.waits.length ≤ 20 * (j + 1)) :
    ActEnd base O w W kb bs hs N xb tb x B m bc K p q gd gm sb mb f k j co false r.st :=
  ⟨g, hp.disks, hp.fits, hw, fun _ hc => ⟨r.l, by
    obtain ⟨st, l, down⟩ := r
    obtain rfl : down = false := hd.resolve_left hc
    exact hp⟩⟩
theorem actEnd_disks (g : Ground base O w W kb bs hs N xb tb x B m bc K p q) (hp : DPair base O W gd st gm st) (hf : f + k ≤ st.sure.length) (hw : st.waits.length ≤ 20 * (j + 1)) :
    ActEnd base O w W kb bs hs N xb tb x B m bc K p q gd gm sb mb f k j co true st :=
  ⟨g, hp, hf, hw, fun e => by cases e⟩
theorem ActEnd.below {an : Bool} (h : ActEnd base O w W kb bs hs N xb tb x B m bc K p q gd gm sb mb f k j co an st) {W' : World} (hb : Below W.heap.size W W') : ActEnd base O w W' kb bs hs N xb tb x B m bc K p q gd gm sb mb f k j co an st :=
  ⟨h.g.below hb, h.d.below hb, h.fits, h.w_le, fun e1 e2 => by
    obtain ⟨l, hp⟩ := h.go e1 e2
    exact ⟨l, hp.below hb⟩⟩
theorem dpair_fail (h1 : Made W s gd' W2) (h2 : RMade W2 s gm' W3) (hO : ∀ y, O y → y < W.heap.size) (hb : base ≤ W.heap.size) : DPair base O W3 gd' s gm' s := by
  have s1 := h1.2.size
  have s2 := h2.2.size
  refine ⟨_, _, h1.1.below h2.2, h2.1, fun x hx hg => ?_, fun x hx => ⟨Nat.le_trans hb hx.1, fun e => ?_⟩, fun x hx => ⟨Nat.le_trans hb (Nat.le_trans s1 hx.1), fun e => ?_⟩, fun x e => ?_, Nat.le_trans hb (Nat.le_trans s1 s2)⟩
  · have := hx.2; have := hg.1; omega
  · have := hO x e; have := hx.1; omega
  · have := hO x e; have := hx.1; omega
  · have := hO x e; omega
end

end Go.Proofs.YthbgcijkpincfaaGreatDoor

/-
  Open, where the place is none: ErrArg.
-/
namespace Go.Proofs.YthbgcijkpincfaaGreatDoor
open Go.RowKit Go.Shelf

attribute [local go_sem] Oper.semAt_some

theorem sub_wrap {N : Nat} {f : Int} (hN : N ≤ 4096) (h0 : 0 ≤ f) (h1 : f ≤ 9223372036854775807) : wrap64 ((N : Int) - f) = (N : Int) - f := by simp only [wrap64]; omega

set_option maxRecDepth 100000 in
set_option maxHeartbeats 1000000 in
theorem open_arg_all {w : World} {gd : Nat} {F : Nat → Prop} {st : St} {f m : Int} (h : Disk w gd F st) (hf : f ≤ 9223372036854775807) (ha : f < 0 ∨ m < 1 ∨ (st.sure.length : Int) - f < m) :
    Calls Tryz.prog 9 #[.pointer (some ⟨gd, 0, none⟩), .int .i64 f, .int .i64 m] w fun e w' => e = .returned (.tuple #[.pointer none, .int .i64 1]) ∧ Below w.heap.size w w' := by
  obtain ⟨N, hN⟩ : ∃ N, st.sure.length = N := ⟨_, rfl⟩
  have hle := h.1.le
  have hpos := h.1.pos
  have b2 : ∀ o1 o2, Below w.heap.size w ((w.alloc o1).alloc o2) := fun o1 o2 => ((Below.refl _ w).alloc (Nat.le_refl _) _).alloc (by simp) _
  have C := fun o1 o2 => len_any (h.below (b2 o1 o2))
  rw [hN] at C ha hle hpos
  have g1 : ¬ (N : Int) < 1 := by omega
  have HC := Lib.hid C
  clear C h hN b2
  by_cases g2 : f < 0
  · refine callsIn_wide.1 (callsIn_of_wp_marks Tryz.func9 rfl trivial ?_ rfl (n := 4))
    simp only [Tryz.ntmps9, List.size_toArray, List.length_cons, List.length_nil, Nat.reduceAdd, Nat.reduceSub, Array.replicate_succ, Array.replicate_zero, List.push_toArray, List.append_toArray, List.nil_append, List.cons_append]
    gi_wp2_with (first
      | (refine ⟨trivial, ?_⟩; gi_at_call 69; refine (callsIn_wide.2 (HC.out _ _)).mono ?_; rintro e w1 ⟨rfl, rfl⟩))
    refine ⟨trivial, ?_⟩
    rename_i K ha
    apply ha
    gi_wp2
    refine ⟨_, by simp [results, go_sem], rfl, ?_⟩
    exact ((Below.refl _ w).alloc (Nat.le_refl _) _).alloc (by simp) _
  by_cases g3 : m < 1
  · refine callsIn_wide.1 (callsIn_of_wp_marks Tryz.func9 rfl trivial ?_ rfl (n := 4))
    simp only [Tryz.ntmps9, List.size_toArray, List.length_cons, List.length_nil, Nat.reduceAdd, Nat.reduceSub, Array.replicate_succ, Array.replicate_zero, List.push_toArray, List.append_toArray, List.nil_append, List.cons_append]
    gi_wp2_with (first
      | (refine ⟨trivial, ?_⟩; gi_at_call 69; refine (callsIn_wide.2 (HC.out _ _)).mono ?_; rintro e w1 ⟨rfl, rfl⟩))
    refine ⟨trivial, ?_⟩
    rename_i K ha
    apply ha
    gi_wp2
    refine ⟨_, by simp [results, go_sem], rfl, ?_⟩
    exact ((Below.refl _ w).alloc (Nat.le_refl _) _).alloc (by simp) _
  · have h3 : (N : Int) - f < m := by omega
    have hsw := sub_wrap hle (by omega) hf
    refine callsIn_wide.1 (callsIn_of_wp_marks Tryz.func9 rfl trivial ?_ rfl (n := 4))
    simp only [Tryz.ntmps9, List.size_toArray, List.length_cons, List.length_nil, Nat.reduceAdd, Nat.reduceSub, Array.replicate_succ, Array.replicate_zero, List.push_toArray, List.append_toArray, List.nil_append, List.cons_append]
    gi_wp2_with (first
      | (refine ⟨trivial, ?_⟩; gi_at_call 69; refine (callsIn_wide.2 (HC.out _ _)).mono ?_; rintro e w1 ⟨rfl, rfl⟩))
    refine ⟨_, by simp [results, go_sem], rfl, ?_⟩
    exact ((Below.refl _ w).alloc (Nat.le_refl _) _).alloc (by simp) _

end Go.Proofs.YthbgcijkpincfaaGreatDoor

/-
  StoresPlay: the walk.
-/
namespace Go.Proofs.YthbgcijkpincfaaGreatDoor
open Go.RowKit

theorem dpair_new {base gd gm : Nat} {s r : St} {w1 w2 w3 : World} (h1 : Made w1 s gd w2) (h2 : RMade w2 r gm w3) (hb : base ≤ w1.heap.size) : DPair base (fun _ => False) w3 gd s gm r :=
  ⟨_, _, h1.1.below h2.2, h2.1, fun x hx hg => by have := hx.2; have := hg.1; omega, fun x hx => ⟨Nat.le_trans hb hx.1, fun e => e⟩, fun x hx => ⟨Nat.le_trans hb (Nat.le_trans h1.2.size hx.1), fun e => e⟩, fun _ e => e.elim, Nat.le_trans hb (Nat.le_trans h1.2.size h2.2.size)⟩
theorem weight_ge5 {ds : List Deed} {j : Nat} (h : j ≤ ds.length) : 10 * j ≤ weight ds j := by
  induction j with
  | zero => exact Nat.zero_le _
  | succ j ih =>
    rw [weight_step (List.getElem?_eq_getElem (by omega))]
    have := ih (by omega)
    unfold weigh
    omega
theorem drewN_below (W : World) (q : Nat) : Below W.heap.size W (W.drewN q) := ⟨rfl, rfl, rfl, Nat.le_refl _, fun _ _ => rfl⟩
/-- The place, as it lies. -/
def Lies (w : World) (zb : Nat) (z fr mn : Int) : Prop := ∀ W, Below w.heap.size w W → W.cell? ⟨zb, 0, none⟩ = some (.int .i64 z) ∧ W.cell? ⟨zb, 1, none⟩ = some (.int .i64 fr) ∧ W.cell? ⟨zb, 2, none⟩ = some (.int .i64 mn)
theorem lies_new (w0 : World) (z fr mn : Int) : Lies (w0.alloc (.cells #[.int .i64 z, .int .i64 fr, .int .i64 mn] 23)) w0.heap.size z fr mn := fun W hb => by
  have h0 : W.heap[w0.heap.size]? = some (.cells #[.int .i64 z, .int .i64 fr, .int .i64 mn] 23 (0, 0)) := (hb.block _ (by rw [World.size_alloc]; omega)).trans (World.alloc_heap_new w0 _)
  exact ⟨by rw [cell_of_row _ _ 0 _ _ (0, 0) h0]; rfl, by rw [cell_of_row _ _ 1 _ _ (0, 0) h0]; rfl, by rw [cell_of_row _ _ 2 _ _ (0, 0) h0]; rfl⟩

set_option maxRecDepth 100000 in
set_option maxHeartbeats 16000000 in
theorem storesPlay_law (w0 : World) (E : Errs) (hE0 : Laid w0 E) {A : Option Addr} {n c : Nat} {ds : List Deed} (z fr mn : Int) (hz2 : z ≤ 9223372036854775807) (hfr : -9223372036854775808 ≤ fr ∧ fr ≤ 9223372036854775807) (hmn : -9223372036854775808 ≤ mn ∧ mn ≤ 9223372036854775807) (h0 : CameActs w0 A n ds) (hn : n ≤ 1048576) :
    Calls Tryz.prog 3 #[.agg #[.int .i64 z, .int .i64 fr, .int .i64 mn], .slice A n c] w0 fun e w' => e = .returned (.bool true) ∧ Below w0.heap.size w0 w' := by
  have HI := Lib.hid (And.intro hE0 (And.intro h0 (And.intro hz2 (And.intro hfr hmn))))
  clear hE0 h0 hz2 hfr hmn
  go_enter Tryz.func3, Tryz.ntmps3
  go_upto_region 1 with fail
  have HZ0 := Lib.hid (lies_new w0 z fr mn)
  have hb0 := below_alloc w0 (.cells #[.int .i64 z, .int .i64 fr, .int .i64 mn] 23)
  have hE : Hid (Laid (w0.alloc (.cells #[.int .i64 z, .int .i64 fr, .int .i64 mn] 23)) E) := HI.out.1.below hb0
  have hC : CameActs (w0.alloc (.cells #[.int .i64 z, .int .i64 fr, .int .i64 mn] 23)) A n ds := ⟨HI.out.2.1.len, fun r x hx => by
    obtain ⟨ad, B, m, k, K, p, q, e, hd⟩ := HI.out.2.1.row r x hx
    exact ⟨ad, B, m, k, K, p, q, e, hd.below hb0⟩⟩
  obtain ⟨w, hw⟩ : ∃ w, w0.alloc (.cells #[.int .i64 z, .int .i64 fr, .int .i64 mn] 23) = w := ⟨_, rfl⟩
  obtain ⟨zb, hzb⟩ : ∃ zb, w0.heap.size = zb := ⟨_, rfl⟩
  rw [hw] at HZ0 hb0 hE hC
  rw [hzb] at HZ0
  rw [hw, hzb]
  have B0 := Lib.hid hb0
  have HZ : Hid (Lies w zb z fr mn) := HZ0
  have hsz : Hid (w0.heap.size ≤ w.heap.size) := hb0.size
  have hEnd : Hid (∀ W, Below w.heap.size w W → Below w0.heap.size w0 W) := fun W hW => B0.out.trans (hW.mono hsz.out)
  clear hw hb0 HZ0 hzb
  have HG := Lib.hid (great_any (z := z) (fr := fr) (mn := mn) (c := c) hC hn)
  have HC := Lib.hid hC
  clear hC
  obtain ⟨z0, z1, z2⟩ := HZ.out w (Below.refl _ _)
  by_cases hg : 500 < weight ds n ∨ 200 < z
  · go_wp2_with fail
    refine HG.out.mono ?_
    rintro e w1 ⟨rfl, b1⟩
    rw [decide_eq_true hg]
    have B1 := Lib.hid b1
    clear b1 z0 z1 z2
    go_wp2
    go_ret
    exact ⟨rfl, hEnd.out _ B1.out⟩
  · have hn50 : n ≤ 50 := by have := weight_ge5 (ds := ds) (j := n) (by rw [HC.out.len]; exact Nat.le_refl _); omega
    have hz200 : z ≤ 200 := by omega
    by_cases hz : 1 ≤ z
    · obtain ⟨n0, rfl⟩ := Int.eq_ofNat_of_zero_le (show 0 ≤ z by omega)
      have C1 := fun w => Lib.hid (new_yes w n0 (by omega) (by omega))
      have C2 := fun w => Lib.hid (rnew_yes w n0 (by omega) (by omega))
      go_wp2_with fail
      refine HG.out.mono ?_
      rintro e w1 ⟨rfl, b1⟩
      rw [decide_eq_false hg]
      have B1 := Lib.hid b1
      clear b1 HG z0 z1 z2
      obtain ⟨z0, z1, z2⟩ := HZ.out w1 B1.out
      go_wp2_with fail
      refine (C1 w1).out.mono ?_
      rintro e w2 ⟨gd, rfl, m2⟩
      have M2 := Lib.hid m2
      have B2 := Lib.hid (B1.out.trans (m2.2.mono B1.out.size))
      clear m2 C1 z0 z1 z2
      obtain ⟨z0, z1, z2⟩ := HZ.out w2 B2.out
      go_wp2_with fail
      refine (C2 w2).out.mono ?_
      rintro e w3 ⟨gm, rfl, m3⟩
      have P3 : Hid (DPair w.heap.size (fun _ => False) w3 gd (fresh (zeros n0)) gm (fresh (zeros n0))) := dpair_new M2.out m3 B1.out.size
      have B3 : Hid (Below w.heap.size w w3) := B2.out.trans (m3.2.mono B2.out.size)
      have hN0 : Hid ((fresh (zeros n0)).sure.length = n0) := Lib.hid (by simp [fresh, zeros])
      clear m3 C2 M2 B1 B2 z0 z1 z2
      obtain ⟨z0, z1, z2⟩ := HZ.out w3 B3.out
      by_cases ha : fr < 0 ∨ mn < 1 ∨ (n0 : Int) - fr < mn
      · have CA : Hid (Calls Tryz.prog 9 #[.pointer (some ⟨gd, 0, none⟩), .int .i64 fr, .int .i64 mn] w3 fun e w' => e = .returned (.tuple #[.pointer none, .int .i64 1]) ∧ Below w3.heap.size w3 w') := by
          obtain ⟨F, G, hp⟩ := P3.out
          exact open_arg_all hp.d HI.out.2.2.2.1.2 (by rw [hN0.out]; exact ha)
        have CR : Hid (∀ W, Below w3.heap.size w3 W → Calls Tryz.prog 10 #[.pointer (some ⟨gm, 0, none⟩), .int .i64 fr, .int .i64 mn] W fun e w' => e = .returned (.tuple #[.pointer none, .int .i64 1]) ∧ W = w') := fun W hW => by
          obtain ⟨F, G, hp⟩ := P3.out.below hW
          exact ropen_arg hp.m (by rw [hN0.out]; omega)
        clear ha hN0
        go_wp2_with fail
        refine CA.out.mono ?_
        rintro e w4 ⟨rfl, b4⟩
        have B4 := Lib.hid (B3.out.trans (b4.mono B3.out.size))
        have CR4 := Lib.hid (CR.out w4 b4)
        clear b4 CA CR z0 z1 z2
        obtain ⟨z0, z1, z2⟩ := HZ.out w4 B4.out
        go_wp2_with fail
        refine CR4.out.mono ?_
        rintro e _ ⟨rfl, rfl⟩
        go_wp2
        go_ret
        exact ⟨rfl, hEnd.out _ B4.out⟩
      · obtain ⟨f, rfl⟩ := Int.eq_ofNat_of_zero_le (show 0 ≤ fr by omega)
        obtain ⟨k, rfl⟩ := Int.eq_ofNat_of_zero_le (show 0 ≤ mn by omega)
        have h1k : 1 ≤ k := by omega
        have hfk : f + k ≤ n0 := by omega
        have HEL : Hid (∀ (O : Nat → Prop) (V : World), Below w.heap.size w V → ∀ W, But (Out w.heap.size O) V W → Laid W E) := fun O V hV W hW => hE.out.below (hV.trans (hW.below hV.size (fun _ e => e.1)))
        clear ha
        obtain ⟨s0, hs0⟩ : ∃ s0, fresh (zeros n0) = s0 := ⟨_, rfl⟩
        have hw0 : Hid (s0.waits = []) := Lib.hid (by rw [← hs0]; rfl)
        rw [hs0] at P3 hN0
        clear hs0
        by_cases hc : s0.ocode f k = 0
        · have CO := Lib.hid (st_open_yes E (HEL.out _ w3 B3.out) P3.out h1k (by rw [hN0.out]; exact hfk) (by rw [hw0.out]; exact Nat.zero_le _) hc)
          have hcH := Lib.hid hc
          clear hc
          go_wp2_with fail
          refine CO.out.mono ?_
          rintro e w4 ⟨sb, rfl, p4, b4⟩
          have P4 := Lib.hid p4
          have B4 := Lib.hid (B3.out.trans (b4.below B3.out.size (fun _ e => e.1)))
          have CR := Lib.hid (st_ropen_yes P4.out h1k (by rw [hN0.out]; exact hfk) (by rw [hw0.out]; exact Nat.zero_le _) hcH.out)
          clear CO p4 b4 z0 z1 z2
          obtain ⟨z0, z1, z2⟩ := HZ.out w4 B4.out
          go_wp2_with fail
          refine CR.out.mono ?_
          rintro e w5 ⟨mb, rfl, p5, b5⟩
          have P5 := Lib.hid p5
          have B5 := Lib.hid (B4.out.trans (b5.below B4.out.size (fun _ e => e.1)))
          have W5 := Lib.hid (opens_ok hcH.out)
          obtain ⟨s5, hs5⟩ : ∃ s5, (s0.opens f k).2 = s5 := ⟨_, rfl⟩
          obtain ⟨l5, hl5⟩ : ∃ l5, s0.foundIn f k = l5 := ⟨_, rfl⟩
          rw [hs5, hl5] at P5
          rw [hs5] at W5
          clear p5 b5 CR P4 B4 z0 z1 z2 hs5 hl5 hcH hw0 hN0 P3 B3
          go_upto_region 11 with (fail)
          have hS4 := Lib.hid (sstage_new P5.out B5.out W5.out)
          obtain ⟨W4, hW4⟩ : ∃ W4, w5.alloc (Obj.cells #[Value.int IntKind.i64 0, Value.slice none 0 0, Value.slice none 0 0, Value.slice none 0 0, Value.slice none 0 0, Value.slice none 0 0, Value.slice none 0 0, Value.slice none 0 0, Value.slice none 0 0, Value.slice none 0 0] 49) = W4 := ⟨_, rfl⟩
          obtain ⟨kb, hkb⟩ : ∃ kb, w5.heap.size = kb := ⟨_, rfl⟩
          rw [hW4, hkb] at hS4
          go_upto_region 12 with (fail)
          clear hW4 hkb P5 B5 W5
          go_wp2_with fail
          go_loopw [5, 7, 9, 10, 12] (fun dv cv sv mv i wr => ∃ (j gd gm sb mb : Nat) (s : St) (l : List (List Nat)) (bs : Value) (hs : List Held) (N : Nat), j ≤ n ∧ i = .int .i64 (j : Int) ∧ dv = .pointer (some ⟨gd, 0, none⟩) ∧ cv = .pointer (some ⟨gm, 0, none⟩) ∧ sv = .pointer (some ⟨sb, 0, none⟩) ∧ mv = .pointer (some ⟨mb, 0, none⟩) ∧ Hid (SStage w.heap.size w wr kb gd gm sb mb f k s l bs hs N j)) (fun _ _ _ _ i _ => n - (intOf i).toNat)
          case atStart => exact ⟨0, gd, gm, sb, mb, _, _, _, _, 0, Nat.zero_le _, rfl, rfl, rfl, rfl, rfl, hS4⟩
          case round =>
            clear hS4
            obtain ⟨j, gd, gm, sb, mb, s, l, bs, hs, N, hj, rfl, rfl, rfl, rfl, rfl, hrel⟩ := hrel
            by_cases hlt : j < n
            · have hji : (j : Int) < (n : Int) := by omega
              obtain ⟨x, hx⟩ : ∃ x, ds[j]? = some x := ⟨_, List.getElem?_eq_getElem (by rw [HC.out.len]; exact hlt)⟩
              obtain ⟨ad, B, m, bc, K, p, q, rfl, hd⟩ := HC.out.row j x hx
              have hdw := Lib.hid hd
              have hd := hd.below hrel.out.bel
              have c0 : wr.cell? (ad.add (j * 6)) = some (.int .u8 (x.kind : Int)) := by have := hd.c0; rwa [show (ad.add (j * 6)).add 0 = ad.add (j * 6) from by rw [add_add]; rfl] at this
              have c1 : wr.cell? ⟨(ad.add (j * 6)).block, (ad.add (j * 6)).off + 1, none⟩ = some (.int .i64 x.n) := by rw [← add_pos _ (by decide)]; exact hd.c1
              have c2 : wr.cell? ⟨(ad.add (j * 6)).block, (ad.add (j * 6)).off + 2, none⟩ = some (.slice B m bc) := by rw [← add_pos _ (by decide)]; exact hd.c2
              have c3 : wr.cell? ⟨(ad.add (j * 6)).block, (ad.add (j * 6)).off + 3, none⟩ = some (.int .i64 x.at_) := by rw [← add_pos _ (by decide)]; exact hd.c3
              have c4 : wr.cell? ⟨(ad.add (j * 6)).block, (ad.add (j * 6)).off + 4, none⟩ = some (.int .u8 (x.by_ : Int)) := by rw [← add_pos _ (by decide)]; exact hd.c4
              have c5 : wr.cell? ⟨(ad.add (j * 6)).block, (ad.add (j * 6)).off + 5, none⟩ = some (.slice K p q) := by rw [← add_pos _ (by decide)]; exact hd.c5
              clear hx hd
              go_upto_region 16 with (fail)
              obtain ⟨W1, hW1⟩ : ∃ W1, wr.alloc (Obj.cells #[Value.int IntKind.u8 (x.kind : Int), Value.int IntKind.i64 x.n, Value.slice B m bc, Value.int IntKind.i64 x.at_, Value.int IntKind.u8 (x.by_ : Int), Value.slice K p q] 53) = W1 := ⟨_, rfl⟩
              obtain ⟨xb, hxb⟩ : ∃ xb, wr.heap.size = xb := ⟨_, rfl⟩
              have bW1 : Below w.heap.size w W1 := hrel.out.bel.trans ((hW1 ▸ below_alloc wr _ : Below wr.heap.size wr W1).mono hrel.out.bel.size)
              have hm1 : m ≤ 1048576 := hdw.out.m_le
              have CT := Lib.hid (twinBytes_any B m bc x.xs W1 (hdw.out.bytes.in_.below bW1) (by omega))
              have x2 : W1.cell? ⟨xb, 2, none⟩ = some (.slice B m bc) := by rw [← hW1, ← hxb, cell_of_row _ _ 2 _ _ (0, 0) (World.alloc_heap_new wr _)]; rfl
              have HW1 := Lib.hid (And.intro hW1 hxb)
              rw [hW1, hxb]
              clear hW1 hxb bW1 c0 c1 c2 c3 c4 c5
              go_wp2_with fail
              refine CT.out.mono ?_
              rintro e w2 ⟨rfl, ht2, hb2⟩
              obtain ⟨hM, hP⟩ := SStage.mid hrel.out HW1.out.1.symm ht2 hb2
              obtain ⟨tb, htb⟩ : ∃ tb, W1.heap.size = tb := ⟨_, rfl⟩
              rw [HW1.out.2, htb] at hM hP
              rw [htb]
              generalize (fun y => InBook kb bs hs y ∨ y = xb ∨ y = tb) = O at hM hP
              have hN1 : N ≤ j := hrel.out.n_le
              have hw1 : s.waits.length ≤ 20 * j := hrel.out.w_le
              have hfits : f + k ≤ s.sure.length := hP.fits
              have c0 := hM.c0
              have M := Lib.hid hM
              have PP := Lib.hid hP
              obtain ⟨kd, hkd⟩ : ∃ kd, x.kind % 9 = kd := ⟨_, rfl⟩
              have hk9 : kd < 9 := by omega
              have hk1 : Int.tmod (x.kind : Int) 9 = (kd : Int) := by rw [Int.tmod_eq_emod_of_nonneg (by omega), ← hkd]; simp
              have hk2 : (x.kind : Int) % 9 = (kd : Int) := by omega
              clear CT ht2 hb2 htb HW1 x2 hM hP hkd hrel
              go_upto_block 2 with fail
              have hN50 : n ≤ 50 := hn50
              go_cut [5, 6, 7, 8, 15] from 94 to 160 (fun dv ev cv fv av wx => ∃ (gd' gm' : Nat) (co : Int) (an : Bool) (st : St), dv = .pointer (some ⟨gd', 0, none⟩) ∧ ev = .int .i64 co ∧ cv = .pointer (some ⟨gm', 0, none⟩) ∧ fv = .int .i64 co ∧ av = .bool an ∧ Hid (ActEnd w.heap.size O w wx kb bs hs N xb tb x B m bc K p q gd' gm' sb mb f k j co an st))
              case first =>
                by_cases h4 : kd = 4
                · subst h4

                  have C4 := Lib.hid (st_sync PP.out)
                  go_wp2_with fail
                  refine C4.out.mono ?_
                  rintro e w4 ⟨rfl, p4, b4⟩
                  have M4 := Lib.hid (M.out.act b4)
                  have C5 := Lib.hid (st_rsync p4)
                  clear b4 p4 C4 c0

                  go_wp2_with fail
                  refine C5.out.mono ?_
                  rintro e w5 ⟨rfl, p5, b5⟩
                  have M5 := Lib.hid (M4.out.act b5)
                  have P5 := Lib.hid p5
                  clear p5 b5 C5 M4 

                  clear M PP
                  go_wp2_with fail
                  go_meet

                  case rel => exact ⟨gd, gm, _, false, _, rfl, rfl, rfl, rfl, rfl, Lib.hid (actEnd_store M5.out P5.out (sync_ok s l).1 (Nat.le_trans (sync_ok s l).2.1 (by show s.waits.length ≤ _; omega)))⟩
                by_cases h5 : kd = 5
                · subst h5
                  have c1 := M.out.c1

                  have C4 := Lib.hid (st_fuse hdw.out.n_in.2 PP.out)
                  go_wp2_with fail
                  refine C4.out.mono ?_
                  rintro e w4 ⟨rfl, p4, b4⟩
                  have M4 := Lib.hid (M.out.act b4)
                  have C5 := Lib.hid (st_rfuse hdw.out.n_in.2 p4)
                  clear b4 p4 C4 c0 c1
                  have c1 := M4.out.c1
                  go_wp2_with fail
                  refine C5.out.mono ?_
                  rintro e w5 ⟨rfl, p5, b5⟩
                  have M5 := Lib.hid (M4.out.act b5)
                  have P5 := Lib.hid p5
                  clear p5 b5 C5 M4 c1

                  clear M PP
                  go_wp2_with fail
                  go_meet

                  case rel => exact ⟨gd, gm, _, false, _, rfl, rfl, rfl, rfl, rfl, Lib.hid (actEnd_store M5.out P5.out (.inr rfl) (by show (s.fnext x.n).waits.length ≤ _; rw [fnext_waits]; omega))⟩
                by_cases h6 : kd = 6
                · subst h6
                  have c5 := M.out.c5
                  have C4 : Hid (∃ F, Disk w2 gd F s) := Lib.hid (by obtain ⟨F, G, hp⟩ := PP.out.disks; exact ⟨F, hp.d⟩)
                  have R4 : Hid (∃ G, RDisk w2 gm G s) := Lib.hid (by obtain ⟨F, G, hp⟩ := PP.out.disks; exact ⟨G, hp.m⟩)
                  obtain ⟨F0, D0⟩ := C4.out
                  have C4 := Lib.hid (fail_any K p q x.ks (hdw.out.bools.in_.below M.out.bel) D0)
                  clear D0
                  go_wp2_with fail
                  refine C4.out.mono ?_
                  rintro e w4 ⟨gd2, rfl, m4⟩
                  have M4 := Lib.hid (M.out.below m4.2)
                  have H4 := Lib.hid m4
                  obtain ⟨G0, D0⟩ := R4.out
                  have C5 := Lib.hid (rfail_any K p q x.ks (hdw.out.bools.in_.below M4.out.bel) (D0.below m4.2))
                  clear m4 D0 C4 R4 c0 c5
                  have c5 := M4.out.c5
                  go_wp2_with fail
                  refine C5.out.mono ?_
                  rintro e w5 ⟨gm2, rfl, m5⟩
                  have M5 := Lib.hid (M4.out.below m5.2)
                  have P5 := Lib.hid (dpair_fail H4.out m5 M.out.ol M.out.bl)
                  clear m5 C5 M4 c5 H4

                  clear M PP
                  go_wp2_with fail
                  go_meet

                  case rel => exact ⟨gd2, gm2, 0, true, _, rfl, rfl, rfl, rfl, rfl, Lib.hid (actEnd_disks M5.out P5.out (by show f + k ≤ (settle s.sure (kept s.waits x.ks)).length; rw [settle_length]; exact hfits) (by show ([] : List (Nat × List Nat)).length ≤ _; simp))⟩
                by_cases h7 : kd = 7
                · subst h7
                  have c1 := M.out.c1
                  have c3 := M.out.c3
                  have c4 := M.out.c4

                  have C4 := Lib.hid (play_turn (z := x.n) (t := x.at_) hdw.out.by_lt PP.out.disks)
                  go_wp2_with fail
                  refine C4.out.mono ?_
                  rintro e w4 ⟨rfl, p4, b4⟩
                  have M4 := Lib.hid (M.out.act b4)
                  have C5 := Lib.hid (play_rturn (z := x.n) (t := x.at_) hdw.out.by_lt p4)
                  clear b4 p4 C4 c0 c1 c3 c4
                  have c1 := M4.out.c1
                  have c3 := M4.out.c3
                  have c4 := M4.out.c4
                  go_wp2_with fail
                  refine C5.out.mono ?_
                  rintro e w5 ⟨rfl, p5, b5⟩
                  have M5 := Lib.hid (M4.out.act b5)
                  have P5 := Lib.hid p5
                  clear p5 b5 C5 M4 c1 c3 c4

                  clear M PP
                  go_wp2_with fail
                  go_meet

                  case rel => exact ⟨gd, gm, _, true, _, rfl, rfl, rfl, rfl, rfl, Lib.hid (actEnd_disks M5.out P5.out (by rw [tnext_sure]; exact hfits) (Nat.le_trans (tnext_le _ _ _ _) (by omega)))⟩
                by_cases h8 : kd = 8
                · subst h8
                  have c1 := M.out.c1
                  have c2 := M.out.c2
                  have L8 := Lib.hid (fun (h0 : 0 < m) => came_low (O := O) hdw.out.bytes rfl h0)

                  have C4 := Lib.hid (play_write (z := x.n) (c := m + 1) PP.out.disks M.out.twin.in_ hdw.out.bytes.lt (fun _ ad e => by cases e; exact fun o => o.2 M.out.ot) (show s.waits.length ≤ 1000000 by omega))
                  go_wp2_with fail
                  refine C4.out.mono ?_
                  rintro e w4 ⟨rfl, p4, b4⟩
                  have M4 := Lib.hid (M.out.act b4)
                  have C5 := Lib.hid (play_rwrite (z := x.n) (c := bc) p4 (hdw.out.bytes.in_.below M4.out.bel) hdw.out.bytes.lt L8.out (show s.waits.length ≤ 1000000 by omega))
                  clear b4 p4 C4 c0 c1 c2
                  have c1 := M4.out.c1
                  have c2 := M4.out.c2
                  go_wp2_with fail
                  refine C5.out.mono ?_
                  rintro e w5 ⟨rfl, p5, b5⟩
                  have M5 := Lib.hid (M4.out.act b5)
                  have P5 := Lib.hid p5
                  clear p5 b5 C5 M4 c1 c2 L8

                  clear M PP
                  go_wp2_with fail
                  go_meet

                  case rel => exact ⟨gd, gm, _, true, _, rfl, rfl, rfl, rfl, rfl, Lib.hid (actEnd_disks M5.out P5.out (by rw [wnext_sure]; exact hfits) (Nat.le_trans (wnext_le _ _ _ _) (by omega)))⟩
                have q4 : ((kd : Int) == 4) = false := by simp; omega
                have q5 : ((kd : Int) == 5) = false := by simp; omega
                have q6 : ((kd : Int) == 6) = false := by simp; omega
                have q7 : ((kd : Int) == 7) = false := by simp; omega
                have q8 : ((kd : Int) == 8) = false := by simp; omega
                have L8 := Lib.hid (fun (h0 : 0 < m) => came_low (O := O) hdw.out.bytes rfl h0)

                have C4 := Lib.hid (st_add (c := m + 1) PP.out M.out.twin.in_ hdw.out.bytes.lt (fun e => by cases e) (by omega) (fun _ ad e => by cases e; exact fun o => o.2 M.out.ot) (show s.waits.length ≤ 800000 by omega))
                go_wp2_with fail
                refine C4.out.mono ?_
                rintro e w4 ⟨rfl, p4, b4⟩
                have M4 := Lib.hid (M.out.act b4)
                have C5 := Lib.hid (st_radd (c := bc) p4 (hdw.out.bytes.in_.below M4.out.bel) hdw.out.bytes.lt hdw.out.bytes.nil hdw.out.bytes.cap L8.out (by omega))
                clear b4 p4 C4 c0
                have c2 := M4.out.c2
                go_wp2_with fail
                refine C5.out.mono ?_
                rintro e w5 ⟨rfl, p5, b5⟩
                have M5 := Lib.hid (M4.out.act b5)
                have P5 := Lib.hid p5
                clear p5 b5 C5 M4 c2 L8

                clear M PP
                go_wp2_with fail
                go_meet

                case rel => exact ⟨gd, gm, _, false, _, rfl, rfl, rfl, rfl, rfl, Lib.hid (actEnd_store M5.out P5.out (add_ok s l f k x.xs).1 (Nat.le_trans (add_ok s l f k x.xs).2.1 (by show s.waits.length + 20 ≤ _; omega)))⟩
              case rest =>
                obtain ⟨gd2, gm2, co, an, st, rfl, rfl, rfl, rfl, rfl, hA⟩ := hcut
                clear M PP c0
                have CS := Lib.hid (st_same hA.out.d)
                have qe : (co != co) = false := by simp
                go_wp2_with fail
                refine CS.out.mono ?_
                rintro e w3 ⟨rfl, b3⟩
                have A3 := Lib.hid (hA.out.below b3)
                have c2 := A3.out.g.c2
                have CL := Lib.hid (leftBytes_yes B tb m bc x.xs _ A3.out.g.twin (hdw.out.bytes.in_.below A3.out.g.bel) (by omega))
                clear b3 CS hA
                go_wp2_with fail
                refine CL.out.mono ?_
                rintro e _ ⟨rfl, qd, rfl⟩
                have hA := Lib.hid (A3.out.below (drewN_below _ qd))
                clear c2 CL A3
                generalize w3.drewN qd = w3 at hA ⊢
                go_upto_region 42 with fail
                go_cut [185] from 181 to 185 (fun v wx => v = .bool (an || decide (co = 9)) ∧ w3 = wx)
                case first =>
                  cases an with
                  | true =>
                    go_wp2_with fail
                    go_meet
                    case rel => exact ⟨rfl, rfl⟩
                  | false =>
                    by_cases h9 : co = 9
                    · subst h9
                      go_wp2_with fail
                      go_meet
                      case rel => exact ⟨rfl, rfl⟩
                    · have q9 : (co == 9) = false := by simp [h9]
                      go_wp2_with fail
                      go_meet
                      case rel => exact ⟨by rw [decide_eq_false h9]; rfl, rfl⟩
                case rest =>
                  obtain ⟨rfl, rfl⟩ := hcut
                  obtain ⟨bb, hbb⟩ : ∃ bb, (an || decide (co = 9)) = bb := ⟨_, rfl⟩
                  have HBB := Lib.hid hbb
                  rw [hbb]
                  clear hbb
                  go_upto_if 185 with fail
                  go_cut [6, 8, 9, 10] from 186 to 233 (fun ev fv sv mv wx => ∃ (co' : Int) (sb2 mb2 : Nat) (s9 : St) (l9 : List (List Nat)), ev = .int .i64 co' ∧ fv = .int .i64 co' ∧ sv = .pointer (some ⟨sb2, 0, none⟩) ∧ mv = .pointer (some ⟨mb2, 0, none⟩) ∧ Hid (Ground w.heap.size O w wx kb bs hs N xb tb x B m bc K p q ∧ SPair w.heap.size O wx gd2 gm2 sb2 mb2 f k ⟨s9, l9, false⟩ ⟨s9, l9, false⟩ ∧ s9.waits.length ≤ 20 * (j + 1)))
                  case first =>
                    cases bb with
                    | false =>
                      have hx9 : an = false ∧ co ≠ 9 := by have := HBB.out; simp at this; exact this
                      obtain ⟨l9, hP⟩ := hA.out.go hx9.1 hx9.2
                      have HT := Lib.hid (And.intro hA.out.g (And.intro hP hA.out.w_le))
                      clear hA hP hx9
                      go_wp2_with fail
                      go_meet
                      case rel => exact ⟨co, sb, mb, st, l9, rfl, rfl, rfl, rfl, HT⟩
                    | true =>
                      have c0 := hA.out.g.c0
                      go_upto_region 43 with fail
                      go_cut [195] from 186 to 195 (fun v wx => v = .bool (decide (kd ≠ 7) && decide (kd ≠ 8)) ∧ w3 = wx)
                      case first =>
                        by_cases k7 : kd = 7
                        · subst k7
                          go_wp2_with fail
                          go_meet
                          case rel => exact ⟨rfl, rfl⟩
                        by_cases k8 : kd = 8
                        · subst k8
                          go_wp2_with fail
                          go_meet
                          case rel => exact ⟨rfl, rfl⟩
                        have r7 : ((kd : Int) != 7) = true := by simp; omega
                        have r8 : ((kd : Int) != 8) = true := by simp; omega
                        go_wp2_with fail
                        go_meet
                        case rel => exact ⟨by rw [decide_eq_true (show kd ≠ 7 from k7), decide_eq_true (show kd ≠ 8 from k8)]; rfl, rfl⟩
                      case rest =>
                        obtain ⟨rfl, rfl⟩ := hcut
                        clear c0
                        obtain ⟨cc, hcc⟩ : ∃ cc, (decide (kd ≠ 7) && decide (kd ≠ 8)) = cc := ⟨_, rfl⟩
                        rw [hcc]
                        clear hcc
                        go_upto_if 195 with fail
                        go_cut [195] from 195 to 199 (fun v wx => ∃ st6 : St, v = .bool cc ∧ Hid (Ground w.heap.size O w wx kb bs hs N xb tb x B m bc K p q ∧ DPair w.heap.size O wx gd2 st6 gm2 st6 ∧ f + k ≤ st6.sure.length ∧ st6.waits.length ≤ 800000))
                        case first =>
                          cases cc with
                          | false =>
                            have HT := Lib.hid (And.intro hA.out.g (And.intro hA.out.d (And.intro hA.out.fits (Nat.le_trans hA.out.w_le (show 20 * (j + 1) ≤ 800000 by omega)))))
                            clear hA
                            go_wp2_with fail
                            go_meet
                            case rel => exact ⟨st, rfl, HT⟩
                          | true =>
                            have C4 := Lib.hid (play_fuse (z := -1) (by omega) hA.out.d)
                            go_wp2_with fail
                            refine C4.out.mono ?_
                            rintro e w6 ⟨rfl, p6, b6⟩
                            have M6 := Lib.hid (hA.out.g.act b6)
                            have C5 := Lib.hid (play_rfuse (z := -1) (by omega) p6)
                            have hf : Hid (f + k ≤ (st.fnext (-1)).sure.length) := hA.out.fits
                            have hwt : Hid ((st.fnext (-1)).waits.length ≤ 800000) := Nat.le_trans hA.out.w_le (show 20 * (j + 1) ≤ 800000 by omega)
                            clear p6 b6 C4 hA
                            go_wp2_with fail
                            refine C5.out.mono ?_
                            rintro e w7 ⟨rfl, p7, b7⟩
                            have HT := Lib.hid (And.intro (M6.out.act b7) (And.intro p7 (And.intro hf.out hwt.out)))
                            clear p7 b7 C5 M6 hf hwt
                            go_wp2_with fail
                            go_meet
                            case rel => exact ⟨_, rfl, HT⟩
                        case rest =>
                          obtain ⟨st6, rfl, hT⟩ := hcut
                          have M := Lib.hid hT.out.1
                          have DP := Lib.hid hT.out.2.1
                          have hf := Lib.hid hT.out.2.2.1
                          have hwt := Lib.hid hT.out.2.2.2
                          clear hA hT
                          obtain ⟨z0, z1, z2⟩ := HZ.out _ M.out.bel
                          by_cases hc : (st6).ocode f k = 0
                          · have CO := Lib.hid (st_open_yes E (HEL.out _ _ M.out.bel) DP.out h1k hf.out hwt.out hc)
                            have hcH := Lib.hid hc
                            clear hc
                            go_wp2_with fail
                            refine CO.out.mono ?_
                            rintro e w8 ⟨sb2, rfl, p8, b8⟩
                            have M8 := Lib.hid (M.out.act b8)
                            have CR := Lib.hid (st_ropen_yes p8 h1k hf.out hwt.out hcH.out)
                            clear p8 b8 CO z0 z1 z2 M DP
                            obtain ⟨z0, z1, z2⟩ := HZ.out _ M8.out.bel
                            go_wp2_with fail
                            refine CR.out.mono ?_
                            rintro e w9 ⟨mb2, rfl, p9, b9⟩
                            have M9 := Lib.hid (M8.out.act b9)
                            have P9 := Lib.hid p9
                            have W9 := Lib.hid (opens_ok hcH.out)
                            obtain ⟨s9, hs9⟩ : ∃ s9, ((st6).opens f k).2 = s9 := ⟨_, rfl⟩
                            obtain ⟨l9, hl9⟩ : ∃ l9, (st6).foundIn f k = l9 := ⟨_, rfl⟩
                            rw [hs9, hl9] at P9
                            rw [hs9] at W9
                            have CS9 := Lib.hid (st_same P9.out.disks)
                            clear p9 b9 CR M8 z0 z1 z2 hs9 hl9 hcH hf hwt
                            go_wp2_with fail
                            refine CS9.out.mono ?_
                            rintro e w10 ⟨rfl, b10⟩
                            have MT := Lib.hid (M9.out.below b10)
                            have PT := Lib.hid (P9.out.below b10)
                            have WT : Hid (s9.waits.length ≤ 20 * (j + 1)) := by rw [W9.out]; exact Nat.zero_le _
                            clear b10 CS9 M9 P9 W9
                            go_wp2_with fail
                            go_meet
                            case rel => exact ⟨0, sb2, mb2, s9, l9, rfl, rfl, rfl, rfl, Lib.hid (And.intro MT.out (And.intro PT.out WT.out))⟩
                          · have CO := Lib.hid (st_open_no E (HEL.out _ _ M.out.bel) DP.out h1k hf.out hwt.out hc)
                            have hcH := Lib.hid hc
                            have CR := Lib.hid (fun (W : World) (p : DPair w.heap.size O W gd2 ((st6).onext f k) gm2 (st6)) => st_ropen_no p h1k hf.out hwt.out hcH.out)
                            obtain ⟨oc, hoc⟩ : ∃ oc, (st6).ocode f k = oc := ⟨_, rfl⟩
                            obtain ⟨s9, hs9⟩ : ∃ s9, (st6).onext f k = s9 := ⟨_, rfl⟩
                            rw [hoc] at hcH
                            simp only [hoc, hs9] at CO CR
                            have hc1 : ¬ oc = 0 := hcH.out
                            have hc2 : (oc == 0) = false := by simp [hc1]
                            have hc3 : (oc != 0) = true := by simp [hc1]
                            clear hc hoc hs9
                            go_wp2_with fail
                            refine CO.out.mono ?_
                            rintro e w8 ⟨rfl, p8, b8⟩
                            have M8 := Lib.hid (M.out.act b8)
                            have CR8 := Lib.hid (CR.out w8 p8)
                            clear p8 b8 CO z0 z1 z2 M DP CR
                            obtain ⟨z0, z1, z2⟩ := HZ.out _ M8.out.bel
                            go_wp2_with fail
                            refine CR8.out.mono ?_
                            rintro e w9 ⟨rfl, p9, b9⟩
                            have M9 := Lib.hid (M8.out.act b9)
                            have CS9 := Lib.hid (st_same p9)
                            clear p9 b9 CR8 M8 z0 z1 z2 hf hwt
                            go_wp2_with fail
                            refine CS9.out.mono ?_
                            rintro e w10 ⟨rfl, b10⟩
                            have M10 := Lib.hid (M9.out.below b10)
                            have CA := Lib.hid (apart_bytes kb N w.heap.size bs hs _ M10.out.book)
                            clear b10 CS9 M9
                            go_wp2_with fail
                            refine CA.out.mono ?_
                            rintro e w11 ⟨rfl, b11⟩
                            have B11 := Lib.hid (M10.out.bel.trans b11)
                            clear b11 CA M10
                            go_wp2
                            go_ret
                            exact ⟨rfl, hEnd.out _ B11.out⟩
                  case rest =>
                    obtain ⟨co', sb2, mb2, s9, l9, rfl, rfl, rfl, rfl, hT⟩ := hcut
                    have MT := Lib.hid hT.out.1
                    have PT := Lib.hid hT.out.2.1
                    have WT := Lib.hid hT.out.2.2
                    clear hA hT HBB
                    have CL1 := Lib.hid (st_len PT.out)
                    have CL2 := Lib.hid (st_rlen PT.out)
                    have CL3 := Lib.hid (st_left PT.out)
                    go_wp2_with fail
                    refine CL1.out.mono ?_
                    rintro e _ ⟨rfl, rfl⟩
                    go_wp2_with fail
                    refine CL2.out.mono ?_
                    rintro e _ ⟨rfl, rfl⟩
                    go_wp2_with fail
                    refine CL3.out.mono ?_
                    rintro e w11 ⟨rfl, b11⟩
                    have M11 := Lib.hid (MT.out.below b11)
                    have P11 := Lib.hid (PT.out.below b11)
                    have CL4 := Lib.hid (st_rleft P11.out)
                    clear CL1 CL2 CL3 b11 MT PT
                    go_wp2_with fail
                    refine CL4.out.mono ?_
                    rintro e w12 ⟨rfl, b12⟩
                    have CB := Lib.hid (((M11.out.below b12).last (P11.out.below b12) (j := j) (by omega) (by omega) (by omega) WT.out).mono fun e w' h => show e = .returned (.tuple #[]) ∧ Hid (∃ bs' hs', SStage w.heap.size w w' kb gd2 gm2 sb2 mb2 f k s9 l9 bs' hs' (N + 1) (j + 1)) from h)
                    clear CL4 b12 M11 P11 WT
                    go_wp2_with fail
                    refine CB.out.mono ?_
                    rintro e w13 ⟨rfl, hS⟩
                    clear CB
                    go_wp2
                    go_roundw
                    case rel =>
                      obtain ⟨bs', hs', hS⟩ := hS.out
                      exact ⟨j + 1, gd2, gm2, sb2, mb2, s9, l9, bs', hs', N + 1, by omega, by go_num, rfl, rfl, rfl, rfl, Lib.hid hS⟩
                    case measure => simp [intOf]; omega
            · have hjn : j = n := by omega
              have hll : l.length ≤ 200 := by
                obtain ⟨F, G, F', G', h4⟩ := hrel.out.pair
                have h1 := h4.c.s.fits
                have h2 := len_le_used l
                have h3 : usedL l ≤ k := h1
                omega
              have hok : Hid (∀ b ∈ l, b.length ≤ 256) := fun b hb => by
                obtain ⟨F, G, F', G', h4⟩ := hrel.out.pair
                obtain ⟨⟨v, vals, hh⟩, _⟩ := h4.c.s
                exact (hh.ok b hb).1
              rw [hjn] at hrel
              have HS0 := Lib.hid hrel.out
              clear hrel hjn
              go_wp2
              go_loopw [16] (fun i wq => ∃ (z : Int) (q N' : Nat) (bs' : Value) (hs' : List Held), (q : Int) = z + 1 ∧ q ≤ l.length + 2 ∧ i = .int .i64 z ∧ Hid (SStage w.heap.size w wq kb gd gm sb mb f k s l bs' hs' N' (n + q))) (fun i _ => (l.length + 1 - intOf i).toNat)
              case atStart => exact ⟨-1, 0, N, bs, hs, by omega, by omega, rfl, HS0⟩
              case round =>
                clear HS0
                obtain ⟨z, q, N', bs', hs', hq, hq2, rfl, hR⟩ := hrel
                have CL := Lib.hid (st_rlen hR.out.pair)
                have hN9 : N' < 1000 := by have := hR.out.n_le; omega
                by_cases hzl : z ≤ (l.length : Int)
                · have hz1 : -1 ≤ z := by omega
                  have HQ := Lib.hid (And.intro hq hq2)
                  obtain ⟨ys, hys⟩ : ∃ ys, (if 0 ≤ z ∧ z < (l.length : Int) then l.getD z.toNat [] else []) = ys := ⟨_, rfl⟩
                  obtain ⟨cz, hcz⟩ : ∃ cz : Int, (if 0 ≤ z ∧ z < (l.length : Int) then (0 : Int) else 1) = cz := ⟨_, rfl⟩
                  have hyl : ys.length ≤ 256 := by
                    rw [← hys]
                    split
                    · rename_i h
                      rw [List.getD_eq_getElem?_getD, List.getElem?_eq_getElem (by omega)]
                      exact hok.out _ (List.getElem_mem _)
                    · simp
                  have G1 := st_get (z := z) hR.out.pair
                  have G2 := fun (W : World) (hW : Below wr.heap.size wr W) => st_rget (z := z) (hR.out.pair.below hW)
                  obtain ⟨yn, hyn⟩ : ∃ yn, ys.length = yn := ⟨_, rfl⟩
                  simp only [hys, hcz, hyn] at G1 G2
                  have G1h := Lib.hid G1
                  have G2h := Lib.hid G2
                  rw [hyn] at hyl
                  have qe : (cz != cz) = false := by simp
                  clear G1 G2 hys hcz hyn hq hq2
                  go_wp2_with fail
                  refine CL.out.mono ?_
                  rintro e _ ⟨rfl, rfl⟩
                  go_wp2_with fail
                  refine G1h.out.mono ?_
                  rintro e w1 ⟨u1, rfl, ho1, hb1⟩
                  obtain ⟨A1, c1, rfl⟩ := own_form ho1
                  have G22 := Lib.hid (G2h.out w1 hb1)
                  have HO1 := Lib.hid (And.intro ho1 hb1)
                  clear ho1 hb1 G1h G2h
                  go_wp2_with fail
                  refine G22.out.mono ?_
                  rintro e w2 ⟨u2, rfl, ho2, hb2⟩
                  obtain ⟨A2, c2, rfl⟩ := own_form ho2
                  have CSB := Lib.hid (sameBytes_yes A1 A2 yn c1 c2 ys w2 ((In.of_own HO1.out.1).below hb2) (In.of_own ho2) (by omega))
                  have HB2 := Lib.hid hb2
                  clear ho2 hb2 G22
                  go_wp2_with fail
                  refine CSB.out.mono ?_
                  rintro e _ ⟨rfl, qd, rfl⟩
                  have hb3 := drewN_below w2 qd
                  have CK := Lib.hid ((SStage.keep hR.out rfl HO1.out.1 HO1.out.2 (by omega) hN9 _ (below_on HB2.out (Nat.le_refl _) hb3)).mono fun e w' h => show e = .returned (.tuple #[]) ∧ Hid (∃ bs2 hs2, SStage w.heap.size w w' kb gd gm sb mb f k s l bs2 hs2 (N' + 1) (n + q + 1)) from h)
                  clear hb3 CSB HB2
                  go_wp2_with fail
                  refine CK.out.mono ?_
                  rintro e w4 ⟨rfl, hS⟩
                  clear CK
                  go_wp2
                  go_roundw
                  case rel =>
                    obtain ⟨bs2, hs2, hS⟩ := hS.out
                    exact ⟨z + 1, q + 1, N' + 1, bs2, hs2, by have := HQ.out; omega, by have := HQ.out; omega, rfl, Lib.hid hS⟩
                  case measure => simp [intOf]; omega
                · have CA := Lib.hid (apart_bytes kb N' w.heap.size bs' hs' _ hR.out.book)
                  go_wp2_with fail
                  refine CL.out.mono ?_
                  rintro e _ ⟨rfl, rfl⟩
                  go_wp2_with fail
                  refine CA.out.mono ?_
                  rintro e w1 ⟨rfl, b1⟩
                  have B1 := Lib.hid (hR.out.bel.trans b1)
                  clear b1 CA
                  go_wp2
                  go_ret
                  exact ⟨rfl, hEnd.out _ B1.out⟩
        · have CO := Lib.hid (st_open_no E (HEL.out _ w3 B3.out) P3.out h1k (by rw [hN0.out]; exact hfk) (by rw [hw0.out]; exact Nat.zero_le _) hc)
          have hcH := Lib.hid hc
          have CR := Lib.hid (fun (W : World) (p : DPair w.heap.size (fun _ => False) W gd (s0.onext f k) gm s0) => st_ropen_no p h1k (by rw [hN0.out]; exact hfk) (by rw [hw0.out]; exact Nat.zero_le _) hcH.out)
          obtain ⟨oc, hoc⟩ : ∃ oc, s0.ocode f k = oc := ⟨_, rfl⟩
          rw [hoc] at CO CR hcH
          have hc1 : ¬ oc = 0 := hcH.out
          have hc2 : (oc == 0) = false := by simp [hc1]
          have hc3 : (oc != 0) = true := by simp [hc1]
          clear hc hoc
          go_wp2_with fail
          refine CO.out.mono ?_
          rintro e w4 ⟨rfl, p4, b4⟩
          have B4 := Lib.hid (B3.out.trans (b4.below B3.out.size (fun _ e => e.1)))
          have CR4 := Lib.hid (CR.out w4 p4)
          clear CO p4 b4 CR z0 z1 z2
          obtain ⟨z0, z1, z2⟩ := HZ.out w4 B4.out
          go_wp2_with fail
          refine CR4.out.mono ?_
          rintro e w5 ⟨rfl, p5, b5⟩
          have B5 := Lib.hid (B4.out.trans (b5.below B4.out.size (fun _ e => e.1)))
          clear p5 b5 CR4
          go_wp2
          go_ret
          exact ⟨rfl, hEnd.out _ B5.out⟩
    · have HB := fun w => Lib.hid (new_no w z (by omega))
      have HB2 := fun w => Lib.hid (rnew_no w z (by omega))
      go_wp2_with fail
      refine HG.out.mono ?_
      rintro e w1 ⟨rfl, b1⟩
      rw [decide_eq_false hg]
      have B1 := Lib.hid b1
      clear b1 HG z0 z1 z2
      obtain ⟨z0, z1, z2⟩ := HZ.out w1 B1.out
      go_wp2_with fail
      refine (HB w1).out.mono ?_
      rintro e w2 ⟨rfl, rfl⟩
      go_wp2_with fail
      refine (HB2 w1).out.mono ?_
      rintro e w2 ⟨rfl, rfl⟩
      go_wp2
      go_ret
      exact ⟨rfl, hEnd.out _ B1.out⟩

end Go.Proofs.YthbgcijkpincfaaGreatDoor

/-
  The six listed variables: three of them are the sentinels.
-/
namespace Go.Proofs.YthbgcijkpincfaaGreatDoor
open Go.ChangeShapes Go.WideShapes Go.ChangeAt Go.RowKit

def laid6 : List (String × DataW Unit) := [("math/bits.deBruijn32tab", Rows.laid_math_bits_deBruijn32tab), ("math/bits.deBruijn64tab", Rows.laid_math_bits_deBruijn64tab), ("internal/strconv.uint64pow10", Rows.laid_internal_strconv_uint64pow10), ("almoner/frames.errShort", Rows.laid_almoner_frames_errShort), ("almoner/frames.errForm", Rows.laid_almoner_frames_errForm), ("almoner/frames.errSum", Rows.laid_almoner_frames_errSum)]
def isErr (x : String × DataW Unit) : Bool := ["almoner/frames.errShort", "almoner/frames.errForm", "almoner/frames.errSum"].contains x.1
theorem laid6_errs : laid6.filter isErr = laid3 := by
  unfold laid6 laid3 isErr
  simp [List.filter]

theorem of_laid6 {W : World} (h : laidMetH Tryz.prog laid6 W) : ∃ E, Laid W E := by
  have h3 := h.filter isErr
  rw [laid6_errs] at h3
  exact of_laid h3

end Go.Proofs.YthbgcijkpincfaaGreatDoor
