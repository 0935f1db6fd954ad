/-
  DisksPlay: what stands between two acts, and within one.
-/
import Derived.Test.YtcdlocbonjgcgaaDoorPUni
import Derived.Test.YtcdlocbonjgcgaaDoorQApart
import Derived.Test.YtcdlocbonjgcgaaDoorLTwin
import Derived.Test.YtcdlocbonjgcgaaDoorLSameBytes
namespace Go.Proofs.YtcdlocbonjgcgaaDoor
open Go.RowKit

/-- The block of a deed that is looked at. -/
def deedRow (x : Deed) (B : Option Addr) (m k : Nat) (K : Option Addr) (p q : Nat) : Array Value := #[.int .u8 (x.kind : Int), .int .i64 x.n, .slice B m k, .int .i64 x.at_, .int .u8 (x.by_ : Int), .slice K p q]

/-- Between two acts. -/
structure Stage (base : Nat) (w W : World) (kb gd gm : Nat) (s : St) (bs : Value) (hs : List Held) (N j : Nat) : Prop where
  pair : Pair base (InBook kb bs hs) W gd s gm s
  book : Keeping W base kb N bs hs
  bel : Below base w W
  n_le : N ≤ 2 * j
  w_le : s.waits.length ≤ j

/-- Within an act. -/
structure Mid (base : Nat) (O : Nat → Prop) (w W : World) (kb gd gm : Nat) (s r : St) (bs : Value) (hs : List Held) (N xb tb : Nat) (x : Deed) (B : Option Addr) (m k : Nat) (K : Option Addr) (p q : Nat) : Prop where
  pair : Pair base O W gd s gm r
  book : Keeping W base kb N bs hs
  bel : Below base w W
  row : W.heap[xb]? = some (.cells (deedRow x B m k K p q) 45 (0, 0))
  twin : Twin W tb m x.xs
  oi : ∀ y, InBook kb bs hs y → O y
  ox : O xb
  ot : O tb
  xn : ¬ InBook kb bs hs xb
  tn : ¬ InBook kb bs hs tb
  bt : base ≤ tb

section
variable {base : Nat} {O O' : Nat → Prop} {w W W' : World} {gd gm kb N j xb tb m k p q : Nat} {s s' r r' : St} {bs : Value} {hs : List Held} {x : Deed} {B K : Option Addr}

theorem Pair.turn {S : Nat → Prop} (h : Pair base O W gd s gm r) (hb : But S W W') (hs : ∀ x, S x → x < base ∨ O x) (ho : ∀ x, O' x → O x ∨ W.heap.size ≤ x) (hl : ∀ x, O' x → x < W'.heap.size) : Pair base O' W' gd s gm r := by
  obtain ⟨F, G, h⟩ := h
  refine ⟨F, G, h.d.but hb (fun x hx hsx => ?_), h.m.but hb (fun x hx hsx => ?_), h.apart, fun x hx => ⟨(h.fo x hx).1, fun e => ?_⟩, fun x hx => ⟨(h.go x hx).1, fun e => ?_⟩, hl, Nat.le_trans h.bl hb.size⟩
  · rcases hs x hsx with e | e
    · have := (h.fo x hx).1; omega
    · exact (h.fo x hx).2 e
  · rcases hs x hsx with e | e
    · have := (h.go x hx).1; omega
    · exact (h.go x hx).2 e
  · rcases ho x e with e | e
    · exact (h.fo x hx).2 e
    · have := disk_lt h.d x hx; omega
  · rcases ho x e with e | e
    · exact (h.go x hx).2 e
    · have := h.m.2.2.2 x hx; omega
theorem Pair.ol (h : Pair base O W gd s gm r) : ∀ x, O x → x < W.heap.size := by obtain ⟨F, G, h⟩ := h; exact h.ol
theorem Pair.bl (h : Pair base O W gd s gm r) : base ≤ W.heap.size := by obtain ⟨F, G, h⟩ := h; exact h.bl
theorem pair_new {w1 w2 w3 : World} (h1 : Made w1 s gd w2) (h2 : RMade w2 r gm w3) (hb : base ≤ w1.heap.size) : Pair base (fun _ => False) w3 gd s gm r :=
  ⟨_, _, h1.1.below h2.2, h2.1, fun x hx hg => by have := hx.2; have := hg.1; omega, fun x hx => ⟨Nat.le_trans hb hx.1, fun e => e⟩, fun x hx => ⟨Nat.le_trans hb (Nat.le_trans h1.2.size hx.1), fun e => e⟩, fun _ e => e.elim, Nat.le_trans hb (Nat.le_trans h1.2.size h2.2.size)⟩

theorem Mid.act (h : Mid base O w W kb gd gm s r bs hs N xb tb x B m k K p q) {gd' gm' : Nat} (hp : Pair base O W' gd' s' gm' r') (hb : But (Out base O) W W') : Mid base O w W' kb gd' gm' s' r' bs hs N xb tb x B m k K p q :=
  ⟨hp, h.book.but hb (fun b e n => n.2 (h.oi b e)), h.bel.trans (hb.below h.pair.bl (fun _ e => e.1)), (hb.block xb (h.pair.ol xb h.ox) (fun n => n.2 h.ox)).trans h.row, ⟨h.twin.1, (hb.block tb h.twin.lt (fun n => n.2 h.ot)).trans h.twin.2⟩, h.oi, h.ox, h.ot, h.xn, h.tn, h.bt⟩
theorem Mid.below (h : Mid base O w W kb gd gm s r bs hs N xb tb x B m k K p q) (hb : Below W.heap.size W W') : Mid base O w W' kb gd gm s r bs hs N xb tb x B m k K p q :=
  h.act (h.pair.below hb) (But.of_below hb)
theorem Mid.drew (h : Mid base O w W kb gd gm s r bs hs N xb tb x B m k K p q) : Mid base O w W.drew kb gd gm s r bs hs N xb tb x B m k K p q := h.below (Below.refl _ _).drew
/-- A block is laid to O. -/
theorem Mid.more (h : Mid base O w W kb gd gm s r bs hs N xb tb x B m k K p q) (hb : Below W.heap.size W W') {L : Nat → Prop} (hL : ∀ b, L b → W.heap.size ≤ b ∧ b < W'.heap.size) : Mid base (fun y => O y ∨ L y) w W' kb gd gm s r bs hs N xb tb x B m k K p q :=
  have h' := h.below hb
  ⟨h.pair.more hb (fun y hy => hy.imp id (hL y)), h'.book, h'.bel, h'.row, h'.twin, fun y hy => .inl (h.oi y hy), .inl h.ox, .inl h.ot, h.xn, h.tn, h.bt⟩
theorem Mid.c0 (h : Mid base O w W kb gd gm s r bs hs N xb tb x B m k K p q) : W.cell? ⟨xb, 0, none⟩ = some (.int .u8 (x.kind : Int)) := by rw [cell_of_row _ xb 0 _ _ (0, 0) h.row]; rfl
theorem Mid.c1 (h : Mid base O w W kb gd gm s r bs hs N xb tb x B m k K p q) : W.cell? ⟨xb, 1, none⟩ = some (.int .i64 x.n) := by rw [cell_of_row _ xb 1 _ _ (0, 0) h.row]; rfl
theorem Mid.c2 (h : Mid base O w W kb gd gm s r bs hs N xb tb x B m k K p q) : W.cell? ⟨xb, 2, none⟩ = some (.slice B m k) := by rw [cell_of_row _ xb 2 _ _ (0, 0) h.row]; rfl
theorem Mid.c3 (h : Mid base O w W kb gd gm s r bs hs N xb tb x B m k K p q) : W.cell? ⟨xb, 3, none⟩ = some (.int .i64 x.at_) := by rw [cell_of_row _ xb 3 _ _ (0, 0) h.row]; rfl
theorem Mid.c4 (h : Mid base O w W kb gd gm s r bs hs N xb tb x B m k K p q) : W.cell? ⟨xb, 4, none⟩ = some (.int .u8 (x.by_ : Int)) := by rw [cell_of_row _ xb 4 _ _ (0, 0) h.row]; rfl
theorem Mid.c5 (h : Mid base O w W kb gd gm s r bs hs N xb tb x B m k K p q) : W.cell? ⟨xb, 5, none⟩ = some (.slice K p q) := by rw [cell_of_row _ xb 5 _ _ (0, 0) h.row]; rfl
/-- What came in lies below base. -/
theorem came_low {A : Option Addr} {n c : Nat} {ys : List Nat} (h : Came w A n c ys) (hw : w.heap.size = base) (hn : 0 < n) : ∀ ad, A = some ad → ¬ Out base O ad.block := by
  intro ad e
  have hl := h.in_.len
  obtain ⟨ad', e', hc⟩ := h.in_.rd 0 _ (List.getElem?_eq_getElem (by omega))
  rw [e] at e'
  cases e'
  have := World.block_lt_of_cell? w _ hc
  rw [block_add] at this
  exact fun o => by have := o.1; omega
theorem twin_own {n g b : Nat} {ys : List Nat} (h : Twin W g n ys) (hb : b ≤ g) (hn : n ≤ 1000000000) : W.ownsRow b 5 1 (.slice (some ⟨g, 0, none⟩) n (n + 1)) n (bvs ys) :=
  ⟨by rw [bvs_length, h.1]; omega, .inr ⟨g, n + 1, _, rfl, hb, h.2, by omega, by unfold maxLen; omega, by rw [List.size_toArray, bvs_length, List.length_append, h.1]; simp, by
    rw [List.toList_toArray, bvs_append, List.take_append_of_le_length (by rw [bvs_length, h.1]; omega), List.take_of_length_le (by rw [bvs_length, h.1]; omega)]⟩⟩

theorem Stage.below (h : Stage base w W kb gd gm s bs hs N j) (hb : Below W.heap.size W W') : Stage base w W' kb gd gm s bs hs N j :=
  ⟨h.pair.below hb, h.book.below hb, h.bel.trans (hb.mono h.book.base), h.n_le, h.w_le⟩
/-- The act begins. -/
theorem Stage.mid {W1 : World} (h : Stage base w W kb gd gm s bs hs N j) (hrow : W1 = W.alloc (.cells (deedRow x B m k K p q) 45)) (ht : Twin W' W1.heap.size m x.xs) (hb : Below W1.heap.size W1 W') :
    Mid base (fun y => InBook kb bs hs y ∨ y = W.heap.size ∨ y = W1.heap.size) w W' kb gd gm s s bs hs N W.heap.size W1.heap.size x B m k K p q := by
  have e1 : W1.heap.size = W.heap.size + 1 := by rw [hrow, World.size_alloc]
  have hb0 : Below W.heap.size W W1 := hrow ▸ below_alloc W _
  have hb2 : Below W.heap.size W W' := ⟨hb.os.trans hb0.os, hb.tape.trans hb0.tape, hb.output.trans hb0.output, Nat.le_trans hb0.size hb.size, fun x hx => (hb.block x (by omega)).trans (hb0.block x hx)⟩
  have hlt := ht.lt
  have hbk := h.book.lt
  have hbase := h.book.base
  refine ⟨h.pair.more hb2 (fun y hy => hy.imp id (fun e => ?_)), h.book.below hb2, h.bel.trans (hb2.mono hbase), ?_, ht, fun y hy => .inl hy, .inr (.inl rfl), .inr (.inr rfl), fun e => by have := (hbk _ e).2; omega, fun e => by have := (hbk _ e).2; omega, by omega⟩
  · rcases e with rfl | rfl <;> omega
  · rw [hb.block _ (by omega), hrow]
    exact World.alloc_heap_new W _

/-- A list is kept in the midst of an act. -/
theorem Mid.keep {A : Option Addr} {n c : Nat} {ys : List Value} (h : Mid base O w W kb gd gm s r bs hs N xb tb x B m k K p q) (hv : OwnB W base (.slice A n c) n ys) (hn : n ≤ 1000000000) (hN : N < 1000)
    (off : ∀ b, (Value.slice A n c).ownBlock = some b → O b ∧ ¬ InBook kb bs hs b ∧ b ≠ xb ∧ b ≠ tb) :
    Calls Tryd.prog 11 #[.pointer (some ⟨kb, 0, none⟩), .slice A n c] W fun e W' => e = .returned (.tuple #[]) ∧
      ∃ O' bs' hs', Mid base O' w W' kb gd gm s r bs' hs' (N + 1) xb tb x B m k K p q := by
  refine (book_keep h.book hv hn hN (fun b hb hi => (off b hb).2.1 (.inr (.inr hi)))).mono ?_
  rintro e W' ⟨he, ⟨bs', hs', hk, hin⟩, hb⟩
  have hS : ∀ b, (b = kb ∨ bs.ownBlock = some b) → InBook kb bs hs b := fun b e => e.elim .inl (fun e => .inr (.inl e))
  have hxl := h.pair.ol xb h.ox
  have htl := h.twin.lt
  refine ⟨he, fun y => O y ∨ InBook kb bs' hs' y, bs', hs', h.pair.turn hb (fun y hy => .inr (h.oi y (hS y hy))) (fun y hy => ?_) (fun y hy => ?_), hk, h.bel.trans (hb.below h.pair.bl (fun y hy => (h.book.lt y (hS y hy)).1)), (hb.block xb hxl (fun e => h.xn (hS _ e))).trans h.row, ⟨h.twin.1, (hb.block tb htl (fun e => h.tn (hS _ e))).trans h.twin.2⟩, fun y hy => .inr hy, .inl h.ox, .inl h.ot, fun e => ?_, fun e => ?_, h.bt⟩
  · rcases hy with e | e
    · exact .inl e
    · rcases hin y e with e | e | e
      · exact .inl (h.oi y e)
      · exact .inl (off y e).1
      · exact .inr e
  · rcases hy with e | e
    · exact Nat.lt_of_lt_of_le (h.pair.ol y e) hb.size
    · exact (hk.lt y e).2
  · rcases hin _ e with e | e | e
    · exact h.xn e
    · exact (off _ e).2.2.1 rfl
    · omega
  · rcases hin _ e with e | e | e
    · exact h.tn e
    · exact (off _ e).2.2.2 rfl
    · omega
theorem own_low {b n : Nat} {e : TypeId} {sz : Nat} {v : Value} {ys : List Value} (h : W.ownsRow b e sz v n ys) (hb : base ≤ b) : W.ownsRow base e sz v n ys := by
  refine ⟨h.1, ?_⟩
  rcases h.2 with h | ⟨g, cap, cur, e, hbb, rest⟩
  · exact .inl h
  · exact .inr ⟨g, cap, cur, e, Nat.le_trans hb hbb, rest⟩
theorem OwnB.low {b n : Nat} {v : Value} {ys : List Value} (h : OwnB W b v n ys) (hb : base ≤ b) : OwnB W base v n ys := by
  rcases h with h | ⟨h, e⟩
  · exact .inl (own_low h hb)
  · exact .inr ⟨own_low h hb, e⟩
theorem OwnB.belowB {b n : Nat} {v : Value} {ys : List Value} (h : OwnB W b v n ys) (hb : Below W.heap.size W W') : OwnB W' b v n ys := own_kept_butB (S := fun _ => False) h (But.of_below hb) (fun _ _ e => e)
theorem below_then {W1 W2 W3 : World} (h1 : Below W1.heap.size W1 W2) (h2 : Below W2.heap.size W2 W3) : Below W1.heap.size W1 W3 :=
  h1.trans (h2.mono h1.size)
theorem in_one (W : World) : In (W.alloc (.cells #[.int .u8 1] 5)) (some ⟨W.heap.size, 0, none⟩) 1 [1] :=
  ⟨rfl, fun j y hj => ⟨_, rfl, (BArr.new W 5 [1]).at_ j y hj⟩⟩
/-- What was read is kept. -/
theorem Mid.keepRead {W4 : World} {A : Option Addr} {n c : Nat} {ys : List Value} (h : Mid base O w W kb gd gm s r bs hs N xb tb x B m k K p q) (ho : OwnB W4 W.heap.size (.slice A n c) n ys) (hb : Below W.heap.size W W4) (hb5 : Below W4.heap.size W4 W') (hn : n ≤ 1000000000) (hN : N < 1000) :
    Calls Tryd.prog 11 #[.pointer (some ⟨kb, 0, none⟩), .slice A n c] W' fun e W' => e = .returned (.tuple #[]) ∧
      ∃ O' bs' hs', Mid base O' w W' kb gd gm s r bs' hs' (N + 1) xb tb x B m k K p q := by
  have hbl := h.pair.bl
  have hxl := h.pair.ol xb h.ox
  have htl := h.twin.lt
  refine ((h.more hb (L := fun b => (Value.slice A n c).ownBlock = some b) (fun b e => ho.lt b e)).below hb5).keep ((ho.belowB hb5).low hbl) hn hN (fun b e => ?_)
  have h1 := (ho.lt b e).1
  exact ⟨.inr e, fun e => by have := (h.book.lt b e).2; omega, by omega, by omega⟩
/-- The copy is kept: the act is over. -/
theorem Mid.last (h : Mid base O w W kb gd gm s s bs hs N xb tb x B m k K p q) (hm : m ≤ 1000000000) (hN : N < 1000) (hn2 : N ≤ 2 * j + 1) (hw : s.waits.length ≤ j + 1) :
    Calls Tryd.prog 11 #[.pointer (some ⟨kb, 0, none⟩), .slice (some ⟨tb, 0, none⟩) m (m + 1)] W fun e W' => e = .returned (.tuple #[]) ∧
      ∃ bs' hs', Stage base w W' kb gd gm s bs' hs' (N + 1) (j + 1) := by
  refine (book_keep h.book (.inl (twin_own h.twin h.bt hm)) hm hN (fun b hb hi => ?_)).mono ?_
  · cases hb
    exact h.tn (.inr (.inr hi))
  rintro e W' ⟨he, ⟨bs', hs', hk, hin⟩, hb⟩
  have hS : ∀ b, (b = kb ∨ bs.ownBlock = some b) → InBook kb bs hs b := fun b e => e.elim .inl (fun e => .inr (.inl e))
  refine ⟨he, bs', hs', h.pair.turn hb (fun y hy => .inr (h.oi y (hS y hy))) (fun y hy => ?_) (fun y hy => (hk.lt y hy).2), hk, h.bel.trans (hb.below h.pair.bl (fun y hy => (h.book.lt y (hS y hy)).1)), by omega, hw⟩
  rcases hin y hy with e | e | e
  · exact .inl (h.oi y e)
  · cases e
    exact .inl h.ot
  · exact .inr e

theorem burnt_waits_le (s : St) : s.burnt.waits.length = s.waits.length := by rw [St.burnt_waits]
theorem wnext_waits (s : St) (z : Int) (n : Nat) (ys : List Nat) : (s.wnext z n ys).waits.length ≤ s.waits.length + 1 := by
  unfold St.wnext
  split
  · split
    · rw [burnt_waits_le]; omega
    · show (s.waits ++ [_]).length ≤ _; rw [List.length_append]; exact Nat.le_refl _
  · omega
theorem snext_waits (s : St) : s.snext.waits.length ≤ s.waits.length := by
  unfold St.snext
  split
  · rw [burnt_waits_le]; omega
  · exact Nat.zero_le _
theorem tnext_waits (s : St) (z t : Int) (y : Nat) : (s.tnext z t y).waits.length ≤ s.waits.length := by
  unfold St.tnext
  split
  · split
    · omega
    · exact Nat.zero_le _
  · omega
end

end Go.Proofs.YtcdlocbonjgcgaaDoor
