/-
  DisksTwo: what holds between two rounds.
-/
import Derived.Test.YtolbchknjcipiaaDBools
import Derived.Test.YtolbchknjcipiaaDWrites
namespace Go.Proofs.Ytolbchknjcipiaa
open Go.RowKit

/-- Two cells that are a write of the statements. -/
def Elem (w : World) (x : Nat × List Nat) (e : List Value) : Prop := ∃ B m k, e = [.int .u8 (x.1 : Int), .slice B m k] ∧ Came w B m k x.2 ∧ m ≤ 9223372036854775807 ∧ x.1 < 256
/-- A row of the call's own of such writes; what they point to is old. -/
def OwnW (w wr : World) (v : Value) (ws : List (Nat × List Nat)) : Prop :=
  ∃ E : List (List Value), wr.ownsRow w.heap.size 51 2 v ws.length E.flatten ∧ E.length = ws.length ∧ ∀ (i : Nat) (x : Nat × List Nat) (e : List Value), ws[i]? = some x → E[i]? = some e → Elem w x e

theorem OwnW.lens {w : World} {E : List (List Value)} {ws : List (Nat × List Nat)} (hl : E.length = ws.length) (h : ∀ (i : Nat) (x : Nat × List Nat) (e : List Value), ws[i]? = some x → E[i]? = some e → Elem w x e) : ∀ e ∈ E, e.length = 2 := fun e he => by
  obtain ⟨i, hi⟩ := List.mem_iff_getElem?.1 he
  have hlt := (List.getElem?_eq_some_iff.1 hi).1
  obtain ⟨B, m, k, rfl, _⟩ := h i _ e (List.getElem?_eq_getElem (by omega)) hi
  rfl
theorem OwnW.block {w wr w' : World} {v : Value} {ws : List (Nat × List Nat)} (h : OwnW w wr v ws) (hb : ∀ b, v.ownBlock = some b → w'.heap[b]? = wr.heap[b]?) : OwnW w w' v ws := by
  obtain ⟨E, h1, h2, h3⟩ := h
  exact ⟨E, own_block h1 hb, h2, h3⟩
theorem OwnW.form {w wr : World} {v : Value} {ws : List (Nat × List Nat)} (h : OwnW w wr v ws) : ∃ A c, v = .slice A ws.length c := by
  obtain ⟨E, h1, _⟩ := h
  obtain ⟨A, c, e, _⟩ := row_form h1
  exact ⟨A, c, e⟩
theorem OwnW.base {w wr : World} {v : Value} {ws : List (Nat × List Nat)} (h : OwnW w wr v ws) {x : Nat} (hx : v.ownBlock = some x) : w.heap.size ≤ x ∧ x < wr.heap.size := by
  obtain ⟨E, h1, _⟩ := h
  refine ⟨?_, own_lt h1 hx⟩
  rcases h1.2 with ⟨rfl, _⟩ | ⟨g, cap, cur, rfl, hb, _⟩
  · cases hx
  · cases hx; exact hb
theorem OwnW.came {w wr : World} {A : Option Addr} {n c : Nat} {ws : List (Nat × List Nat)} (h : OwnW w wr (.slice A n c) ws) (hb : Below w.heap.size w wr) : CameWrites wr A ws.length c ws := by
  obtain ⟨E, h1, h2, h3⟩ := h
  obtain ⟨A', c', e, hc, hA, _⟩ := row_form h1
  cases e
  refine ⟨rfl, hc, fun r x hx => ?_⟩
  have hr := (List.getElem?_eq_some_iff.1 hx).1
  obtain ⟨g, rfl⟩ := hA (by omega)
  have he : E[r]? = some (E[r]'(by omega)) := List.getElem?_eq_getElem (by omega)
  obtain ⟨B, m, k, ee, h4, h5, h6⟩ := h3 r x _ hx he
  have hrg := own_range h1 (OwnW.lens h2 h3) h2 he
  rw [ee] at hrg
  refine ⟨⟨g, 0, none⟩, B, m, k, rfl, ?_, ?_, h4.below hb, h5, h6⟩
  · have := hrg 0 _ rfl
    rw [Addr.add_mid, Nat.zero_add]
    exact this
  · have := hrg 1 _ rfl
    rw [Addr.add_mid, Nat.zero_add]
    exact this

/-- A disk of five to which these were written. -/
def tst (ds : List (Nat × List Nat)) : St := ⟨zeros 5, ds.map asW, -1, false⟩
theorem tst_wrote (ds : List (Nat × List Nat)) (x : Nat × List Nat) : (tst ds).wrote (x.1 % 5) (x.2.take 64) = tst (ds ++ [x]) := by
  unfold St.wrote
  rw [burnt_all rfl]
  unfold tst
  rw [List.map_append]
  rfl

/-- The two disks, and the two rows of what was written to each. -/
def Two (w wr : World) (ga gb : Nat) (v1 v2 : Value) (d1 e1 d2 e2 : List (Nat × List Nat)) : Prop :=
  ∃ F G, Disk wr ga F (tst d1) ∧ Disk wr gb G (tst d2) ∧ (∀ x, F x → ¬ G x) ∧ (∀ x, F x → w.heap.size ≤ x) ∧ (∀ x, G x → w.heap.size ≤ x) ∧
    OwnW w wr v1 e1 ∧ OwnW w wr v2 e2 ∧ (∀ x, F x ∨ G x → v1.ownBlock ≠ some x ∧ v2.ownBlock ≠ some x) ∧ (∀ x, v1.ownBlock = some x → v2.ownBlock ≠ some x)

section
variable {w wr w' : World} {ga gb : Nat} {v1 v2 : Value} {d1 e1 d2 e2 : List (Nat × List Nat)}
theorem Two.swap (h : Two w wr ga gb v1 v2 d1 e1 d2 e2) : Two w wr gb ga v2 v1 d2 e2 d1 e1 := by
  obtain ⟨F, G, h1, h2, h3, h4, h5, h6, h7, h8, h9⟩ := h
  exact ⟨G, F, h2, h1, fun x hg hf => h3 x hf hg, h5, h4, h7, h6, fun x hx => ⟨(h8 x hx.symm).2, (h8 x hx.symm).1⟩, fun x hx hy => h9 x hy hx⟩
theorem Two.below (h : Two w wr ga gb v1 v2 d1 e1 d2 e2) (hb : Below wr.heap.size wr w') : Two w w' ga gb v1 v2 d1 e1 d2 e2 := by
  obtain ⟨F, G, h1, h2, h3, h4, h5, h6, h7, h8, h9⟩ := h
  exact ⟨F, G, h1.below hb, h2.below hb, h3, h4, h5, h6.block (fun b hx => hb.block b (h6.base hx).2), h7.block (fun b hx => hb.block b (h7.base hx).2), h8, h9⟩
/-- One more in the first row. -/
theorem Two.app (h : Two w wr ga gb v1 v2 d1 e1 d2 e2) {x : Nat × List Nat} {u1 u2 : Value} (hx : Elem w x [u1, u2]) {g cap : Nat} {E : List (List Value)}
    (hE : E.length = e1.length ∧ ∀ (i : Nat) (x : Nat × List Nat) (e : List Value), e1[i]? = some x → E[i]? = some e → Elem w x e)
    (hown : w'.ownsRow w.heap.size 51 2 (.slice (some ⟨g, 0, none⟩) (e1.length + 1) cap) (e1.length + 1) (E.flatten ++ [u1, u2]))
    {o : Obj} (hgrow : (wr.alloc o).grownBy w' v1.ownBlock) (hat : v1.ownBlock = some g ∨ g = (wr.alloc o).heap.size) : Two w w' ga gb (.slice (some ⟨g, 0, none⟩) (e1.length + 1) cap) v2 d1 (e1 ++ [x]) d2 e2 := by
  obtain ⟨F, G, h1, h2, h3, h4, h5, h6, h7, h8, h9⟩ := h
  have hs := hgrow.size
  rw [World.size_alloc] at hs hat
  have hold : ∀ y, y < wr.heap.size → v1.ownBlock ≠ some y → w'.heap[y]? = wr.heap[y]? := fun y hy hne => (hgrow.block y (by rw [World.size_alloc]; omega) (fun e => hne e.symm)).trans (heap_alloc_old wr o hy)
  have hbut : But (fun y => v1.ownBlock = some y) wr w' := ⟨hgrow.os, hgrow.tape, hgrow.output, by omega, hold⟩
  refine ⟨F, G, h1.but hbut (fun y hy => (h8 y (.inl hy)).1), h2.but hbut (fun y hy => (h8 y (.inr hy)).1), h3, h4, h5, ⟨E ++ [[u1, u2]], ?_, ?_, ?_⟩, h7.block (fun b hb => hold b (h7.base hb).2 (fun e => h9 b e hb)), fun y hy => ⟨?_, (h8 y hy).2⟩, fun y hy => ?_⟩
  · rw [List.flatten_append, List.length_append]
    simpa using hown
  · rw [List.length_append, List.length_append, hE.1]; rfl
  · intro i y e hy he
    rw [List.getElem?_append] at hy he
    by_cases hi : i < e1.length
    · rw [if_pos hi] at hy
      rw [if_pos (by rw [hE.1]; exact hi)] at he
      exact hE.2 i y e hy he
    · rw [if_neg hi] at hy
      rw [if_neg (by rw [hE.1]; exact hi), hE.1] at he
      have h0 : i - e1.length = 0 := by have := (List.getElem?_eq_some_iff.1 hy).1; simp at this; omega
      rw [h0] at hy he
      simp at hy he
      rw [← hy, ← he]
      exact hx
  · intro e
    have e' : g = y := by simpa [Value.ownBlock] using e
    rcases hat with h | h
    · exact (h8 y hy).1 (by rw [h, e'])
    · have : y < wr.heap.size := by
        rcases hy with hy | hy
        · exact h1.2.2 y hy
        · exact h2.2.2 y hy
      omega
  · have e' : g = y := by simpa [Value.ownBlock] using hy
    intro hv
    rcases hat with h | h
    · exact h9 y (by rw [h, e']) hv
    · have := (h7.base hv).2
      omega
/-- An act on the first disk. -/
theorem Two.act {F G : Nat → Prop} {d1' : List (Nat × List Nat)} (ha : Acted wr ga F (tst d1') w') (h2 : Disk wr gb G (tst d2)) (h3 : ∀ x, F x → ¬ G x) (h4 : ∀ x, F x → w.heap.size ≤ x) (h5 : ∀ x, G x → w.heap.size ≤ x)
    (h6 : OwnW w wr v1 e1) (h7 : OwnW w wr v2 e2) (h8 : ∀ x, F x ∨ G x → v1.ownBlock ≠ some x ∧ v2.ownBlock ≠ some x) (h9 : ∀ x, v1.ownBlock = some x → v2.ownBlock ≠ some x) (hs : w.heap.size ≤ wr.heap.size) :
    Two w w' ga gb v1 v2 d1' e1 d2 e2 ∧ Below w.heap.size wr w' := by
  obtain ⟨F', hd, hbut, hF'⟩ := ha
  refine ⟨⟨F', G, hd, h2.but hbut (fun x hg hf => h3 x hf hg), fun x hx hg => ?_, fun x hx => ?_, h5, h6.block (fun b hb => hbut.block b (h6.base hb).2 (fun hf => (h8 b (.inl hf)).1 hb)), h7.block (fun b hb => hbut.block b (h7.base hb).2 (fun hf => (h8 b (.inl hf)).2 hb)), fun x hx => ?_, h9⟩, hbut.below hs h4⟩
  · rcases hF' x hx with h | h
    · exact h3 x h hg
    · have := h2.2.2 x hg; omega
  · rcases hF' x hx with h | h
    · exact h4 x h
    · omega
  · rcases hx with hx | hx
    · rcases hF' x hx with h | h
      · exact h8 x (.inl h)
      · exact ⟨fun e => by have := (h6.base e).2; omega, fun e => by have := (h7.base e).2; omega⟩
    · exact h8 x (.inr hx)
end

theorem infoLawWrite : (Try.prog.info? 51).map (fun i => (i.zero, i.size, i.bytes)) = some (some (.agg #[.int .u8 0, .slice none 0 0]), 2, 32) := by kernel_rfl

end Go.Proofs.Ytolbchknjcipiaa
