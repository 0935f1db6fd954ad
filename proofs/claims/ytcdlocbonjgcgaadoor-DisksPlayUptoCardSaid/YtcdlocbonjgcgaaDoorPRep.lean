/-
  The document's own disk (almonerref05): what it is, and where it lies; its small calls.
-/
import Derived.Test.YtcdlocbonjgcgaaDoorDFail
namespace Go.Proofs.YtcdlocbonjgcgaaDoor
open Go.RowKit

/-- A slice that holds the bytes of a sector, in a block of F. -/
def RSec (w : World) (F : Nat → Prop) (v : Value) (xs : List Nat) : Prop :=
  ∃ B c, v = .slice (some ⟨B, 0, none⟩) 64 c ∧ In w (some ⟨B, 0, none⟩) 64 xs ∧ 64 ≤ c ∧ F B ∧ ∃ cur, w.heap[B]? = some (.cells cur 5 (0, 0))
theorem RSec.block {w w' : World} {F : Nat → Prop} {v : Value} {xs : List Nat} (h : RSec w F v xs) (hb : ∀ b cur, F b → w.heap[b]? = some (.cells cur 5 (0, 0)) → w'.heap[b]? = w.heap[b]?) : RSec w' F v xs := by
  obtain ⟨B, c, e, hin, hc, hF, cur, hcur⟩ := h
  have he := hb B cur hF hcur
  refine ⟨B, c, e, ⟨hin.len, fun j x hx => ?_⟩, hc, hF, cur, he.trans hcur⟩
  obtain ⟨ad, ea, hcell⟩ := hin.rd j x hx
  cases ea
  refine ⟨_, rfl, (World.cell?_of_block ?_).trans hcell⟩
  rw [block_add]
  exact he
theorem RSec.mono {w : World} {F F' : Nat → Prop} {v : Value} {xs : List Nat} (h : RSec w F v xs) (hF : ∀ x, F x → F' x) : RSec w F' v xs := by
  obtain ⟨B, c, e, hin, hc, hb, hcur⟩ := h
  exact ⟨B, c, e, hin, hc, hF B hb, hcur⟩

/-- Rows of slices that hold the sectors R; rows of what waits. -/
def RSecs (w : World) (F : Nat → Prop) (sv : Value) (R : List (List Nat)) : Prop :=
  ∃ vals : List Value, w.ownsRow 0 42 1 sv R.length vals ∧ ∀ (i : Nat) (v : Value) (xs : List Nat), vals[i]? = some v → R[i]? = some xs → RSec w F v xs
def RWaits (w : World) (F : Nat → Prop) (lv : Value) (ws : List (Nat × List Nat)) : Prop :=
  ∃ E : List (List Value), w.ownsRow 0 73 2 lv ws.length E.flatten ∧ E.length = ws.length ∧ ∀ (i : Nat) (x : Nat × List Nat) (e : List Value), ws[i]? = some x → E[i]? = some e → ∃ v, e = [.int .i64 (x.1 : Int), v] ∧ RSec w F v x.2

/-- Block g is the document's disk. -/
structure RAt (w : World) (F : Nat → Prop) (g : Nat) (sv lv : Value) (s : St) : Prop where
  head : w.heap[g]? = some (.cells #[sv, lv, .int .i64 s.lets, .bool s.blown] 65 (0, 0))
  sure : RSecs w F sv s.sure
  l : RWaits w F lv s.waits
  fg : F g
  fs : ∀ b, sv.ownBlock = some b → F b
  fl : ∀ b, lv.ownBlock = some b → F b

/-- A blown fuse lets none be. -/
def Blows (s : St) : Prop := s.blown = true → s.lets = 0
def RDisk (w : World) (g : Nat) (F : Nat → Prop) (s : St) : Prop := s.Ok ∧ Blows s ∧ (∃ sv lv, RAt w F g sv lv s) ∧ ∀ x, F x → x < w.heap.size
def RActed (w : World) (g : Nat) (F : Nat → Prop) (s' : St) (w' : World) : Prop := ∃ F', RDisk w' g F' s' ∧ But F w w' ∧ ∀ x, F' x → F x ∨ w.heap.size ≤ x

theorem rt1 : 65 ≠ 42 := by decide
theorem rt2 : 65 ≠ 73 := by decide
theorem rt3 : 65 ≠ 5 := by decide
theorem rt4 : 42 ≠ 73 := by decide
theorem rt5 : 42 ≠ 5 := by decide
theorem rt6 : 73 ≠ 5 := by decide

section
variable {w w' : World} {F : Nat → Prop} {g : Nat} {sv lv : Value} {s s' : St}
theorem RSecs.block {R : List (List Nat)} (h : RSecs w F sv R) (hv : ∀ b, sv.ownBlock = some b → w'.heap[b]? = w.heap[b]?) (hb : ∀ b cur, F b → w.heap[b]? = some (.cells cur 5 (0, 0)) → w'.heap[b]? = w.heap[b]?) : RSecs w' F sv R := by
  obtain ⟨vals, h1, h2⟩ := h
  exact ⟨vals, own_block h1 hv, fun i v xs hi hx => (h2 i v xs hi hx).block hb⟩
theorem RWaits.block {ws : List (Nat × List Nat)} (h : RWaits w F lv ws) (hv : ∀ b, lv.ownBlock = some b → w'.heap[b]? = w.heap[b]?) (hb : ∀ b cur, F b → w.heap[b]? = some (.cells cur 5 (0, 0)) → w'.heap[b]? = w.heap[b]?) : RWaits w' F lv ws := by
  obtain ⟨E, h1, h2, h3⟩ := h
  refine ⟨E, own_block h1 hv, h2, fun i x e hi he => ?_⟩
  obtain ⟨v, e1, h4⟩ := h3 i x e hi he
  exact ⟨v, e1, h4.block hb⟩
theorem RSecs.mono {F' : Nat → Prop} {R : List (List Nat)} (h : RSecs w F sv R) (hF : ∀ x, F x → F' x) : RSecs w F' sv R := by
  obtain ⟨vals, h1, h2⟩ := h
  exact ⟨vals, h1, fun i v xs hi hx => (h2 i v xs hi hx).mono hF⟩
theorem RWaits.mono {F' : Nat → Prop} {ws : List (Nat × List Nat)} (h : RWaits w F lv ws) (hF : ∀ x, F x → F' x) : RWaits w F' lv ws := by
  obtain ⟨E, h1, h2, h3⟩ := h
  refine ⟨E, h1, h2, fun i x e hi he => ?_⟩
  obtain ⟨v, e1, h4⟩ := h3 i x e hi he
  exact ⟨v, e1, h4.mono hF⟩
theorem RAt.c0 (h : RAt w F g sv lv s) : w.cell? ⟨g, 0, none⟩ = some sv := by rw [cell_of_row _ g 0 _ _ (0, 0) h.head]; rfl
theorem RAt.c1 (h : RAt w F g sv lv s) : w.cell? ⟨g, 1, none⟩ = some lv := by rw [cell_of_row _ g 1 _ _ (0, 0) h.head]; rfl
theorem RAt.c2 (h : RAt w F g sv lv s) : w.cell? ⟨g, 2, none⟩ = some (.int .i64 s.lets) := by rw [cell_of_row _ g 2 _ _ (0, 0) h.head]; rfl
theorem RAt.c3 (h : RAt w F g sv lv s) : w.cell? ⟨g, 3, none⟩ = some (.bool s.blown) := by rw [cell_of_row _ g 3 _ _ (0, 0) h.head]; rfl
theorem RAt.fz (h : RAt w F g sv lv s) (i : Nat) : w.frozen? ⟨g, i, none⟩ = false := frozen_of_row _ g i _ _ h.head
theorem RAt.gs (h : RAt w F g sv lv s) {x : Nat} (hx : sv.ownBlock = some x) : g ≠ x := by obtain ⟨vals, h1, _⟩ := h.sure; obtain ⟨cur, hc⟩ := own_type h1 hx; exact block_ne h.head hc rt1
theorem RAt.gl (h : RAt w F g sv lv s) {x : Nat} (hx : lv.ownBlock = some x) : g ≠ x := by obtain ⟨E, h1, _⟩ := h.l; obtain ⟨cur, hc⟩ := own_type h1 hx; exact block_ne h.head hc rt2
theorem RDisk.but {S : Nat → Prop} (h : RDisk w g F s) (hb : But S w w') (hd : ∀ x, F x → ¬ S x) : RDisk w' g F s := by
  obtain ⟨ok, bl, ⟨sv, lv, h⟩, hl⟩ := h
  have hk : ∀ b, F b → w'.heap[b]? = w.heap[b]? := fun b hF => hb.block b (hl b hF) (hd b hF)
  exact ⟨ok, bl, ⟨sv, lv, (hk g h.fg).trans h.head, h.sure.block (fun b e => hk b (h.fs b e)) (fun b _ hF _ => hk b hF), h.l.block (fun b e => hk b (h.fl b e)) (fun b _ hF _ => hk b hF), h.fg, h.fs, h.fl⟩, fun x hx => Nat.lt_of_lt_of_le (hl x hx) hb.size⟩
theorem RDisk.below (h : RDisk w g F s) (hb : Below w.heap.size w w') : RDisk w' g F s := h.but (S := fun _ => False) (But.of_below hb) (fun _ _ hf => hf)
/-- One cell of the head is written. -/
theorem RAt.headSet (h : RAt w F g sv lv s) {w' : World} (hg : w.grownBy w' (some g)) (hs : s'.sure = s.sure) (hw : s'.waits = s.waits) (hl : ∀ x, F x → x < w.heap.size)
    (hh : w'.heap[g]? = some (.cells #[sv, lv, .int .i64 s'.lets, .bool s'.blown] 65 (0, 0))) : RAt w' F g sv lv s' := by
  have hb : ∀ x, x < w.heap.size → x ≠ g → w'.heap[x]? = w.heap[x]? := fun x hx hne => hg.block x hx (fun e => hne (by injection e))
  have hy : ∀ b cur, F b → w.heap[b]? = some (.cells cur 5 (0, 0)) → w'.heap[b]? = w.heap[b]? := fun b cur hF hc => hb b (hl b hF) (block_ne h.head hc rt3).symm
  refine ⟨hh, ?_, ?_, h.fg, h.fs, h.fl⟩
  · rw [hs]; exact h.sure.block (fun b e => hb b (hl b (h.fs b e)) (h.gs e).symm) hy
  · rw [hw]; exact h.l.block (fun b e => hb b (hl b (h.fl b e)) (h.gl e).symm) hy
theorem RAt.setLets (h : RAt w F g sv lv s) (hl : ∀ x, F x → x < w.heap.size) (z : Int) : RAt (w.setCell ⟨g, 2, none⟩ (.int .i64 z)) F g sv lv { s with lets := z } :=
  h.headSet (setCell_grown w g 2 _) rfl rfl hl (heap_setCell_same w g 2 _ _ (.int .i64 z) h.head)
theorem RAt.setBlown (h : RAt w F g sv lv s) (hl : ∀ x, F x → x < w.heap.size) (z : Bool) : RAt (w.setCell ⟨g, 3, none⟩ (.bool z)) F g sv lv { s with blown := z } :=
  h.headSet (setCell_grown w g 3 _) rfl rfl hl (heap_setCell_same w g 3 _ _ (.bool z) h.head)
theorem RAt.lens (h : RAt w F g sv lv s) : (∃ A c, sv = .slice A s.sure.length c) ∧ ∃ A c, lv = .slice A s.waits.length c := by
  obtain ⟨vals, h1, _⟩ := h.sure
  obtain ⟨E, h2, _⟩ := h.l
  obtain ⟨A, c, e, _⟩ := row_form h1
  obtain ⟨A2, c2, e2, _⟩ := row_form h2
  exact ⟨⟨A, c, e⟩, A2, c2, e2⟩
theorem racted_head {sv lv : Value} (ok : s'.Ok) (bl : Blows s') (h : RAt w' F g sv lv s') (hl : ∀ x, F x → x < w.heap.size) (hg : w.grownBy w' (some g)) : RActed w g F s' w' :=
  ⟨F, ⟨ok, bl, ⟨sv, lv, h⟩, fun x hx => Nat.lt_of_lt_of_le (hl x hx) hg.size⟩, (But.refl F w).grown hg (fun k e _ => by cases e; exact h.fg), fun x hx => .inl hx⟩
end

set_option maxRecDepth 100000 in
set_option maxHeartbeats 1000000 in
theorem rwaits_any {w : World} {g : Nat} {F : Nat → Prop} {s : St} (h : RDisk w g F s) :
    Calls Tryd.prog 25 #[.pointer (some ⟨g, 0, none⟩)] w fun e w' => e = .returned (.int .i64 (s.waits.length : Int)) ∧ w = w' := by
  obtain ⟨_, _, ⟨sv, lv, h⟩, _⟩ := h
  obtain ⟨_, A, c, rfl⟩ := h.lens
  have c1 := h.c1
  clear h
  go_enter Tryd.func25, Tryd.ntmps25
  go_wp2
  go_ret
  exact ⟨rfl, rfl⟩

set_option maxRecDepth 100000 in
set_option maxHeartbeats 1000000 in
theorem rlen_any {w : World} {g : Nat} {F : Nat → Prop} {s : St} (h : RDisk w g F s) :
    Calls Tryd.prog 27 #[.pointer (some ⟨g, 0, none⟩)] w fun e w' => e = .returned (.int .i64 (s.sure.length : Int)) ∧ w = w' := by
  obtain ⟨_, _, ⟨sv, lv, h⟩, _⟩ := h
  obtain ⟨⟨A, c, rfl⟩, _⟩ := h.lens
  have c0 := h.c0
  clear h
  go_enter Tryd.func27, Tryd.ntmps27
  go_wp2
  go_ret
  exact ⟨rfl, rfl⟩

set_option maxRecDepth 100000 in
set_option maxHeartbeats 1000000 in
theorem rblown_any {w : World} {g : Nat} {F : Nat → Prop} {s : St} (h : RDisk w g F s) :
    Calls Tryd.prog 24 #[.pointer (some ⟨g, 0, none⟩)] w fun e w' => e = .returned (.bool s.blown) ∧ w = w' := by
  obtain ⟨_, _, ⟨sv, lv, h⟩, _⟩ := h
  have c3 := h.c3
  clear h
  go_enter Tryd.func24, Tryd.ntmps24
  go_wp2
  go_ret
  exact ⟨rfl, rfl⟩

set_option maxRecDepth 100000 in
set_option maxHeartbeats 1000000 in
theorem rfuse_any {w : World} {g : Nat} {F : Nat → Prop} {s : St} (z : Int) (hz : z ≤ 9223372036854775807) (h : RDisk w g F s) :
    Calls Tryd.prog 22 #[.pointer (some ⟨g, 0, none⟩), .int .i64 z] w fun e w' => e = .returned (.int .i64 0) ∧ RActed w g F { s with lets := letsOf z, blown := false } w' := by
  obtain ⟨ok, bl, ⟨sv, lv, h⟩, hl⟩ := h
  have c2 := h.c2
  have c3 := h.c3
  have f2 := h.fz 2
  have f3 := h.fz 3
  have ok' : St.Ok { s with lets := letsOf z, blown := false } := ⟨ok.pos, ok.le, ok.sec, ok.wsec, by show -1 ≤ letsOf z; unfold letsOf; split <;> omega, by show letsOf z ≤ _; unfold letsOf; split <;> omega⟩
  have hG1 := setCell_grown w g 2 (.int .i64 (letsOf z))
  have hD := (h.setLets hl (letsOf z)).setBlown (fun x hx => Nat.lt_of_lt_of_le (hl x hx) hG1.size) false
  have hG : w.grownBy ((w.setCell ⟨g, 2, none⟩ (.int .i64 (letsOf z))).setCell ⟨g, 3, none⟩ (.bool false)) (some g) := by
    have h2 := setCell_grown (w.setCell ⟨g, 2, none⟩ (.int .i64 (letsOf z))) g 3 (.bool false)
    exact ⟨rfl, rfl, rfl, Nat.le_trans hG1.size h2.size, fun k hk hne => (h2.block k (Nat.lt_of_lt_of_le hk hG1.size) hne).trans (hG1.block k hk hne)⟩
  have HF := Lib.hid (racted_head ok' (fun e => by cases e) hD hl hG)
  by_cases h0 : z ≤ -1
  · have e : letsOf z = -1 := by unfold letsOf; split <;> omega
    rw [e] at HF ⊢
    have m2 : ¬ (-1 < z) := by omega
    clear h hl ok bl ok' hD hG hG1 e
    go_enter Tryd.func22, Tryd.ntmps22
    go_wp2
    go_ret
    exact ⟨rfl, HF.out⟩
  · have e : letsOf z = z := by unfold letsOf; split <;> omega
    rw [e] at HF ⊢
    clear h hl ok bl ok' hD hG hG1 e
    go_enter Tryd.func22, Tryd.ntmps22
    go_wp2
    go_ret
    exact ⟨rfl, HF.out⟩

theorem Blows.burnt {s : St} (h : Blows s) : Blows s.burnt := by
  unfold Blows St.burnt at *
  split
  · rename_i h0
    exact fun _ => h0
  · rename_i h0
    split
    · exact h
    · intro hb
      exact absurd (h hb) h0

set_option maxRecDepth 100000 in
set_option maxHeartbeats 1000000 in
theorem may_at {w : World} {F : Nat → Prop} {g : Nat} {sv lv : Value} {s : St} (ok : s.Ok) (bl : Blows s) (h : RAt w F g sv lv s) (hl : ∀ x, F x → x < w.heap.size) :
    Calls Tryd.prog 36 #[.pointer (some ⟨g, 0, none⟩)] w fun e w' => e = .returned (.bool (decide (s.lets ≠ 0))) ∧ RAt w' F g sv lv s.burnt ∧ w.grownBy w' (some g) ∧ w'.heap.size = w.heap.size := by
  have c2 := h.c2
  have c3 := h.c3
  have f2 := h.fz 2
  have f3 := h.fz 3
  have lo := ok.lo
  have hi := ok.hi
  by_cases h0 : s.lets = 0
  · have e : decide (s.lets ≠ 0) = false := by simp [h0]
    have eb : s.burnt = { s with blown := true } := by unfold St.burnt; rw [if_pos h0]
    have hB := h.setBlown hl true
    have c3' : (w.setCell ⟨g, 3, none⟩ (.bool true)).cell? ⟨g, 3, none⟩ = some (.bool true) := hB.c3
    have HF := Lib.hid (And.intro hB (And.intro (setCell_grown w g 3 (.bool true)) (show (w.setCell ⟨g, 3, none⟩ (.bool true)).heap.size = w.heap.size by simp [World.setCell])))
    rw [e, eb]
    rw [h0] at c2
    clear h ok lo hi h0 e eb hB hl bl
    go_enter Tryd.func36, Tryd.ntmps36
    go_wp2
    go_ret
    exact ⟨rfl, HF.out⟩
  · have e : decide (s.lets ≠ 0) = true := by simp [h0]
    have hbf : s.blown = false := by
      cases hb : s.blown with
      | false => rfl
      | true => exact absurd (bl hb) h0
    rw [hbf] at c3
    by_cases h1 : s.lets = -1
    · have eb : s.burnt = s := by unfold St.burnt; rw [if_neg h0, if_pos h1]
      rw [e, eb]
      have HF := Lib.hid h
      rw [h1] at c2
      clear h ok lo hi h0 e eb hl bl hbf
      go_enter Tryd.func36, Tryd.ntmps36
      go_wp2
      go_ret
      exact ⟨rfl, HF.out, ⟨rfl, rfl, rfl, Nat.le_refl _, fun _ _ _ => rfl⟩, rfl⟩
    · obtain ⟨z, hz⟩ : ∃ z : Int, s.lets = z := ⟨_, rfl⟩
      have eb : s.burnt = { s with lets := z - 1 } := by unfold St.burnt; rw [if_neg h0, if_neg h1, hz]
      have HF := Lib.hid (And.intro (h.setLets hl (z - 1)) (And.intro (setCell_grown w g 2 (.int .i64 (z - 1))) (show (w.setCell ⟨g, 2, none⟩ (.int .i64 (z - 1))).heap.size = w.heap.size by simp [World.setCell])))
      rw [e, eb]
      rw [hz] at c2 h0 h1 lo hi
      have q2 : (z == 0) = false := by simp; omega
      have q4 : 1 ≤ z := by omega
      have q5 : 0 < z := by omega
      clear h ok lo h0 h1 e eb hz hl bl hbf
      go_enter Tryd.func36, Tryd.ntmps36
      go_wp2
      go_ret
      exact ⟨rfl, HF.out⟩

end Go.Proofs.YtcdlocbonjgcgaaDoor
