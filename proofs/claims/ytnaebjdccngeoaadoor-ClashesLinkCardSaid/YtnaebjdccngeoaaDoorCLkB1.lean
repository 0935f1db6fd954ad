/-
  Several texts in one: LRowApp, CRows, CParted, LVar, CFound, LZeros, HConcat, CConcat, CLeaf, CNode, WLen64, CLeft, CDown, CBegins, VLeaf, VSApp, VGives, CRoot.
-/
import Derived.Test.YtnaebjdccngeoaaDoorLRows
import Derived.Test.YtnaebjdccngeoaaDoorLMem
import Derived.Test.YtnaebjdccngeoaaDoorLBut
import Derived.Deep.Slices
import Derived.Test.YtnaebjdccngeoaaDoorCPure
import Derived.Test.YtnaebjdccngeoaaDoorVTools
import Derived.Test.YtnaebjdccngeoaaDoorCVar
import Derived.Deep.RegionWith
import Derived.Test.YtnaebjdccngeoaaDoorLBArr
import Derived.Test.YtnaebjdccngeoaaDoorCTold
import Derived.Recover
import Derived.Stop.Asserts
import Derived.Laws.CopyRow
import Derived.Test.YtnaebjdccngeoaaDoorLApp2
import Derived.Laws.Pointers
import Derived.Deep.Cut
import Derived.Test.YtnaebjdccngeoaaDoorCHeld
import Derived.Test.YtnaebjdccngeoaaDoorVLen
import Derived.Test.YtnaebjdccngeoaaDoorWPure
import Derived.Test.YtnaebjdccngeoaaDoorCEqual
import Derived.Test.YtnaebjdccngeoaaDoorVMarked
import Derived.Deep.RegionLaw
import Derived.Test.YtnaebjdccngeoaaDoorVRoot
import Derived.Test.YtnaebjdccngeoaaDoorLSums
/-
  append to a row of slices of the call's own; such a row read as rows of bytes.
-/
namespace Go.Proofs.YtnaebjdccngeoaaDoor
open Go.ChangeShapes Go.WideShapes Go.ChangeAt Go.RowKit Go.Deep

theorem infoSlc : (Tryd.prog.info? 23).map (fun i => (i.zero, i.size, i.bytes)) = some (some (.slice none 0 0), 1, 24) := by kernel_rfl

/-- Y: slices, one for each list of R. -/
structure RowsIs (w : World) (Y : List Value) (R : List (List Nat)) : Prop where
  len : Y.length = R.length
  row : ∀ (j : Nat) (b : List Nat), R[j]? = some b → ∃ (A : Option Addr) (n c : Nat), Y[j]? = some (Value.slice A n c) ∧ Came w A n c b ∧ n ≤ 140737488355328
theorem RowsIs.one {w : World} {Y : List Value} {R : List (List Nat)} (h : RowsIs w Y R) : ∀ v ∈ Y, v.oneCell' = true := fun v hv => by
  obtain ⟨j, hj⟩ := List.mem_iff_getElem?.1 hv
  have hlt : j < R.length := by rw [← h.len]; exact (List.getElem?_eq_some_iff.1 hj).1
  obtain ⟨A, n, c, e, _⟩ := h.row j R[j] (List.getElem?_eq_getElem hlt)
  rw [hj] at e
  cases e
  rfl
theorem RowsIs.append {w : World} {Y Z : List Value} {R S : List (List Nat)} (h : RowsIs w Y R) (h2 : RowsIs w Z S) : RowsIs w (Y ++ Z) (R ++ S) :=
  ⟨by rw [List.length_append, List.length_append, h.len, h2.len], fun j b hb => by
    by_cases hj : j < R.length
    · rw [List.getElem?_append_left hj] at hb
      rw [List.getElem?_append_left (by rw [h.len]; exact hj)]
      exact h.row j b hb
    · rw [List.getElem?_append_right (by omega)] at hb
      rw [List.getElem?_append_right (by rw [h.len]; omega), h.len]
      exact h2.row _ b hb⟩
theorem RowsIs.take {w : World} {Y : List Value} {R : List (List Nat)} (h : RowsIs w Y R) (k : Nat) : RowsIs w (Y.take k) (R.take k) :=
  ⟨by rw [List.length_take, List.length_take, h.len], fun j b hb => by
    rw [List.getElem?_take] at hb ⊢
    split at hb
    · rename_i hj; rw [if_pos hj]; exact h.row j b hb
    · cases hb⟩
theorem rowsIs_nil (w : World) : RowsIs w [] [] := ⟨rfl, fun j b hb => by simp at hb⟩
theorem rowsIs_one {w : World} {A : Option Addr} {n c : Nat} {b : List Nat} (h : Came w A n c b) (hn : n ≤ 140737488355328) : RowsIs w [.slice A n c] [b] := ⟨rfl, fun j x hx => by
  cases j with
  | zero => cases hx; exact ⟨A, n, c, rfl, h, hn⟩
  | succ j => simp at hx⟩
theorem rows_out {w : World} {A : Option Addr} {n : Nat} {R : List (List Nat)} (h : CameRows w A n R) : ∃ Y, RowsIs w Y R ∧ ∀ (j : Nat) (v : Value), Y[j]? = some v → ∃ ad, A = some ad ∧ w.cell? (ad.add j) = some v := by
  have key : ∀ j, j < R.length → ∃ v : Value, (∃ B m c, v = .slice B m c ∧ Came w B m c (R.getD j []) ∧ m ≤ 140737488355328) ∧ ∃ ad, A = some ad ∧ w.cell? (ad.add j) = some v := fun j hj => by
    obtain ⟨ad, B, m, c, e, hc, hcame, hm⟩ := h.row j R[j] (List.getElem?_eq_getElem hj)
    refine ⟨_, ⟨B, m, c, rfl, ?_, hm⟩, ad, e, hc⟩
    rw [List.getD_eq_getElem?_getD, List.getElem?_eq_getElem hj]
    exact hcame
  obtain ⟨f, hf⟩ := choose_lt key
  refine ⟨(List.range R.length).map f, ⟨by simp, fun j b hb => ?_⟩, fun j v hv => ?_⟩
  · have hlt := (List.getElem?_eq_some_iff.1 hb).1
    obtain ⟨⟨B, m, c, e, hcame, hm⟩, _⟩ := hf j hlt
    refine ⟨B, m, c, ?_, ?_, hm⟩
    · rw [List.getElem?_map, List.getElem?_range hlt]; simp [e]
    · rw [List.getD_eq_getElem?_getD, hb] at hcame; exact hcame
  · rw [List.getElem?_map] at hv
    obtain ⟨i, hi, rfl⟩ := Option.map_eq_some_iff.1 hv
    have hlt : j < R.length := by have := (List.getElem?_eq_some_iff.1 hi).1; simpa using this
    rw [List.getElem?_range hlt] at hi
    cases hi
    exact (hf j hlt).2

theorem rows_nil {H : Type} {enc : TypeId × Value → H} {w : World} {base : Nat} {held : Bool} {fuel n c : Nat} {A : Option Addr} {x : DataW H × List MemPlace} (h : DataW.trod enc Tryd.prog w base (fun _ => true) held fuel 22 [.slice A n c] = some x) : A = none → c = 0 := by
  intro e
  subst e
  rcases open_int_rows Tryd.underlying22 Tryd.underlying23 Tryd.underlying5 (by kernel_rfl) (by kernel_rfl) h with ⟨e, _⟩ | ⟨a, len, cap, B, L, C, Z, e, _⟩
  · simp at e; exact e.2
  · simp at e

theorem run_rapp (w : World) (ty : TypeId) (base : Nat) (A : Option Addr) (n c : Nat) (X : List Value) (hown : w.ownsRow base 23 1 (.slice A n c) n X)
    (A2 : Option Addr) (m c2 : Nat) (Y : List Value) (hl : Y.length = m) (hin : ∀ (j : Nat) (v : Value), Y[j]? = some v → ∃ ad, A2 = some ad ∧ w.cell? (ad.add j) = some v) (h1 : ∀ v ∈ Y, v.oneCell' = true) (hnil : A2 = none → c2 = 0) (hle : n + m ≤ 1000000) (hbase : base ≤ w.heap.size) :
    ∃ A' c' w', (Builtin.append_ #[22, 22] ty #[.slice A n c, .slice A2 m c2]).run Tryd.prog w = .ok (.slice A' (n + m) c') w' ∧
      w'.ownsRow base 23 1 (.slice A' (n + m) c') (n + m) (X ++ Y) ∧ Below base w w' := by
  obtain ⟨i0, hi, hz0, hz1, hz2⟩ := info_parts infoSlc
  cases A2 with
  | none =>
    obtain rfl := hnil rfl
    have hy : Y = [] := by
      cases Y with
      | nil => rfl
      | cons y ys =>
        obtain ⟨ad, e, _⟩ := hin 0 y rfl
        cases e
    subst hy
    obtain rfl : m = 0 := hl.symm
    exact ⟨A, c, w, run_append_owned_none (P := Tryd.prog) (w := w) base 22 ty 23 i0 1 Tryd.underlying22 hi _ n X hown, by simpa using hown, Below.refl _ _⟩
  | some ad =>
    obtain ⟨v', w', hr, h2, h3, _⟩ := run_append_own (P := Tryd.prog) w base 22 ty 23 i0 _ 1 24 Tryd.underlying22 hi hz0 hz1 hz2 rfl (by decide) _ n X hown ad m c2 Y (by rw [hl]; simp)
      (fun j u hu => by
        obtain ⟨ad', e, hc⟩ := hin j u hu
        cases e
        exact hc) h1 (by unfold maxLen; omega) (by omega) hbase
    have hf : ∃ A c, v' = .slice A (n + m) c := by
      rcases h2.2 with ⟨rfl, e⟩ | ⟨g, cap, cur, rfl, _⟩
      · rw [e]; exact ⟨_, _, rfl⟩
      · exact ⟨_, _, rfl⟩
    obtain ⟨A', c', rfl⟩ := hf
    exact ⟨A', c', w', hr, h2, (Below.refl _ _).grown h3 hbase fun k hk => (hown.lt k hk).1⟩

theorem step_rapp {ops : Array Oper} {o : Oper} {a : Act} {w : World} {K : Act → World → Prop} {Q : Exit → Act → World → Prop} {E : Prop} (hgd : o.guard = none) (s x : Operand)
    (ho : o.op = .call { callee := .builtin .append, args := #[s, x], argTypes := #[22, 22] })
    (base : Nat) (A : Option Addr) (n c : Nat) (X : List Value) (hs : a.eval s = .slice A n c) (hown : w.ownsRow base 23 1 (.slice A n c) n X)
    (A2 : Option Addr) (m c2 : Nat) (Y : List Value) (hx : a.eval x = .slice A2 m c2) (hl : Y.length = m) (hin : ∀ (j : Nat) (v : Value), Y[j]? = some v → ∃ ad, A2 = some ad ∧ w.cell? (ad.add j) = some v) (h1 : ∀ v ∈ Y, v.oneCell' = true) (hnil : A2 = none → c2 = 0) (N : Nat) (hN : n + m = N) (hle : N ≤ 1000000) (hbase : base ≤ w.heap.size)
    (h : ∀ A' c' w', w'.ownsRow base 23 1 (.slice A' N c') N (X ++ Y) → Below base w w' → K (a.put o.dst (.slice A' N c')) w') :
    if Region.wanted o (yielded ops a.tmps) = true then Oper.wp Tryd.prog o a w K Q else E := by
  subst hN
  have hw : Region.wanted o (yielded ops a.tmps) = true := by simp [Region.wanted, hgd]
  rw [if_pos hw]
  obtain ⟨A', c', w', hr, h2, h3⟩ := run_rapp w o.type base A n c X hown A2 m c2 Y hl hin h1 hnil hle hbase
  unfold Oper.wp execOp
  simp only [ho, resolve, invoke, builtin, Sem.run_bind, Sem.run_pure, Result.andThen_ok, List.map_toArray, List.map_cons, List.map_nil, hs, hx, hr]
  exact h A' c' w' h2 h3

/-- A row of slices in blocks of O; what they read was there at v. -/
structure RowIn (v W : World) (O : Nat → Prop) (A : Option Addr) (n : Nat) (R : List (List Nat)) : Prop where
  len : R.length = n
  row : ∀ (r : Nat) (b : List Nat), R[r]? = some b → ∃ (ad : Addr) (B : Option Addr) (m c : Nat), A = some ad ∧ O ad.block ∧ W.cell? (ad.add r) = some (Value.slice B m c) ∧ Came v B m c b ∧ m ≤ 140737488355328
section
variable {v W W' : World} {O S : Nat → Prop} {A : Option Addr} {n c : Nat} {R : List (List Nat)}
theorem RowIn.came (h : RowIn v W O A n R) (hb : Below v.heap.size v W) : CameRows W A n R := ⟨h.len, fun r b hr => by
  obtain ⟨ad, B, m, c, e, _, hc, hcame, hm⟩ := h.row r b hr
  exact ⟨ad, B, m, c, e, hc, hcame.below hb, hm⟩⟩
theorem RowIn.but (h : RowIn v W O A n R) (hb : But S W W') (hO : ∀ x, O x → ¬ S x) : RowIn v W' O A n R := ⟨h.len, fun r b hr => by
  obtain ⟨ad, B, m, c, e, ho, hc, hcame, hm⟩ := h.row r b hr
  have hlt := World.block_lt_of_cell? W _ hc
  have hbl : (ad.add r).block = ad.block := block_add _ _
  refine ⟨ad, B, m, c, e, ho, ?_, hcame, hm⟩
  exact (World.cell?_of_block (w := W) (hb.block _ hlt (by rw [hbl]; exact hO _ ho))).trans hc⟩
theorem RowIn.below (h : RowIn v W O A n R) (hb : Below W.heap.size W W') : RowIn v W' O A n R := h.but (S := fun _ => False) (But.of_below hb) (fun _ _ hf => hf)
theorem rowIn_of_own {base : Nat} {e : TypeId} {Y : List Value} (h : W.ownsRow base e 1 (.slice A n c) n Y) (hY : RowsIs v Y R) : RowIn v W (fun x => base ≤ x ∧ x < W.heap.size) A n R := by
  have hlen : R.length = n := by rw [← hY.len, h.1]; omega
  refine ⟨hlen, fun r b hr => ?_⟩
  obtain ⟨B, m, k, hy, hcame, hm⟩ := hY.row r b hr
  rcases h.2 with ⟨e1, h0⟩ | ⟨g, cap, cur, e1, hg, _⟩
  · have := (List.getElem?_eq_some_iff.1 hr).1
    omega
  · cases e1
    have hc := h.cells rfl r _ hy
    refine ⟨_, B, m, k, rfl, ⟨hg, ?_⟩, hc, hcame, hm⟩
    have := World.block_lt_of_cell? W _ hc
    rwa [block_add] at this
end

end Go.Proofs.YtnaebjdccngeoaaDoor

/-
  Entries as they are handed on: a slice of them, its beginning, its end.
-/
namespace Go.Proofs.YtnaebjdccngeoaaDoor
open Go.RowKit

/-- A slice of entries, none of which is long. -/
structure Ent (w : World) (A : Option Addr) (n c : Nat) (R : List (List Nat)) : Prop where
  rows : CameRows w A n R
  cap : n ≤ c
  nil : A = none → c = 0
  small : ∀ b ∈ R, b.length ≤ 20000
theorem Ent.below {w w' : World} {A : Option Addr} {n c : Nat} {R : List (List Nat)} (h : Ent w A n c R) (hb : Below w.heap.size w w') : Ent w' A n c R := ⟨h.rows.below hb, h.cap, h.nil, h.small⟩
theorem Ent.len {w : World} {A : Option Addr} {n c : Nat} {R : List (List Nat)} (h : Ent w A n c R) : R.length = n := h.rows.len
theorem Ent.take {w : World} {A : Option Addr} {n c k : Nat} {R : List (List Nat)} (h : Ent w A n c R) (hk : k ≤ n) : Ent w A k c (R.take k) :=
  ⟨⟨by rw [List.length_take, h.len]; omega, fun r xs hx => by
    rw [List.getElem?_take] at hx
    split at hx
    · exact h.rows.row r xs hx
    · cases hx⟩, Nat.le_trans hk h.cap, h.nil, fun b hb => h.small b (List.mem_of_mem_take hb)⟩
theorem Ent.drop {w : World} {ad : Addr} {n c k : Nat} {R : List (List Nat)} (h : Ent w (some ad) n c R) : Ent w (some (ad.add k)) (n - k) (c - k) (R.drop k) :=
  ⟨⟨by rw [List.length_drop, h.len], fun r xs hx => by
    rw [List.getElem?_drop] at hx
    obtain ⟨ad', B, m, d, e, hc, hcame, hm⟩ := h.rows.row _ xs hx
    cases e
    exact ⟨_, B, m, d, rfl, by rw [add_add]; exact hc, hcame, hm⟩⟩, Nat.sub_le_sub_right h.cap k, (fun e => by cases e), fun b hb => h.small b (List.mem_of_mem_drop hb)⟩
/-- The entry at a place. -/
theorem Ent.at_ {w : World} {A : Option Addr} {n c j : Nat} {R : List (List Nat)} (h : Ent w A n c R) (hj : j < n) : ∃ ad B m d b, A = some ad ∧ R[j]? = some b ∧ w.cell? (ad.add j) = some (.slice B m d) ∧ Came w B m d b ∧ m ≤ 20000 := by
  obtain ⟨b, hb⟩ : ∃ b, R[j]? = some b := ⟨_, List.getElem?_eq_getElem (by rw [h.len]; exact hj)⟩
  obtain ⟨ad, B, m, d, e, hc, hcame, _⟩ := h.rows.row j b hb
  exact ⟨ad, B, m, d, b, e, hb, hc, hcame, by have := h.small b (List.mem_of_getElem? hb); rw [hcame.in_.len] at this; exact this⟩
theorem Ent.some_ {w : World} {A : Option Addr} {n c : Nat} {R : List (List Nat)} (h : Ent w A n c R) (h0 : 0 < n) : ∃ ad, A = some ad := by
  obtain ⟨ad, _, _, _, _, e, _⟩ := h.at_ h0
  exact ⟨ad, e⟩

theorem run_takeR {A : Option Addr} {n c k : Nat} (hk : k ≤ n) (hc : n ≤ c) (hn : A = none → c = 0) (W : World) :
    (Instr.slice 22 (.slice A n c) none (some (.int .i64 (k : Int))) none).run Tryd.prog W = .ok (.slice A k c) W := by
  obtain ⟨i0, hi, hz0, hz1, hz2⟩ := info_parts infoSlc
  have he : Tryd.prog.elem 22 = 23 := by kernel_rfl
  rw [run_slice_h W 22 A n c (by rw [he]; exact Tryd.underlying22) .i64 (k : Int) (by omega) (by omega), he]
  cases A with
  | none =>
    obtain rfl := hn rfl
    obtain rfl : k = 0 := by omega
    simp [sizeOf, typeInfo, hi, hz1, sliced]
  | some ad => simp [sizeOf, typeInfo, hi, hz1, sliced, add_zero']
theorem run_dropR {ad : Addr} {n c k : Nat} (hk : k < n) (hc : n ≤ c) (W : World) :
    (Instr.slice 22 (.slice (some ad) n c) (some (.int .i64 (k : Int))) none none).run Tryd.prog W = .ok (.slice (some (ad.add k)) (n - k) (c - k)) W := by
  obtain ⟨i0, hi, hz0, hz1, hz2⟩ := info_parts infoSlc
  have he : Tryd.prog.elem 22 = 23 := by kernel_rfl
  rw [run_slice_l W 22 (some ad) n c (by rw [he]; exact Tryd.underlying22) .i64 (k : Int) (by omega) (by omega), he]
  have hne : c ≠ k := by omega
  simp [sizeOf, typeInfo, hi, hz1, sliced, hne]

end Go.Proofs.YtnaebjdccngeoaaDoor

/-
  clashes.parted: the first entries of both lists, and the others.
-/
namespace Go.Proofs.YtnaebjdccngeoaaDoor
open Go.RowKit

theorem infoRws : (Tryd.prog.info? 22).map (fun i => (i.zero, i.size, i.bytes)) = some (some (.slice none 0 0), 1, 24) := by kernel_rfl
theorem sizeBoth : (Tryd.prog.info? 66).map (·.size) = some 2 := by kernel_rfl
theorem run_load_both {w : World} {ad : Addr} {x y : Value} (h0 : w.cell? ad = some x) (h1 : w.cell? (ad.add 1) = some y) : (loadVar 66 ad).run Tryd.prog w = .ok (.agg #[x, y]) w := by
  have hl := cells_at h0 h1
  have hagg : (isAgg 66).run Tryd.prog w = .ok true w := by
    unfold isAgg
    rw [Sem.run_bind, run_underlying Tryd.underlying66 w]
    rfl
  cases hq : Tryd.prog.info? 66 with
  | none => have := sizeBoth; simp [hq] at this
  | some i =>
    have hs : i.size = 2 := by have := sizeBoth; simpa [hq] using this
    simp [loadVar, Sem.run_bind, hagg, sizeOf, typeInfo, hq, hs, hl]

/-- One of both. -/
theorem run_index_both (x y : Value) (j : Nat) (v : Value) (hv : #[x, y][j]? = some v) (w : World) : (Instr.index 66 (.agg #[x, y]) (.int .i64 (j : Int))).run Tryd.prog w = .ok v w := by
  obtain ⟨i0, hi, hz0, hz1, hz2⟩ := info_parts infoRws
  have hj : j < 2 := (Array.getElem?_eq_some_iff.1 hv).1
  have hv' : [x, y][j]? = some v := by simpa using hv
  simp [Instr.index, run_underlying Tryd.underlying66, asIntOf, sizeOf, typeInfo, hi, hz1, part]
  rw [if_pos hj, hv']
  rfl

theorem load_both_op {o : Oper} {a : Act} {W : World} {g : Nat} {T : TypeId} {x y : Value} (p : Operand) (ho : o.op = .load 66 p) (hp : a.eval p = .pointer (some ⟨g, 0, none⟩)) (h : Cells W g T #[x, y]) : (execOp a.eval o).run Tryd.prog W = .ok (.value (.agg #[x, y])) W := by
  unfold execOp
  simp only [ho, hp, Instr.loadAt, Instr.sureAddr, Sem.run_bind, Sem.run_pure, Result.andThen_ok, run_load_both (h.cell 0 (v := x) rfl) (h.cell 1 (v := y) rfl)]
theorem Cells.set {w : World} {g : Nat} {T : TypeId} {cs : Array Value} (h : Cells w g T cs) (i : Nat) (v : Value) : Cells (w.setCell ⟨g, i, none⟩ v) g T (cs.setIfInBounds i v) := by
  unfold Cells
  rw [heap_setCell_same w g i _ T _ h]
theorem Cells.set_other {w : World} {g : Nat} {T : TypeId} {cs : Array Value} (h : Cells w g T cs) (a : Addr) (v : Value) (hne : g ≠ a.block) : Cells (w.setCell a v) g T cs := by
  unfold Cells
  rw [heap_setCell_other w a g v hne]
  exact h
theorem below_setC {g : Nat} {w w' : World} {a : Addr} {v : Value} (h : Below g w w') (ha : g ≤ a.block) : Below g w (w'.setCell a v) :=
  ⟨h.os, h.tape, h.output, by rw [World.size_setCell]; exact h.size, fun b hb => (heap_setCell_other w' a b v (by omega)).trans (h.block b hb)⟩
/-- Two results that lie in memory. -/
theorem results_cell_cell {P : Program} {fn : Func} {p q : Tmp} {ty ty2 : TypeId} (h : fn.results = #[.cell p ty, .cell q ty2]) (tmps : Array Value) (w : World) (ad ad2 : Addr) (v v2 : Value)
    (hp : tmps.getD p undef = .pointer (some ad)) (hq : tmps.getD q undef = .pointer (some ad2)) (hl : (loadVar ty ad).run P w = .ok v w) (hl2 : (loadVar ty2 ad2).run P w = .ok v2 w) : (results fn tmps).run P w = .ok (.tuple #[v, v2]) w := by
  have hp' : tmps[p]?.getD undef = .pointer (some ad) := by simpa using hp
  have hq' : tmps[q]?.getD undef = .pointer (some ad2) := by simpa using hq
  simp [results, h, hp', hq', asAddr, hl, hl2]

/-- What stands in 'first', in 'others' behind j rounds. -/
def firstsA (u v : Value) : Nat → Array Value
  | 0 => #[.slice none 0 0, .slice none 0 0]
  | 1 => #[u, .slice none 0 0]
  | _ => #[u, v]

set_option maxRecDepth 100000 in
set_option maxHeartbeats 4000000 in
theorem parted_any {w : World} {A B : Addr} {n c m d k : Nat} (hkn : k < n) (hkm : k < m) (hn : n ≤ c) (hm : m ≤ d) :
    Calls Tryd.prog 68 #[.agg #[.slice (some A) n c, .slice (some B) m d], .int .i64 (k : Int)] w fun e w' =>
      e = .returned (.tuple #[.agg #[.slice (some A) k c, .slice (some B) k d], .agg #[.slice (some (A.add k)) (n - k) (c - k), .slice (some (B.add k)) (m - k) (d - k)]]) ∧ Below w.heap.size w w' := by
  obtain ⟨g, hg⟩ : ∃ g, w.heap.size = g := ⟨_, rfl⟩
  have h0 := Cells.new w 66 #[.slice (some A) n c, .slice (some B) m d]
  have b0 := below_alloc w (.cells #[.slice (some A) n c, .slice (some B) m d] 66)
  obtain ⟨w0, e0⟩ : ∃ w0, w0 = w.alloc (.cells #[.slice (some A) n c, .slice (some B) m d] 66) := ⟨_, rfl⟩
  have s0 : w0.heap.size = g + 1 := by rw [e0]; simp [hg]
  rw [← e0] at h0 b0
  have h1 := Cells.new w0 66 #[.slice none 0 0, .slice none 0 0]
  have b1 := below_alloc w0 (.cells #[.slice none 0 0, .slice none 0 0] 66)
  obtain ⟨w1, e1⟩ : ∃ w1, w1 = w0.alloc (.cells #[.slice none 0 0, .slice none 0 0] 66) := ⟨_, rfl⟩
  have s1 : w1.heap.size = g + 2 := by rw [e1]; simp [s0]
  rw [← e1] at h1 b1
  have h2 := Cells.new w1 66 #[.slice none 0 0, .slice none 0 0]
  have b2 := below_alloc w1 (.cells #[.slice none 0 0, .slice none 0 0] 66)
  obtain ⟨w2, e2⟩ : ∃ w2, w2 = w1.alloc (.cells #[.slice none 0 0, .slice none 0 0] 66) := ⟨_, rfl⟩
  have s2 : w2.heap.size = g + 3 := by rw [e2]; simp [s1]
  rw [← e2] at h2 b2
  rw [hg] at h0 b0
  rw [s0] at h1
  rw [s1] at h2
  have hb := below_on (below_on b0 (by omega) b1) (by omega) b2
  have x0 : w2.cell? ⟨g, 0, none⟩ = some (.slice (some A) n c) := ((h0.below b1).below b2).cell 0 rfl
  have x1 : w2.cell? ⟨g, 1, none⟩ = some (.slice (some B) m d) := ((h0.below b1).below b2).cell 1 rfl
  have HI := Lib.hid (And.intro (h1.below b2) (And.intro h2 hb))
  have HW := Lib.hid (show w2 = ((w.alloc (.cells #[.slice (some A) n c, .slice (some B) m d] 66)).alloc (.cells #[.slice none 0 0, .slice none 0 0] 66)).alloc (.cells #[.slice none 0 0, .slice none 0 0] 66) by rw [e2, e1, e0])
  have t1 := fun W => run_takeR (A := some A) (n := n) (c := c) (k := k) (by omega) hn (fun e => by cases e) W
  have t2 := fun W => run_takeR (A := some B) (n := m) (c := d) (k := k) (by omega) hm (fun e => by cases e) W
  have t3 := fun W => run_dropR (ad := A) (n := n) (c := c) (k := k) hkn hn W
  have t4 := fun W => run_dropR (ad := B) (n := m) (c := d) (k := k) hkm hm W
  have ix0 : ∀ W : World, (Instr.index 66 (.agg #[.slice (some A) n c, .slice (some B) m d]) (.int .i64 0)).run Tryd.prog W = .ok (.slice (some A) n c) W := fun W => run_index_both _ _ 0 _ rfl W
  have ix1 : ∀ W : World, (Instr.index 66 (.agg #[.slice (some A) n c, .slice (some B) m d]) (.int .i64 1)).run Tryd.prog W = .ok (.slice (some B) m d) W := fun W => run_index_both _ _ 1 _ rfl W
  have HG := Lib.hid hg
  rw [hg]
  clear h0 b0 e0 s0 h1 b1 e1 s1 h2 b2 e2 s2 hb hkn hkm hn hm hg
  go_enter Tryd.func68, Tryd.ntmps68
  go_upto_region 1 with fail
  rw [← HW.out]
  rw [HG.out]
  go_wp2
  go_loopw [6, 7, 9] (fun _ _ i wr => ∃ j : Nat, j ≤ 2 ∧ i = .int .i64 (j : Int) ∧ Hid (Cells wr (g + 1) 66 (firstsA (.slice (some A) k c) (.slice (some B) k d) j) ∧ Cells wr (g + 2) 66 (firstsA (.slice (some (A.add k)) (n - k) (c - k)) (.slice (some (B.add k)) (m - k) (d - k)) j) ∧ Below g w wr)) (fun _ _ i _ => 2 - (intOf i).toNat)
  case atStart => exact ⟨0, by omega, rfl, HI⟩
  case round =>
    obtain ⟨j, hj, rfl, HR⟩ := hrel
    obtain rfl | rfl | rfl : j = 0 ∨ j = 1 ∨ j = 2 := by omega
    · have c1 := HR.out.1.cell 0 (v := .slice none 0 0) rfl
      have c2 := HR.out.2.1.cell 0 (v := .slice none 0 0) rfl
      have f1 := HR.out.1.free 0
      have f2 := HR.out.2.1.free 0
      go_upto_region 4 with fail
      refine wp_region_held_drew (S := fun _ => True) (by kernel_rfl) trivial (fun _ => ?_)
      change wpAnyH _ _ _ _ _ _ _ _ wr.drew
      refine' wpAnyH_take (i := 0) (oi := _) (v := _) ?hia0 (by kernel_rfl) ?hfa0 ?hra0 ?hQa0 ?hya0 trivial ?resta0
      case hia0 => (simp only [List.getElem?_toArray, List.getElem?_cons_zero]; rfl)
      case hfa0 => kernel_rfl
      case hra0 => kernel_rfl
      case hQa0 => exact fun _ _ _ h => h
      case hya0 => refine Or.inl ⟨by rfl, ?_⟩; intro W hSw; go_simp; try with_reducible rfl
      try simp only [Act.put, List.setIfInBounds_toArray, List.set_cons_zero, List.set_cons_succ]
      refine' wpAnyH_take (i := 1) (oi := _) (v := _) ?hia1 (by kernel_rfl) ?hfa1 ?hra1 ?hQa1 ?hya1 trivial ?resta1
      case hia1 => (simp only [List.getElem?_toArray, List.getElem?_cons_zero, List.getElem?_cons_succ]; rfl)
      case hfa1 => kernel_rfl
      case hra1 => kernel_rfl
      case hQa1 => exact fun _ _ _ h => h
      case hya1 => refine Or.inl ⟨by rfl, ?_⟩; intro W hSw; go_simp; try with_reducible rfl
      try simp only [Act.put, List.setIfInBounds_toArray, List.set_cons_zero, List.set_cons_succ]
      refine' wpAnyH_take (i := 2) (oi := _) (v := _) ?hia2 (by kernel_rfl) ?hfa2 ?hra2 ?hQa2 ?hya2 trivial ?resta2
      case hia2 => (simp only [List.getElem?_toArray, List.getElem?_cons_zero, List.getElem?_cons_succ]; rfl)
      case hfa2 => kernel_rfl
      case hra2 => kernel_rfl
      case hQa2 => exact fun _ _ _ h => h
      case hya2 => refine Or.inl ⟨by rfl, ?_⟩; intro W hSw; go_simp; try with_reducible rfl
      try simp only [Act.put, List.setIfInBounds_toArray, List.set_cons_zero, List.set_cons_succ]
      refine' wpAnyH_take (i := 3) (oi := _) (v := _) ?hia3 (by kernel_rfl) ?hfa3 ?hra3 ?hQa3 ?hya3 trivial ?resta3
      case hia3 => (simp only [List.getElem?_toArray, List.getElem?_cons_zero, List.getElem?_cons_succ]; rfl)
      case hfa3 => kernel_rfl
      case hra3 => kernel_rfl
      case hQa3 => exact fun _ _ _ h => h
      case hya3 => refine Or.inl ⟨by rfl, ?_⟩; intro W hSw; go_simp; try with_reducible rfl
      try simp only [Act.put, List.setIfInBounds_toArray, List.set_cons_zero, List.set_cons_succ]
      refine' wpAnyH_take (i := 4) (oi := _) (v := _) ?hia4 (by kernel_rfl) ?hfa4 ?hra4 ?hQa4 ?hya4 trivial ?resta4
      case hia4 => (simp only [List.getElem?_toArray, List.getElem?_cons_zero, List.getElem?_cons_succ]; rfl)
      case hfa4 => kernel_rfl
      case hra4 => kernel_rfl
      case hQa4 => exact fun _ _ _ h => h
      case hya4 => refine Or.inl ⟨by rfl, ?_⟩; intro W hSw; go_simp; try with_reducible rfl
      try simp only [Act.put, List.setIfInBounds_toArray, List.set_cons_zero, List.set_cons_succ]
      refine' wpAnyH_take (i := 5) (oi := _) (v := _) ?hia5 (by kernel_rfl) ?hfa5 ?hra5 ?hQa5 ?hya5 trivial ?resta5
      case hia5 => (simp only [List.getElem?_toArray, List.getElem?_cons_zero, List.getElem?_cons_succ]; rfl)
      case hfa5 => kernel_rfl
      case hra5 => kernel_rfl
      case hQa5 => exact fun _ _ _ h => h
      case hya5 => refine Or.inl ⟨by rfl, ?_⟩; intro W hSw; go_simp; try with_reducible rfl
      try simp only [Act.put, List.setIfInBounds_toArray, List.set_cons_zero, List.set_cons_succ]
      refine' wpAnyH_take (i := 6) (oi := _) (v := _) ?hia6 (by kernel_rfl) ?hfa6 ?hra6 ?hQa6 ?hya6 trivial ?resta6
      case hia6 => (simp only [List.getElem?_toArray, List.getElem?_cons_zero, List.getElem?_cons_succ]; rfl)
      case hfa6 => kernel_rfl
      case hra6 => kernel_rfl
      case hQa6 => exact fun _ _ _ h => h
      case hya6 => refine Or.inl ⟨by rfl, ?_⟩; intro W hSw; go_simp; try with_reducible rfl
      try simp only [Act.put, List.setIfInBounds_toArray, List.set_cons_zero, List.set_cons_succ]
      refine' wpAnyH_take (i := 7) (oi := _) (v := _) ?hia7 (by kernel_rfl) ?hfa7 ?hra7 ?hQa7 ?hya7 trivial ?resta7
      case hia7 => (simp only [List.getElem?_toArray, List.getElem?_cons_zero, List.getElem?_cons_succ]; rfl)
      case hfa7 => kernel_rfl
      case hra7 => kernel_rfl
      case hQa7 => exact fun _ _ _ h => h
      case hya7 => refine Or.inl ⟨by rfl, ?_⟩; intro W hSw; go_simp; try with_reducible rfl
      try simp only [Act.put, List.setIfInBounds_toArray, List.set_cons_zero, List.set_cons_succ]
      refine' wpAnyH_take (i := 8) (oi := _) (v := _) ?hia8 (by kernel_rfl) ?hfa8 ?hra8 ?hQa8 ?hya8 trivial ?resta8
      case hia8 => (simp only [List.getElem?_toArray, List.getElem?_cons_zero, List.getElem?_cons_succ]; rfl)
      case hfa8 => kernel_rfl
      case hra8 => kernel_rfl
      case hQa8 => exact fun _ _ _ h => h
      case hya8 => refine Or.inl ⟨by rfl, ?_⟩; intro W hSw; go_simp; try with_reducible rfl
      try simp only [Act.put, List.setIfInBounds_toArray, List.set_cons_zero, List.set_cons_succ]
      refine wpAnyH_ready (rs := [9]) (by kernel_rfl) (by simp) ?_
      refine' AllReadyH.cons (o := _) ?hia9 (fun K hK => ?_) AllReadyH.nil
      case hia9 => (simp only [List.getElem?_toArray, List.getElem?_cons_zero, List.getElem?_cons_succ]; rfl)
      rw [if_pos (by rfl)]
      go_simp
      refine hK.out _ _ trivial (fun _ => ?_)
      clear hK K
      try simp only [Act.put, List.setIfInBounds_toArray, List.set_cons_zero, List.set_cons_succ]
      have e1 := HR.out.1.set 0 (.slice (some A) k c)
      have e2 := HR.out.2.1.set_other ⟨g + 1, 0, none⟩ (.slice (some A) k c) (by simp)
      have e3 : Below g w (wr.setCell ⟨g + 1, 0, none⟩ (.slice (some A) k c)) := below_setC HR.out.2.2 (by simp)
      generalize (wr.setCell ⟨g + 1, 0, none⟩ (.slice (some A) k c)) = wy at e1 e2 e3 ⊢
      have c2 : wy.drew.cell? ⟨g + 2, 0, none⟩ = some (.slice none 0 0) := e2.cell 0 rfl
      have f2 : wy.drew.frozen? ⟨g + 2, 0, none⟩ = false := e2.free 0
      refine' wpAnyH_take (i := 10) (oi := _) (v := _) ?hia10 (by kernel_rfl) ?hfa10 ?hra10 ?hQa10 ?hya10 trivial ?resta10
      case hia10 => (simp only [List.getElem?_toArray, List.getElem?_cons_zero, List.getElem?_cons_succ]; rfl)
      case hfa10 => kernel_rfl
      case hra10 => kernel_rfl
      case hQa10 => exact fun _ _ _ h => h
      case hya10 => refine Or.inl ⟨by rfl, ?_⟩; intro W hSw; go_simp; try with_reducible rfl
      try simp only [Act.put, List.setIfInBounds_toArray, List.set_cons_zero, List.set_cons_succ]
      refine wpAnyH_ready (rs := [11]) (by kernel_rfl) (by simp) ?_
      refine' AllReadyH.cons (o := _) ?hia11 (fun K hK => ?_) AllReadyH.nil
      case hia11 => (simp only [List.getElem?_toArray, List.getElem?_cons_zero, List.getElem?_cons_succ]; rfl)
      rw [if_pos (by rfl)]
      go_simp
      refine hK.out _ _ trivial (fun _ => ?_)
      clear hK K
      try simp only [Act.put]
      have e4 := e2.set 0 (.slice (some (A.add k)) (n - k) (c - k))
      have e5 := e1.set_other ⟨g + 2, 0, none⟩ (.slice (some (A.add k)) (n - k) (c - k)) (by simp)
      have e6 : Below g w (wy.setCell ⟨g + 2, 0, none⟩ (.slice (some (A.add k)) (n - k) (c - k))) := below_setC e3 (by simp)
      generalize (wy.setCell ⟨g + 2, 0, none⟩ (.slice (some (A.add k)) (n - k) (c - k))) = wz at e4 e5 e6 ⊢
      clear c1 c2 f1 f2 e1 e2 e3
      refine wpAnyH_done (by kernel_rfl) ?_ _
      go_wp2_with fail
      go_roundw
      case rel => exact ⟨1, by omega, by go_num, Lib.hid ⟨e5, e4, e6.drew⟩⟩
      case measure => simp [intOf]
    · have c1 := HR.out.1.cell 1 (v := .slice none 0 0) rfl
      have c2 := HR.out.2.1.cell 1 (v := .slice none 0 0) rfl
      have f1 := HR.out.1.free 1
      have f2 := HR.out.2.1.free 1
      go_upto_region 4 with fail
      refine wp_region_held_drew (S := fun _ => True) (by kernel_rfl) trivial (fun _ => ?_)
      change wpAnyH _ _ _ _ _ _ _ _ wr.drew
      refine' wpAnyH_take (i := 0) (oi := _) (v := _) ?hib0 (by kernel_rfl) ?hfb0 ?hrb0 ?hQb0 ?hyb0 trivial ?restb0
      case hib0 => (simp only [List.getElem?_toArray, List.getElem?_cons_zero]; rfl)
      case hfb0 => kernel_rfl
      case hrb0 => kernel_rfl
      case hQb0 => exact fun _ _ _ h => h
      case hyb0 => refine Or.inl ⟨by rfl, ?_⟩; intro W hSw; go_simp; try with_reducible rfl
      try simp only [Act.put, List.setIfInBounds_toArray, List.set_cons_zero, List.set_cons_succ]
      refine' wpAnyH_take (i := 1) (oi := _) (v := _) ?hib1 (by kernel_rfl) ?hfb1 ?hrb1 ?hQb1 ?hyb1 trivial ?restb1
      case hib1 => (simp only [List.getElem?_toArray, List.getElem?_cons_zero, List.getElem?_cons_succ]; rfl)
      case hfb1 => kernel_rfl
      case hrb1 => kernel_rfl
      case hQb1 => exact fun _ _ _ h => h
      case hyb1 => refine Or.inl ⟨by rfl, ?_⟩; intro W hSw; go_simp; try with_reducible rfl
      try simp only [Act.put, List.setIfInBounds_toArray, List.set_cons_zero, List.set_cons_succ]
      refine' wpAnyH_take (i := 2) (oi := _) (v := _) ?hib2 (by kernel_rfl) ?hfb2 ?hrb2 ?hQb2 ?hyb2 trivial ?restb2
      case hib2 => (simp only [List.getElem?_toArray, List.getElem?_cons_zero, List.getElem?_cons_succ]; rfl)
      case hfb2 => kernel_rfl
      case hrb2 => kernel_rfl
      case hQb2 => exact fun _ _ _ h => h
      case hyb2 => refine Or.inl ⟨by rfl, ?_⟩; intro W hSw; go_simp; try with_reducible rfl
      try simp only [Act.put, List.setIfInBounds_toArray, List.set_cons_zero, List.set_cons_succ]
      refine' wpAnyH_take (i := 3) (oi := _) (v := _) ?hib3 (by kernel_rfl) ?hfb3 ?hrb3 ?hQb3 ?hyb3 trivial ?restb3
      case hib3 => (simp only [List.getElem?_toArray, List.getElem?_cons_zero, List.getElem?_cons_succ]; rfl)
      case hfb3 => kernel_rfl
      case hrb3 => kernel_rfl
      case hQb3 => exact fun _ _ _ h => h
      case hyb3 => refine Or.inl ⟨by rfl, ?_⟩; intro W hSw; go_simp; try with_reducible rfl
      try simp only [Act.put, List.setIfInBounds_toArray, List.set_cons_zero, List.set_cons_succ]
      refine' wpAnyH_take (i := 4) (oi := _) (v := _) ?hib4 (by kernel_rfl) ?hfb4 ?hrb4 ?hQb4 ?hyb4 trivial ?restb4
      case hib4 => (simp only [List.getElem?_toArray, List.getElem?_cons_zero, List.getElem?_cons_succ]; rfl)
      case hfb4 => kernel_rfl
      case hrb4 => kernel_rfl
      case hQb4 => exact fun _ _ _ h => h
      case hyb4 => refine Or.inl ⟨by rfl, ?_⟩; intro W hSw; go_simp; try with_reducible rfl
      try simp only [Act.put, List.setIfInBounds_toArray, List.set_cons_zero, List.set_cons_succ]
      refine' wpAnyH_take (i := 5) (oi := _) (v := _) ?hib5 (by kernel_rfl) ?hfb5 ?hrb5 ?hQb5 ?hyb5 trivial ?restb5
      case hib5 => (simp only [List.getElem?_toArray, List.getElem?_cons_zero, List.getElem?_cons_succ]; rfl)
      case hfb5 => kernel_rfl
      case hrb5 => kernel_rfl
      case hQb5 => exact fun _ _ _ h => h
      case hyb5 => refine Or.inl ⟨by rfl, ?_⟩; intro W hSw; go_simp; try with_reducible rfl
      try simp only [Act.put, List.setIfInBounds_toArray, List.set_cons_zero, List.set_cons_succ]
      refine' wpAnyH_take (i := 6) (oi := _) (v := _) ?hib6 (by kernel_rfl) ?hfb6 ?hrb6 ?hQb6 ?hyb6 trivial ?restb6
      case hib6 => (simp only [List.getElem?_toArray, List.getElem?_cons_zero, List.getElem?_cons_succ]; rfl)
      case hfb6 => kernel_rfl
      case hrb6 => kernel_rfl
      case hQb6 => exact fun _ _ _ h => h
      case hyb6 => refine Or.inl ⟨by rfl, ?_⟩; intro W hSw; go_simp; try with_reducible rfl
      try simp only [Act.put, List.setIfInBounds_toArray, List.set_cons_zero, List.set_cons_succ]
      refine' wpAnyH_take (i := 7) (oi := _) (v := _) ?hib7 (by kernel_rfl) ?hfb7 ?hrb7 ?hQb7 ?hyb7 trivial ?restb7
      case hib7 => (simp only [List.getElem?_toArray, List.getElem?_cons_zero, List.getElem?_cons_succ]; rfl)
      case hfb7 => kernel_rfl
      case hrb7 => kernel_rfl
      case hQb7 => exact fun _ _ _ h => h
      case hyb7 => refine Or.inl ⟨by rfl, ?_⟩; intro W hSw; go_simp; try with_reducible rfl
      try simp only [Act.put, List.setIfInBounds_toArray, List.set_cons_zero, List.set_cons_succ]
      refine' wpAnyH_take (i := 8) (oi := _) (v := _) ?hib8 (by kernel_rfl) ?hfb8 ?hrb8 ?hQb8 ?hyb8 trivial ?restb8
      case hib8 => (simp only [List.getElem?_toArray, List.getElem?_cons_zero, List.getElem?_cons_succ]; rfl)
      case hfb8 => kernel_rfl
      case hrb8 => kernel_rfl
      case hQb8 => exact fun _ _ _ h => h
      case hyb8 => refine Or.inl ⟨by rfl, ?_⟩; intro W hSw; go_simp; try with_reducible rfl
      try simp only [Act.put, List.setIfInBounds_toArray, List.set_cons_zero, List.set_cons_succ]
      refine wpAnyH_ready (rs := [9]) (by kernel_rfl) (by simp) ?_
      refine' AllReadyH.cons (o := _) ?hib9 (fun K hK => ?_) AllReadyH.nil
      case hib9 => (simp only [List.getElem?_toArray, List.getElem?_cons_zero, List.getElem?_cons_succ]; rfl)
      rw [if_pos (by rfl)]
      go_simp
      refine hK.out _ _ trivial (fun _ => ?_)
      clear hK K
      try simp only [Act.put, List.setIfInBounds_toArray, List.set_cons_zero, List.set_cons_succ]
      have e1 := HR.out.1.set 1 (.slice (some B) k d)
      have e2 := HR.out.2.1.set_other ⟨g + 1, 1, none⟩ (.slice (some B) k d) (by simp)
      have e3 : Below g w (wr.setCell ⟨g + 1, 1, none⟩ (.slice (some B) k d)) := below_setC HR.out.2.2 (by simp)
      generalize (wr.setCell ⟨g + 1, 1, none⟩ (.slice (some B) k d)) = wy at e1 e2 e3 ⊢
      have c2 : wy.drew.cell? ⟨g + 2, 1, none⟩ = some (.slice none 0 0) := e2.cell 1 rfl
      have f2 : wy.drew.frozen? ⟨g + 2, 1, none⟩ = false := e2.free 1
      refine' wpAnyH_take (i := 10) (oi := _) (v := _) ?hib10 (by kernel_rfl) ?hfb10 ?hrb10 ?hQb10 ?hyb10 trivial ?restb10
      case hib10 => (simp only [List.getElem?_toArray, List.getElem?_cons_zero, List.getElem?_cons_succ]; rfl)
      case hfb10 => kernel_rfl
      case hrb10 => kernel_rfl
      case hQb10 => exact fun _ _ _ h => h
      case hyb10 => refine Or.inl ⟨by rfl, ?_⟩; intro W hSw; go_simp; try with_reducible rfl
      try simp only [Act.put, List.setIfInBounds_toArray, List.set_cons_zero, List.set_cons_succ]
      refine wpAnyH_ready (rs := [11]) (by kernel_rfl) (by simp) ?_
      refine' AllReadyH.cons (o := _) ?hib11 (fun K hK => ?_) AllReadyH.nil
      case hib11 => (simp only [List.getElem?_toArray, List.getElem?_cons_zero, List.getElem?_cons_succ]; rfl)
      rw [if_pos (by rfl)]
      go_simp
      refine hK.out _ _ trivial (fun _ => ?_)
      clear hK K
      try simp only [Act.put]
      have e4 := e2.set 1 (.slice (some (B.add k)) (m - k) (d - k))
      have e5 := e1.set_other ⟨g + 2, 1, none⟩ (.slice (some (B.add k)) (m - k) (d - k)) (by simp)
      have e6 : Below g w (wy.setCell ⟨g + 2, 1, none⟩ (.slice (some (B.add k)) (m - k) (d - k))) := below_setC e3 (by simp)
      generalize (wy.setCell ⟨g + 2, 1, none⟩ (.slice (some (B.add k)) (m - k) (d - k))) = wz at e4 e5 e6 ⊢
      clear c1 c2 f1 f2 e1 e2 e3
      refine wpAnyH_done (by kernel_rfl) ?_ _
      go_wp2_with fail
      go_roundw
      case rel => exact ⟨2, by omega, by go_num, Lib.hid ⟨e5, e4, e6.drew⟩⟩
      case measure => simp [intOf]
    · have H := Lib.hid HR.out
      clear HR
      have c0 := H.out.1.cell 0 (v := .slice (some A) k c) rfl
      go_upto_region 6 with fail
      refine wp_region_held_drew (S := fun W => Cells W (g + 1) 66 #[.slice (some A) k c, .slice (some B) k d] ∧ Cells W (g + 2) 66 #[.slice (some (A.add k)) (n - k) (c - k), .slice (some (B.add k)) (m - k) (d - k)]) (by kernel_rfl) ⟨H.out.1, H.out.2.1⟩ (fun hS0 => ?_)
      change wpAnyH _ _ _ _ _ _ _ _ wr.drew
      refine' wpAnyH_take (i := 0) (oi := _) (v := .agg #[.slice (some A) k c, .slice (some B) k d]) ?hiz0 (by kernel_rfl) ?hfz0 ?hrz0 ?hQz0 ?hyz0 hS0 ?restz0
      case hiz0 => (simp only [List.getElem?_toArray, List.getElem?_cons_zero]; rfl)
      case hfz0 => kernel_rfl
      case hrz0 => kernel_rfl
      case hQz0 => exact fun _ _ _ h => h
      case hyz0 => refine Or.inl ⟨by rfl, ?_⟩; intro W hSw; exact load_both_op (.tmp 4) (by rfl) (by rfl) hSw.1
      try simp only [Act.put, List.setIfInBounds_toArray, List.set_cons_zero, List.set_cons_succ]
      refine' wpAnyH_take (i := 1) (oi := _) (v := .agg #[.slice (some (A.add k)) (n - k) (c - k), .slice (some (B.add k)) (m - k) (d - k)]) ?hiz1 (by kernel_rfl) ?hfz1 ?hrz1 ?hQz1 ?hyz1 hS0 ?restz1
      case hiz1 => (simp only [List.getElem?_toArray, List.getElem?_cons_zero, List.getElem?_cons_succ]; rfl)
      case hfz1 => kernel_rfl
      case hrz1 => kernel_rfl
      case hQz1 => exact fun _ _ _ h => h
      case hyz1 => refine Or.inl ⟨by rfl, ?_⟩; intro W hSw; exact load_both_op (.tmp 5) (by rfl) (by rfl) hSw.2
      try simp only [Act.put, List.setIfInBounds_toArray, List.set_cons_zero, List.set_cons_succ]
      refine wpAnyH_ready (rs := [2]) (by kernel_rfl) (by simp) ?_
      refine' AllReadyH.cons (o := _) ?hiz2 (fun K hK => ?_) AllReadyH.nil
      case hiz2 => (simp only [List.getElem?_toArray, List.getElem?_cons_zero, List.getElem?_cons_succ]; rfl)
      rw [if_pos (by rfl)]
      refine wp_store_row 66 (.tmp 4) (.tmp 24) rfl (g + 1) #[.slice (some A) k c, .slice (some B) k d] rfl rfl 66 _ hS0.1 sizeBoth rfl (by simp [Value.oneCell']) ?_
      have y1 := H.out.1.setRow #[.slice (some A) k c, .slice (some B) k d]
      have y2 := H.out.2.1.setRow_other (g + 1) (by omega) #[.slice (some A) k c, .slice (some B) k d]
      have y3 := below_setRow H.out.2.2 (show g ≤ g + 1 by omega) #[.slice (some A) k c, .slice (some B) k d]
      refine hK.out _ _ ⟨y1, y2⟩ (fun hS1 => ?_)
      clear hK K
      try simp only [Act.put]
      generalize hwy : wr.setRow (g + 1) #[.slice (some A) k c, .slice (some B) k d] = wy at y1 y2 y3
      change wpAnyH _ _ _ _ _ _ _ _ (wr.setRow (g + 1) #[.slice (some A) k c, .slice (some B) k d]).drew
      change _ ∧ _ at hS1
      rw [hwy]
      refine wpAnyH_ready (rs := [3]) (by kernel_rfl) (by simp) ?_
      refine' AllReadyH.cons (o := _) ?hiz3 (fun K hK => ?_) AllReadyH.nil
      case hiz3 => (simp only [List.getElem?_toArray, List.getElem?_cons_zero, List.getElem?_cons_succ]; rfl)
      rw [if_pos (by rfl)]
      refine wp_store_row 66 (.tmp 5) (.tmp 25) rfl (g + 2) #[.slice (some (A.add k)) (n - k) (c - k), .slice (some (B.add k)) (m - k) (d - k)] rfl rfl 66 _ y2 sizeBoth rfl (by simp [Value.oneCell']) ?_
      have z1 := y1.setRow_other (g + 2) (by omega) #[.slice (some (A.add k)) (n - k) (c - k), .slice (some (B.add k)) (m - k) (d - k)]
      have z2 := y2.setRow #[.slice (some (A.add k)) (n - k) (c - k), .slice (some (B.add k)) (m - k) (d - k)]
      have z3 := below_setRow y3.drew (show g ≤ g + 2 by omega) #[.slice (some (A.add k)) (n - k) (c - k), .slice (some (B.add k)) (m - k) (d - k)]
      refine hK.out _ _ ⟨z1, z2⟩ (fun hS2 => ?_)
      clear hK K
      try simp only [Act.put]
      refine wpAnyH_done (by kernel_rfl) ?_ _
      go_wp2_with fail
      refine bodyPost_ret_by (results_cell_cell (p := 4) (q := 5) (ty := 66) (ty2 := 66) (by kernel_rfl) _ _ ⟨g + 1, 0, none⟩ ⟨g + 2, 0, none⟩ _ _ rfl rfl (run_load_both (z1.cell 0 rfl) (z1.cell 1 rfl)) (run_load_both (z2.cell 0 rfl) (z2.cell 1 rfl))) rfl ?_
      exact ⟨rfl, z3⟩

end Go.Proofs.YtnaebjdccngeoaaDoor

/-
  A variable of one cell, in a block of its own.
-/
namespace Go.Proofs.YtnaebjdccngeoaaDoor
open Go.RowKit

/-- Block g is a variable of one cell. -/
def VarAt (w : World) (g : Nat) (T : TypeId) (v : Value) : Prop := w.heap[g]? = some (.cells #[v] T (0, 0))
section
variable {w w' : World} {g : Nat} {T : TypeId} {v : Value}
theorem VarAt.cell (h : VarAt w g T v) : w.cell? ⟨g, 0, none⟩ = some v := by rw [cell_of_row _ g 0 _ T (0, 0) h]; rfl
theorem VarAt.free (h : VarAt w g T v) : w.frozen? ⟨g, 0, none⟩ = false := frozen_of_row w g 0 _ T h
theorem VarAt.below (h : VarAt w g T v) (hb : Below w.heap.size w w') : VarAt w' g T v := (hb.block g (Array.getElem?_eq_some_iff.1 h).1).trans h
theorem VarAt.lt (h : VarAt w g T v) : g < w.heap.size := (Array.getElem?_eq_some_iff.1 h).1
theorem VarAt.new (w : World) (T : TypeId) (v : Value) : VarAt (w.alloc (.cells #[v] T)) w.heap.size T v := World.alloc_heap_new w _
theorem VarAt.set (h : VarAt w g T v) (u : Value) : VarAt (w.setCell ⟨g, 0, none⟩ u) g T u := by
  unfold VarAt
  rw [heap_setCell_same w g 0 _ T _ h]
  rfl
theorem VarAt.setRow_other (h : VarAt w g T v) (k : Nat) (hne : g ≠ k) (cs : Array Value) : VarAt (w.setRow k cs) g T v := by
  unfold VarAt
  rw [Go.setRow_other _ _ _ _ hne]
  exact h
end

theorem VarAt.but {S : Nat → Prop} {w w' : World} {g : Nat} {T : TypeId} {v : Value} (h : VarAt w g T v) (hb : But S w w') (hS : ¬ S g) : VarAt w' g T v := (hb.block g h.lt hS).trans h

end Go.Proofs.YtnaebjdccngeoaaDoor

/-
  clashes.found: what is panicked with is caught, and told.
-/
namespace Go.Proofs.YtnaebjdccngeoaaDoor
open Go.RowKit

theorem var_set_other {w : World} {g : Nat} {T : TypeId} {v : Value} (h : VarAt w g T v) (a : Addr) (x : Value) (hne : g ≠ a.block) : VarAt (w.setCell a x) g T v := by
  unfold VarAt
  rw [heap_setCell_other w a g x hne]
  exact h
theorem run_assert_clash (v : Value) (w : World) : (Instr.typeAssert (.iface 30 v) 20 30 true).run Tryd.prog w = .ok (.tuple #[v, .bool true]) w := by
  simp [Instr.typeAssert, run_underlying Tryd.underlying30]

set_option maxRecDepth 100000 in
set_option maxHeartbeats 2000000 in
theorem catch_told {w : World} {g : Nat} {u v : Value} {A B : Option Addr} {n c m d : Nat} (hc : Cells w g 30 #[u, v]) (hb : VarAt w (g + 1) 4 (.bool false)) :
    CallsD Tryd.prog 65 #[.pointer (some ⟨g, 0, none⟩), .pointer (some ⟨g + 1, 0, none⟩)] (.panicking (tells (clv A n c B m d))) w fun e u' w' =>
      e = .returned (.tuple #[]) ∧ settle u' = .returning ∧ w' = ((w.setCell ⟨g, 0, none⟩ (.slice A n c)).setCell ⟨g, 1, none⟩ (.slice B m d)).setCell ⟨g + 1, 0, none⟩ (.bool true) := by
  have hta := run_assert_clash (.agg #[.slice A n c, .slice B m d])
  have i0 := hc.cell 0 (v := u) rfl
  have j0 := hc.free 0
  have hc1 : Cells (w.setCell ⟨g, 0, none⟩ (.slice A n c)) g 30 #[.slice A n c, v] := hc.set 0 (.slice A n c)
  have hb1 : VarAt (w.setCell ⟨g, 0, none⟩ (.slice A n c)) (g + 1) 4 (.bool false) := var_set_other hb _ _ (by simp)
  have i1 := hc1.cell 1 (v := v) rfl
  have j1 := hc1.free 1
  have hb2 : VarAt ((w.setCell ⟨g, 0, none⟩ (.slice A n c)).setCell ⟨g, 1, none⟩ (.slice B m d)) (g + 1) 4 (.bool false) := var_set_other hb1 _ _ (by simp)
  have k1 := hb2.cell
  have k2 := hb2.free
  unfold clv tells
  refine callsD_of_wpS Tryd.func65 rfl fun c₀ cs hu => ?_
  apply wpS_region
  simp [wpOpsS, go_sem, recoverD, hu, Tryd.ntmps65, bodyPostS, results, Tryd.results65, settle, hta, i0, j0, i1, j1, k1, k2]

theorem two_set {base : Nat} {w : World} {A : Option Addr} {n c : Nat} {xs : List Nat} {B : Option Addr} {m d : Nat} {ys : List Nat} (h : Two base w A n c xs B m d ys) (a : Addr) (v : Value) (ha : a.block < base) : Two base (w.setCell a v) A n c xs B m d ys :=
  ⟨ownsRow_setCell_below h.a ha v, ownsRow_setCell_below h.b ha v, h.apart, h.lta, h.ltb, h.na, h.nb⟩
theorem run_load_bool {w : World} {ad : Addr} {b : Bool} (h : w.cell? ad = some (.bool b)) : (loadVar 4 ad).run Tryd.prog w = .ok (.bool b) w := by
  have hagg : (isAgg 4).run Tryd.prog w = .ok false w := by
    unfold isAgg
    rw [Sem.run_bind, run_underlying Tryd.underlying4 w]
    rfl
  simp [loadVar, Sem.run_bind, hagg, go_sem, h]

set_option maxRecDepth 100000 in
set_option maxHeartbeats 2000000 in
theorem found_any {w : World} {fid : FuncId} {caps : Array Value} (hcf : ∀ W : World, (callFunc fid caps).run Tryd.prog W = .ok (.enter fid caps) W)
    (hw : ∀ W : World, Below w.heap.size w W → Calls Tryd.prog fid caps W fun e w' => (∃ u, e = .panicked (tells u) ∧ Shown W.heap.size w' u) ∧ Below W.heap.size W w') :
    Calls Tryd.prog 37 #[.func (.func fid) #[] caps] w fun e w' => ∃ u, e = .returned (.tuple #[u, .bool true]) ∧ Shown w.heap.size w' u ∧ Below w.heap.size w w' := by
  have c0 := Cells.new w 30 #[.slice none 0 0, .slice none 0 0]
  have b0 := below_alloc w (.cells #[.slice none 0 0, .slice none 0 0] 30)
  obtain ⟨w0, e0⟩ : ∃ w0, w0 = w.alloc (.cells #[.slice none 0 0, .slice none 0 0] 30) := ⟨_, rfl⟩
  obtain ⟨g, hg⟩ : ∃ g, w.heap.size = g := ⟨_, rfl⟩
  have s0 : w0.heap.size = g + 1 := by rw [e0]; simp [hg]
  rw [← e0] at c0 b0
  have v1 := VarAt.new w0 4 (.bool false)
  have b1 := below_alloc w0 (.cells #[.bool false] 4)
  obtain ⟨w1, e1⟩ : ∃ w1, w1 = w0.alloc (.cells #[.bool false] 4) := ⟨_, rfl⟩
  rw [← e1] at v1 b1
  have s1 : w1.heap.size = g + 2 := by rw [e1]; simp [s0]
  rw [hg] at c0 b0
  rw [s0] at v1
  have b01 := below_on b0 (by omega) b1
  have H1 := Lib.hid (And.intro (c0.below b1) (And.intro v1 (And.intro b01 s1)))
  have HW := Lib.hid (show w1 = (w.alloc (.cells #[.slice none 0 0, .slice none 0 0] 30)).alloc (.cells #[.bool false] 4) by rw [e1, e0])
  have HG := Lib.hid hg
  have C := Lib.hid (hw w1 (by rw [hg]; exact b01))
  have hmf : ∀ (fn : Fn) (first cap : Array Value) (w : World), (Instr.makeFunc fn first cap).run Tryd.prog w = .ok (.func fn first cap) w := fun _ _ _ _ => rfl
  rw [hg]
  clear c0 b0 e0 s0 v1 b1 e1 s1 b01 hw hg
  go_enter_defers Tryd.func37, Tryd.ntmps37
  go_upto_region 1 with fail
  rw [← HW.out]
  rw [HG.out]
  go_wp2_with fail
  refine C.out.mono ?_
  rintro e w3 ⟨⟨u, rfl, hu⟩, hb3⟩
  obtain ⟨A, n, c, xs, B, m, d, ys, rfl, hT, hC⟩ := hu
  have c3 := H1.out.1.below hb3
  have v3 := H1.out.2.1.below hb3
  have b3 := below_on H1.out.2.2.1 (Nat.le_of_eq HG.out.symm) hb3
  have H3 := Lib.hid (And.intro hT (And.intro hC (And.intro c3 (And.intro v3 b3))))
  clear hT hC c3 v3 b3 hb3
  go_wp2_with fail
  refine leaves_cons (f := 65) (args := #[.pointer (some ⟨g, 0, none⟩), .pointer (some ⟨g + 1, 0, none⟩)]) (by simp) (by simp [go_sem]) ?_
  refine (catch_told (A := A) (n := n) (c := c) (B := B) (m := m) (d := d) H3.out.2.2.1 H3.out.2.2.2.1).mono ?_
  rintro e u' w4 ⟨rfl, hu, e4⟩
  simp only [hu]
  have x1 : Cells (w3.setCell ⟨g, 0, none⟩ (.slice A n c)) g 30 #[.slice A n c, .slice none 0 0] := H3.out.2.2.1.set 0 _
  have x2 : Cells ((w3.setCell ⟨g, 0, none⟩ (.slice A n c)).setCell ⟨g, 1, none⟩ (.slice B m d)) g 30 #[.slice A n c, .slice B m d] := x1.set 1 _
  have y2 := var_set_other (var_set_other H3.out.2.2.2.1 ⟨g, 0, none⟩ (.slice A n c) (by simp)) ⟨g, 1, none⟩ (.slice B m d) (by simp)
  have x3 := x2.set_other ⟨g + 1, 0, none⟩ (.bool true) (by simp)
  have y3 := y2.set (.bool true)
  have b5 := below_setC (below_setC (below_setC H3.out.2.2.2.2 (a := ⟨g, 0, none⟩) (v := .slice A n c) (Nat.le_refl g)) (a := ⟨g, 1, none⟩) (v := .slice B m d) (Nat.le_refl g)) (a := ⟨g + 1, 0, none⟩) (v := .bool true) (Nat.le_succ g)
  have hs1 := H1.out.2.2.2
  have T5 := (two_set (two_set (two_set H3.out.1 ⟨g, 0, none⟩ (.slice A n c) (by simp only; omega)) ⟨g, 1, none⟩ (.slice B m d) (by simp only; omega)) ⟨g + 1, 0, none⟩ (.bool true) (by simp only; omega)).low (base' := g) (by omega)
  rw [← e4] at x3 y3 b5 T5
  refine ⟨_, results_cell_cell (p := 2) (q := 3) (ty := 30) (ty2 := 4) (by kernel_rfl) _ _ ⟨g, 0, none⟩ ⟨g + 1, 0, none⟩ _ _ rfl rfl (run_load_clash (x3.cell 0 (v := .slice A n c) rfl) (x3.cell 1 (v := .slice B m d) rfl)) (run_load_bool y3.cell), ?_⟩
  exact ⟨_, rfl, ⟨A, n, c, xs, B, m, d, ys, rfl, T5, H3.out.2.1⟩, b5⟩

end Go.Proofs.YtnaebjdccngeoaaDoor

/-
  'append(b, make([]byte, m)...)' to a row of the call's own, whether there is room or not, m whatever.
-/
namespace Go.Proofs.YtnaebjdccngeoaaDoor
open Go.RowKit

theorem zeroCells_list (m : Nat) : (Builtin.zeroCells #[.int .u8 0] m).toList = bvs (List.replicate m 0) := by rw [zeroCells_bytes]

theorem run_zeros_own (w : World) (ty : TypeId) (base g n c m : Nat) (xs : List Nat) (hown : w.ownsRow base 5 1 (.slice (some ⟨g, 0, none⟩) n c) n (bvs xs)) (hbase : base ≤ w.heap.size) (hle : n + m ≤ 1000000000) :
    ∃ A' c' w', (Builtin.append_ #[23, 3] ty #[.slice (some ⟨g, 0, none⟩) n c, .int .i64 (m : Int)]).run Tryd.prog w = .ok (.slice A' (n + m) c') w' ∧
      In w' A' (n + m) (xs ++ List.replicate m 0) ∧ A' ≠ none ∧ n + m ≤ c' ∧ Below base w w' := by
  have hin : In w (some ⟨g, 0, none⟩) n xs := In.of_own hown
  by_cases hroom : n + m ≤ c
  · obtain ⟨i0, hi, hz0, hz1, hz2⟩ := info_parts infoByte
    rcases hown.2 with ⟨e, _⟩ | ⟨g', cap, cur, e, hbg, hg, hnc, hcm, hcs, htake⟩
    · cases e
    · cases e
      have hl : (bvs (List.replicate m 0)).length = m := by rw [bvs_length, List.length_replicate]
      have hst := run_storeCells_at Tryd.prog g n 5 (bvs (List.replicate m 0)) 0 cur w hg (by rw [hl, hcs]; omega) (bvs_oneCell _)
      rw [Nat.add_zero, hl, ← zeroCells_list] at hst
      have hw : IntKind.i64.wrap (m : Int) = (m : Int) := by rw [IntKind.wrap_i64]; omega
      have hn0 : ¬ ((m : Int) < 0) := by omega
      have hnb : ¬ (281474976710656 < (m : Int)) := by omega
      have hrun : (Builtin.append_ #[23, 3] ty #[.slice (some ⟨g, 0, none⟩) n c, .int .i64 (m : Int)]).run Tryd.prog w =
          .ok (.slice (some ⟨g, 0, none⟩) (n + m) c) (w.setRow g (cur.toList.take n ++ (Builtin.zeroCells #[.int .u8 0] m).toList ++ cur.toList.drop (n + m)).toArray) := by
        by_cases hm : m = 0
        · subst hm
          simp [Builtin.append_, run_underlying Tryd.underlying23, run_underlying Tryd.underlying3, sizeOf, typeInfo, hi, hz1, asInt, asIntOf, IntKind.wrap_i64, storeCells, Builtin.zeroCells]
          rw [if_pos (by omega)]
          simp
          rw [setRow_self w g cur _ (0, 0) hg]
        · simp [Builtin.append_, run_underlying Tryd.underlying23, run_underlying Tryd.underlying3, sizeOf, typeInfo, zeroValue, hi, hz0, hz1, hz2, asInt, asIntOf, hw, hn0, hnb, hroom, hm, Value.cells, Addr.add_lit, hst]
      rw [zeroCells_list] at hrun
      have hx : cur.toList.take n = bvs xs := by rw [← htake, Nat.mul_one]
      rw [hx] at hrun
      refine ⟨_, _, _, hrun, ⟨by rw [List.length_append, hin.len, List.length_replicate], fun j x hj => ⟨_, rfl, ?_⟩⟩, (fun h => by cases h), hroom, below_setRow (Below.refl _ _) hbg _⟩
      rw [show (⟨g, 0, none⟩ : Addr).add j = ⟨g, j, none⟩ from by unfold Addr.add; split <;> simp_all]
      rw [cell_of_row _ g j _ _ (0, 0) (setRow_heap w g cur _ _ (0, 0) hg), List.getElem?_toArray, ← bvs_append]
      have hlt : j < (xs ++ List.replicate m 0).length := (List.getElem?_eq_some_iff.1 hj).1
      rw [List.getElem?_append_left (by rw [bvs_length]; exact hlt), bvs_get, hj]
      rfl
  · obtain ⟨A', c', w', h1, h2, h3, h4⟩ := run_append_zeros w ty ⟨g, 0, none⟩ n c m xs hin (by have := own_cap hown; omega) (by omega) hle
    refine ⟨A', c', w', h1, h2, ?_, h3, h4.mono hbase⟩
    rintro rfl
    have hpos : 0 < n + m := by have := own_cap hown; omega
    obtain ⟨ad, _, e, _⟩ := h2.at_ hpos
    cases e

theorem wpList_zeros_own {ops : Array Oper} {rest : List Oper} {o : Oper} {a : Act} {Q : Exit → Act → World → Prop} (w : World) (hgd : o.guard = none) (s x : Operand)
    (ho : o.op = .call { callee := .builtin .append, args := #[s, x], argTypes := #[23, 3] })
    (base g n c m : Nat) (xs : List Nat) (hs : a.eval s = .slice (some ⟨g, 0, none⟩) n c) (hx : a.eval x = .int .i64 (m : Int)) (hown : w.ownsRow base 5 1 (.slice (some ⟨g, 0, none⟩) n c) n (bvs xs)) (hbase : base ≤ w.heap.size) (hle : n + m ≤ 1000000000)
    (h : ∀ A' c' w', In w' A' (n + m) (xs ++ List.replicate m 0) → A' ≠ none → n + m ≤ c' → Below base w w' → wpList Tryd.prog ops Q rest (a.put o.dst (.slice A' (n + m) c')) w') :
    wpList Tryd.prog ops Q (o :: rest) a w := by
  refine wpList_plain hgd fun K hK => ?_
  obtain ⟨A', c', w', hr, h2, h3, h4, h5⟩ := run_zeros_own w o.type base g n c m xs hown hbase hle
  unfold Oper.wp execOp
  simp only [ho, resolve, invoke, builtin, Sem.run_bind, Sem.run_pure, Result.andThen_ok, List.map_toArray, List.map_cons, List.map_nil, hs, hx, hr]
  exact hK _ _ (h A' c' w' h2 h3 h4 h5)

end Go.Proofs.YtnaebjdccngeoaaDoor

/-
  slices.Grow of no bytes, slices.Concat of two lists of bytes.
-/
namespace Go.Proofs.YtnaebjdccngeoaaDoor
open Go.RowKit

/-- 'append([]byte(nil), make([]byte, m)...)'. -/
theorem run_grow_bytes (w : World) (ty : TypeId) (m : Nat) (hm : 0 < m) (hle : m ≤ 1000000) :
    ∃ c' w', (Builtin.append_ #[23, 3] ty #[.slice none 0 0, .int .i64 (m : Int)]).run Tryd.prog w = .ok (.slice (some ⟨w.heap.size, 0, none⟩) m c') w' ∧ m ≤ c' ∧
      w'.ownsRow w.heap.size 5 1 (.slice (some ⟨w.heap.size, 0, none⟩) 0 c') 0 (bvs []) ∧ Below w.heap.size w w' := by
  obtain ⟨i0, hi, hz0, hz1, hz2⟩ := info_parts infoByte
  have hf := growslice_fits (need := m) (old := 0) (bytes := 1) (by omega) (by omega)
  have h48' : ¬ (281474976710656 < Builtin.nextslicecap m 0) := by omega
  have hw : IntKind.i64.wrap (m : Int) = (m : Int) := by rw [IntKind.wrap_i64]; omega
  have hn0 : ¬ ((m : Int) < 0) := by omega
  have hnb : ¬ (281474976710656 < (m : Int)) := by omega
  have hnc : ¬ (9223372036854775807 < (m : Int)) := by omega
  have hm0 : ¬ m = 0 := by omega
  have hge := grownCap_ge w m 0 5
  have hgl := grownCap_le_maxLen w m 0 5 (by unfold maxLen; omega)
  have hfo := run_firstCells_none (P := Tryd.prog) (w := w.drew) 1 0 0 0
  have hrun : (Builtin.append_ #[23, 3] ty #[.slice none 0 0, .int .i64 (m : Int)]).run Tryd.prog w =
      .ok (.slice (some ⟨w.heap.size, 0, none⟩) m (grownCap w m 0 5)) (w.drew.alloc (.cells (#[] ++ Builtin.zeroCells (#[.int .u8 0]) m ++ Builtin.zeroCells (#[.int .u8 0]) (grownCap w m 0 5 - m)) 5)) := by
    simp [Builtin.append_, run_underlying Tryd.underlying23, run_underlying Tryd.underlying3, sizeOf, typeInfo, zeroValue, hi, hz0, hz1, hz2, asInt, asIntOf, hw, hn0, hnb, hnc, hm0, h48', Question.forced, hfo, newRow, grownCap, Value.cells]

  refine ⟨_, _, hrun, hge, ⟨rfl, .inr ⟨w.heap.size, _, _, rfl, Nat.le_refl _, World.alloc_heap_new w.drew _, Nat.zero_le _, hgl, ?_, rfl⟩⟩, ((Below.refl _ w).drew).alloc (Nat.le_refl _) _⟩
  rw [Array.size_append, Array.size_append, size_zeroCells, size_zeroCells]
  simp
  omega

theorem wpList_grow_bytes {ops : Array Oper} {rest : List Oper} {o : Oper} {a : Act} {Q : Exit → Act → World → Prop} (w : World) (hgd : o.guard = none) (s x : Operand)
    (ho : o.op = .call { callee := .builtin .append, args := #[s, x], argTypes := #[23, 3] }) (m : Nat) (hs : a.eval s = .slice none 0 0) (hx : a.eval x = .int .i64 (m : Int)) (hm : 0 < m) (hle : m ≤ 1000000)
    (h : ∀ c' w', m ≤ c' → w'.ownsRow w.heap.size 5 1 (.slice (some ⟨w.heap.size, 0, none⟩) 0 c') 0 (bvs []) → Below w.heap.size w w' → wpList Tryd.prog ops Q rest (a.put o.dst (.slice (some ⟨w.heap.size, 0, none⟩) m c')) w') :
    wpList Tryd.prog ops Q (o :: rest) a w := by
  refine wpList_plain hgd fun K hK => ?_
  obtain ⟨c', w', hr, h2, h3, h4⟩ := run_grow_bytes w o.type m hm hle
  unfold Oper.wp execOp
  simp only [ho, resolve, invoke, builtin, Sem.run_bind, Sem.run_pure, Result.andThen_ok, List.map_toArray, List.map_cons, List.map_nil, hs, hx, hr]
  exact hK _ _ (h c' w' h2 h3 h4)

set_option maxRecDepth 100000 in
set_option maxHeartbeats 1000000 in
theorem growB_any (m : Nat) (w : World) (hm : 0 < m) (hle : m ≤ 1000000) :
    Calls Tryd.prog 103 #[.slice none 0 0, .int .i64 (m : Int)] w fun e w' =>
      ∃ c', e = .returned (.slice (some ⟨w.heap.size, 0, none⟩) 0 c') ∧ w'.ownsRow w.heap.size 5 1 (.slice (some ⟨w.heap.size, 0, none⟩) 0 c') 0 (bvs []) ∧ Below w.heap.size w w' := by
  have h0 : ¬ ((m : Int) < 0) := by omega
  have h1 : (0 : Int) < (m : Int) := by omega
  go_enter Tryd.func103, Tryd.ntmps103
  go_wp2_with (refine wpList_grow_bytes w rfl _ _ rfl m rfl rfl hm hle ?_; intro c' w1 hc ho hb; have HR := Lib.hid (And.intro ho hb); clear ho hb)
  go_ret
  exact ⟨c', rfl, HR.out.1, HR.out.2⟩

/-- How many, and what, the first j of two lists have. -/
def first2N (n m : Nat) : Nat → Nat
  | 0 => 0
  | 1 => n
  | _ => n + m
def first2L (xs ys : List Nat) : Nat → List Nat
  | 0 => []
  | 1 => xs
  | _ => xs ++ ys

set_option maxRecDepth 100000 in
set_option maxHeartbeats 2000000 in
theorem concatB_any (b : Nat) (A A2 : Option Addr) (n c m c2 : Nat) (xs ys : List Nat) (w : World) (h1 : w.cell? ⟨b, 0, none⟩ = some (.slice A n c)) (h2 : w.cell? ⟨b, 1, none⟩ = some (.slice A2 m c2))
    (hx : In w A n xs) (hy : In w A2 m ys) (nx : A = none → c = 0) (ny : A2 = none → c2 = 0) (h0 : 0 < n + m) (hle : n + m ≤ 1000000) :
    Calls Tryd.prog 90 #[.slice (some ⟨b, 0, none⟩) 2 2] w fun e w' =>
      ∃ A' c', e = .returned (.slice A' (n + m) c') ∧ w'.ownsRow w.heap.size 5 1 (.slice A' (n + m) c') (n + m) (bvs (xs ++ ys)) ∧ Below w.heap.size w w' := by
  have HX := Lib.hid (And.intro hx (And.intro hy (And.intro nx ny)))
  have G := Lib.hid (growB_any (n + m) w h0 hle)
  have hbl : b < w.heap.size := World.block_lt_of_cell? w _ h1
  clear hx hy nx ny
  go_enter Tryd.func90, Tryd.ntmps90
  go_wp2
  go_loopw [3, 5, 11] (fun sz _ i wr => ∃ j : Nat, j ≤ 2 ∧ i = .int .i64 (j : Int) ∧ sz = .int .i64 (first2N n m j : Int) ∧ wr = w) (fun _ _ i _ => 2 - (intOf i).toNat)
  case atStart => exact ⟨0, by omega, rfl, rfl, rfl⟩
  case round =>
    obtain ⟨j, hj, rfl, rfl, e⟩ := hrel
    have e' := e.symm
    clear e
    subst e'
    obtain rfl | rfl | rfl : j = 0 ∨ j = 1 ∨ j = 2 := by omega
    · have hn : ¬ ((n : Int) < 0) := by omega
      simp only [first2N]
      go_wp2
      go_roundw
      case rel => exact ⟨1, by omega, by go_num, rfl, trivial⟩
      case measure => simp [intOf]
    · have hn : ¬ ((n : Int) + (m : Int) < 0) := by omega
      simp only [first2N]
      go_wp2
      go_roundw
      case rel => exact ⟨2, by omega, by go_num, by simp, trivial⟩
      case measure => simp [intOf]
    · simp only [first2N]
      go_wp2_with fail
      refine G.out.mono ?_
      rintro e w1 ⟨c1, rfl, ho, hb⟩
      have HO := Lib.hid (And.intro ho hb)
      clear ho hb
      have hw1 := HO.out.2
      have d1 : w1.cell? ⟨b, 0, none⟩ = some (.slice A n c) := (hw1.cell (World.block_lt_of_cell? w _ h1)).trans h1
      have d2 : w1.cell? ⟨b, 1, none⟩ = some (.slice A2 m c2) := (hw1.cell (World.block_lt_of_cell? w _ h2)).trans h2
      have HD := Lib.hid (And.intro d1 d2)
      clear h1 h2 hw1 d1 d2
      go_wp2
      go_loopw [6, 8, 27] (fun nw _ i w2 => ∃ (j : Nat) (A' : Option Addr) (c' : Nat), j ≤ 2 ∧ i = .int .i64 (j : Int) ∧ nw = .slice A' (first2N n m j) c' ∧ w2.ownsRow w.heap.size 5 1 (.slice A' (first2N n m j) c') (first2N n m j) (bvs (first2L xs ys j)) ∧ Below w.heap.size w w2 ∧
        w2.cell? ⟨b, 0, none⟩ = some (.slice A n c) ∧ w2.cell? ⟨b, 1, none⟩ = some (.slice A2 m c2)) (fun _ _ i _ => 2 - (intOf i).toNat)
      case atStart => exact ⟨0, _, c1, by omega, rfl, rfl, HO.out.1, HO.out.2, HD.out.1, HD.out.2⟩
      case round =>
        obtain ⟨j, A', c', hj, rfl, rfl, how, hbw, e1, e2⟩ := hrel
        have HW := Lib.hid (And.intro how hbw)
        clear how hbw
        obtain rfl | rfl | rfl : j = 0 ∨ j = 1 ∨ j = 2 := by omega
        · simp only [first2N, first2L] at HW ⊢
          go_wp2_with (refine wpList_step fun K hK => ?_; refine step_app_at (K := K) (by rfl) _ _ (by rfl) w.heap.size A' 0 c' [] (by rfl) HW.out.1 A n c xs (by rfl) (HX.out.1.below HW.out.2) HX.out.2.2.1 (by omega) HW.out.2.size ?_; intro A3 c3 w3 ow3 nx3; have HN := Lib.hid (And.intro ow3 nx3); clear ow3 nx3; refine hK _ _ ?_; clear hK K)
          have hb3 := HN.out.2.below HW.out.1 HW.out.2 (Nat.le_refl _) HW.out.2.size
          have ow3 := HN.out.1
          rw [Nat.zero_add, List.nil_append] at ow3
          have H3 := Lib.hid (And.intro ow3 hb3)
          have k1 := HN.out.2.cell e1 (fun e => by have := (HW.out.1.lt b e.symm).1; omega)
          have k2 := HN.out.2.cell e2 (fun e => by have := (HW.out.1.lt b e.symm).1; omega)
          clear ow3 hb3
          go_wp2
          go_roundw
          case rel => exact ⟨1, A3, c3, by omega, by go_num, by simp, H3.out.1, H3.out.2, k1, k2⟩
          case measure => simp [intOf]
        · simp only [first2N, first2L] at HW ⊢
          go_wp2_with (refine wpList_step fun K hK => ?_; refine step_app_at (K := K) (by rfl) _ _ (by rfl) w.heap.size A' n c' xs (by rfl) HW.out.1 A2 m c2 ys (by rfl) (HX.out.2.1.below HW.out.2) HX.out.2.2.2 (by omega) HW.out.2.size ?_; intro A3 c3 w3 ow3 nx3; have HN := Lib.hid (And.intro ow3 nx3); clear ow3 nx3; refine hK _ _ ?_; clear hK K)
          have hb3 := HN.out.2.below HW.out.1 HW.out.2 (Nat.le_refl _) HW.out.2.size
          have H3 := Lib.hid (And.intro HN.out.1 hb3)
          have k1 := HN.out.2.cell e1 (fun e => by have := (HW.out.1.lt b e.symm).1; omega)
          have k2 := HN.out.2.cell e2 (fun e => by have := (HW.out.1.lt b e.symm).1; omega)
          clear hb3
          go_wp2
          go_roundw
          case rel => exact ⟨2, A3, c3, by omega, by go_num, rfl, H3.out.1, H3.out.2, k1, k2⟩
          case measure => simp [intOf]
        · simp only [first2N, first2L] at HW ⊢
          go_wp2
          go_ret
          exact ⟨A', c', rfl, HW.out.1, HW.out.2⟩

end Go.Proofs.YtnaebjdccngeoaaDoor

/-
  slices.Concat of any lists of bytes.
-/
namespace Go.Proofs.YtnaebjdccngeoaaDoor
open Go.RowKit

set_option maxRecDepth 100000 in
set_option maxHeartbeats 2000000 in
theorem concat_any {w : World} {A : Option Addr} {k c : Nat} {R : List (List Nat)} (h : Ent w A k c R) (hk : k ≤ 100) (h0 : 0 < tot R) (hle : tot R ≤ 1000000) :
    Calls Tryd.prog 90 #[.slice A k c] w fun e w' =>
      ∃ A' c', e = .returned (.slice A' (tot R) c') ∧ w'.ownsRow w.heap.size 5 1 (.slice A' (tot R) c') (tot R) (bvs R.flatten) ∧ Below w.heap.size w w' := by
  have HX := Lib.hid h
  have hlen := Lib.hid h.len
  have HTT := Lib.hid (tot_take R)
  obtain ⟨T, hT⟩ : ∃ T, tot R = T := ⟨_, rfl⟩
  have HT := Lib.hid hT
  rw [hT] at h0 hle ⊢
  have G := Lib.hid (growB_any T w h0 hle)
  clear h hT
  go_enter Tryd.func90, Tryd.ntmps90
  go_wp2
  go_loopw [3, 5, 11] (fun sz _ i wr => ∃ j z : Nat, j ≤ k ∧ i = .int .i64 (j : Int) ∧ sz = .int .i64 (z : Int) ∧ Hid (z = tot (R.take j)) ∧ z ≤ T ∧ wr = w) (fun _ _ i _ => k - (intOf i).toNat)
  case atStart => exact ⟨0, 0, by omega, rfl, rfl, Lib.hid rfl, by omega, rfl⟩
  case round =>
    obtain ⟨j, z, hj, rfl, rfl, HZ, hz, e⟩ := hrel
    have e' := e.symm
    clear e
    subst e'
    by_cases hlt : j < k
    · obtain ⟨ad, B, m, d, b, rfl, hb, hcell, hcame, hm⟩ := HX.out.at_ hlt
      have hji : (j : Int) < (k : Int) := by omega
      have hz2 : z + m = tot (R.take (j + 1)) := by rw [rows_snoc hb, tot_snoc, ← HZ.out, hcame.in_.len]
      have hz3 : z + m ≤ T := by rw [hz2, ← HT.out]; exact HTT.out _
      have HZ2 := Lib.hid hz2
      have hn : ¬ ((z : Int) + (m : Int) < 0) := by omega
      clear hb hcame hz2 HZ
      go_wp2
      go_roundw
      case rel => exact ⟨j + 1, z + m, by omega, by go_num, by go_num, HZ2, hz3, trivial⟩
      case measure => simp [intOf]; omega
    · obtain rfl : j = k := by omega
      have hzT : z = T := by
        have := HZ.out
        rw [List.take_of_length_le (by rw [hlen.out]; exact Nat.le_refl _), HT.out] at this
        exact this
      subst hzT
      have hji : ¬ ((j : Int) < (j : Int)) := by omega
      clear HZ
      go_wp2_with fail
      refine G.out.mono ?_
      rintro e w1 ⟨c1, rfl, ho, hb⟩
      have HO := Lib.hid (And.intro ho hb)
      clear ho hb hji
      go_wp2
      go_loopw [6, 8, 27] (fun nw _ i w2 => ∃ (q s : Nat) (A' : Option Addr) (c' : Nat), q ≤ j ∧ i = .int .i64 (q : Int) ∧ nw = .slice A' s c' ∧ s ≤ z ∧ Hid (s = tot (R.take q) ∧ w2.ownsRow w.heap.size 5 1 (.slice A' s c') s (bvs (R.take q).flatten) ∧ Below w.heap.size w w2)) (fun _ _ i _ => j - (intOf i).toNat)
      case atStart => exact ⟨0, 0, _, c1, by omega, rfl, rfl, by omega, Lib.hid ⟨rfl, HO.out.1, HO.out.2⟩⟩
      case round =>
        obtain ⟨q, s, A', c', hq, rfl, rfl, hs, HW⟩ := hrel
        by_cases hqk : q < j
        · obtain ⟨ad, B, m, d, b, rfl, hb, hcell0, hcame0, hm⟩ := HX.out.at_ hqk
          have hcell := (HW.out.2.2.cell (World.block_lt_of_cell? w _ hcell0)).trans hcell0
          have hqi : (q : Int) < (j : Int) := by omega
          have hz2 : s + m = tot (R.take (q + 1)) := by rw [rows_snoc hb, tot_snoc, ← HW.out.1, hcame0.in_.len]
          have hz3 : s + m ≤ z := by rw [hz2, ← HT.out]; exact HTT.out _
          have HF := Lib.hid (And.intro (flat_snoc hb) (And.intro hz2 (hcame0.below HW.out.2.2)))
          clear hb hcell0 hcame0 hz2
          go_wp2_with (refine wpList_step fun K hK => ?_; refine step_app_at (K := K) (by rfl) _ _ (by rfl) w.heap.size A' s c' (R.take q).flatten (by rfl) HW.out.2.1 B m d b (by rfl) HF.out.2.2.in_ HF.out.2.2.nil (by omega) HW.out.2.2.size ?_; intro A3 c3 w3 ow3 nx3; have HN := Lib.hid (And.intro ow3 nx3); clear ow3 nx3; refine hK _ _ ?_; clear hK K)
          have ow3 := HN.out.1
          rw [← HF.out.1] at ow3
          have H3 := Lib.hid (And.intro HF.out.2.1 (And.intro ow3 (HN.out.2.below HW.out.2.1 HW.out.2.2 (Nat.le_refl _) HW.out.2.2.size)))
          clear ow3
          go_wp2
          go_roundw
          case rel => exact ⟨q + 1, s + m, A3, c3, by omega, by go_num, rfl, hz3, H3⟩
          case measure => simp [intOf]; omega
        · obtain rfl : q = j := by omega
          have hqi : ¬ ((q : Int) < (q : Int)) := by omega
          have ho := HW.out.2.1
          have he := HW.out.1
          rw [List.take_of_length_le (by rw [hlen.out]; exact Nat.le_refl _)] at ho he
          rw [HT.out] at he
          subst he
          have HO2 := Lib.hid ho
          clear ho
          go_wp2
          go_ret
          exact ⟨A', c', rfl, HO2.out, HW.out.2.2⟩

end Go.Proofs.YtnaebjdccngeoaaDoor

/-
  clashes.leaf, clashes.node.
-/
namespace Go.Proofs.YtnaebjdccngeoaaDoor
open Go.RowKit

theorem lit_cell (W : World) (z : Int) : (W.alloc (.cells #[.int .u8 z] 5)).cell? ⟨W.heap.size, 0, none⟩ = some (.int .u8 z) := by
  rw [cell_of_row _ _ 0 _ _ (0, 0) (World.alloc_heap_new W _)]; rfl
theorem lit_came (x : Nat) (hx : x < 256) (W : World) : Came (W.alloc (.cells #[.int .u8 (x : Int)] 5)) (some ⟨W.heap.size, 0, none⟩) 1 1 [x] :=
  ⟨⟨rfl, fun j y hy => ⟨_, rfl, by
    have hj := (List.getElem?_eq_some_iff.1 hy).1
    obtain rfl : j = 0 := by simp at hj; omega
    cases hy
    exact lit_cell W _⟩⟩, (by intro y hy; simp at hy; omega), (fun h => by cases h), Nat.le_refl _⟩
/-- Two lists of bytes in a row of slices that was laid last. -/
theorem ent_two {W : World} {A B : Option Addr} {n c m d : Nat} {xs ys : List Nat} (h1 : Came W A n c xs) (h2 : Came W B m d ys) (hn : n ≤ 20000) (hm : m ≤ 20000) :
    Ent (W.alloc (.cells #[.slice A n c, .slice B m d] 23)) (some ⟨W.heap.size, 0, none⟩) 2 2 [xs, ys] :=
  ⟨⟨rfl, fun r zs hz => by
    match r with
    | 0 => cases hz; exact ⟨_, A, n, c, rfl, by rw [add_zero', cell_of_row _ _ 0 _ _ (0, 0) (World.alloc_heap_new W _)]; rfl, h1.below (below_alloc W _), by omega⟩
    | 1 => cases hz; exact ⟨_, B, m, d, rfl, by
        rw [show (⟨W.heap.size, 0, none⟩ : Addr).add 1 = ⟨W.heap.size, 1, none⟩ from rfl, cell_of_row _ _ 1 _ _ (0, 0) (World.alloc_heap_new W _)]; rfl, h2.below (below_alloc W _), by omega⟩⟩,
    Nat.le_refl _, (fun e => by cases e), fun b hb => by
      simp at hb
      rcases hb with rfl | rfl
      · rw [h1.in_.len]; exact hn
      · rw [h2.in_.len]; exact hm⟩

section
variable {w : World} {A B : Option Addr} {n c m d : Nat} {xs ys : List Nat}

set_option maxRecDepth 100000 in
set_option maxHeartbeats 2000000 in
theorem cleaf_any (h1 : Came w A n c xs) (h2 : Came w B m d ys) (hn : n ≤ 20000) (hm : m ≤ 20000) (hk : Knows w) (hks : Starts w) :
    Calls Tryd.prog 87 #[.slice A n c, .slice B m d] w fun e w' => Told w.heap.size (sv (leafL xs ++ leafL ys)) (leafL xs = leafL ys → xs = ys) e w' ∧ Below w.heap.size w w' := by
  have b1 := below_alloc w (.cells (bvs zero64).toArray 63)
  have f1 := BArr.new w 63 zero64
  have e0 : (bvs zero64).toArray = #[.int .u8 0, .int .u8 0, .int .u8 0, .int .u8 0, .int .u8 0, .int .u8 0, .int .u8 0, .int .u8 0, .int .u8 0, .int .u8 0, .int .u8 0, .int .u8 0, .int .u8 0, .int .u8 0, .int .u8 0, .int .u8 0, .int .u8 0, .int .u8 0, .int .u8 0, .int .u8 0, .int .u8 0, .int .u8 0, .int .u8 0, .int .u8 0, .int .u8 0, .int .u8 0, .int .u8 0, .int .u8 0, .int .u8 0, .int .u8 0, .int .u8 0, .int .u8 0, .int .u8 0, .int .u8 0, .int .u8 0, .int .u8 0, .int .u8 0, .int .u8 0, .int .u8 0, .int .u8 0, .int .u8 0, .int .u8 0, .int .u8 0, .int .u8 0, .int .u8 0, .int .u8 0, .int .u8 0, .int .u8 0, .int .u8 0, .int .u8 0, .int .u8 0, .int .u8 0, .int .u8 0, .int .u8 0, .int .u8 0, .int .u8 0, .int .u8 0, .int .u8 0, .int .u8 0, .int .u8 0, .int .u8 0, .int .u8 0, .int .u8 0, .int .u8 0] := rfl
  rw [e0] at b1 f1
  obtain ⟨w1, hw1⟩ : ∃ w1, w1 = w.alloc (.cells #[.int .u8 0, .int .u8 0, .int .u8 0, .int .u8 0, .int .u8 0, .int .u8 0, .int .u8 0, .int .u8 0, .int .u8 0, .int .u8 0, .int .u8 0, .int .u8 0, .int .u8 0, .int .u8 0, .int .u8 0, .int .u8 0, .int .u8 0, .int .u8 0, .int .u8 0, .int .u8 0, .int .u8 0, .int .u8 0, .int .u8 0, .int .u8 0, .int .u8 0, .int .u8 0, .int .u8 0, .int .u8 0, .int .u8 0, .int .u8 0, .int .u8 0, .int .u8 0, .int .u8 0, .int .u8 0, .int .u8 0, .int .u8 0, .int .u8 0, .int .u8 0, .int .u8 0, .int .u8 0, .int .u8 0, .int .u8 0, .int .u8 0, .int .u8 0, .int .u8 0, .int .u8 0, .int .u8 0, .int .u8 0, .int .u8 0, .int .u8 0, .int .u8 0, .int .u8 0, .int .u8 0, .int .u8 0, .int .u8 0, .int .u8 0, .int .u8 0, .int .u8 0, .int .u8 0, .int .u8 0, .int .u8 0, .int .u8 0, .int .u8 0, .int .u8 0] 63) := ⟨_, rfl⟩
  rw [← hw1] at b1 f1
  have HW := Lib.hid hw1
  have b2 := below_alloc w1 (.cells #[.int .u8 0] 5)
  have l2 : Came (w1.alloc (.cells #[.int .u8 0] 5)) (some ⟨w1.heap.size, 0, none⟩) 1 1 [0] := lit_came 0 (by omega) w1
  obtain ⟨w2, hw2⟩ : ∃ w2, w2 = w1.alloc (.cells #[.int .u8 0] 5) := ⟨_, rfl⟩
  rw [← hw2] at b2 l2
  have HW2 := Lib.hid hw2
  have b02 := below_on b1 (Nat.le_refl _) b2
  have H2 := Lib.hid (And.intro b02 (And.intro (f1.below b2) l2))
  have HK := Lib.hid (And.intro h1 (And.intro h2 (And.intro hk hks)))
  obtain ⟨g2, hg2⟩ : ∃ g, w1.heap.size = g := ⟨_, rfl⟩
  rw [hg2] at H2
  have HG2 := Lib.hid hg2
  clear hw1 hw2 b1 f1 e0 b2 l2 h1 h2 hk hks b02 hg2
  obtain ⟨P, hP⟩ : ∃ P, leafL xs ++ leafL ys = P := ⟨_, rfl⟩
  have Pl : P.length = 64 := by rw [← hP, List.length_append, leafL_length, leafL_length]
  rw [hP]
  have HP := Lib.hid hP
  clear hP
  go_enter Tryd.func87, Tryd.ntmps87
  go_upto_region 1 with fail
  rw [← HW.out]
  go_upto_region 2 with fail
  rw [HG2.out, ← HW2.out]
  have E3 := ent_two H2.out.2.2 (HK.out.1.below H2.out.1) (by omega) hn
  have b3 := below_alloc w2 (.cells #[.slice (some ⟨g2, 0, none⟩) 1 1, .slice A n c] 23)
  obtain ⟨w3, hw3⟩ : ∃ w3, w3 = w2.alloc (.cells #[.slice (some ⟨g2, 0, none⟩) 1 1, .slice A n c] 23) := ⟨_, rfl⟩
  rw [← hw3] at E3 b3
  have hlx : xs.length = n := HK.out.1.in_.len
  have hly : ys.length = m := HK.out.2.1.in_.len
  have t3 : tot [[0], xs] = n + 1 := by simp [tot, hlx]; omega
  have C3 := concat_any E3 (by omega) (by rw [t3]; omega) (by rw [t3]; omega)
  rw [t3, show [[0], xs].flatten = 0 :: xs by simp] at C3
  have CC := Lib.hid C3
  have HW3 := Lib.hid hw3
  have H3 := Lib.hid (below_on H2.out.1 (Nat.le_refl _) b3)
  have H3b := Lib.hid b3
  clear E3 b3 hw3 t3 C3 hlx hly
  go_wp2_with fail
  rw [← HW3.out]
  refine CC.out.mono ?_
  rintro e w4 ⟨A4, c4, rfl, ho4, hb4⟩
  have b34 := below_on H3.out (Nat.le_refl _) hb4
  have HF4 := Lib.hid ((H2.out.2.1.below H3b.out).below hb4)
  have H4 := Lib.hid (And.intro b34 (And.intro ho4 (And.intro H3.out.size ((H2.out.2.2.below H3b.out).below hb4))))
  have E5 := ent_two H4.out.2.2.2 (HK.out.2.1.below b34) (by omega) hm
  have b5 := below_alloc w4 (.cells #[.slice (some ⟨g2, 0, none⟩) 1 1, .slice B m d] 23)
  obtain ⟨w5, hw5⟩ : ∃ w5, w5 = w4.alloc (.cells #[.slice (some ⟨g2, 0, none⟩) 1 1, .slice B m d] 23) := ⟨_, rfl⟩
  rw [← hw5] at E5 b5
  have hly : ys.length = m := HK.out.2.1.in_.len
  have t5 : tot [[0], ys] = m + 1 := by simp [tot, hly]; omega
  have C5 := concat_any E5 (by omega) (by rw [t5]; omega) (by rw [t5]; omega)
  rw [t5, show [[0], ys].flatten = 0 :: ys by simp] at C5
  have CC5 := Lib.hid C5
  have HW5 := Lib.hid hw5
  have HF5 := Lib.hid (HF4.out.below b5)
  have H5 := Lib.hid (And.intro (below_on H4.out.1 (Nat.le_refl _) b5) (own_on H4.out.2.1 b5))
  clear E5 b5 hw5 t5 C5 hly b34 ho4 hb4 CC
  go_wp2_with fail
  rw [← HW5.out]
  refine CC5.out.mono ?_
  rintro e w6 ⟨A6, c6, rfl, ho6, hb6⟩
  have hx0 : ∀ x ∈ 0 :: xs, x < 256 := fun x hx => by rcases List.mem_cons.1 hx with rfl | hx; omega; exact HK.out.1.lt x hx
  have hy0 : ∀ x ∈ 0 :: ys, x < 256 := fun x hx => by rcases List.mem_cons.1 hx with rfl | hx; omega; exact HK.out.2.1.lt x hx
  have T6 : Two w.heap.size w6 A4 (n + 1) c4 (0 :: xs) A6 (m + 1) c6 (0 :: ys) :=
    ⟨own_low2 (own_on H5.out.2 hb6) H4.out.2.2.1, own_low2 ho6 H5.out.1.size, fun x e1 e2 => by have a1 := (H5.out.2.lt x e1).2; have a2 := (ho6.lt x e2).1; omega, hx0, hy0, by omega, by omega⟩
  have b06 := below_on H5.out.1 (Nat.le_refl _) hb6
  have C6 := held_any T6 b06.size (HK.out.2.2.1.below b06) (HK.out.2.2.2.below b06)
  rw [show sha (0 :: xs) = leafL xs from rfl, show sha (0 :: ys) = leafL ys from rfl, HP.out] at C6
  have CH := Lib.hid C6
  have H6 := Lib.hid b06
  have HF6 := Lib.hid (HF5.out.below hb6)
  clear T6 C6 b06 ho6 hb6 hx0 hy0 CC5 H5 H4 H3
  go_wp2_with fail
  refine CH.out.mono ?_
  rintro e w7 ⟨hT, hb7⟩
  have H7 := Lib.hid (below_on H6.out (Nat.le_refl _) hb7)
  rcases hT with ⟨rfl, hsame⟩ | ⟨u, rfl, hu⟩
  · have f7 := HF6.out.below hb7
    have HS := Lib.hid hsame
    have HZ64 : zero64.length = 64 := rfl
    clear hsame hb7
    go_wp2_with (with_reducible refine wpList_store_pairC rfl (.tmp 4) (.tmp 15) rfl w.heap.size rfl zero64 P HZ64 Pl f7 rfl ?_)
    refine bodyPost_ret_by (results_cell_row (p := 4) (ty := 63) (by kernel_rfl) _ _ w.heap.size 63 (bvs P).toArray (0, 0) _ rfl (f7.setRow _) Tryd.underlying63 rfl (by rw [List.size_toArray, bvs_length, Pl]; exact sizePairC)) rfl ?_
    exact ⟨.inl ⟨rfl, same_leaf HS.out⟩, below_setRow H7.out (Nat.le_refl _) _⟩
  · have HU := Lib.hid hu
    clear hu hb7
    go_wp2_with fail
    exact ⟨rfl, .inr ⟨u, rfl, HU.out⟩, H7.out⟩
end

end Go.Proofs.YtnaebjdccngeoaaDoor

/-
  clashes.node.
-/
namespace Go.Proofs.YtnaebjdccngeoaaDoor
open Go.RowKit

/-- Three lists of bytes in a row of slices that was laid last. -/
theorem ent_three {W : World} {A B C : Option Addr} {n c m d k q : Nat} {xs ys zs : List Nat} (h1 : Came W A n c xs) (h2 : Came W B m d ys) (h3 : Came W C k q zs) (hn : n ≤ 20000) (hm : m ≤ 20000) (hk : k ≤ 20000) :
    Ent (W.alloc (.cells #[.slice A n c, .slice B m d, .slice C k q] 23)) (some ⟨W.heap.size, 0, none⟩) 3 3 [xs, ys, zs] :=
  ⟨⟨rfl, fun r us hz => by
    match r with
    | 0 => cases hz; exact ⟨_, A, n, c, rfl, by rw [add_zero', cell_of_row _ _ 0 _ _ (0, 0) (World.alloc_heap_new W _)]; rfl, h1.below (below_alloc W _), by omega⟩
    | 1 => cases hz; exact ⟨_, B, m, d, rfl, by
        rw [show (⟨W.heap.size, 0, none⟩ : Addr).add 1 = ⟨W.heap.size, 1, none⟩ from rfl, cell_of_row _ _ 1 _ _ (0, 0) (World.alloc_heap_new W _)]; rfl, h2.below (below_alloc W _), by omega⟩
    | 2 => cases hz; exact ⟨_, C, k, q, rfl, by
        rw [show (⟨W.heap.size, 0, none⟩ : Addr).add 2 = ⟨W.heap.size, 2, none⟩ from rfl, cell_of_row _ _ 2 _ _ (0, 0) (World.alloc_heap_new W _)]; rfl, h3.below (below_alloc W _), by omega⟩⟩,
    Nat.le_refl _, (fun e => by cases e), fun b hb => by
      simp at hb
      rcases hb with rfl | rfl | rfl
      · rw [h1.in_.len]; exact hn
      · rw [h2.in_.len]; exact hm
      · rw [h3.in_.len]; exact hk⟩

/-- Both sums of a pair, as bytes. -/
theorem came_half {W : World} {g : Nat} {T : TypeId} {x y : List Nat} (h : BArr W g T (x ++ y)) (hx : x.length = 32) (hy : y.length = 32) (lx : ∀ a ∈ x, a < 256) (ly : ∀ a ∈ y, a < 256) :
    Came W (some ⟨g, 0, none⟩) 32 32 x ∧ Came W (some ⟨g, 32, none⟩) 32 32 y := by
  have ha := h.at_
  refine ⟨⟨⟨hx, fun j v hj => ⟨_, rfl, ?_⟩⟩, lx, (fun e => by cases e), Nat.le_refl _⟩, ⟨⟨hy, fun j v hj => ⟨_, rfl, ?_⟩⟩, ly, (fun e => by cases e), Nat.le_refl _⟩⟩
  · exact ha j v (by rw [List.getElem?_append_left (List.getElem?_eq_some_iff.1 hj).1]; exact hj)
  · have := ha (32 + j) v (by rw [List.getElem?_append_right (by omega), hx, Nat.add_sub_cancel_left]; exact hj)
    rw [← add_add] at this
    exact this

/-- The world in which node begins. -/
structure NodeIn (w w1 : World) (g : Nat) (l r : List Nat) : Prop where
  l : BArr w1 g 63 l
  r : BArr w1 (g + 1) 63 r
  res : BArr w1 (g + 2) 63 zero64
  lit : Came w1 (some ⟨g + 3, 0, none⟩) 1 1 [1]
  below : Below g w w1
  size : w1.heap.size = g + 4
theorem NodeIn.mk_ (w : World) (g : Nat) (l r : List Nat) (hg : w.heap.size = g) : NodeIn w ((((w.alloc (.cells (bvs l).toArray 63)).alloc (.cells (bvs r).toArray 63)).alloc (.cells (bvs zero64).toArray 63)).alloc (.cells #[.int .u8 1] 5)) g l r := by
  have h0 := BArr.new w 63 l
  have b0 := below_alloc w (.cells (bvs l).toArray 63)
  obtain ⟨w0, e0⟩ : ∃ w0, w0 = w.alloc (.cells (bvs l).toArray 63) := ⟨_, rfl⟩
  have s0 : w0.heap.size = g + 1 := by rw [e0]; simp [hg]
  rw [← e0] at h0 b0 ⊢
  have h1 := BArr.new w0 63 r
  have b1 := below_alloc w0 (.cells (bvs r).toArray 63)
  obtain ⟨w1, e1⟩ : ∃ w1, w1 = w0.alloc (.cells (bvs r).toArray 63) := ⟨_, rfl⟩
  have s1 : w1.heap.size = g + 2 := by rw [e1]; simp [s0]
  rw [← e1] at h1 b1 ⊢
  have h2 := BArr.new w1 63 zero64
  have b2 := below_alloc w1 (.cells (bvs zero64).toArray 63)
  obtain ⟨w2, e2⟩ : ∃ w2, w2 = w1.alloc (.cells (bvs zero64).toArray 63) := ⟨_, rfl⟩
  have s2 : w2.heap.size = g + 3 := by rw [e2]; simp [s1]
  rw [← e2] at h2 b2 ⊢
  have h3 := lit_came 1 (by omega) w2
  have b3 := below_alloc w2 (.cells #[.int .u8 1] 5)
  rw [hg] at h0 b0
  rw [s0] at h1
  rw [s1] at h2
  rw [s2] at h3
  exact ⟨((h0.below b1).below b2).below b3, (h1.below b2).below b3, h2.below b3, h3, below_on (below_on (below_on b0 (by omega) b1) (by omega) b2) (by omega) b3, by simp [s2]⟩

theorem but_setRow {S : Nat → Prop} {a w : World} (h : But S a w) {b : Nat} (hb : S b) (cs : Array Value) : But S a (w.setRow b cs) :=
  ⟨h.os, h.tape, h.output, by rw [setRow_size]; exact h.size, fun k hk hn => (Go.setRow_other _ _ _ _ (fun e => hn (by first | rw [e]; exact hb | rw [← e]; exact hb))).trans (h.block k hk hn)⟩

section
variable {w : World} {l0 l1 r0 r1 : List Nat}

set_option maxRecDepth 100000 in
set_option maxHeartbeats 8000000 in
theorem cnode_any (a0 : l0.length = 32) (a1 : l1.length = 32) (a2 : r0.length = 32) (a3 : r1.length = 32) (t0 : ∀ x ∈ l0, x < 256) (t1 : ∀ x ∈ l1, x < 256) (t2 : ∀ x ∈ r0, x < 256) (t3 : ∀ x ∈ r1, x < 256) (hk : Knows w) (hks : Starts w) :
    Calls Tryd.prog 67 #[sv (l0 ++ l1), sv (r0 ++ r1)] w fun e w' => Told w.heap.size (sv (nodeL l0 r0 ++ nodeL l1 r1)) (nodeL l0 r0 = nodeL l1 r1 → l0 = l1 ∧ r0 = r1) e w' ∧ Below w.heap.size w w' := by
  obtain ⟨g, hg⟩ : ∃ g, w.heap.size = g := ⟨_, rfl⟩
  have h4 := NodeIn.mk_ w g (l0 ++ l1) (r0 ++ r1) hg
  have e0 : (bvs zero64).toArray = #[.int .u8 0, .int .u8 0, .int .u8 0, .int .u8 0, .int .u8 0, .int .u8 0, .int .u8 0, .int .u8 0, .int .u8 0, .int .u8 0, .int .u8 0, .int .u8 0, .int .u8 0, .int .u8 0, .int .u8 0, .int .u8 0, .int .u8 0, .int .u8 0, .int .u8 0, .int .u8 0, .int .u8 0, .int .u8 0, .int .u8 0, .int .u8 0, .int .u8 0, .int .u8 0, .int .u8 0, .int .u8 0, .int .u8 0, .int .u8 0, .int .u8 0, .int .u8 0, .int .u8 0, .int .u8 0, .int .u8 0, .int .u8 0, .int .u8 0, .int .u8 0, .int .u8 0, .int .u8 0, .int .u8 0, .int .u8 0, .int .u8 0, .int .u8 0, .int .u8 0, .int .u8 0, .int .u8 0, .int .u8 0, .int .u8 0, .int .u8 0, .int .u8 0, .int .u8 0, .int .u8 0, .int .u8 0, .int .u8 0, .int .u8 0, .int .u8 0, .int .u8 0, .int .u8 0, .int .u8 0, .int .u8 0, .int .u8 0, .int .u8 0, .int .u8 0] := rfl
  rw [e0] at h4
  obtain ⟨w4, hw4⟩ : ∃ w4, w4 = (((w.alloc (.cells (bvs (l0 ++ l1)).toArray 63)).alloc (.cells (bvs (r0 ++ r1)).toArray 63)).alloc (.cells #[.int .u8 0, .int .u8 0, .int .u8 0, .int .u8 0, .int .u8 0, .int .u8 0, .int .u8 0, .int .u8 0, .int .u8 0, .int .u8 0, .int .u8 0, .int .u8 0, .int .u8 0, .int .u8 0, .int .u8 0, .int .u8 0, .int .u8 0, .int .u8 0, .int .u8 0, .int .u8 0, .int .u8 0, .int .u8 0, .int .u8 0, .int .u8 0, .int .u8 0, .int .u8 0, .int .u8 0, .int .u8 0, .int .u8 0, .int .u8 0, .int .u8 0, .int .u8 0, .int .u8 0, .int .u8 0, .int .u8 0, .int .u8 0, .int .u8 0, .int .u8 0, .int .u8 0, .int .u8 0, .int .u8 0, .int .u8 0, .int .u8 0, .int .u8 0, .int .u8 0, .int .u8 0, .int .u8 0, .int .u8 0, .int .u8 0, .int .u8 0, .int .u8 0, .int .u8 0, .int .u8 0, .int .u8 0, .int .u8 0, .int .u8 0, .int .u8 0, .int .u8 0, .int .u8 0, .int .u8 0, .int .u8 0, .int .u8 0, .int .u8 0, .int .u8 0] 63)).alloc (.cells #[.int .u8 1] 5) := ⟨_, rfl⟩
  rw [← hw4] at h4
  have HW := Lib.hid hw4
  have HG := Lib.hid hg
  have H4 := Lib.hid h4
  obtain ⟨P, hP⟩ : ∃ P, nodeL l0 r0 ++ nodeL l1 r1 = P := ⟨_, rfl⟩
  have Pl : P.length = 64 := by rw [← hP, List.length_append, nodeL_length, nodeL_length]
  have C5 := Lib.hid (fun (W : World) (hW : Below w4.heap.size w4 W) => show Came W (some ⟨g + 3, 0, none⟩) 1 1 [1] ∧ Came W (some ⟨g, 0, none⟩) 32 32 l0 ∧ Came W (some ⟨g + 1, 0, none⟩) 32 32 r0 ∧ Came W (some ⟨g, 32, none⟩) 32 32 l1 ∧ Came W (some ⟨g + 1, 32, none⟩) 32 32 r1 from
    ⟨h4.lit.below hW, (came_half (h4.l.below hW) a0 a1 t0 t1).1, (came_half (h4.r.below hW) a2 a3 t2 t3).1, (came_half (h4.l.below hW) a0 a1 t0 t1).2, (came_half (h4.r.below hW) a2 a3 t2 t3).2⟩)
  have CC := Lib.hid (fun (W : World) (p : Nat) (x y : List Nat) (hx : x.length = 32) (hy : y.length = 32) (he : Ent W (some ⟨p, 0, none⟩) 3 3 [[1], x, y]) => show Calls Tryd.prog 90 #[.slice (some ⟨p, 0, none⟩) 3 3] W fun e w' => ∃ A' c', e = .returned (.slice A' 65 c') ∧ w'.ownsRow W.heap.size 5 1 (.slice A' 65 c') 65 (bvs (1 :: (x ++ y))) ∧ Below W.heap.size W w' from by
    have ht : tot [[1], x, y] = 65 := by simp [tot, hx, hy]
    have := concat_any he (by omega) (by rw [ht]; omega) (by rw [ht]; omega)
    rw [ht, show [[1], x, y].flatten = 1 :: (x ++ y) by simp] at this
    exact this)
  have CH := Lib.hid (fun (W : World) (A B : Option Addr) (c d : Nat) (hW : Below w4.heap.size w4 W) (hT : Two g W A 65 c (1 :: (l0 ++ r0)) B 65 d (1 :: (l1 ++ r1))) => show Calls Tryd.prog 89 #[.slice A 65 c, .slice B 65 d] W fun e w' => Told g (sv P) (nodeL l0 r0 = nodeL l1 r1 → l0 = l1 ∧ r0 = r1) e w' ∧ Below W.heap.size W w' from by
    have hb : Below w.heap.size w W := by have hx := h4.below; have hs := h4.size; rw [hg]; exact below_on hx (by omega) hW
    have := held_any hT (by have := hb.size; omega) (hk.below hb) (hks.below hb)
    refine this.mono fun e w' ⟨h, hb⟩ => ⟨?_, hb⟩
    rcases h with ⟨h1, h2⟩ | h
    · exact .inl ⟨by rw [h1, ← hP]; rfl, same_node (by rw [a0, a1]) h2⟩
    · exact .inr h)
  have HX := Lib.hid (show (∀ x ∈ 1 :: (l0 ++ r0), x < 256) ∧ ∀ x ∈ 1 :: (l1 ++ r1), x < 256 from
    ⟨fun x hx => by rcases List.mem_cons.1 hx with rfl | hx; omega; rcases List.mem_append.1 hx with hx | hx; exact t0 x hx; exact t2 x hx,
     fun x hx => by rcases List.mem_cons.1 hx with rfl | hx; omega; rcases List.mem_append.1 hx with hx | hx; exact t1 x hx; exact t3 x hx⟩)
  have HL := Lib.hid (And.intro a0 (And.intro a1 (And.intro a2 a3)))
  have hsa := run_arr_all Tryd.underlying36
  rw [hg, hP]
  clear h4 e0 hw4 hg hP hk hks t0 t1 t2 t3 a0 a1 a2 a3
  unfold sv
  go_enter Tryd.func67, Tryd.ntmps67
  go_upto_region 1 with fail
  go_upto_region 2 with fail
  rw [← HW.out]
  rw [HG.out]
  have hS0 : Below w4.heap.size w4 w4.drew := (Below.refl _ _).drew
  refine wp_region_held_drew (S := fun W => But (· = g + 2) w4 W) (by kernel_rfl) (But.of_below hS0) (fun _ => ?_)
  change wpAnyH _ _ _ _ _ _ _ _ w4.drew
  generalize w4.drew = W0 at hS0 ⊢
  refine' wpAnyH_take (i := 0) (oi := _) (v := _) ?hin0 (by kernel_rfl) ?hfn0 ?hrn0 ?hQn0 ?hyn0 (But.of_below hS0) ?restn0
  case hin0 => (simp only [List.getElem?_toArray, List.getElem?_cons_zero]; rfl)
  case hfn0 => kernel_rfl
  case hrn0 => kernel_rfl
  case hQn0 => exact fun _ _ _ h => h
  case hyn0 => refine Or.inl ⟨by rfl, ?_⟩; intro W hSw; go_simp; try with_reducible rfl
  try simp only [Act.put, List.setIfInBounds_toArray, List.set_cons_zero, List.set_cons_succ]
  refine' wpAnyH_take (i := 1) (oi := _) (v := _) ?hin1 (by kernel_rfl) ?hfn1 ?hrn1 ?hQn1 ?hyn1 (But.of_below hS0) ?restn1
  case hin1 => (simp only [List.getElem?_toArray, List.getElem?_cons_zero, List.getElem?_cons_succ]; rfl)
  case hfn1 => kernel_rfl
  case hrn1 => kernel_rfl
  case hQn1 => exact fun _ _ _ h => h
  case hyn1 => refine Or.inl ⟨by rfl, ?_⟩; intro W hSw; go_simp; try with_reducible rfl
  try simp only [Act.put, List.setIfInBounds_toArray, List.set_cons_zero, List.set_cons_succ]
  refine' wpAnyH_take (i := 2) (oi := _) (v := _) ?hin2 (by kernel_rfl) ?hfn2 ?hrn2 ?hQn2 ?hyn2 (But.of_below hS0) ?restn2
  case hin2 => (simp only [List.getElem?_toArray, List.getElem?_cons_zero, List.getElem?_cons_succ]; rfl)
  case hfn2 => kernel_rfl
  case hrn2 => kernel_rfl
  case hQn2 => exact fun _ _ _ h => h
  case hyn2 => refine Or.inl ⟨by rfl, ?_⟩; intro W hSw; go_simp; try with_reducible rfl
  try simp only [Act.put, List.setIfInBounds_toArray, List.set_cons_zero, List.set_cons_succ]
  refine' wpAnyH_take (i := 3) (oi := _) (v := _) ?hin3 (by kernel_rfl) ?hfn3 ?hrn3 ?hQn3 ?hyn3 (But.of_below hS0) ?restn3
  case hin3 => (simp only [List.getElem?_toArray, List.getElem?_cons_zero, List.getElem?_cons_succ]; rfl)
  case hfn3 => kernel_rfl
  case hrn3 => kernel_rfl
  case hQn3 => exact fun _ _ _ h => h
  case hyn3 => refine Or.inl ⟨by rfl, ?_⟩; intro W hSw; go_simp; try with_reducible rfl
  try simp only [Act.put, List.setIfInBounds_toArray, List.set_cons_zero, List.set_cons_succ]
  refine' wpAnyH_take (i := 4) (oi := _) (v := _) ?hin4 (by kernel_rfl) ?hfn4 ?hrn4 ?hQn4 ?hyn4 (But.of_below hS0) ?restn4
  case hin4 => (simp only [List.getElem?_toArray, List.getElem?_cons_zero, List.getElem?_cons_succ]; rfl)
  case hfn4 => kernel_rfl
  case hrn4 => kernel_rfl
  case hQn4 => exact fun _ _ _ h => h
  case hyn4 => refine Or.inl ⟨by rfl, ?_⟩; intro W hSw; go_simp; try with_reducible rfl
  try simp only [Act.put, List.setIfInBounds_toArray, List.set_cons_zero, List.set_cons_succ]
  refine' wpAnyH_take (i := 7) (oi := _) (v := _) ?hin7 (by kernel_rfl) ?hfn7 ?hrn7 ?hQn7 ?hyn7 (But.of_below hS0) ?restn7
  case hin7 => (simp only [List.getElem?_toArray, List.getElem?_cons_zero, List.getElem?_cons_succ]; rfl)
  case hfn7 => kernel_rfl
  case hrn7 => kernel_rfl
  case hQn7 => exact fun _ _ _ h => h
  case hyn7 => refine Or.inl ⟨by rfl, ?_⟩; intro W hSw; go_simp; try with_reducible rfl
  try simp only [Act.put, List.setIfInBounds_toArray, List.set_cons_zero, List.set_cons_succ]
  refine' wpAnyH_take (i := 8) (oi := _) (v := _) ?hin8 (by kernel_rfl) ?hfn8 ?hrn8 ?hQn8 ?hyn8 (But.of_below hS0) ?restn8
  case hin8 => (simp only [List.getElem?_toArray, List.getElem?_cons_zero, List.getElem?_cons_succ]; rfl)
  case hfn8 => kernel_rfl
  case hrn8 => kernel_rfl
  case hQn8 => exact fun _ _ _ h => h
  case hyn8 => refine Or.inl ⟨by rfl, ?_⟩; intro W hSw; go_simp; try with_reducible rfl
  try simp only [Act.put, List.setIfInBounds_toArray, List.set_cons_zero, List.set_cons_succ]
  refine' wpAnyH_take (i := 9) (oi := _) (v := _) ?hin9 (by kernel_rfl) ?hfn9 ?hrn9 ?hQn9 ?hyn9 (But.of_below hS0) ?restn9
  case hin9 => (simp only [List.getElem?_toArray, List.getElem?_cons_zero, List.getElem?_cons_succ]; rfl)
  case hfn9 => kernel_rfl
  case hrn9 => kernel_rfl
  case hQn9 => exact fun _ _ _ h => h
  case hyn9 => refine Or.inl ⟨by rfl, ?_⟩; intro W hSw; go_simp; try with_reducible rfl
  try simp only [Act.put, List.setIfInBounds_toArray, List.set_cons_zero, List.set_cons_succ]
  refine' wpAnyH_take (i := 10) (oi := _) (v := _) ?hin10 (by kernel_rfl) ?hfn10 ?hrn10 ?hQn10 ?hyn10 (But.of_below hS0) ?restn10
  case hin10 => (simp only [List.getElem?_toArray, List.getElem?_cons_zero, List.getElem?_cons_succ]; rfl)
  case hfn10 => kernel_rfl
  case hrn10 => kernel_rfl
  case hQn10 => exact fun _ _ _ h => h
  case hyn10 => refine Or.inl ⟨by rfl, ?_⟩; intro W hSw; go_simp; try with_reducible rfl
  try simp only [Act.put, List.setIfInBounds_toArray, List.set_cons_zero, List.set_cons_succ]
  refine' wpAnyH_take (i := 11) (oi := _) (v := _) ?hin11 (by kernel_rfl) ?hfn11 ?hrn11 ?hQn11 ?hyn11 (But.of_below hS0) ?restn11
  case hin11 => (simp only [List.getElem?_toArray, List.getElem?_cons_zero, List.getElem?_cons_succ]; rfl)
  case hfn11 => kernel_rfl
  case hrn11 => kernel_rfl
  case hQn11 => exact fun _ _ _ h => h
  case hyn11 => refine Or.inl ⟨by rfl, ?_⟩; intro W hSw; go_simp; try with_reducible rfl
  try simp only [Act.put, List.setIfInBounds_toArray, List.set_cons_zero, List.set_cons_succ]
  refine wpAnyH_ready (rs := [5, 12]) (by kernel_rfl) (by simp) ?_
  refine' (AllReadyH.cons (o := _) ?hi1 (fun K hK => ?_) (AllReadyH.cons (o := _) ?hi2 (fun K hK => ?_) AllReadyH.nil))
  case hi1 => (simp only [List.getElem?_toArray, List.getElem?_cons_zero, List.getElem?_cons_succ]; rfl)
  case hi2 => (simp only [List.getElem?_toArray, List.getElem?_cons_zero, List.getElem?_cons_succ]; rfl)
  · skip
    go_simp
    have hB3 := Below.alloc hS0 (Below.size hS0) (.cells #[.slice (some ⟨g + 3, 0, none⟩) 1 1, .slice (some ⟨g, 0, none⟩) 32 32, .slice (some ⟨g + 1, 0, none⟩) 32 32] 23)
    have hE4 := ent_three (C5.out W0 hS0).1 (C5.out W0 hS0).2.1 (C5.out W0 hS0).2.2.1 (by omega) (by omega) (by omega)
    refine hK.out _ _ (But.of_below hB3) (fun _ => ?_)
    clear hK K
    try simp only [Act.put, List.setIfInBounds_toArray, List.set_cons_zero, List.set_cons_succ]
    generalize (W0.alloc (.cells #[.slice (some ⟨g + 3, 0, none⟩) 1 1, .slice (some ⟨g, 0, none⟩) 32 32, .slice (some ⟨g + 1, 0, none⟩) 32 32] 23)) = W5 at hB3 hE4 ⊢
    refine wpAnyH_ready (rs := [6, 12]) (by kernel_rfl) (by simp) ?_
    refine' (AllReadyH.cons (o := _) ?hi6 (fun K hK => ?_) (AllReadyH.cons (o := _) ?hi7 (fun K hK => ?_) AllReadyH.nil))
    case hi6 => (simp only [List.getElem?_toArray, List.getElem?_cons_zero, List.getElem?_cons_succ]; rfl)
    case hi7 => (simp only [List.getElem?_toArray, List.getElem?_cons_zero, List.getElem?_cons_succ]; rfl)
    · skip
      go_simp
      go_at_call 90
      refine (CC.out W5 _ l0 r0 HL.out.1 HL.out.2.2.1 hE4).mono ?_
      rintro e W10 ⟨A11, c12, rfl, ho13, hb9⟩
      have hB8 := below_on hB3 (Nat.le_refl _) hb9
      have hqho13 := own_low2 (base' := g) ho13 (by have := Below.size hB3; have := H4.out.size; omega)
      refine hK.out _ _ (But.of_below hB8) (fun _ => ?_)
      clear hK K
      try simp only [Act.put, List.setIfInBounds_toArray, List.set_cons_zero, List.set_cons_succ]
      refine wpAnyH_ready (rs := [12]) (by kernel_rfl) (by simp) ?_
      refine' (AllReadyH.cons (o := _) ?hi14 (fun K hK => ?_) AllReadyH.nil)
      case hi14 => (simp only [List.getElem?_toArray, List.getElem?_cons_zero, List.getElem?_cons_succ]; rfl)
      go_simp
      have hB15 := Below.alloc hB8 (Below.size hB8) (.cells #[.slice (some ⟨g + 3, 0, none⟩) 1 1, .slice (some ⟨g, 32, none⟩) 32 32, .slice (some ⟨g + 1, 32, none⟩) 32 32] 23)
      have hE16 := ent_three (C5.out W10 hB8).1 (C5.out W10 hB8).2.2.2.1 (C5.out W10 hB8).2.2.2.2 (by omega) (by omega) (by omega)
      have hown18 := own_on hqho13 (below_alloc W10 (.cells #[.slice (some ⟨g + 3, 0, none⟩) 1 1, .slice (some ⟨g, 32, none⟩) 32 32, .slice (some ⟨g + 1, 32, none⟩) 32 32] 23))
      refine hK.out _ _ (But.of_below hB15) (fun _ => ?_)
      clear hK K
      try simp only [Act.put, List.setIfInBounds_toArray, List.set_cons_zero, List.set_cons_succ]
      generalize (W10.alloc (.cells #[.slice (some ⟨g + 3, 0, none⟩) 1 1, .slice (some ⟨g, 32, none⟩) 32 32, .slice (some ⟨g + 1, 32, none⟩) 32 32] 23)) = W17 at hB15 hE16 hown18 ⊢
      refine wpAnyH_ready (rs := [13]) (by kernel_rfl) (by simp) ?_
      refine' (AllReadyH.cons (o := _) ?hi19 (fun K hK => ?_) AllReadyH.nil)
      case hi19 => (simp only [List.getElem?_toArray, List.getElem?_cons_zero, List.getElem?_cons_succ]; rfl)
      go_simp
      go_at_call 90
      refine (CC.out W17 _ l1 r1 HL.out.2.1 HL.out.2.2.2 hE16).mono ?_
      rintro e W22 ⟨A23, c24, rfl, ho25, hb21⟩
      have hB20 := below_on hB15 (Nat.le_refl _) hb21
      have hap : ∀ x, (Value.slice A11 65 c12).ownBlock = some x → (Value.slice A23 65 c24).ownBlock = some x → False := fun x e1 e2 => by have a1 := (hown18.lt x e1).2; have a2 := (ho25.lt x e2).1; omega
      have hT : Two g W22 A11 65 c12 (1 :: (l0 ++ r0)) A23 65 c24 (1 :: (l1 ++ r1)) := ⟨own_on hown18 hb21, own_low2 (base' := g) ho25 (by have := Below.size hB15; have := H4.out.size; omega), hap, HX.out.1, HX.out.2, by omega, by omega⟩
      refine hK.out _ _ (But.of_below hB20) (fun _ => ?_)
      clear hK K
      try simp only [Act.put, List.setIfInBounds_toArray, List.set_cons_zero, List.set_cons_succ]
      refine wpAnyH_ready (rs := [14]) (by kernel_rfl) (by simp) ?_
      refine' (AllReadyH.cons (o := _) ?hi26 (fun K hK => ?_) AllReadyH.nil)
      case hi26 => (simp only [List.getElem?_toArray, List.getElem?_cons_zero, List.getElem?_cons_succ]; rfl)
      go_simp
      go_at_call 89
      refine (CH.out W22 _ _ _ _ hB20 hT).mono ?_
      rintro e W29 ⟨hT2, hb28⟩
      have hB27 := below_on hB20 (Nat.le_refl _) hb28
      rcases hT2 with ⟨rfl, hsame⟩ | ⟨u, rfl, hu⟩
      · refine hK.out _ _ (But.of_below hB27) (fun _ => ?_)
        clear hK K
        try simp only [Act.put, List.setIfInBounds_toArray, List.set_cons_zero, List.set_cons_succ]
        refine wpAnyH_ready (rs := [15]) (by kernel_rfl) (by simp) ?_
        refine' (AllReadyH.cons (o := _) ?hi30 (fun K hK => ?_) AllReadyH.nil)
        case hi30 => (simp only [List.getElem?_toArray, List.getElem?_cons_zero, List.getElem?_cons_succ]; rfl)
        rw [if_pos (by rfl)]
        have hf := H4.out.res.below hB27
        refine step_store_pairC (.tmp 4) (.tmp 21) rfl (g + 2) rfl zero64 P (by rfl) Pl hf rfl ?_
        have hB31 : Below g w (W29.setRow (g + 2) (bvs P).toArray) := below_setRow (below_on H4.out.below (Nat.le_of_eq HG.out.symm) hB27) (by omega) _
        refine hK.out _ _ (but_setRow (S := (· = g + 2)) (But.of_below hB27) rfl _) (fun _ => ?_)
        clear hK K
        try simp only [Act.put]
        have hf2 := hf.setRow P
        generalize (W29.setRow (g + 2) (bvs P).toArray) = Wz at hB31 hf2 ⊢
        refine wpAnyH_done (by kernel_rfl) ?_ _
        go_wp2_with fail
        refine bodyPost_ret_by (results_cell_row (p := 4) (ty := 63) (by kernel_rfl) _ _ (g + 2) 63 (bvs P).toArray (0, 0) _ rfl hf2 Tryd.underlying63 rfl (by rw [List.size_toArray, bvs_length, Pl]; exact sizePairC)) rfl ?_
        exact ⟨.inl ⟨rfl, hsame⟩, hB31⟩
      · go_wp2
        exact ⟨rfl, .inr ⟨u, rfl, hu⟩, below_on H4.out.below (Nat.le_of_eq HG.out.symm) hB27⟩
    · skip
      go_simp
      have hB32 := Below.alloc hB3 (Below.size hB3) (.cells #[.slice (some ⟨g + 3, 0, none⟩) 1 1, .slice (some ⟨g, 32, none⟩) 32 32, .slice (some ⟨g + 1, 32, none⟩) 32 32] 23)
      have hE33 := ent_three (C5.out W5 hB3).1 (C5.out W5 hB3).2.2.2.1 (C5.out W5 hB3).2.2.2.2 (by omega) (by omega) (by omega)
      have hE535 := hE4.below (below_alloc W5 (.cells #[.slice (some ⟨g + 3, 0, none⟩) 1 1, .slice (some ⟨g, 32, none⟩) 32 32, .slice (some ⟨g + 1, 32, none⟩) 32 32] 23))
      refine hK.out _ _ (But.of_below hB32) (fun _ => ?_)
      clear hK K
      try simp only [Act.put, List.setIfInBounds_toArray, List.set_cons_zero, List.set_cons_succ]
      generalize (W5.alloc (.cells #[.slice (some ⟨g + 3, 0, none⟩) 1 1, .slice (some ⟨g, 32, none⟩) 32 32, .slice (some ⟨g + 1, 32, none⟩) 32 32] 23)) = W34 at hB32 hE33 hE535 ⊢
      refine wpAnyH_ready (rs := [6]) (by kernel_rfl) (by simp) ?_
      refine' (AllReadyH.cons (o := _) ?hi36 (fun K hK => ?_) AllReadyH.nil)
      case hi36 => (simp only [List.getElem?_toArray, List.getElem?_cons_zero, List.getElem?_cons_succ]; rfl)
      go_simp
      go_at_call 90
      refine (CC.out W34 _ l0 r0 HL.out.1 HL.out.2.2.1 hE535).mono ?_
      rintro e W39 ⟨A40, c41, rfl, ho42, hb38⟩
      have hB37 := below_on hB32 (Nat.le_refl _) hb38
      have hqho42 := own_low2 (base' := g) ho42 (by have := Below.size hB32; have := H4.out.size; omega)
      have hE43 := hE33.below hb38
      refine hK.out _ _ (But.of_below hB37) (fun _ => ?_)
      clear hK K
      try simp only [Act.put, List.setIfInBounds_toArray, List.set_cons_zero, List.set_cons_succ]
      refine wpAnyH_ready (rs := [13]) (by kernel_rfl) (by simp) ?_
      refine' (AllReadyH.cons (o := _) ?hi44 (fun K hK => ?_) AllReadyH.nil)
      case hi44 => (simp only [List.getElem?_toArray, List.getElem?_cons_zero, List.getElem?_cons_succ]; rfl)
      go_simp
      go_at_call 90
      refine (CC.out W39 _ l1 r1 HL.out.2.1 HL.out.2.2.2 hE43).mono ?_
      rintro e W47 ⟨A48, c49, rfl, ho50, hb46⟩
      have hB45 := below_on hB37 (Nat.le_refl _) hb46
      have hap : ∀ x, (Value.slice A40 65 c41).ownBlock = some x → (Value.slice A48 65 c49).ownBlock = some x → False := fun x e1 e2 => by have a1 := (hqho42.lt x e1).2; have a2 := (ho50.lt x e2).1; omega
      have hT : Two g W47 A40 65 c41 (1 :: (l0 ++ r0)) A48 65 c49 (1 :: (l1 ++ r1)) := ⟨own_on hqho42 hb46, own_low2 (base' := g) ho50 (by have := Below.size hB37; have := H4.out.size; omega), hap, HX.out.1, HX.out.2, by omega, by omega⟩
      refine hK.out _ _ (But.of_below hB45) (fun _ => ?_)
      clear hK K
      try simp only [Act.put, List.setIfInBounds_toArray, List.set_cons_zero, List.set_cons_succ]
      refine wpAnyH_ready (rs := [14]) (by kernel_rfl) (by simp) ?_
      refine' (AllReadyH.cons (o := _) ?hi51 (fun K hK => ?_) AllReadyH.nil)
      case hi51 => (simp only [List.getElem?_toArray, List.getElem?_cons_zero, List.getElem?_cons_succ]; rfl)
      go_simp
      go_at_call 89
      refine (CH.out W47 _ _ _ _ hB45 hT).mono ?_
      rintro e W54 ⟨hT2, hb53⟩
      have hB52 := below_on hB45 (Nat.le_refl _) hb53
      rcases hT2 with ⟨rfl, hsame⟩ | ⟨u, rfl, hu⟩
      · refine hK.out _ _ (But.of_below hB52) (fun _ => ?_)
        clear hK K
        try simp only [Act.put, List.setIfInBounds_toArray, List.set_cons_zero, List.set_cons_succ]
        refine wpAnyH_ready (rs := [15]) (by kernel_rfl) (by simp) ?_
        refine' (AllReadyH.cons (o := _) ?hi55 (fun K hK => ?_) AllReadyH.nil)
        case hi55 => (simp only [List.getElem?_toArray, List.getElem?_cons_zero, List.getElem?_cons_succ]; rfl)
        rw [if_pos (by rfl)]
        have hf := H4.out.res.below hB52
        refine step_store_pairC (.tmp 4) (.tmp 21) rfl (g + 2) rfl zero64 P (by rfl) Pl hf rfl ?_
        have hB56 : Below g w (W54.setRow (g + 2) (bvs P).toArray) := below_setRow (below_on H4.out.below (Nat.le_of_eq HG.out.symm) hB52) (by omega) _
        refine hK.out _ _ (but_setRow (S := (· = g + 2)) (But.of_below hB52) rfl _) (fun _ => ?_)
        clear hK K
        try simp only [Act.put]
        have hf2 := hf.setRow P
        generalize (W54.setRow (g + 2) (bvs P).toArray) = Wz at hB56 hf2 ⊢
        refine wpAnyH_done (by kernel_rfl) ?_ _
        go_wp2_with fail
        refine bodyPost_ret_by (results_cell_row (p := 4) (ty := 63) (by kernel_rfl) _ _ (g + 2) 63 (bvs P).toArray (0, 0) _ rfl hf2 Tryd.underlying63 rfl (by rw [List.size_toArray, bvs_length, Pl]; exact sizePairC)) rfl ?_
        exact ⟨.inl ⟨rfl, hsame⟩, hB56⟩
      · go_wp2
        exact ⟨rfl, .inr ⟨u, rfl, hu⟩, below_on H4.out.below (Nat.le_of_eq HG.out.symm) hB52⟩
  · skip
    go_simp
    have hB57 := Below.alloc hS0 (Below.size hS0) (.cells #[.slice (some ⟨g + 3, 0, none⟩) 1 1, .slice (some ⟨g, 32, none⟩) 32 32, .slice (some ⟨g + 1, 32, none⟩) 32 32] 23)
    have hE58 := ent_three (C5.out W0 hS0).1 (C5.out W0 hS0).2.2.2.1 (C5.out W0 hS0).2.2.2.2 (by omega) (by omega) (by omega)
    refine hK.out _ _ (But.of_below hB57) (fun _ => ?_)
    clear hK K
    try simp only [Act.put, List.setIfInBounds_toArray, List.set_cons_zero, List.set_cons_succ]
    generalize (W0.alloc (.cells #[.slice (some ⟨g + 3, 0, none⟩) 1 1, .slice (some ⟨g, 32, none⟩) 32 32, .slice (some ⟨g + 1, 32, none⟩) 32 32] 23)) = W59 at hB57 hE58 ⊢
    refine wpAnyH_ready (rs := [5]) (by kernel_rfl) (by simp) ?_
    refine' (AllReadyH.cons (o := _) ?hi60 (fun K hK => ?_) AllReadyH.nil)
    case hi60 => (simp only [List.getElem?_toArray, List.getElem?_cons_zero, List.getElem?_cons_succ]; rfl)
    go_simp
    have hB61 := Below.alloc hB57 (Below.size hB57) (.cells #[.slice (some ⟨g + 3, 0, none⟩) 1 1, .slice (some ⟨g, 0, none⟩) 32 32, .slice (some ⟨g + 1, 0, none⟩) 32 32] 23)
    have hE62 := ent_three (C5.out W59 hB57).1 (C5.out W59 hB57).2.1 (C5.out W59 hB57).2.2.1 (by omega) (by omega) (by omega)
    have hE1264 := hE58.below (below_alloc W59 (.cells #[.slice (some ⟨g + 3, 0, none⟩) 1 1, .slice (some ⟨g, 0, none⟩) 32 32, .slice (some ⟨g + 1, 0, none⟩) 32 32] 23))
    refine hK.out _ _ (But.of_below hB61) (fun _ => ?_)
    clear hK K
    try simp only [Act.put, List.setIfInBounds_toArray, List.set_cons_zero, List.set_cons_succ]
    generalize (W59.alloc (.cells #[.slice (some ⟨g + 3, 0, none⟩) 1 1, .slice (some ⟨g, 0, none⟩) 32 32, .slice (some ⟨g + 1, 0, none⟩) 32 32] 23)) = W63 at hB61 hE62 hE1264 ⊢
    refine wpAnyH_ready (rs := [6]) (by kernel_rfl) (by simp) ?_
    refine' (AllReadyH.cons (o := _) ?hi65 (fun K hK => ?_) AllReadyH.nil)
    case hi65 => (simp only [List.getElem?_toArray, List.getElem?_cons_zero, List.getElem?_cons_succ]; rfl)
    go_simp
    go_at_call 90
    refine (CC.out W63 _ l0 r0 HL.out.1 HL.out.2.2.1 hE62).mono ?_
    rintro e W68 ⟨A69, c70, rfl, ho71, hb67⟩
    have hB66 := below_on hB61 (Nat.le_refl _) hb67
    have hqho71 := own_low2 (base' := g) ho71 (by have := Below.size hB61; have := H4.out.size; omega)
    have hE72 := hE1264.below hb67
    refine hK.out _ _ (But.of_below hB66) (fun _ => ?_)
    clear hK K
    try simp only [Act.put, List.setIfInBounds_toArray, List.set_cons_zero, List.set_cons_succ]
    refine wpAnyH_ready (rs := [13]) (by kernel_rfl) (by simp) ?_
    refine' (AllReadyH.cons (o := _) ?hi73 (fun K hK => ?_) AllReadyH.nil)
    case hi73 => (simp only [List.getElem?_toArray, List.getElem?_cons_zero, List.getElem?_cons_succ]; rfl)
    go_simp
    go_at_call 90
    refine (CC.out W68 _ l1 r1 HL.out.2.1 HL.out.2.2.2 hE72).mono ?_
    rintro e W76 ⟨A77, c78, rfl, ho79, hb75⟩
    have hB74 := below_on hB66 (Nat.le_refl _) hb75
    have hap : ∀ x, (Value.slice A69 65 c70).ownBlock = some x → (Value.slice A77 65 c78).ownBlock = some x → False := fun x e1 e2 => by have a1 := (hqho71.lt x e1).2; have a2 := (ho79.lt x e2).1; omega
    have hT : Two g W76 A69 65 c70 (1 :: (l0 ++ r0)) A77 65 c78 (1 :: (l1 ++ r1)) := ⟨own_on hqho71 hb75, own_low2 (base' := g) ho79 (by have := Below.size hB66; have := H4.out.size; omega), hap, HX.out.1, HX.out.2, by omega, by omega⟩
    refine hK.out _ _ (But.of_below hB74) (fun _ => ?_)
    clear hK K
    try simp only [Act.put, List.setIfInBounds_toArray, List.set_cons_zero, List.set_cons_succ]
    refine wpAnyH_ready (rs := [14]) (by kernel_rfl) (by simp) ?_
    refine' (AllReadyH.cons (o := _) ?hi80 (fun K hK => ?_) AllReadyH.nil)
    case hi80 => (simp only [List.getElem?_toArray, List.getElem?_cons_zero, List.getElem?_cons_succ]; rfl)
    go_simp
    go_at_call 89
    refine (CH.out W76 _ _ _ _ hB74 hT).mono ?_
    rintro e W83 ⟨hT2, hb82⟩
    have hB81 := below_on hB74 (Nat.le_refl _) hb82
    rcases hT2 with ⟨rfl, hsame⟩ | ⟨u, rfl, hu⟩
    · refine hK.out _ _ (But.of_below hB81) (fun _ => ?_)
      clear hK K
      try simp only [Act.put, List.setIfInBounds_toArray, List.set_cons_zero, List.set_cons_succ]
      refine wpAnyH_ready (rs := [15]) (by kernel_rfl) (by simp) ?_
      refine' (AllReadyH.cons (o := _) ?hi84 (fun K hK => ?_) AllReadyH.nil)
      case hi84 => (simp only [List.getElem?_toArray, List.getElem?_cons_zero, List.getElem?_cons_succ]; rfl)
      rw [if_pos (by rfl)]
      have hf := H4.out.res.below hB81
      refine step_store_pairC (.tmp 4) (.tmp 21) rfl (g + 2) rfl zero64 P (by rfl) Pl hf rfl ?_
      have hB85 : Below g w (W83.setRow (g + 2) (bvs P).toArray) := below_setRow (below_on H4.out.below (Nat.le_of_eq HG.out.symm) hB81) (by omega) _
      refine hK.out _ _ (but_setRow (S := (· = g + 2)) (But.of_below hB81) rfl _) (fun _ => ?_)
      clear hK K
      try simp only [Act.put]
      have hf2 := hf.setRow P
      generalize (W83.setRow (g + 2) (bvs P).toArray) = Wz at hB85 hf2 ⊢
      refine wpAnyH_done (by kernel_rfl) ?_ _
      go_wp2_with fail
      refine bodyPost_ret_by (results_cell_row (p := 4) (ty := 63) (by kernel_rfl) _ _ (g + 2) 63 (bvs P).toArray (0, 0) _ rfl hf2 Tryd.underlying63 rfl (by rw [List.size_toArray, bvs_length, Pl]; exact sizePairC)) rfl ?_
      exact ⟨.inl ⟨rfl, hsame⟩, hB85⟩
    · go_wp2
      exact ⟨rfl, .inr ⟨u, rfl, hu⟩, below_on H4.out.below (Nat.le_of_eq HG.out.symm) hB81⟩
end

end Go.Proofs.YtnaebjdccngeoaaDoor

/-
  How many bits a number of 64 bits has; how many leaves a left side has.
-/
namespace Go.Proofs.YtnaebjdccngeoaaDoor
open Go.RowKit

set_option maxRecDepth 100000 in
set_option maxHeartbeats 1000000 in
theorem len64_010 (x : Nat) (w : World) (hx : x < 18446744073709551616) (hA : x < 4294967296) (hB : 65536 ≤ x) (hC : x / 65536 < 256) :
    Calls Tryd.prog 91 #[.int .u64 (x : Int)] w fun e w' => e = .returned (.int .i64 (Lib.bitLen x)) ∧ w' = w := by
  have h1 : decide (4294967296 ≤ (x : Int)) = false := by simp; omega
  have h2 : decide (65536 ≤ (x : Int)) = true := by simp; omega
  have h3 : decide (256 ≤ (x : Int) / 65536) = false := by simp; omega
  have hq : x / 65536 < 256 := by omega
  have hv := tab_len ⟨x / 65536, hq⟩
  have hle := Lib.bitLen_le8 ⟨x / 65536, hq⟩
  have HS := Lib.hid (show Lib.bitLen x = 16 + Lib.bitLen (x / 65536) from by rw [Lib.bitLen_shift16 (x) hB (by omega)])
  dsimp only at hv hle
  have HV := Lib.hid (And.intro hv hle)
  clear hv hle
  go_enter Tryd.func91, Tryd.ntmps91
  go_wp2
  · go_ret
    refine ⟨congrArg Ending.returned (congrArg (Value.int IntKind.i64) ?_), rfl⟩
    have hv := HV.out.1
    have hle := HV.out.2
    rw [hv, HS.out]
    have _u := hC
    clear _u
    revert hle
    generalize Lib.bitLen (x / 65536) = q
    clear h1 h2 h3 hq hv HS HV hA hB hC hx
    intro hle
    simp only [wrap64]
    omega
  · exfalso
    rename_i hh
    have := Lib.len8tab_size
    omega

set_option maxRecDepth 100000 in
set_option maxHeartbeats 1000000 in
theorem len64_011 (x : Nat) (w : World) (hx : x < 18446744073709551616) (hA : x < 4294967296) (hB : 65536 ≤ x) (hC : 256 ≤ x / 65536) :
    Calls Tryd.prog 91 #[.int .u64 (x : Int)] w fun e w' => e = .returned (.int .i64 (Lib.bitLen x)) ∧ w' = w := by
  have h1 : decide (4294967296 ≤ (x : Int)) = false := by simp; omega
  have h2 : decide (65536 ≤ (x : Int)) = true := by simp; omega
  have h3 : decide (256 ≤ (x : Int) / 65536) = true := by simp; omega
  have hq : x / 65536 / 256 < 256 := by omega
  have hv := tab_len ⟨x / 65536 / 256, hq⟩
  have hle := Lib.bitLen_le8 ⟨x / 65536 / 256, hq⟩
  have HS := Lib.hid (show Lib.bitLen x = 24 + Lib.bitLen (x / 65536 / 256) from by rw [Lib.bitLen_shift16 (x) hB (by omega), Lib.bitLen_shift8 (x / 65536) hC (by omega)]; omega)
  dsimp only at hv hle
  have HV := Lib.hid (And.intro hv hle)
  clear hv hle
  go_enter Tryd.func91, Tryd.ntmps91
  go_wp2
  · go_ret
    refine ⟨congrArg Ending.returned (congrArg (Value.int IntKind.i64) ?_), rfl⟩
    have hv := HV.out.1
    have hle := HV.out.2
    rw [hv, HS.out]
    have _u := hC
    clear _u
    revert hle
    generalize Lib.bitLen (x / 65536 / 256) = q
    clear h1 h2 h3 hq hv HS HV hA hB hC hx
    intro hle
    simp only [wrap64]
    omega
  · exfalso
    rename_i hh
    have := Lib.len8tab_size
    omega

set_option maxRecDepth 100000 in
set_option maxHeartbeats 1000000 in
theorem len64_100 (x : Nat) (w : World) (hx : x < 18446744073709551616) (hA : 4294967296 ≤ x) (hB : x / 4294967296 < 65536) (hC : x / 4294967296 < 256) :
    Calls Tryd.prog 91 #[.int .u64 (x : Int)] w fun e w' => e = .returned (.int .i64 (Lib.bitLen x)) ∧ w' = w := by
  have h1 : decide (4294967296 ≤ (x : Int)) = true := by simp; omega
  have h2 : decide (65536 ≤ (x : Int) / 4294967296) = false := by simp; omega
  have h3 : decide (256 ≤ (x : Int) / 4294967296) = false := by simp; omega
  have hq : x / 4294967296 < 256 := by omega
  have hv := tab_len ⟨x / 4294967296, hq⟩
  have hle := Lib.bitLen_le8 ⟨x / 4294967296, hq⟩
  have HS := Lib.hid (show Lib.bitLen x = 32 + Lib.bitLen (x / 4294967296) from by rw [Lib.bitLen_shift32 x hA hx])
  dsimp only at hv hle
  have HV := Lib.hid (And.intro hv hle)
  clear hv hle
  go_enter Tryd.func91, Tryd.ntmps91
  go_wp2
  · go_ret
    refine ⟨congrArg Ending.returned (congrArg (Value.int IntKind.i64) ?_), rfl⟩
    have hv := HV.out.1
    have hle := HV.out.2
    rw [hv, HS.out]
    have _u := hB
    clear _u
    revert hle
    generalize Lib.bitLen (x / 4294967296) = q
    clear h1 h2 h3 hq hv HS HV hA hB hC hx
    intro hle
    simp only [wrap64]
    omega
  · exfalso
    rename_i hh
    have := Lib.len8tab_size
    omega

set_option maxRecDepth 100000 in
set_option maxHeartbeats 1000000 in
theorem len64_101 (x : Nat) (w : World) (hx : x < 18446744073709551616) (hA : 4294967296 ≤ x) (hB : x / 4294967296 < 65536) (hC : 256 ≤ x / 4294967296) :
    Calls Tryd.prog 91 #[.int .u64 (x : Int)] w fun e w' => e = .returned (.int .i64 (Lib.bitLen x)) ∧ w' = w := by
  have h1 : decide (4294967296 ≤ (x : Int)) = true := by simp; omega
  have h2 : decide (65536 ≤ (x : Int) / 4294967296) = false := by simp; omega
  have h3 : decide (256 ≤ (x : Int) / 4294967296) = true := by simp; omega
  have hq : x / 4294967296 / 256 < 256 := by omega
  have hv := tab_len ⟨x / 4294967296 / 256, hq⟩
  have hle := Lib.bitLen_le8 ⟨x / 4294967296 / 256, hq⟩
  have HS := Lib.hid (show Lib.bitLen x = 40 + Lib.bitLen (x / 4294967296 / 256) from by rw [Lib.bitLen_shift32 x hA hx, Lib.bitLen_shift8 (x / 4294967296) hC (by omega)]; omega)
  dsimp only at hv hle
  have HV := Lib.hid (And.intro hv hle)
  clear hv hle
  go_enter Tryd.func91, Tryd.ntmps91
  go_wp2
  · go_ret
    refine ⟨congrArg Ending.returned (congrArg (Value.int IntKind.i64) ?_), rfl⟩
    have hv := HV.out.1
    have hle := HV.out.2
    rw [hv, HS.out]
    have _u := hC
    clear _u
    revert hle
    generalize Lib.bitLen (x / 4294967296 / 256) = q
    clear h1 h2 h3 hq hv HS HV hA hB hC hx
    intro hle
    simp only [wrap64]
    omega
  · exfalso
    rename_i hh
    have := Lib.len8tab_size
    omega

set_option maxRecDepth 100000 in
set_option maxHeartbeats 1000000 in
theorem len64_110 (x : Nat) (w : World) (hx : x < 18446744073709551616) (hA : 4294967296 ≤ x) (hB : 65536 ≤ x / 4294967296) (hC : x / 4294967296 / 65536 < 256) :
    Calls Tryd.prog 91 #[.int .u64 (x : Int)] w fun e w' => e = .returned (.int .i64 (Lib.bitLen x)) ∧ w' = w := by
  have h1 : decide (4294967296 ≤ (x : Int)) = true := by simp; omega
  have h2 : decide (65536 ≤ (x : Int) / 4294967296) = true := by simp; omega
  have h3 : decide (256 ≤ (x : Int) / 4294967296 / 65536) = false := by simp; omega
  have hq : x / 4294967296 / 65536 < 256 := by omega
  have hv := tab_len ⟨x / 4294967296 / 65536, hq⟩
  have hle := Lib.bitLen_le8 ⟨x / 4294967296 / 65536, hq⟩
  have HS := Lib.hid (show Lib.bitLen x = 48 + Lib.bitLen (x / 4294967296 / 65536) from by rw [Lib.bitLen_shift32 x hA hx, Lib.bitLen_shift16 (x / 4294967296) hB (by omega)]; omega)
  dsimp only at hv hle
  have HV := Lib.hid (And.intro hv hle)
  clear hv hle
  go_enter Tryd.func91, Tryd.ntmps91
  go_wp2
  · go_ret
    refine ⟨congrArg Ending.returned (congrArg (Value.int IntKind.i64) ?_), rfl⟩
    have hv := HV.out.1
    have hle := HV.out.2
    rw [hv, HS.out]
    have _u := hC
    clear _u
    revert hle
    generalize Lib.bitLen (x / 4294967296 / 65536) = q
    clear h1 h2 h3 hq hv HS HV hA hB hC hx
    intro hle
    simp only [wrap64]
    omega
  · exfalso
    rename_i hh
    have := Lib.len8tab_size
    omega

set_option maxRecDepth 100000 in
set_option maxHeartbeats 1000000 in
theorem len64_111 (x : Nat) (w : World) (hx : x < 18446744073709551616) (hA : 4294967296 ≤ x) (hB : 65536 ≤ x / 4294967296) (hC : 256 ≤ x / 4294967296 / 65536) :
    Calls Tryd.prog 91 #[.int .u64 (x : Int)] w fun e w' => e = .returned (.int .i64 (Lib.bitLen x)) ∧ w' = w := by
  have h1 : decide (4294967296 ≤ (x : Int)) = true := by simp; omega
  have h2 : decide (65536 ≤ (x : Int) / 4294967296) = true := by simp; omega
  have h3 : decide (256 ≤ (x : Int) / 4294967296 / 65536) = true := by simp; omega
  have hq : x / 4294967296 / 65536 / 256 < 256 := by omega
  have hv := tab_len ⟨x / 4294967296 / 65536 / 256, hq⟩
  have hle := Lib.bitLen_le8 ⟨x / 4294967296 / 65536 / 256, hq⟩
  have HS := Lib.hid (show Lib.bitLen x = 56 + Lib.bitLen (x / 4294967296 / 65536 / 256) from by rw [Lib.bitLen_shift32 x hA hx, Lib.bitLen_shift16 (x / 4294967296) hB (by omega), Lib.bitLen_shift8 (x / 4294967296 / 65536) hC (by omega)]; omega)
  dsimp only at hv hle
  have HV := Lib.hid (And.intro hv hle)
  clear hv hle
  go_enter Tryd.func91, Tryd.ntmps91
  go_wp2
  · go_ret
    refine ⟨congrArg Ending.returned (congrArg (Value.int IntKind.i64) ?_), rfl⟩
    have hv := HV.out.1
    have hle := HV.out.2
    rw [hv, HS.out]
    have _u := hC
    clear _u
    revert hle
    generalize Lib.bitLen (x / 4294967296 / 65536 / 256) = q
    clear h1 h2 h3 hq hv HS HV hA hB hC hx
    intro hle
    simp only [wrap64]
    omega
  · exfalso
    rename_i hh
    have := Lib.len8tab_size
    omega

theorem len64_all (x : Nat) (w : World) (hx : x < 18446744073709551616) :
    Calls Tryd.prog 91 #[.int .u64 (x : Int)] w fun e w' => e = .returned (.int .i64 (Lib.bitLen x)) ∧ w' = w := by
  by_cases h0 : x < 65536
  · exact len64_any x w h0
  · by_cases hA : x < 4294967296
    · by_cases hC : x / 65536 < 256
      · exact len64_010 x w hx hA (by omega) hC
      · exact len64_011 x w hx hA (by omega) (by omega)
    · by_cases hB : x / 4294967296 < 65536
      · by_cases hC : x / 4294967296 < 256
        · exact len64_100 x w hx (by omega) hB hC
        · exact len64_101 x w hx (by omega) hB (by omega)
      · by_cases hC : x / 4294967296 / 65536 < 256
        · exact len64_110 x w hx (by omega) (by omega) hC
        · exact len64_111 x w hx (by omega) (by omega) (by omega)

theorem wrapU_pow {b : Nat} (h : 2 ^ b < 18446744073709551616) : IntKind.u64.wrap ((2 : Int) ^ b) = ((2 ^ b : Nat) : Int) := by
  have e : (2 : Int) ^ b = ((2 ^ b : Nat) : Int) := by simp
  rw [e]
  generalize 2 ^ b = q at h
  rw [IntKind.wrap_u64]
  omega

end Go.Proofs.YtnaebjdccngeoaaDoor

/-
  clashes.left: how many leaves a left side has.
-/
namespace Go.Proofs.YtnaebjdccngeoaaDoor
open Go.RowKit

theorem clen_any (x : Nat) (w : World) (hx : x < 18446744073709551616) :
    Calls Tryd.prog 74 #[.int .u64 (x : Int)] w fun e w' => e = .returned (.int .i64 (Lib.bitLen x)) ∧ w' = w := by
  have C := Lib.hid (len64_all x w hx)
  go_enter Tryd.func74, Tryd.ntmps74
  go_wp2_with fail
  refine C.out.mono ?_
  rintro e w1 ⟨rfl, e1⟩
  obtain rfl := e1.symm
  go_wp2_with fail
  go_ret
  exact ⟨rfl, rfl⟩

set_option maxRecDepth 100000 in
set_option maxHeartbeats 1000000 in
theorem cleft_any (m : Nat) (w : World) (h2 : 2 ≤ m) (hm : m < 1000000) :
    Calls Tryd.prog 66 #[.int .i64 (m : Int)] w fun e w' => e = .returned (.int .i64 (cutN m : Int)) ∧ w' = w := by
  have C := Lib.hid (clen_any (m - 1) w (by omega))
  obtain ⟨b, hb0⟩ : ∃ b, Nat.log2 (m - 1) = b := ⟨_, rfl⟩
  have hb : Lib.bitLen (m - 1) = b + 1 := by rw [bitLen_log (by omega) (by omega), hb0]
  have hb64 : b < 20 := by rw [← hb0]; exact (Nat.log2_lt (by omega)).2 (by omega)
  rw [hb] at C
  have hcut : cutN m = 2 ^ b := by rw [cutN, hb0]
  have hm1 : (m : Int) - 1 = ((m - 1 : Nat) : Int) := by omega
  have hlt : 2 ^ b < 1048576 := Nat.lt_of_lt_of_le (Nat.pow_lt_pow_right (by omega) hb64) (Nat.le_refl (2 ^ 20))
  have HC := Lib.hid (And.intro hcut hlt)
  have HL := Lib.hid hb64
  clear hcut hb hb0 hlt
  go_enter Tryd.func66, Tryd.ntmps66
  go_wp2_with fail
  refine C.out.mono ?_
  rintro e w1 ⟨rfl, e1⟩
  obtain rfl := e1.symm
  have hb64' : b < 20 := HL.out
  go_wp2_with fail
  go_ret
  have h1 := HC.out.2
  have h3 : (2 : Int) ^ b = ((2 ^ b : Nat) : Int) := by norm_cast
  refine ⟨?_, rfl⟩
  rw [HC.out.1]
  show Ending.returned (.int .i64 (wrap64 ((2 : Int) ^ b))) = _
  rw [h3]
  clear h3 HC
  generalize 2 ^ b = q at h1 ⊢
  congr 2
  unfold wrap64
  omega

end Go.Proofs.YtnaebjdccngeoaaDoor

/-
  clashes.downLists: both roots, or a clash.
-/
namespace Go.Proofs.YtnaebjdccngeoaaDoor
open Go.RowKit

theorem Told.low {base base' : Nat} {v : Value} {C : Prop} {e : Ending} {w' : World} (h : Told base v C e w') (hb : base' ≤ base) : Told base' v C e w' := by
  rcases h with h | ⟨u, h1, h2⟩
  · exact .inl h
  · exact .inr ⟨u, h1, h2.low hb⟩
theorem Told.imp {base : Nat} {v v' : Value} {C D : Prop} {e : Ending} {w' : World} (h : Told base v C e w') (hv : v = v') (hC : C → D) : Told base v' D e w' := by
  rcases h with ⟨h1, h2⟩ | h
  · exact .inl ⟨by rw [h1, hv], hC h2⟩
  · exact .inr h
theorem but_cell {S : Nat → Prop} {a w : World} (h : But S a w) {ad : Addr} {v : Value} (hc : a.cell? ad = some v) (hS : ¬ S ad.block) : w.cell? ad = some v := by
  have hlt := World.block_lt_of_cell? a _ hc
  have := h.block ad.block hlt hS
  unfold World.cell? at hc ⊢
  rw [this]
  exact hc
theorem but_cells {S : Nat → Prop} {a w : World} (h : But S a w) {g : Nat} {T : TypeId} {cs : Array Value} (hc : Cells a g T cs) (hS : ¬ S g) : Cells w g T cs := (h.block g hc.lt hS).trans hc

/-- The world in which downLists begins. -/
structure DownIn (w w2 : World) (g : Nat) (x y : Value) : Prop where
  both : Cells w2 g 66 #[x, y]
  res : BArr w2 (g + 1) 63 zero64
  below : Below g w w2
  size : w2.heap.size = g + 2
theorem DownIn.mk_ (w : World) (g : Nat) (x y : Value) (hg : w.heap.size = g) : DownIn w ((w.alloc (.cells #[x, y] 66)).alloc (.cells (bvs zero64).toArray 63)) g x y := by
  have h0 := Cells.new w 66 #[x, y]
  have b0 := below_alloc w (.cells #[x, y] 66)
  obtain ⟨w0, e0⟩ : ∃ w0, w0 = w.alloc (.cells #[x, y] 66) := ⟨_, rfl⟩
  have s0 : w0.heap.size = g + 1 := by rw [e0]; simp [hg]
  rw [← e0] at h0 b0 ⊢
  have h1 := BArr.new w0 63 zero64
  have b1 := below_alloc w0 (.cells (bvs zero64).toArray 63)
  rw [hg] at h0 b0
  rw [s0] at h1
  exact ⟨h0.below b1, h1, below_on b0 (by omega) b1, by simp [s0]⟩

section
variable {w : World} {A B : Addr} {n c d : Nat} {R S : List (List Nat)}

set_option maxRecDepth 100000 in
set_option maxHeartbeats 8000000 in
theorem down_one (E1 : Ent w (some A) 1 c R) (E2 : Ent w (some B) 1 d S) (hk : Knows w) (hks : Starts w) :
    Calls Tryd.prog 59 #[.agg #[.slice (some A) 1 c, .slice (some B) 1 d]] w fun e w' => Told w.heap.size (sv (rtl R ++ rtl S)) (rtl R = rtl S → R = S) e w' ∧ Below w.heap.size w w' := by
  obtain ⟨g, hg⟩ : ∃ g, w.heap.size = g := ⟨_, rfl⟩
  have h2 := DownIn.mk_ w g (.slice (some A) 1 c) (.slice (some B) 1 d) hg
  have e0 : (bvs zero64).toArray = #[.int .u8 0, .int .u8 0, .int .u8 0, .int .u8 0, .int .u8 0, .int .u8 0, .int .u8 0, .int .u8 0, .int .u8 0, .int .u8 0, .int .u8 0, .int .u8 0, .int .u8 0, .int .u8 0, .int .u8 0, .int .u8 0, .int .u8 0, .int .u8 0, .int .u8 0, .int .u8 0, .int .u8 0, .int .u8 0, .int .u8 0, .int .u8 0, .int .u8 0, .int .u8 0, .int .u8 0, .int .u8 0, .int .u8 0, .int .u8 0, .int .u8 0, .int .u8 0, .int .u8 0, .int .u8 0, .int .u8 0, .int .u8 0, .int .u8 0, .int .u8 0, .int .u8 0, .int .u8 0, .int .u8 0, .int .u8 0, .int .u8 0, .int .u8 0, .int .u8 0, .int .u8 0, .int .u8 0, .int .u8 0, .int .u8 0, .int .u8 0, .int .u8 0, .int .u8 0, .int .u8 0, .int .u8 0, .int .u8 0, .int .u8 0, .int .u8 0, .int .u8 0, .int .u8 0, .int .u8 0, .int .u8 0, .int .u8 0, .int .u8 0, .int .u8 0] := rfl
  rw [e0] at h2
  obtain ⟨w2, hw2⟩ : ∃ w2, w2 = (w.alloc (.cells #[.slice (some A) 1 c, .slice (some B) 1 d] 66)).alloc (.cells #[.int .u8 0, .int .u8 0, .int .u8 0, .int .u8 0, .int .u8 0, .int .u8 0, .int .u8 0, .int .u8 0, .int .u8 0, .int .u8 0, .int .u8 0, .int .u8 0, .int .u8 0, .int .u8 0, .int .u8 0, .int .u8 0, .int .u8 0, .int .u8 0, .int .u8 0, .int .u8 0, .int .u8 0, .int .u8 0, .int .u8 0, .int .u8 0, .int .u8 0, .int .u8 0, .int .u8 0, .int .u8 0, .int .u8 0, .int .u8 0, .int .u8 0, .int .u8 0, .int .u8 0, .int .u8 0, .int .u8 0, .int .u8 0, .int .u8 0, .int .u8 0, .int .u8 0, .int .u8 0, .int .u8 0, .int .u8 0, .int .u8 0, .int .u8 0, .int .u8 0, .int .u8 0, .int .u8 0, .int .u8 0, .int .u8 0, .int .u8 0, .int .u8 0, .int .u8 0, .int .u8 0, .int .u8 0, .int .u8 0, .int .u8 0, .int .u8 0, .int .u8 0, .int .u8 0, .int .u8 0, .int .u8 0, .int .u8 0, .int .u8 0, .int .u8 0] 63) := ⟨_, rfl⟩
  rw [← hw2] at h2
  have HW := Lib.hid hw2
  have HG := Lib.hid hg
  have H2 := Lib.hid h2
  obtain ⟨P, hP⟩ : ∃ P, rtl R ++ rtl S = P := ⟨_, rfl⟩
  have Pl : P.length = 64 := by rw [← hP, List.length_append, rtl_length, rtl_length]
  have x0 := h2.both.cell 0 (v := .slice (some A) 1 c) rfl
  have b02 : Below w.heap.size w w2 := by rw [hg]; exact h2.below
  obtain ⟨adA, XA, ka, qa, xs, eA, hxs, hcA, hXA, kal⟩ := E1.at_ (j := 0) (by omega)
  obtain ⟨adB, XB, kb, qb, ys, eB, hys, hcB, hXB, kbl⟩ := E2.at_ (j := 0) (by omega)
  cases eA
  cases eB
  have eR : R = [xs] := by
    have hl := E1.len
    match R, hl with
    | [r], _ => cases hxs; rfl
  have eS : S = [ys] := by
    have hl := E2.len
    match S, hl with
    | [r], _ => cases hys; rfl
  have CL := Lib.hid (fun (W : World) (hW : Below w2.heap.size w2 W) => show Calls Tryd.prog 87 #[.slice XA ka qa, .slice XB kb qb] W fun e w' => Told g (sv P) (rtl R = rtl S → R = S) e w' ∧ Below W.heap.size W w' from by
    have hb := below_on b02 (Nat.le_refl _) hW
    refine (cleaf_any (hXA.below hb) (hXB.below hb) kal kbl (hk.below hb) (hks.below hb)).mono fun e w' ⟨h, hb'⟩ => ⟨(h.low (by have := hb.size; omega)).imp (by rw [← hP, eR, eS, rtl_one, rtl_one]) (fun h => by rw [eR, eS, rtl_one, rtl_one]; intro e; rw [h e]), hb'⟩)
  have hgA := World.block_lt_of_cell? w _ hcA
  have hgB := World.block_lt_of_cell? w _ hcB
  have HC0 := Lib.hid (fun (W : World) (hW : But (· = g + 1) w2 W) => show W.cell? ⟨g, 0, none⟩ = some (.slice (some A) 1 c) from but_cell hW x0 (by simp))
  have HC1 := Lib.hid (fun (W : World) (hW : But (· = g + 1) w2 W) => show W.cell? ⟨g, 1, none⟩ = some (.slice (some B) 1 d) from but_cell hW (h2.both.cell 1 rfl) (by simp))
  have bA : A.block < g := by rw [← hg]; exact hgA
  have bB : B.block < g := by rw [← hg]; exact hgB
  rw [add_zero'] at hcA hcB
  have HCA := Lib.hid (fun (W : World) (hW : But (· = g + 1) w2 W) => show W.cell? A = some (.slice XA ka qa) from but_cell hW ((b02.cell (World.block_lt_of_cell? w _ hcA)).trans hcA) (by intro e; have e' : A.block = g + 1 := e; omega))
  have HCB := Lib.hid (fun (W : World) (hW : But (· = g + 1) w2 W) => show W.cell? B = some (.slice XB kb qb) from but_cell hW ((b02.cell (World.block_lt_of_cell? w _ hcB)).trans hcB) (by intro e; have e' : B.block = g + 1 := e; omega))
  rw [hg, hP]
  clear h2 e0 hw2 hg hP hk hks E1 E2 eR eS hxs hys hcA hcB hXA hXB hgA hgB bA bB b02 kal kbl
  go_enter Tryd.func59, Tryd.ntmps59
  go_upto_region 1 with fail
  rw [← HW.out]
  rw [HG.out]
  go_upto_region 2 with fail
  have hSp1 : Below w2.heap.size w2 w2.drew := (Below.refl _ _).drew
  have hresp3 := H2.out.res.below hSp1
  refine wp_region_held_drew (S := fun W => But (· = g + 1) w2 W) (by kernel_rfl) (But.of_below hSp1) (fun _ => ?_)
  change wpAnyH _ _ _ _ _ _ _ _ w2.drew
  generalize w2.drew = Wp2 at hSp1 hresp3 ⊢
  refine' wpAnyH_take (i := 0) (oi := _) (v := _) ?hip4 (by kernel_rfl) ?hfp4 ?hrp4 ?hQp4 ?hyp4 (But.of_below hSp1) ?restp4
  case hip4 => (simp only [List.getElem?_toArray, List.getElem?_cons_zero]; rfl)
  case hfp4 => kernel_rfl
  case hrp4 => kernel_rfl
  case hQp4 => exact fun _ _ _ h => h
  case hyp4 => refine Or.inl ⟨by rfl, ?_⟩; intro W hSw; go_simp; try with_reducible rfl
  try simp only [Act.put, List.setIfInBounds_toArray, List.set_cons_zero, List.set_cons_succ]
  refine' wpAnyH_take (i := 1) (oi := _) (v := _) ?hip5 (by kernel_rfl) ?hfp5 ?hrp5 ?hQp5 ?hyp5 (But.of_below hSp1) ?restp5
  case hip5 => (simp only [List.getElem?_toArray, List.getElem?_cons_zero, List.getElem?_cons_succ]; rfl)
  case hfp5 => kernel_rfl
  case hrp5 => kernel_rfl
  case hQp5 => exact fun _ _ _ h => h
  case hyp5 => refine Or.inl ⟨by rfl, ?_⟩; intro W hSw; have hcc := HC0.out W hSw; go_simp; try with_reducible rfl
  try simp only [Act.put, List.setIfInBounds_toArray, List.set_cons_zero, List.set_cons_succ]
  refine' wpAnyH_take (i := 2) (oi := _) (v := _) ?hip6 (by kernel_rfl) ?hfp6 ?hrp6 ?hQp6 ?hyp6 (But.of_below hSp1) ?restp6
  case hip6 => (simp only [List.getElem?_toArray, List.getElem?_cons_zero, List.getElem?_cons_succ]; rfl)
  case hfp6 => kernel_rfl
  case hrp6 => kernel_rfl
  case hQp6 => exact fun _ _ _ h => h
  case hyp6 => refine Or.inl ⟨by rfl, ?_⟩; intro W hSw; go_simp; try with_reducible rfl
  try simp only [Act.put, List.setIfInBounds_toArray, List.set_cons_zero, List.set_cons_succ]
  refine' wpAnyH_take (i := 3) (oi := _) (v := _) ?hip7 (by kernel_rfl) ?hfp7 ?hrp7 ?hQp7 ?hyp7 (But.of_below hSp1) ?restp7
  case hip7 => (simp only [List.getElem?_toArray, List.getElem?_cons_zero, List.getElem?_cons_succ]; rfl)
  case hfp7 => kernel_rfl
  case hrp7 => kernel_rfl
  case hQp7 => exact fun _ _ _ h => h
  case hyp7 => refine Or.inl ⟨by rfl, ?_⟩; intro W hSw; have hcc := HCA.out W hSw; go_simp; try with_reducible rfl
  try simp only [Act.put, List.setIfInBounds_toArray, List.set_cons_zero, List.set_cons_succ]
  refine' wpAnyH_take (i := 4) (oi := _) (v := _) ?hip8 (by kernel_rfl) ?hfp8 ?hrp8 ?hQp8 ?hyp8 (But.of_below hSp1) ?restp8
  case hip8 => (simp only [List.getElem?_toArray, List.getElem?_cons_zero, List.getElem?_cons_succ]; rfl)
  case hfp8 => kernel_rfl
  case hrp8 => kernel_rfl
  case hQp8 => exact fun _ _ _ h => h
  case hyp8 => refine Or.inl ⟨by rfl, ?_⟩; intro W hSw; go_simp; try with_reducible rfl
  try simp only [Act.put, List.setIfInBounds_toArray, List.set_cons_zero, List.set_cons_succ]
  refine' wpAnyH_take (i := 5) (oi := _) (v := _) ?hip9 (by kernel_rfl) ?hfp9 ?hrp9 ?hQp9 ?hyp9 (But.of_below hSp1) ?restp9
  case hip9 => (simp only [List.getElem?_toArray, List.getElem?_cons_zero, List.getElem?_cons_succ]; rfl)
  case hfp9 => kernel_rfl
  case hrp9 => kernel_rfl
  case hQp9 => exact fun _ _ _ h => h
  case hyp9 => refine Or.inl ⟨by rfl, ?_⟩; intro W hSw; have hcc := HC1.out W hSw; go_simp; try with_reducible rfl
  try simp only [Act.put, List.setIfInBounds_toArray, List.set_cons_zero, List.set_cons_succ]
  refine' wpAnyH_take (i := 6) (oi := _) (v := _) ?hip10 (by kernel_rfl) ?hfp10 ?hrp10 ?hQp10 ?hyp10 (But.of_below hSp1) ?restp10
  case hip10 => (simp only [List.getElem?_toArray, List.getElem?_cons_zero, List.getElem?_cons_succ]; rfl)
  case hfp10 => kernel_rfl
  case hrp10 => kernel_rfl
  case hQp10 => exact fun _ _ _ h => h
  case hyp10 => refine Or.inl ⟨by rfl, ?_⟩; intro W hSw; go_simp; try with_reducible rfl
  try simp only [Act.put, List.setIfInBounds_toArray, List.set_cons_zero, List.set_cons_succ]
  refine' wpAnyH_take (i := 7) (oi := _) (v := _) ?hip11 (by kernel_rfl) ?hfp11 ?hrp11 ?hQp11 ?hyp11 (But.of_below hSp1) ?restp11
  case hip11 => (simp only [List.getElem?_toArray, List.getElem?_cons_zero, List.getElem?_cons_succ]; rfl)
  case hfp11 => kernel_rfl
  case hrp11 => kernel_rfl
  case hQp11 => exact fun _ _ _ h => h
  case hyp11 => refine Or.inl ⟨by rfl, ?_⟩; intro W hSw; have hcc := HCB.out W hSw; go_simp; try with_reducible rfl
  try simp only [Act.put, List.setIfInBounds_toArray, List.set_cons_zero, List.set_cons_succ]
  refine wpAnyH_ready (rs := [8]) (by kernel_rfl) (by simp) ?_
  refine' (AllReadyH.cons (o := _) ?hip12 (fun K hK => ?_) AllReadyH.nil)
  case hip12 => (simp only [List.getElem?_toArray, List.getElem?_cons_zero, List.getElem?_cons_succ]; rfl)
  go_simp
  go_at_call 87
  refine (CL.out Wp2 hSp1).mono ?_
  rintro e Wp15 ⟨hTp16, hbp13⟩
  have hBp14 := below_on hSp1 (Nat.le_refl _) hbp13
  rcases hTp16 with ⟨rfl, hsame⟩ | ⟨u, rfl, hu⟩
  · skip
    have hresp17 := hresp3.below hbp13
    refine hK.out _ _ (But.of_below hBp14) (fun _ => ?_)
    clear hK K
    try simp only [Act.put, List.setIfInBounds_toArray, List.set_cons_zero, List.set_cons_succ]
    refine wpAnyH_ready (rs := [9]) (by kernel_rfl) (by simp) ?_
    refine' (AllReadyH.cons (o := _) ?hip18 (fun K hK => ?_) AllReadyH.nil)
    case hip18 => (simp only [List.getElem?_toArray, List.getElem?_cons_zero, List.getElem?_cons_succ]; rfl)
    rw [if_pos (by rfl)]
    have hf := hresp17
    refine step_store_pairC (.tmp 2) (.tmp 17) rfl (g + 1) rfl zero64 P (by rfl) Pl hf rfl ?_
    have hz : Below g w (Wp15.setRow (g + 1) (bvs P).toArray) := below_setRow (below_on H2.out.below (Nat.le_of_eq HG.out.symm) (hBp14)) (by omega) _
    refine hK.out _ _ (but_setRow (S := (· = g + 1)) (But.of_below hBp14) rfl _) (fun _ => ?_)
    clear hK K
    try simp only [Act.put]
    have hf2 := hf.setRow P
    generalize (Wp15.setRow (g + 1) (bvs P).toArray) = Wz at hz hf2 ⊢
    refine wpAnyH_done (by kernel_rfl) ?_ _
    go_wp2_with fail
    refine bodyPost_ret_by (results_cell_row (p := 2) (ty := 63) (by kernel_rfl) _ _ (g + 1) 63 (bvs P).toArray (0, 0) _ rfl hf2 Tryd.underlying63 rfl (by rw [List.size_toArray, bvs_length, Pl]; exact sizePairC)) rfl ?_
    exact ⟨.inl ⟨rfl, hsame⟩, hz⟩
  · skip
    go_wp2
    exact ⟨rfl, .inr ⟨u, rfl, hu⟩, below_on H2.out.below (Nat.le_of_eq HG.out.symm) (hBp14)⟩

set_option maxRecDepth 100000 in
set_option maxHeartbeats 8000000 in
theorem down_more (E1 : Ent w (some A) n c R) (E2 : Ent w (some B) n d S) (hk : Knows w) (hks : Starts w) (h2n : 2 ≤ n) (hn6 : n ≤ 60000)
    (ih : ∀ m, m < n → ∀ (w : World) (A B : Addr) (c d : Nat) (R S : List (List Nat)), Ent w (some A) m c R → Ent w (some B) m d S → Knows w → Starts w → 1 ≤ m →
      Calls Tryd.prog 59 #[.agg #[.slice (some A) m c, .slice (some B) m d]] w fun e w' => Told w.heap.size (sv (rtl R ++ rtl S)) (rtl R = rtl S → R = S) e w' ∧ Below w.heap.size w w') :
    Calls Tryd.prog 59 #[.agg #[.slice (some A) n c, .slice (some B) n d]] w fun e w' => Told w.heap.size (sv (rtl R ++ rtl S)) (rtl R = rtl S → R = S) e w' ∧ Below w.heap.size w w' := by
  obtain ⟨g, hg⟩ : ∃ g, w.heap.size = g := ⟨_, rfl⟩
  have h2 := DownIn.mk_ w g (.slice (some A) n c) (.slice (some B) n d) hg
  have e0 : (bvs zero64).toArray = #[.int .u8 0, .int .u8 0, .int .u8 0, .int .u8 0, .int .u8 0, .int .u8 0, .int .u8 0, .int .u8 0, .int .u8 0, .int .u8 0, .int .u8 0, .int .u8 0, .int .u8 0, .int .u8 0, .int .u8 0, .int .u8 0, .int .u8 0, .int .u8 0, .int .u8 0, .int .u8 0, .int .u8 0, .int .u8 0, .int .u8 0, .int .u8 0, .int .u8 0, .int .u8 0, .int .u8 0, .int .u8 0, .int .u8 0, .int .u8 0, .int .u8 0, .int .u8 0, .int .u8 0, .int .u8 0, .int .u8 0, .int .u8 0, .int .u8 0, .int .u8 0, .int .u8 0, .int .u8 0, .int .u8 0, .int .u8 0, .int .u8 0, .int .u8 0, .int .u8 0, .int .u8 0, .int .u8 0, .int .u8 0, .int .u8 0, .int .u8 0, .int .u8 0, .int .u8 0, .int .u8 0, .int .u8 0, .int .u8 0, .int .u8 0, .int .u8 0, .int .u8 0, .int .u8 0, .int .u8 0, .int .u8 0, .int .u8 0, .int .u8 0, .int .u8 0] := rfl
  rw [e0] at h2
  obtain ⟨w2, hw2⟩ : ∃ w2, w2 = (w.alloc (.cells #[.slice (some A) n c, .slice (some B) n d] 66)).alloc (.cells #[.int .u8 0, .int .u8 0, .int .u8 0, .int .u8 0, .int .u8 0, .int .u8 0, .int .u8 0, .int .u8 0, .int .u8 0, .int .u8 0, .int .u8 0, .int .u8 0, .int .u8 0, .int .u8 0, .int .u8 0, .int .u8 0, .int .u8 0, .int .u8 0, .int .u8 0, .int .u8 0, .int .u8 0, .int .u8 0, .int .u8 0, .int .u8 0, .int .u8 0, .int .u8 0, .int .u8 0, .int .u8 0, .int .u8 0, .int .u8 0, .int .u8 0, .int .u8 0, .int .u8 0, .int .u8 0, .int .u8 0, .int .u8 0, .int .u8 0, .int .u8 0, .int .u8 0, .int .u8 0, .int .u8 0, .int .u8 0, .int .u8 0, .int .u8 0, .int .u8 0, .int .u8 0, .int .u8 0, .int .u8 0, .int .u8 0, .int .u8 0, .int .u8 0, .int .u8 0, .int .u8 0, .int .u8 0, .int .u8 0, .int .u8 0, .int .u8 0, .int .u8 0, .int .u8 0, .int .u8 0, .int .u8 0, .int .u8 0, .int .u8 0, .int .u8 0] 63) := ⟨_, rfl⟩
  rw [← hw2] at h2
  have HW := Lib.hid hw2
  have HG := Lib.hid hg
  have H2 := Lib.hid h2
  obtain ⟨P, hP⟩ : ∃ P, rtl R ++ rtl S = P := ⟨_, rfl⟩
  have Pl : P.length = 64 := by rw [← hP, List.length_append, rtl_length, rtl_length]
  have x0 := h2.both.cell 0 (v := .slice (some A) n c) rfl
  have b02 : Below w.heap.size w w2 := by rw [hg]; exact h2.below
  have hcl := cutN_lt h2n
  have hcp := cutN_pos n
  have hcut := lists_cut E1.len E2.len h2n
  have hcR := rtl_cut E1.len h2n
  have hcS := rtl_cut E2.len h2n
  obtain ⟨k, hk0⟩ : ∃ k, cutN n = k := ⟨_, rfl⟩
  have CL := Lib.hid (fun (W : World) (hW : Below w2.heap.size w2 W) => show Calls Tryd.prog 66 #[.int .i64 (n : Int)] W fun e w' => e = .returned (.int .i64 (k : Int)) ∧ Below W.heap.size W w' from (cleft_any n W h2n (by omega)).mono fun e w' ⟨h1, h2⟩ => ⟨by rw [h1, hk0], by rw [h2]; exact Below.refl _ _⟩)
  rw [hk0] at hcl hcp hcut hcR hcS
  have CP := Lib.hid (fun (W : World) (hW : Below w2.heap.size w2 W) => parted_any (w := W) (A := A) (B := B) (n := n) (c := c) (m := n) (d := d) (k := k) hcl hcl E1.cap E2.cap)
  obtain ⟨R1, hR1⟩ : ∃ x, R.take k = x := ⟨_, rfl⟩
  obtain ⟨R2, hR2⟩ : ∃ x, R.drop k = x := ⟨_, rfl⟩
  obtain ⟨S1, hS1⟩ : ∃ x, S.take k = x := ⟨_, rfl⟩
  obtain ⟨S2, hS2⟩ : ∃ x, S.drop k = x := ⟨_, rfl⟩
  have C1 := Lib.hid (fun (W : World) (hW : Below w.heap.size w W) => show Calls Tryd.prog 59 #[.agg #[.slice (some A) k c, .slice (some B) k d]] W fun e w' => Told g (sv (rtl R1 ++ rtl S1)) (rtl R1 = rtl S1 → R1 = S1) e w' ∧ Below W.heap.size W w' from by
    have := ih k hcl W A B c d _ _ ((E1.below hW).take (k := k) (by omega)) ((E2.below hW).take (k := k) (by omega)) (hk.below hW) (hks.below hW) (by omega)
    rw [hR1, hS1] at this
    exact this.mono fun e w' ⟨h, hb'⟩ => ⟨h.low (by have := hW.size; omega), hb'⟩)
  have C2 := Lib.hid (fun (W : World) (hW : Below w.heap.size w W) => show Calls Tryd.prog 59 #[.agg #[.slice (some (A.add k)) (n - k) (c - k), .slice (some (B.add k)) (n - k) (d - k)]] W fun e w' => Told g (sv (rtl R2 ++ rtl S2)) (rtl R2 = rtl S2 → R2 = S2) e w' ∧ Below W.heap.size W w' from by
    have := ih (n - k) (by omega) W _ _ _ _ _ _ ((E1.below hW).drop (k := k)) ((E2.below hW).drop (k := k)) (hk.below hW) (hks.below hW) (by omega)
    rw [hR2, hS2] at this
    exact this.mono fun e w' ⟨h, hb'⟩ => ⟨h.low (by have := hW.size; omega), hb'⟩)
  rw [hR1, hR2] at hcR hcut
  rw [hS1, hS2] at hcS hcut
  have C3 := Lib.hid (fun (W : World) (hW : Below w.heap.size w W) => show Calls Tryd.prog 67 #[sv (rtl R1 ++ rtl S1), sv (rtl R2 ++ rtl S2)] W fun e w' => Told g (sv P) (nodeL (rtl R1) (rtl R2) = nodeL (rtl S1) (rtl S2) → rtl R1 = rtl S1 ∧ rtl R2 = rtl S2) e w' ∧ Below W.heap.size W w' from
    (cnode_any (w := W) (rtl_length _) (rtl_length _) (rtl_length _) (rtl_length _) (rtl_lt _) (rtl_lt _) (rtl_lt _) (rtl_lt _) (hk.below hW) (hks.below hW)).mono fun e w' ⟨h, hb'⟩ => ⟨(h.low (by have := hW.size; omega)).imp (by rw [← hP, hcR, hcS]) (fun h => h), hb'⟩)
  have HCUT := Lib.hid hcut
  have HB := Lib.hid (fun (W : World) (hW : Below w2.heap.size w2 W) => show Cells W g 66 #[.slice (some A) n c, .slice (some B) n d] from h2.both.below hW)
  have HC0 := Lib.hid (fun (W : World) (hW : Below w2.heap.size w2 W) => show W.cell? ⟨g, 0, none⟩ = some (.slice (some A) n c) from (h2.both.below hW).cell 0 rfl)
  have hn1 : ((n : Int) == 1) = false := by simp; omega
  have B2 := Lib.hid b02
  rw [hg, hP]
  clear h2 e0 hw2 hg hP hk hks E1 E2 b02 ih hcut hcR hcS hR1 hR2 hS1 hS2 hk0 h2n hn6 hcl hcp
  go_enter Tryd.func59, Tryd.ntmps59
  go_upto_region 1 with fail
  rw [← HW.out]
  rw [HG.out]
  go_upto_region 3 with fail
  clear x0
  go_cut [3, 4] from 18 to 26 (fun s3 s4 wx => ∃ p q, s3 = .pointer (some ⟨p, 0, none⟩) ∧ s4 = .pointer (some ⟨q, 0, none⟩) ∧ Hid (Cells wx p 66 #[.slice (some A) k c, .slice (some B) k d] ∧ Cells wx q 66 #[.slice (some (A.add k)) (n - k) (c - k), .slice (some (B.add k)) (n - k) (d - k)] ∧ Below w2.heap.size w2 wx))
  case first =>
    have hSq1 : Below w2.heap.size w2 w2.drew := (Below.refl _ _).drew
    refine wp_region_held_drew (S := fun W => Below w2.heap.size w2 W) (by kernel_rfl) (hSq1) (fun _ => ?_)
    change wpAnyH _ _ _ _ _ _ _ _ w2.drew
    generalize w2.drew = Wq2 at hSq1 ⊢
    refine' wpAnyH_take (i := 0) (oi := _) (v := .agg #[.slice (some A) n c, .slice (some B) n d]) ?hiq3 (by kernel_rfl) ?hfq3 ?hrq3 ?hQq3 ?hyq3 (hSq1) ?restq3
    case hiq3 => (simp only [List.getElem?_toArray, List.getElem?_cons_zero]; rfl)
    case hfq3 => kernel_rfl
    case hrq3 => kernel_rfl
    case hQq3 => exact fun _ _ _ h => h
    case hyq3 => refine Or.inl ⟨by rfl, ?_⟩; intro W hSw; exact load_both_op (.tmp 1) (by rfl) (by rfl) (HB.out W hSw)
    try simp only [Act.put, List.setIfInBounds_toArray, List.set_cons_zero, List.set_cons_succ]
    refine' wpAnyH_take (i := 1) (oi := _) (v := _) ?hiq4 (by kernel_rfl) ?hfq4 ?hrq4 ?hQq4 ?hyq4 (hSq1) ?restq4
    case hiq4 => (simp only [List.getElem?_toArray, List.getElem?_cons_zero, List.getElem?_cons_succ]; rfl)
    case hfq4 => kernel_rfl
    case hrq4 => kernel_rfl
    case hQq4 => exact fun _ _ _ h => h
    case hyq4 => refine Or.inl ⟨by rfl, ?_⟩; intro W hSw; go_simp; try with_reducible rfl
    try simp only [Act.put, List.setIfInBounds_toArray, List.set_cons_zero, List.set_cons_succ]
    refine' wpAnyH_take (i := 2) (oi := _) (v := _) ?hiq5 (by kernel_rfl) ?hfq5 ?hrq5 ?hQq5 ?hyq5 (hSq1) ?restq5
    case hiq5 => (simp only [List.getElem?_toArray, List.getElem?_cons_zero, List.getElem?_cons_succ]; rfl)
    case hfq5 => kernel_rfl
    case hrq5 => kernel_rfl
    case hQq5 => exact fun _ _ _ h => h
    case hyq5 => refine Or.inl ⟨by rfl, ?_⟩; intro W hSw; have hcc := HC0.out W hSw; go_simp; try with_reducible rfl
    try simp only [Act.put, List.setIfInBounds_toArray, List.set_cons_zero, List.set_cons_succ]
    refine' wpAnyH_take (i := 3) (oi := _) (v := _) ?hiq6 (by kernel_rfl) ?hfq6 ?hrq6 ?hQq6 ?hyq6 (hSq1) ?restq6
    case hiq6 => (simp only [List.getElem?_toArray, List.getElem?_cons_zero, List.getElem?_cons_succ]; rfl)
    case hfq6 => kernel_rfl
    case hrq6 => kernel_rfl
    case hQq6 => exact fun _ _ _ h => h
    case hyq6 => refine Or.inl ⟨by rfl, ?_⟩; intro W hSw; go_simp; try with_reducible rfl
    try simp only [Act.put, List.setIfInBounds_toArray, List.set_cons_zero, List.set_cons_succ]
    refine wpAnyH_ready (rs := [4, 9, 10]) (by kernel_rfl) (by simp) ?_
    refine' (AllReadyH.cons (o := _) ?hiq7 (fun K hK => ?_) (AllReadyH.cons (o := _) ?hiq8 (fun K hK => ?_) (AllReadyH.cons (o := _) ?hiq9 (fun K hK => ?_) AllReadyH.nil)))
    case hiq7 => (simp only [List.getElem?_toArray, List.getElem?_cons_zero, List.getElem?_cons_succ]; rfl)
    case hiq8 => (simp only [List.getElem?_toArray, List.getElem?_cons_zero, List.getElem?_cons_succ]; rfl)
    case hiq9 => (simp only [List.getElem?_toArray, List.getElem?_cons_zero, List.getElem?_cons_succ]; rfl)
    · skip
      go_simp
      go_at_call 66
      refine (CL.out Wq2 hSq1).mono ?_
      rintro e Wq12 ⟨rfl, hbq10⟩
      have hBq11 := below_on hSq1 (Nat.le_refl _) hbq10
      refine hK.out _ _ (hBq11) (fun _ => ?_)
      clear hK K
      try simp only [Act.put, List.setIfInBounds_toArray, List.set_cons_zero, List.set_cons_succ]
      refine wpAnyH_ready (rs := [5, 9, 10]) (by kernel_rfl) (by simp) ?_
      refine' (AllReadyH.cons (o := _) ?hiq13 (fun K hK => ?_) (AllReadyH.cons (o := _) ?hiq14 (fun K hK => ?_) (AllReadyH.cons (o := _) ?hiq15 (fun K hK => ?_) AllReadyH.nil)))
      case hiq13 => (simp only [List.getElem?_toArray, List.getElem?_cons_zero, List.getElem?_cons_succ]; rfl)
      case hiq14 => (simp only [List.getElem?_toArray, List.getElem?_cons_zero, List.getElem?_cons_succ]; rfl)
      case hiq15 => (simp only [List.getElem?_toArray, List.getElem?_cons_zero, List.getElem?_cons_succ]; rfl)
      · skip
        go_simp
        go_at_call 68
        refine (CP.out Wq12 hBq11).mono ?_
        rintro e Wq18 ⟨rfl, hbq16⟩
        have hBq17 := below_on hBq11 (Nat.le_refl _) hbq16
        refine hK.out _ _ (hBq17) (fun _ => ?_)
        clear hK K
        try simp only [Act.put, List.setIfInBounds_toArray, List.set_cons_zero, List.set_cons_succ]
        refine' wpAnyH_take (i := 6) (oi := _) (v := _) ?hiq19 (by kernel_rfl) ?hfq19 ?hrq19 ?hQq19 ?hyq19 (hBq17) ?restq19
        case hiq19 => (simp only [List.getElem?_toArray, List.getElem?_cons_zero, List.getElem?_cons_succ]; rfl)
        case hfq19 => kernel_rfl
        case hrq19 => kernel_rfl
        case hQq19 => exact fun _ _ _ h => h
        case hyq19 => refine Or.inl ⟨by rfl, ?_⟩; intro W hSw; go_simp; try with_reducible rfl
        try simp only [Act.put, List.setIfInBounds_toArray, List.set_cons_zero, List.set_cons_succ]
        refine' wpAnyH_take (i := 7) (oi := _) (v := _) ?hiq20 (by kernel_rfl) ?hfq20 ?hrq20 ?hQq20 ?hyq20 (hBq17) ?restq20
        case hiq20 => (simp only [List.getElem?_toArray, List.getElem?_cons_zero, List.getElem?_cons_succ]; rfl)
        case hfq20 => kernel_rfl
        case hrq20 => kernel_rfl
        case hQq20 => exact fun _ _ _ h => h
        case hyq20 => refine Or.inl ⟨by rfl, ?_⟩; intro W hSw; go_simp; try with_reducible rfl
        try simp only [Act.put, List.setIfInBounds_toArray, List.set_cons_zero, List.set_cons_succ]
        refine' wpAnyH_take (i := 8) (oi := _) (v := _) ?hiq21 (by kernel_rfl) ?hfq21 ?hrq21 ?hQq21 ?hyq21 (hBq17) ?restq21
        case hiq21 => (simp only [List.getElem?_toArray, List.getElem?_cons_zero, List.getElem?_cons_succ]; rfl)
        case hfq21 => kernel_rfl
        case hrq21 => kernel_rfl
        case hQq21 => exact fun _ _ _ h => h
        case hyq21 => refine Or.inl ⟨by rfl, ?_⟩; intro W hSw; go_simp; try with_reducible rfl
        try simp only [Act.put, List.setIfInBounds_toArray, List.set_cons_zero, List.set_cons_succ]
        refine wpAnyH_ready (rs := [9, 10]) (by kernel_rfl) (by simp) ?_
        refine' (AllReadyH.cons (o := _) ?hiq22 (fun K hK => ?_) (AllReadyH.cons (o := _) ?hiq23 (fun K hK => ?_) AllReadyH.nil))
        case hiq22 => (simp only [List.getElem?_toArray, List.getElem?_cons_zero, List.getElem?_cons_succ]; rfl)
        case hiq23 => (simp only [List.getElem?_toArray, List.getElem?_cons_zero, List.getElem?_cons_succ]; rfl)
        · skip
          go_simp
          have hBq24 := Below.alloc hBq17 (Below.size hBq17) (.cells #[.slice none 0 0, .slice none 0 0] 66)
          have hZ3q26 := Cells.new Wq18 66 #[.slice none 0 0, .slice none 0 0]
          have hgep3q27 := (show w2.heap.size ≤ Wq18.heap.size from Below.size hBq17)
          have hnep3q28 := trivial
          have hbq29 := below_alloc Wq18 (.cells #[.slice none 0 0, .slice none 0 0] 66)
          clear hbq29
          refine hK.out _ _ (hBq24) (fun _ => ?_)
          clear hK K
          try simp only [Act.put, List.setIfInBounds_toArray, List.set_cons_zero, List.set_cons_succ]
          generalize (Wq18.alloc (.cells #[.slice none 0 0, .slice none 0 0] 66)) = Wq25 at hBq24 hZ3q26 hgep3q27 hnep3q28 ⊢
          refine wpAnyH_ready (rs := [10]) (by kernel_rfl) (by simp) ?_
          refine' (AllReadyH.cons (o := _) ?hiq30 (fun K hK => ?_) AllReadyH.nil)
          case hiq30 => (simp only [List.getElem?_toArray, List.getElem?_cons_zero, List.getElem?_cons_succ]; rfl)
          go_simp
          have hBq31 := Below.alloc hBq24 (Below.size hBq24) (.cells #[.slice none 0 0, .slice none 0 0] 66)
          have hZ4q33 := Cells.new Wq25 66 #[.slice none 0 0, .slice none 0 0]
          have hgep4q34 := (show w2.heap.size ≤ Wq25.heap.size from Below.size hBq24)
          have hnep4q35 := (show Wq18.heap.size ≠ Wq25.heap.size from by have := hZ3q26.lt; omega)
          have hbq36 := below_alloc Wq25 (.cells #[.slice none 0 0, .slice none 0 0] 66)
          have hZ3q37 := hZ3q26.below hbq36
          have hgep3q38 := hgep3q27
          have hnep3q39 := hnep3q28
          clear hbq36
          refine hK.out _ _ (hBq31) (fun _ => ?_)
          clear hK K
          try simp only [Act.put, List.setIfInBounds_toArray, List.set_cons_zero, List.set_cons_succ]
          generalize (Wq25.alloc (.cells #[.slice none 0 0, .slice none 0 0] 66)) = Wq32 at hBq31 hZ4q33 hgep4q34 hnep4q35 hZ3q37 hgep3q38 hnep3q39 ⊢
          refine wpAnyH_ready (rs := [11]) (by kernel_rfl) (by simp) ?_
          refine' (AllReadyH.cons (o := _) ?hiq40 (fun K hK => ?_) AllReadyH.nil)
          case hiq40 => (simp only [List.getElem?_toArray, List.getElem?_cons_zero, List.getElem?_cons_succ]; rfl)
          rw [if_pos (by rfl)]
          refine wp_store_row 66 (.tmp 3) (.tmp 25) rfl (Wq18.heap.size) #[.slice (some A) k c, .slice (some B) k d] rfl rfl 66 _ hZ3q37 sizeBoth rfl (by simp [Value.oneCell']) ?_
          have hZ3q41 := hZ3q37.setRow #[.slice (some A) k c, .slice (some B) k d]
          have hZ4q42 := hZ4q33.setRow_other (Wq18.heap.size) (by first | exact hnep3q39 | exact Ne.symm hnep3q39 | exact hnep4q35 | exact Ne.symm hnep4q35) #[.slice (some A) k c, .slice (some B) k d]
          have hBq43 := below_setRow hBq31 hgep3q38 #[.slice (some A) k c, .slice (some B) k d]
          refine hK.out _ _ hBq43 (fun _ => ?_)
          clear hK K
          try simp only [Act.put]
          generalize (Wq32.setRow (Wq18.heap.size) #[.slice (some A) k c, .slice (some B) k d]) = Wq44 at hZ3q41 hZ4q42 hBq43 ⊢
          refine wpAnyH_ready (rs := [12]) (by kernel_rfl) (by simp) ?_
          refine' (AllReadyH.cons (o := _) ?hiq45 (fun K hK => ?_) AllReadyH.nil)
          case hiq45 => (simp only [List.getElem?_toArray, List.getElem?_cons_zero, List.getElem?_cons_succ]; rfl)
          rw [if_pos (by rfl)]
          refine wp_store_row 66 (.tmp 4) (.tmp 26) rfl (Wq25.heap.size) #[.slice (some (A.add k)) (n - k) (c - k), .slice (some (B.add k)) (n - k) (d - k)] rfl rfl 66 _ hZ4q42 sizeBoth rfl (by simp [Value.oneCell']) ?_
          have hZ4q46 := hZ4q42.setRow #[.slice (some (A.add k)) (n - k) (c - k), .slice (some (B.add k)) (n - k) (d - k)]
          have hZ3q47 := hZ3q41.setRow_other (Wq25.heap.size) (by first | exact hnep3q39 | exact Ne.symm hnep3q39 | exact hnep4q35 | exact Ne.symm hnep4q35) #[.slice (some (A.add k)) (n - k) (c - k), .slice (some (B.add k)) (n - k) (d - k)]
          have hBq48 := below_setRow hBq43 hgep4q34 #[.slice (some (A.add k)) (n - k) (c - k), .slice (some (B.add k)) (n - k) (d - k)]
          refine hK.out _ _ hBq48 (fun _ => ?_)
          clear hK K
          try simp only [Act.put]
          generalize (Wq44.setRow (Wq25.heap.size) #[.slice (some (A.add k)) (n - k) (c - k), .slice (some (B.add k)) (n - k) (d - k)]) = Wq49 at hZ4q46 hZ3q47 hBq48 ⊢
          refine wpAnyH_done (by kernel_rfl) ?_ _
          go_wp2_with fail
          go_meet
          case rel => exact ⟨_, _, rfl, rfl, Lib.hid ⟨hZ3q47, hZ4q46, hBq48⟩⟩
        · skip
          go_simp
          have hBq50 := Below.alloc hBq17 (Below.size hBq17) (.cells #[.slice none 0 0, .slice none 0 0] 66)
          have hZ4q52 := Cells.new Wq18 66 #[.slice none 0 0, .slice none 0 0]
          have hgep4q53 := (show w2.heap.size ≤ Wq18.heap.size from Below.size hBq17)
          have hnep4q54 := trivial
          have hbq55 := below_alloc Wq18 (.cells #[.slice none 0 0, .slice none 0 0] 66)
          clear hbq55
          refine hK.out _ _ (hBq50) (fun _ => ?_)
          clear hK K
          try simp only [Act.put, List.setIfInBounds_toArray, List.set_cons_zero, List.set_cons_succ]
          generalize (Wq18.alloc (.cells #[.slice none 0 0, .slice none 0 0] 66)) = Wq51 at hBq50 hZ4q52 hgep4q53 hnep4q54 ⊢
          refine wpAnyH_ready (rs := [9]) (by kernel_rfl) (by simp) ?_
          refine' (AllReadyH.cons (o := _) ?hiq56 (fun K hK => ?_) AllReadyH.nil)
          case hiq56 => (simp only [List.getElem?_toArray, List.getElem?_cons_zero, List.getElem?_cons_succ]; rfl)
          go_simp
          have hBq57 := Below.alloc hBq50 (Below.size hBq50) (.cells #[.slice none 0 0, .slice none 0 0] 66)
          have hZ3q59 := Cells.new Wq51 66 #[.slice none 0 0, .slice none 0 0]
          have hgep3q60 := (show w2.heap.size ≤ Wq51.heap.size from Below.size hBq50)
          have hnep3q61 := (show Wq51.heap.size ≠ Wq18.heap.size from by have := hZ4q52.lt; omega)
          have hbq62 := below_alloc Wq51 (.cells #[.slice none 0 0, .slice none 0 0] 66)
          have hZ4q63 := hZ4q52.below hbq62
          have hgep4q64 := hgep4q53
          have hnep4q65 := hnep4q54
          clear hbq62
          refine hK.out _ _ (hBq57) (fun _ => ?_)
          clear hK K
          try simp only [Act.put, List.setIfInBounds_toArray, List.set_cons_zero, List.set_cons_succ]
          generalize (Wq51.alloc (.cells #[.slice none 0 0, .slice none 0 0] 66)) = Wq58 at hBq57 hZ3q59 hgep3q60 hnep3q61 hZ4q63 hgep4q64 hnep4q65 ⊢
          refine wpAnyH_ready (rs := [11]) (by kernel_rfl) (by simp) ?_
          refine' (AllReadyH.cons (o := _) ?hiq66 (fun K hK => ?_) AllReadyH.nil)
          case hiq66 => (simp only [List.getElem?_toArray, List.getElem?_cons_zero, List.getElem?_cons_succ]; rfl)
          rw [if_pos (by rfl)]
          refine wp_store_row 66 (.tmp 3) (.tmp 25) rfl (Wq51.heap.size) #[.slice (some A) k c, .slice (some B) k d] rfl rfl 66 _ hZ3q59 sizeBoth rfl (by simp [Value.oneCell']) ?_
          have hZ3q67 := hZ3q59.setRow #[.slice (some A) k c, .slice (some B) k d]
          have hZ4q68 := hZ4q63.setRow_other (Wq51.heap.size) (by first | exact hnep3q61 | exact Ne.symm hnep3q61 | exact hnep4q65 | exact Ne.symm hnep4q65) #[.slice (some A) k c, .slice (some B) k d]
          have hBq69 := below_setRow hBq57 hgep3q60 #[.slice (some A) k c, .slice (some B) k d]
          refine hK.out _ _ hBq69 (fun _ => ?_)
          clear hK K
          try simp only [Act.put]
          generalize (Wq58.setRow (Wq51.heap.size) #[.slice (some A) k c, .slice (some B) k d]) = Wq70 at hZ3q67 hZ4q68 hBq69 ⊢
          refine wpAnyH_ready (rs := [12]) (by kernel_rfl) (by simp) ?_
          refine' (AllReadyH.cons (o := _) ?hiq71 (fun K hK => ?_) AllReadyH.nil)
          case hiq71 => (simp only [List.getElem?_toArray, List.getElem?_cons_zero, List.getElem?_cons_succ]; rfl)
          rw [if_pos (by rfl)]
          refine wp_store_row 66 (.tmp 4) (.tmp 26) rfl (Wq18.heap.size) #[.slice (some (A.add k)) (n - k) (c - k), .slice (some (B.add k)) (n - k) (d - k)] rfl rfl 66 _ hZ4q68 sizeBoth rfl (by simp [Value.oneCell']) ?_
          have hZ4q72 := hZ4q68.setRow #[.slice (some (A.add k)) (n - k) (c - k), .slice (some (B.add k)) (n - k) (d - k)]
          have hZ3q73 := hZ3q67.setRow_other (Wq18.heap.size) (by first | exact hnep3q61 | exact Ne.symm hnep3q61 | exact hnep4q65 | exact Ne.symm hnep4q65) #[.slice (some (A.add k)) (n - k) (c - k), .slice (some (B.add k)) (n - k) (d - k)]
          have hBq74 := below_setRow hBq69 hgep4q64 #[.slice (some (A.add k)) (n - k) (c - k), .slice (some (B.add k)) (n - k) (d - k)]
          refine hK.out _ _ hBq74 (fun _ => ?_)
          clear hK K
          try simp only [Act.put]
          generalize (Wq70.setRow (Wq18.heap.size) #[.slice (some (A.add k)) (n - k) (c - k), .slice (some (B.add k)) (n - k) (d - k)]) = Wq75 at hZ4q72 hZ3q73 hBq74 ⊢
          refine wpAnyH_done (by kernel_rfl) ?_ _
          go_wp2_with fail
          go_meet
          case rel => exact ⟨_, _, rfl, rfl, Lib.hid ⟨hZ3q73, hZ4q72, hBq74⟩⟩
      · skip
        go_simp
        have hBq76 := Below.alloc hBq11 (Below.size hBq11) (.cells #[.slice none 0 0, .slice none 0 0] 66)
        have hZ3q78 := Cells.new Wq12 66 #[.slice none 0 0, .slice none 0 0]
        have hgep3q79 := (show w2.heap.size ≤ Wq12.heap.size from Below.size hBq11)
        have hnep3q80 := trivial
        have hbq81 := below_alloc Wq12 (.cells #[.slice none 0 0, .slice none 0 0] 66)
        clear hbq81
        refine hK.out _ _ (hBq76) (fun _ => ?_)
        clear hK K
        try simp only [Act.put, List.setIfInBounds_toArray, List.set_cons_zero, List.set_cons_succ]
        generalize (Wq12.alloc (.cells #[.slice none 0 0, .slice none 0 0] 66)) = Wq77 at hBq76 hZ3q78 hgep3q79 hnep3q80 ⊢
        refine wpAnyH_ready (rs := [5, 10]) (by kernel_rfl) (by simp) ?_
        refine' (AllReadyH.cons (o := _) ?hiq82 (fun K hK => ?_) (AllReadyH.cons (o := _) ?hiq83 (fun K hK => ?_) AllReadyH.nil))
        case hiq82 => (simp only [List.getElem?_toArray, List.getElem?_cons_zero, List.getElem?_cons_succ]; rfl)
        case hiq83 => (simp only [List.getElem?_toArray, List.getElem?_cons_zero, List.getElem?_cons_succ]; rfl)
        · skip
          go_simp
          go_at_call 68
          refine (CP.out Wq77 hBq76).mono ?_
          rintro e Wq86 ⟨rfl, hbq84⟩
          have hBq85 := below_on hBq76 (Nat.le_refl _) hbq84
          have hZ3q87 := hZ3q78.below hbq84
          have hgep3q88 := hgep3q79
          have hnep3q89 := hnep3q80
          refine hK.out _ _ (hBq85) (fun _ => ?_)
          clear hK K
          try simp only [Act.put, List.setIfInBounds_toArray, List.set_cons_zero, List.set_cons_succ]
          refine' wpAnyH_take (i := 6) (oi := _) (v := _) ?hiq90 (by kernel_rfl) ?hfq90 ?hrq90 ?hQq90 ?hyq90 (hBq85) ?restq90
          case hiq90 => (simp only [List.getElem?_toArray, List.getElem?_cons_zero, List.getElem?_cons_succ]; rfl)
          case hfq90 => kernel_rfl
          case hrq90 => kernel_rfl
          case hQq90 => exact fun _ _ _ h => h
          case hyq90 => refine Or.inl ⟨by rfl, ?_⟩; intro W hSw; go_simp; try with_reducible rfl
          try simp only [Act.put, List.setIfInBounds_toArray, List.set_cons_zero, List.set_cons_succ]
          refine' wpAnyH_take (i := 7) (oi := _) (v := _) ?hiq91 (by kernel_rfl) ?hfq91 ?hrq91 ?hQq91 ?hyq91 (hBq85) ?restq91
          case hiq91 => (simp only [List.getElem?_toArray, List.getElem?_cons_zero, List.getElem?_cons_succ]; rfl)
          case hfq91 => kernel_rfl
          case hrq91 => kernel_rfl
          case hQq91 => exact fun _ _ _ h => h
          case hyq91 => refine Or.inl ⟨by rfl, ?_⟩; intro W hSw; go_simp; try with_reducible rfl
          try simp only [Act.put, List.setIfInBounds_toArray, List.set_cons_zero, List.set_cons_succ]
          refine' wpAnyH_take (i := 8) (oi := _) (v := _) ?hiq92 (by kernel_rfl) ?hfq92 ?hrq92 ?hQq92 ?hyq92 (hBq85) ?restq92
          case hiq92 => (simp only [List.getElem?_toArray, List.getElem?_cons_zero, List.getElem?_cons_succ]; rfl)
          case hfq92 => kernel_rfl
          case hrq92 => kernel_rfl
          case hQq92 => exact fun _ _ _ h => h
          case hyq92 => refine Or.inl ⟨by rfl, ?_⟩; intro W hSw; go_simp; try with_reducible rfl
          try simp only [Act.put, List.setIfInBounds_toArray, List.set_cons_zero, List.set_cons_succ]
          refine wpAnyH_ready (rs := [10]) (by kernel_rfl) (by simp) ?_
          refine' (AllReadyH.cons (o := _) ?hiq93 (fun K hK => ?_) AllReadyH.nil)
          case hiq93 => (simp only [List.getElem?_toArray, List.getElem?_cons_zero, List.getElem?_cons_succ]; rfl)
          go_simp
          have hBq94 := Below.alloc hBq85 (Below.size hBq85) (.cells #[.slice none 0 0, .slice none 0 0] 66)
          have hZ4q96 := Cells.new Wq86 66 #[.slice none 0 0, .slice none 0 0]
          have hgep4q97 := (show w2.heap.size ≤ Wq86.heap.size from Below.size hBq85)
          have hnep4q98 := (show Wq12.heap.size ≠ Wq86.heap.size from by have := hZ3q87.lt; omega)
          have hbq99 := below_alloc Wq86 (.cells #[.slice none 0 0, .slice none 0 0] 66)
          have hZ3q100 := hZ3q87.below hbq99
          have hgep3q101 := hgep3q88
          have hnep3q102 := hnep3q89
          clear hbq99
          refine hK.out _ _ (hBq94) (fun _ => ?_)
          clear hK K
          try simp only [Act.put, List.setIfInBounds_toArray, List.set_cons_zero, List.set_cons_succ]
          generalize (Wq86.alloc (.cells #[.slice none 0 0, .slice none 0 0] 66)) = Wq95 at hBq94 hZ4q96 hgep4q97 hnep4q98 hZ3q100 hgep3q101 hnep3q102 ⊢
          refine wpAnyH_ready (rs := [11]) (by kernel_rfl) (by simp) ?_
          refine' (AllReadyH.cons (o := _) ?hiq103 (fun K hK => ?_) AllReadyH.nil)
          case hiq103 => (simp only [List.getElem?_toArray, List.getElem?_cons_zero, List.getElem?_cons_succ]; rfl)
          rw [if_pos (by rfl)]
          refine wp_store_row 66 (.tmp 3) (.tmp 25) rfl (Wq12.heap.size) #[.slice (some A) k c, .slice (some B) k d] rfl rfl 66 _ hZ3q100 sizeBoth rfl (by simp [Value.oneCell']) ?_
          have hZ3q104 := hZ3q100.setRow #[.slice (some A) k c, .slice (some B) k d]
          have hZ4q105 := hZ4q96.setRow_other (Wq12.heap.size) (by first | exact hnep3q102 | exact Ne.symm hnep3q102 | exact hnep4q98 | exact Ne.symm hnep4q98) #[.slice (some A) k c, .slice (some B) k d]
          have hBq106 := below_setRow hBq94 hgep3q101 #[.slice (some A) k c, .slice (some B) k d]
          refine hK.out _ _ hBq106 (fun _ => ?_)
          clear hK K
          try simp only [Act.put]
          generalize (Wq95.setRow (Wq12.heap.size) #[.slice (some A) k c, .slice (some B) k d]) = Wq107 at hZ3q104 hZ4q105 hBq106 ⊢
          refine wpAnyH_ready (rs := [12]) (by kernel_rfl) (by simp) ?_
          refine' (AllReadyH.cons (o := _) ?hiq108 (fun K hK => ?_) AllReadyH.nil)
          case hiq108 => (simp only [List.getElem?_toArray, List.getElem?_cons_zero, List.getElem?_cons_succ]; rfl)
          rw [if_pos (by rfl)]
          refine wp_store_row 66 (.tmp 4) (.tmp 26) rfl (Wq86.heap.size) #[.slice (some (A.add k)) (n - k) (c - k), .slice (some (B.add k)) (n - k) (d - k)] rfl rfl 66 _ hZ4q105 sizeBoth rfl (by simp [Value.oneCell']) ?_
          have hZ4q109 := hZ4q105.setRow #[.slice (some (A.add k)) (n - k) (c - k), .slice (some (B.add k)) (n - k) (d - k)]
          have hZ3q110 := hZ3q104.setRow_other (Wq86.heap.size) (by first | exact hnep3q102 | exact Ne.symm hnep3q102 | exact hnep4q98 | exact Ne.symm hnep4q98) #[.slice (some (A.add k)) (n - k) (c - k), .slice (some (B.add k)) (n - k) (d - k)]
          have hBq111 := below_setRow hBq106 hgep4q97 #[.slice (some (A.add k)) (n - k) (c - k), .slice (some (B.add k)) (n - k) (d - k)]
          refine hK.out _ _ hBq111 (fun _ => ?_)
          clear hK K
          try simp only [Act.put]
          generalize (Wq107.setRow (Wq86.heap.size) #[.slice (some (A.add k)) (n - k) (c - k), .slice (some (B.add k)) (n - k) (d - k)]) = Wq112 at hZ4q109 hZ3q110 hBq111 ⊢
          refine wpAnyH_done (by kernel_rfl) ?_ _
          go_wp2_with fail
          go_meet
          case rel => exact ⟨_, _, rfl, rfl, Lib.hid ⟨hZ3q110, hZ4q109, hBq111⟩⟩
        · skip
          go_simp
          have hBq113 := Below.alloc hBq76 (Below.size hBq76) (.cells #[.slice none 0 0, .slice none 0 0] 66)
          have hZ4q115 := Cells.new Wq77 66 #[.slice none 0 0, .slice none 0 0]
          have hgep4q116 := (show w2.heap.size ≤ Wq77.heap.size from Below.size hBq76)
          have hnep4q117 := (show Wq12.heap.size ≠ Wq77.heap.size from by have := hZ3q78.lt; omega)
          have hbq118 := below_alloc Wq77 (.cells #[.slice none 0 0, .slice none 0 0] 66)
          have hZ3q119 := hZ3q78.below hbq118
          have hgep3q120 := hgep3q79
          have hnep3q121 := hnep3q80
          clear hbq118
          refine hK.out _ _ (hBq113) (fun _ => ?_)
          clear hK K
          try simp only [Act.put, List.setIfInBounds_toArray, List.set_cons_zero, List.set_cons_succ]
          generalize (Wq77.alloc (.cells #[.slice none 0 0, .slice none 0 0] 66)) = Wq114 at hBq113 hZ4q115 hgep4q116 hnep4q117 hZ3q119 hgep3q120 hnep3q121 ⊢
          refine wpAnyH_ready (rs := [5]) (by kernel_rfl) (by simp) ?_
          refine' (AllReadyH.cons (o := _) ?hiq122 (fun K hK => ?_) AllReadyH.nil)
          case hiq122 => (simp only [List.getElem?_toArray, List.getElem?_cons_zero, List.getElem?_cons_succ]; rfl)
          go_simp
          go_at_call 68
          refine (CP.out Wq114 hBq113).mono ?_
          rintro e Wq125 ⟨rfl, hbq123⟩
          have hBq124 := below_on hBq113 (Nat.le_refl _) hbq123
          have hZ3q126 := hZ3q119.below hbq123
          have hgep3q127 := hgep3q120
          have hnep3q128 := hnep3q121
          have hZ4q129 := hZ4q115.below hbq123
          have hgep4q130 := hgep4q116
          have hnep4q131 := hnep4q117
          refine hK.out _ _ (hBq124) (fun _ => ?_)
          clear hK K
          try simp only [Act.put, List.setIfInBounds_toArray, List.set_cons_zero, List.set_cons_succ]
          refine' wpAnyH_take (i := 6) (oi := _) (v := _) ?hiq132 (by kernel_rfl) ?hfq132 ?hrq132 ?hQq132 ?hyq132 (hBq124) ?restq132
          case hiq132 => (simp only [List.getElem?_toArray, List.getElem?_cons_zero, List.getElem?_cons_succ]; rfl)
          case hfq132 => kernel_rfl
          case hrq132 => kernel_rfl
          case hQq132 => exact fun _ _ _ h => h
          case hyq132 => refine Or.inl ⟨by rfl, ?_⟩; intro W hSw; go_simp; try with_reducible rfl
          try simp only [Act.put, List.setIfInBounds_toArray, List.set_cons_zero, List.set_cons_succ]
          refine' wpAnyH_take (i := 7) (oi := _) (v := _) ?hiq133 (by kernel_rfl) ?hfq133 ?hrq133 ?hQq133 ?hyq133 (hBq124) ?restq133
          case hiq133 => (simp only [List.getElem?_toArray, List.getElem?_cons_zero, List.getElem?_cons_succ]; rfl)
          case hfq133 => kernel_rfl
          case hrq133 => kernel_rfl
          case hQq133 => exact fun _ _ _ h => h
          case hyq133 => refine Or.inl ⟨by rfl, ?_⟩; intro W hSw; go_simp; try with_reducible rfl
          try simp only [Act.put, List.setIfInBounds_toArray, List.set_cons_zero, List.set_cons_succ]
          refine' wpAnyH_take (i := 8) (oi := _) (v := _) ?hiq134 (by kernel_rfl) ?hfq134 ?hrq134 ?hQq134 ?hyq134 (hBq124) ?restq134
          case hiq134 => (simp only [List.getElem?_toArray, List.getElem?_cons_zero, List.getElem?_cons_succ]; rfl)
          case hfq134 => kernel_rfl
          case hrq134 => kernel_rfl
          case hQq134 => exact fun _ _ _ h => h
          case hyq134 => refine Or.inl ⟨by rfl, ?_⟩; intro W hSw; go_simp; try with_reducible rfl
          try simp only [Act.put, List.setIfInBounds_toArray, List.set_cons_zero, List.set_cons_succ]
          refine wpAnyH_ready (rs := [11]) (by kernel_rfl) (by simp) ?_
          refine' (AllReadyH.cons (o := _) ?hiq135 (fun K hK => ?_) AllReadyH.nil)
          case hiq135 => (simp only [List.getElem?_toArray, List.getElem?_cons_zero, List.getElem?_cons_succ]; rfl)
          rw [if_pos (by rfl)]
          refine wp_store_row 66 (.tmp 3) (.tmp 25) rfl (Wq12.heap.size) #[.slice (some A) k c, .slice (some B) k d] rfl rfl 66 _ hZ3q126 sizeBoth rfl (by simp [Value.oneCell']) ?_
          have hZ3q136 := hZ3q126.setRow #[.slice (some A) k c, .slice (some B) k d]
          have hZ4q137 := hZ4q129.setRow_other (Wq12.heap.size) (by first | exact hnep3q128 | exact Ne.symm hnep3q128 | exact hnep4q131 | exact Ne.symm hnep4q131) #[.slice (some A) k c, .slice (some B) k d]
          have hBq138 := below_setRow hBq124 hgep3q127 #[.slice (some A) k c, .slice (some B) k d]
          refine hK.out _ _ hBq138 (fun _ => ?_)
          clear hK K
          try simp only [Act.put]
          generalize (Wq125.setRow (Wq12.heap.size) #[.slice (some A) k c, .slice (some B) k d]) = Wq139 at hZ3q136 hZ4q137 hBq138 ⊢
          refine wpAnyH_ready (rs := [12]) (by kernel_rfl) (by simp) ?_
          refine' (AllReadyH.cons (o := _) ?hiq140 (fun K hK => ?_) AllReadyH.nil)
          case hiq140 => (simp only [List.getElem?_toArray, List.getElem?_cons_zero, List.getElem?_cons_succ]; rfl)
          rw [if_pos (by rfl)]
          refine wp_store_row 66 (.tmp 4) (.tmp 26) rfl (Wq77.heap.size) #[.slice (some (A.add k)) (n - k) (c - k), .slice (some (B.add k)) (n - k) (d - k)] rfl rfl 66 _ hZ4q137 sizeBoth rfl (by simp [Value.oneCell']) ?_
          have hZ4q141 := hZ4q137.setRow #[.slice (some (A.add k)) (n - k) (c - k), .slice (some (B.add k)) (n - k) (d - k)]
          have hZ3q142 := hZ3q136.setRow_other (Wq77.heap.size) (by first | exact hnep3q128 | exact Ne.symm hnep3q128 | exact hnep4q131 | exact Ne.symm hnep4q131) #[.slice (some (A.add k)) (n - k) (c - k), .slice (some (B.add k)) (n - k) (d - k)]
          have hBq143 := below_setRow hBq138 hgep4q130 #[.slice (some (A.add k)) (n - k) (c - k), .slice (some (B.add k)) (n - k) (d - k)]
          refine hK.out _ _ hBq143 (fun _ => ?_)
          clear hK K
          try simp only [Act.put]
          generalize (Wq139.setRow (Wq77.heap.size) #[.slice (some (A.add k)) (n - k) (c - k), .slice (some (B.add k)) (n - k) (d - k)]) = Wq144 at hZ4q141 hZ3q142 hBq143 ⊢
          refine wpAnyH_done (by kernel_rfl) ?_ _
          go_wp2_with fail
          go_meet
          case rel => exact ⟨_, _, rfl, rfl, Lib.hid ⟨hZ3q142, hZ4q141, hBq143⟩⟩
      · skip
        go_simp
        have hBq145 := Below.alloc hBq11 (Below.size hBq11) (.cells #[.slice none 0 0, .slice none 0 0] 66)
        have hZ4q147 := Cells.new Wq12 66 #[.slice none 0 0, .slice none 0 0]
        have hgep4q148 := (show w2.heap.size ≤ Wq12.heap.size from Below.size hBq11)
        have hnep4q149 := trivial
        have hbq150 := below_alloc Wq12 (.cells #[.slice none 0 0, .slice none 0 0] 66)
        clear hbq150
        refine hK.out _ _ (hBq145) (fun _ => ?_)
        clear hK K
        try simp only [Act.put, List.setIfInBounds_toArray, List.set_cons_zero, List.set_cons_succ]
        generalize (Wq12.alloc (.cells #[.slice none 0 0, .slice none 0 0] 66)) = Wq146 at hBq145 hZ4q147 hgep4q148 hnep4q149 ⊢
        refine wpAnyH_ready (rs := [5, 9]) (by kernel_rfl) (by simp) ?_
        refine' (AllReadyH.cons (o := _) ?hiq151 (fun K hK => ?_) (AllReadyH.cons (o := _) ?hiq152 (fun K hK => ?_) AllReadyH.nil))
        case hiq151 => (simp only [List.getElem?_toArray, List.getElem?_cons_zero, List.getElem?_cons_succ]; rfl)
        case hiq152 => (simp only [List.getElem?_toArray, List.getElem?_cons_zero, List.getElem?_cons_succ]; rfl)
        · skip
          go_simp
          go_at_call 68
          refine (CP.out Wq146 hBq145).mono ?_
          rintro e Wq155 ⟨rfl, hbq153⟩
          have hBq154 := below_on hBq145 (Nat.le_refl _) hbq153
          have hZ4q156 := hZ4q147.below hbq153
          have hgep4q157 := hgep4q148
          have hnep4q158 := hnep4q149
          refine hK.out _ _ (hBq154) (fun _ => ?_)
          clear hK K
          try simp only [Act.put, List.setIfInBounds_toArray, List.set_cons_zero, List.set_cons_succ]
          refine' wpAnyH_take (i := 6) (oi := _) (v := _) ?hiq159 (by kernel_rfl) ?hfq159 ?hrq159 ?hQq159 ?hyq159 (hBq154) ?restq159
          case hiq159 => (simp only [List.getElem?_toArray, List.getElem?_cons_zero, List.getElem?_cons_succ]; rfl)
          case hfq159 => kernel_rfl
          case hrq159 => kernel_rfl
          case hQq159 => exact fun _ _ _ h => h
          case hyq159 => refine Or.inl ⟨by rfl, ?_⟩; intro W hSw; go_simp; try with_reducible rfl
          try simp only [Act.put, List.setIfInBounds_toArray, List.set_cons_zero, List.set_cons_succ]
          refine' wpAnyH_take (i := 7) (oi := _) (v := _) ?hiq160 (by kernel_rfl) ?hfq160 ?hrq160 ?hQq160 ?hyq160 (hBq154) ?restq160
          case hiq160 => (simp only [List.getElem?_toArray, List.getElem?_cons_zero, List.getElem?_cons_succ]; rfl)
          case hfq160 => kernel_rfl
          case hrq160 => kernel_rfl
          case hQq160 => exact fun _ _ _ h => h
          case hyq160 => refine Or.inl ⟨by rfl, ?_⟩; intro W hSw; go_simp; try with_reducible rfl
          try simp only [Act.put, List.setIfInBounds_toArray, List.set_cons_zero, List.set_cons_succ]
          refine' wpAnyH_take (i := 8) (oi := _) (v := _) ?hiq161 (by kernel_rfl) ?hfq161 ?hrq161 ?hQq161 ?hyq161 (hBq154) ?restq161
          case hiq161 => (simp only [List.getElem?_toArray, List.getElem?_cons_zero, List.getElem?_cons_succ]; rfl)
          case hfq161 => kernel_rfl
          case hrq161 => kernel_rfl
          case hQq161 => exact fun _ _ _ h => h
          case hyq161 => refine Or.inl ⟨by rfl, ?_⟩; intro W hSw; go_simp; try with_reducible rfl
          try simp only [Act.put, List.setIfInBounds_toArray, List.set_cons_zero, List.set_cons_succ]
          refine wpAnyH_ready (rs := [9]) (by kernel_rfl) (by simp) ?_
          refine' (AllReadyH.cons (o := _) ?hiq162 (fun K hK => ?_) AllReadyH.nil)
          case hiq162 => (simp only [List.getElem?_toArray, List.getElem?_cons_zero, List.getElem?_cons_succ]; rfl)
          go_simp
          have hBq163 := Below.alloc hBq154 (Below.size hBq154) (.cells #[.slice none 0 0, .slice none 0 0] 66)
          have hZ3q165 := Cells.new Wq155 66 #[.slice none 0 0, .slice none 0 0]
          have hgep3q166 := (show w2.heap.size ≤ Wq155.heap.size from Below.size hBq154)
          have hnep3q167 := (show Wq155.heap.size ≠ Wq12.heap.size from by have := hZ4q156.lt; omega)
          have hbq168 := below_alloc Wq155 (.cells #[.slice none 0 0, .slice none 0 0] 66)
          have hZ4q169 := hZ4q156.below hbq168
          have hgep4q170 := hgep4q157
          have hnep4q171 := hnep4q158
          clear hbq168
          refine hK.out _ _ (hBq163) (fun _ => ?_)
          clear hK K
          try simp only [Act.put, List.setIfInBounds_toArray, List.set_cons_zero, List.set_cons_succ]
          generalize (Wq155.alloc (.cells #[.slice none 0 0, .slice none 0 0] 66)) = Wq164 at hBq163 hZ3q165 hgep3q166 hnep3q167 hZ4q169 hgep4q170 hnep4q171 ⊢
          refine wpAnyH_ready (rs := [11]) (by kernel_rfl) (by simp) ?_
          refine' (AllReadyH.cons (o := _) ?hiq172 (fun K hK => ?_) AllReadyH.nil)
          case hiq172 => (simp only [List.getElem?_toArray, List.getElem?_cons_zero, List.getElem?_cons_succ]; rfl)
          rw [if_pos (by rfl)]
          refine wp_store_row 66 (.tmp 3) (.tmp 25) rfl (Wq155.heap.size) #[.slice (some A) k c, .slice (some B) k d] rfl rfl 66 _ hZ3q165 sizeBoth rfl (by simp [Value.oneCell']) ?_
          have hZ3q173 := hZ3q165.setRow #[.slice (some A) k c, .slice (some B) k d]
          have hZ4q174 := hZ4q169.setRow_other (Wq155.heap.size) (by first | exact hnep3q167 | exact Ne.symm hnep3q167 | exact hnep4q171 | exact Ne.symm hnep4q171) #[.slice (some A) k c, .slice (some B) k d]
          have hBq175 := below_setRow hBq163 hgep3q166 #[.slice (some A) k c, .slice (some B) k d]
          refine hK.out _ _ hBq175 (fun _ => ?_)
          clear hK K
          try simp only [Act.put]
          generalize (Wq164.setRow (Wq155.heap.size) #[.slice (some A) k c, .slice (some B) k d]) = Wq176 at hZ3q173 hZ4q174 hBq175 ⊢
          refine wpAnyH_ready (rs := [12]) (by kernel_rfl) (by simp) ?_
          refine' (AllReadyH.cons (o := _) ?hiq177 (fun K hK => ?_) AllReadyH.nil)
          case hiq177 => (simp only [List.getElem?_toArray, List.getElem?_cons_zero, List.getElem?_cons_succ]; rfl)
          rw [if_pos (by rfl)]
          refine wp_store_row 66 (.tmp 4) (.tmp 26) rfl (Wq12.heap.size) #[.slice (some (A.add k)) (n - k) (c - k), .slice (some (B.add k)) (n - k) (d - k)] rfl rfl 66 _ hZ4q174 sizeBoth rfl (by simp [Value.oneCell']) ?_
          have hZ4q178 := hZ4q174.setRow #[.slice (some (A.add k)) (n - k) (c - k), .slice (some (B.add k)) (n - k) (d - k)]
          have hZ3q179 := hZ3q173.setRow_other (Wq12.heap.size) (by first | exact hnep3q167 | exact Ne.symm hnep3q167 | exact hnep4q171 | exact Ne.symm hnep4q171) #[.slice (some (A.add k)) (n - k) (c - k), .slice (some (B.add k)) (n - k) (d - k)]
          have hBq180 := below_setRow hBq175 hgep4q170 #[.slice (some (A.add k)) (n - k) (c - k), .slice (some (B.add k)) (n - k) (d - k)]
          refine hK.out _ _ hBq180 (fun _ => ?_)
          clear hK K
          try simp only [Act.put]
          generalize (Wq176.setRow (Wq12.heap.size) #[.slice (some (A.add k)) (n - k) (c - k), .slice (some (B.add k)) (n - k) (d - k)]) = Wq181 at hZ4q178 hZ3q179 hBq180 ⊢
          refine wpAnyH_done (by kernel_rfl) ?_ _
          go_wp2_with fail
          go_meet
          case rel => exact ⟨_, _, rfl, rfl, Lib.hid ⟨hZ3q179, hZ4q178, hBq180⟩⟩
        · skip
          go_simp
          have hBq182 := Below.alloc hBq145 (Below.size hBq145) (.cells #[.slice none 0 0, .slice none 0 0] 66)
          have hZ3q184 := Cells.new Wq146 66 #[.slice none 0 0, .slice none 0 0]
          have hgep3q185 := (show w2.heap.size ≤ Wq146.heap.size from Below.size hBq145)
          have hnep3q186 := (show Wq146.heap.size ≠ Wq12.heap.size from by have := hZ4q147.lt; omega)
          have hbq187 := below_alloc Wq146 (.cells #[.slice none 0 0, .slice none 0 0] 66)
          have hZ4q188 := hZ4q147.below hbq187
          have hgep4q189 := hgep4q148
          have hnep4q190 := hnep4q149
          clear hbq187
          refine hK.out _ _ (hBq182) (fun _ => ?_)
          clear hK K
          try simp only [Act.put, List.setIfInBounds_toArray, List.set_cons_zero, List.set_cons_succ]
          generalize (Wq146.alloc (.cells #[.slice none 0 0, .slice none 0 0] 66)) = Wq183 at hBq182 hZ3q184 hgep3q185 hnep3q186 hZ4q188 hgep4q189 hnep4q190 ⊢
          refine wpAnyH_ready (rs := [5]) (by kernel_rfl) (by simp) ?_
          refine' (AllReadyH.cons (o := _) ?hiq191 (fun K hK => ?_) AllReadyH.nil)
          case hiq191 => (simp only [List.getElem?_toArray, List.getElem?_cons_zero, List.getElem?_cons_succ]; rfl)
          go_simp
          go_at_call 68
          refine (CP.out Wq183 hBq182).mono ?_
          rintro e Wq194 ⟨rfl, hbq192⟩
          have hBq193 := below_on hBq182 (Nat.le_refl _) hbq192
          have hZ4q195 := hZ4q188.below hbq192
          have hgep4q196 := hgep4q189
          have hnep4q197 := hnep4q190
          have hZ3q198 := hZ3q184.below hbq192
          have hgep3q199 := hgep3q185
          have hnep3q200 := hnep3q186
          refine hK.out _ _ (hBq193) (fun _ => ?_)
          clear hK K
          try simp only [Act.put, List.setIfInBounds_toArray, List.set_cons_zero, List.set_cons_succ]
          refine' wpAnyH_take (i := 6) (oi := _) (v := _) ?hiq201 (by kernel_rfl) ?hfq201 ?hrq201 ?hQq201 ?hyq201 (hBq193) ?restq201
          case hiq201 => (simp only [List.getElem?_toArray, List.getElem?_cons_zero, List.getElem?_cons_succ]; rfl)
          case hfq201 => kernel_rfl
          case hrq201 => kernel_rfl
          case hQq201 => exact fun _ _ _ h => h
          case hyq201 => refine Or.inl ⟨by rfl, ?_⟩; intro W hSw; go_simp; try with_reducible rfl
          try simp only [Act.put, List.setIfInBounds_toArray, List.set_cons_zero, List.set_cons_succ]
          refine' wpAnyH_take (i := 7) (oi := _) (v := _) ?hiq202 (by kernel_rfl) ?hfq202 ?hrq202 ?hQq202 ?hyq202 (hBq193) ?restq202
          case hiq202 => (simp only [List.getElem?_toArray, List.getElem?_cons_zero, List.getElem?_cons_succ]; rfl)
          case hfq202 => kernel_rfl
          case hrq202 => kernel_rfl
          case hQq202 => exact fun _ _ _ h => h
          case hyq202 => refine Or.inl ⟨by rfl, ?_⟩; intro W hSw; go_simp; try with_reducible rfl
          try simp only [Act.put, List.setIfInBounds_toArray, List.set_cons_zero, List.set_cons_succ]
          refine' wpAnyH_take (i := 8) (oi := _) (v := _) ?hiq203 (by kernel_rfl) ?hfq203 ?hrq203 ?hQq203 ?hyq203 (hBq193) ?restq203
          case hiq203 => (simp only [List.getElem?_toArray, List.getElem?_cons_zero, List.getElem?_cons_succ]; rfl)
          case hfq203 => kernel_rfl
          case hrq203 => kernel_rfl
          case hQq203 => exact fun _ _ _ h => h
          case hyq203 => refine Or.inl ⟨by rfl, ?_⟩; intro W hSw; go_simp; try with_reducible rfl
          try simp only [Act.put, List.setIfInBounds_toArray, List.set_cons_zero, List.set_cons_succ]
          refine wpAnyH_ready (rs := [11]) (by kernel_rfl) (by simp) ?_
          refine' (AllReadyH.cons (o := _) ?hiq204 (fun K hK => ?_) AllReadyH.nil)
          case hiq204 => (simp only [List.getElem?_toArray, List.getElem?_cons_zero, List.getElem?_cons_succ]; rfl)
          rw [if_pos (by rfl)]
          refine wp_store_row 66 (.tmp 3) (.tmp 25) rfl (Wq146.heap.size) #[.slice (some A) k c, .slice (some B) k d] rfl rfl 66 _ hZ3q198 sizeBoth rfl (by simp [Value.oneCell']) ?_
          have hZ3q205 := hZ3q198.setRow #[.slice (some A) k c, .slice (some B) k d]
          have hZ4q206 := hZ4q195.setRow_other (Wq146.heap.size) (by first | exact hnep3q200 | exact Ne.symm hnep3q200 | exact hnep4q197 | exact Ne.symm hnep4q197) #[.slice (some A) k c, .slice (some B) k d]
          have hBq207 := below_setRow hBq193 hgep3q199 #[.slice (some A) k c, .slice (some B) k d]
          refine hK.out _ _ hBq207 (fun _ => ?_)
          clear hK K
          try simp only [Act.put]
          generalize (Wq194.setRow (Wq146.heap.size) #[.slice (some A) k c, .slice (some B) k d]) = Wq208 at hZ3q205 hZ4q206 hBq207 ⊢
          refine wpAnyH_ready (rs := [12]) (by kernel_rfl) (by simp) ?_
          refine' (AllReadyH.cons (o := _) ?hiq209 (fun K hK => ?_) AllReadyH.nil)
          case hiq209 => (simp only [List.getElem?_toArray, List.getElem?_cons_zero, List.getElem?_cons_succ]; rfl)
          rw [if_pos (by rfl)]
          refine wp_store_row 66 (.tmp 4) (.tmp 26) rfl (Wq12.heap.size) #[.slice (some (A.add k)) (n - k) (c - k), .slice (some (B.add k)) (n - k) (d - k)] rfl rfl 66 _ hZ4q206 sizeBoth rfl (by simp [Value.oneCell']) ?_
          have hZ4q210 := hZ4q206.setRow #[.slice (some (A.add k)) (n - k) (c - k), .slice (some (B.add k)) (n - k) (d - k)]
          have hZ3q211 := hZ3q205.setRow_other (Wq12.heap.size) (by first | exact hnep3q200 | exact Ne.symm hnep3q200 | exact hnep4q197 | exact Ne.symm hnep4q197) #[.slice (some (A.add k)) (n - k) (c - k), .slice (some (B.add k)) (n - k) (d - k)]
          have hBq212 := below_setRow hBq207 hgep4q196 #[.slice (some (A.add k)) (n - k) (c - k), .slice (some (B.add k)) (n - k) (d - k)]
          refine hK.out _ _ hBq212 (fun _ => ?_)
          clear hK K
          try simp only [Act.put]
          generalize (Wq208.setRow (Wq12.heap.size) #[.slice (some (A.add k)) (n - k) (c - k), .slice (some (B.add k)) (n - k) (d - k)]) = Wq213 at hZ4q210 hZ3q211 hBq212 ⊢
          refine wpAnyH_done (by kernel_rfl) ?_ _
          go_wp2_with fail
          go_meet
          case rel => exact ⟨_, _, rfl, rfl, Lib.hid ⟨hZ3q211, hZ4q210, hBq212⟩⟩
    · skip
      go_simp
      have hBq214 := Below.alloc hSq1 (Below.size hSq1) (.cells #[.slice none 0 0, .slice none 0 0] 66)
      have hZ3q216 := Cells.new Wq2 66 #[.slice none 0 0, .slice none 0 0]
      have hgep3q217 := (show w2.heap.size ≤ Wq2.heap.size from Below.size hSq1)
      have hnep3q218 := trivial
      have hbq219 := below_alloc Wq2 (.cells #[.slice none 0 0, .slice none 0 0] 66)
      clear hbq219
      refine hK.out _ _ (hBq214) (fun _ => ?_)
      clear hK K
      try simp only [Act.put, List.setIfInBounds_toArray, List.set_cons_zero, List.set_cons_succ]
      generalize (Wq2.alloc (.cells #[.slice none 0 0, .slice none 0 0] 66)) = Wq215 at hBq214 hZ3q216 hgep3q217 hnep3q218 ⊢
      refine wpAnyH_ready (rs := [4, 10]) (by kernel_rfl) (by simp) ?_
      refine' (AllReadyH.cons (o := _) ?hiq220 (fun K hK => ?_) (AllReadyH.cons (o := _) ?hiq221 (fun K hK => ?_) AllReadyH.nil))
      case hiq220 => (simp only [List.getElem?_toArray, List.getElem?_cons_zero, List.getElem?_cons_succ]; rfl)
      case hiq221 => (simp only [List.getElem?_toArray, List.getElem?_cons_zero, List.getElem?_cons_succ]; rfl)
      · skip
        go_simp
        go_at_call 66
        refine (CL.out Wq215 hBq214).mono ?_
        rintro e Wq224 ⟨rfl, hbq222⟩
        have hBq223 := below_on hBq214 (Nat.le_refl _) hbq222
        have hZ3q225 := hZ3q216.below hbq222
        have hgep3q226 := hgep3q217
        have hnep3q227 := hnep3q218
        refine hK.out _ _ (hBq223) (fun _ => ?_)
        clear hK K
        try simp only [Act.put, List.setIfInBounds_toArray, List.set_cons_zero, List.set_cons_succ]
        refine wpAnyH_ready (rs := [5, 10]) (by kernel_rfl) (by simp) ?_
        refine' (AllReadyH.cons (o := _) ?hiq228 (fun K hK => ?_) (AllReadyH.cons (o := _) ?hiq229 (fun K hK => ?_) AllReadyH.nil))
        case hiq228 => (simp only [List.getElem?_toArray, List.getElem?_cons_zero, List.getElem?_cons_succ]; rfl)
        case hiq229 => (simp only [List.getElem?_toArray, List.getElem?_cons_zero, List.getElem?_cons_succ]; rfl)
        · skip
          go_simp
          go_at_call 68
          refine (CP.out Wq224 hBq223).mono ?_
          rintro e Wq232 ⟨rfl, hbq230⟩
          have hBq231 := below_on hBq223 (Nat.le_refl _) hbq230
          have hZ3q233 := hZ3q225.below hbq230
          have hgep3q234 := hgep3q226
          have hnep3q235 := hnep3q227
          refine hK.out _ _ (hBq231) (fun _ => ?_)
          clear hK K
          try simp only [Act.put, List.setIfInBounds_toArray, List.set_cons_zero, List.set_cons_succ]
          refine' wpAnyH_take (i := 6) (oi := _) (v := _) ?hiq236 (by kernel_rfl) ?hfq236 ?hrq236 ?hQq236 ?hyq236 (hBq231) ?restq236
          case hiq236 => (simp only [List.getElem?_toArray, List.getElem?_cons_zero, List.getElem?_cons_succ]; rfl)
          case hfq236 => kernel_rfl
          case hrq236 => kernel_rfl
          case hQq236 => exact fun _ _ _ h => h
          case hyq236 => refine Or.inl ⟨by rfl, ?_⟩; intro W hSw; go_simp; try with_reducible rfl
          try simp only [Act.put, List.setIfInBounds_toArray, List.set_cons_zero, List.set_cons_succ]
          refine' wpAnyH_take (i := 7) (oi := _) (v := _) ?hiq237 (by kernel_rfl) ?hfq237 ?hrq237 ?hQq237 ?hyq237 (hBq231) ?restq237
          case hiq237 => (simp only [List.getElem?_toArray, List.getElem?_cons_zero, List.getElem?_cons_succ]; rfl)
          case hfq237 => kernel_rfl
          case hrq237 => kernel_rfl
          case hQq237 => exact fun _ _ _ h => h
          case hyq237 => refine Or.inl ⟨by rfl, ?_⟩; intro W hSw; go_simp; try with_reducible rfl
          try simp only [Act.put, List.setIfInBounds_toArray, List.set_cons_zero, List.set_cons_succ]
          refine' wpAnyH_take (i := 8) (oi := _) (v := _) ?hiq238 (by kernel_rfl) ?hfq238 ?hrq238 ?hQq238 ?hyq238 (hBq231) ?restq238
          case hiq238 => (simp only [List.getElem?_toArray, List.getElem?_cons_zero, List.getElem?_cons_succ]; rfl)
          case hfq238 => kernel_rfl
          case hrq238 => kernel_rfl
          case hQq238 => exact fun _ _ _ h => h
          case hyq238 => refine Or.inl ⟨by rfl, ?_⟩; intro W hSw; go_simp; try with_reducible rfl
          try simp only [Act.put, List.setIfInBounds_toArray, List.set_cons_zero, List.set_cons_succ]
          refine wpAnyH_ready (rs := [10]) (by kernel_rfl) (by simp) ?_
          refine' (AllReadyH.cons (o := _) ?hiq239 (fun K hK => ?_) AllReadyH.nil)
          case hiq239 => (simp only [List.getElem?_toArray, List.getElem?_cons_zero, List.getElem?_cons_succ]; rfl)
          go_simp
          have hBq240 := Below.alloc hBq231 (Below.size hBq231) (.cells #[.slice none 0 0, .slice none 0 0] 66)
          have hZ4q242 := Cells.new Wq232 66 #[.slice none 0 0, .slice none 0 0]
          have hgep4q243 := (show w2.heap.size ≤ Wq232.heap.size from Below.size hBq231)
          have hnep4q244 := (show Wq2.heap.size ≠ Wq232.heap.size from by have := hZ3q233.lt; omega)
          have hbq245 := below_alloc Wq232 (.cells #[.slice none 0 0, .slice none 0 0] 66)
          have hZ3q246 := hZ3q233.below hbq245
          have hgep3q247 := hgep3q234
          have hnep3q248 := hnep3q235
          clear hbq245
          refine hK.out _ _ (hBq240) (fun _ => ?_)
          clear hK K
          try simp only [Act.put, List.setIfInBounds_toArray, List.set_cons_zero, List.set_cons_succ]
          generalize (Wq232.alloc (.cells #[.slice none 0 0, .slice none 0 0] 66)) = Wq241 at hBq240 hZ4q242 hgep4q243 hnep4q244 hZ3q246 hgep3q247 hnep3q248 ⊢
          refine wpAnyH_ready (rs := [11]) (by kernel_rfl) (by simp) ?_
          refine' (AllReadyH.cons (o := _) ?hiq249 (fun K hK => ?_) AllReadyH.nil)
          case hiq249 => (simp only [List.getElem?_toArray, List.getElem?_cons_zero, List.getElem?_cons_succ]; rfl)
          rw [if_pos (by rfl)]
          refine wp_store_row 66 (.tmp 3) (.tmp 25) rfl (Wq2.heap.size) #[.slice (some A) k c, .slice (some B) k d] rfl rfl 66 _ hZ3q246 sizeBoth rfl (by simp [Value.oneCell']) ?_
          have hZ3q250 := hZ3q246.setRow #[.slice (some A) k c, .slice (some B) k d]
          have hZ4q251 := hZ4q242.setRow_other (Wq2.heap.size) (by first | exact hnep3q248 | exact Ne.symm hnep3q248 | exact hnep4q244 | exact Ne.symm hnep4q244) #[.slice (some A) k c, .slice (some B) k d]
          have hBq252 := below_setRow hBq240 hgep3q247 #[.slice (some A) k c, .slice (some B) k d]
          refine hK.out _ _ hBq252 (fun _ => ?_)
          clear hK K
          try simp only [Act.put]
          generalize (Wq241.setRow (Wq2.heap.size) #[.slice (some A) k c, .slice (some B) k d]) = Wq253 at hZ3q250 hZ4q251 hBq252 ⊢
          refine wpAnyH_ready (rs := [12]) (by kernel_rfl) (by simp) ?_
          refine' (AllReadyH.cons (o := _) ?hiq254 (fun K hK => ?_) AllReadyH.nil)
          case hiq254 => (simp only [List.getElem?_toArray, List.getElem?_cons_zero, List.getElem?_cons_succ]; rfl)
          rw [if_pos (by rfl)]
          refine wp_store_row 66 (.tmp 4) (.tmp 26) rfl (Wq232.heap.size) #[.slice (some (A.add k)) (n - k) (c - k), .slice (some (B.add k)) (n - k) (d - k)] rfl rfl 66 _ hZ4q251 sizeBoth rfl (by simp [Value.oneCell']) ?_
          have hZ4q255 := hZ4q251.setRow #[.slice (some (A.add k)) (n - k) (c - k), .slice (some (B.add k)) (n - k) (d - k)]
          have hZ3q256 := hZ3q250.setRow_other (Wq232.heap.size) (by first | exact hnep3q248 | exact Ne.symm hnep3q248 | exact hnep4q244 | exact Ne.symm hnep4q244) #[.slice (some (A.add k)) (n - k) (c - k), .slice (some (B.add k)) (n - k) (d - k)]
          have hBq257 := below_setRow hBq252 hgep4q243 #[.slice (some (A.add k)) (n - k) (c - k), .slice (some (B.add k)) (n - k) (d - k)]
          refine hK.out _ _ hBq257 (fun _ => ?_)
          clear hK K
          try simp only [Act.put]
          generalize (Wq253.setRow (Wq232.heap.size) #[.slice (some (A.add k)) (n - k) (c - k), .slice (some (B.add k)) (n - k) (d - k)]) = Wq258 at hZ4q255 hZ3q256 hBq257 ⊢
          refine wpAnyH_done (by kernel_rfl) ?_ _
          go_wp2_with fail
          go_meet
          case rel => exact ⟨_, _, rfl, rfl, Lib.hid ⟨hZ3q256, hZ4q255, hBq257⟩⟩
        · skip
          go_simp
          have hBq259 := Below.alloc hBq223 (Below.size hBq223) (.cells #[.slice none 0 0, .slice none 0 0] 66)
          have hZ4q261 := Cells.new Wq224 66 #[.slice none 0 0, .slice none 0 0]
          have hgep4q262 := (show w2.heap.size ≤ Wq224.heap.size from Below.size hBq223)
          have hnep4q263 := (show Wq2.heap.size ≠ Wq224.heap.size from by have := hZ3q225.lt; omega)
          have hbq264 := below_alloc Wq224 (.cells #[.slice none 0 0, .slice none 0 0] 66)
          have hZ3q265 := hZ3q225.below hbq264
          have hgep3q266 := hgep3q226
          have hnep3q267 := hnep3q227
          clear hbq264
          refine hK.out _ _ (hBq259) (fun _ => ?_)
          clear hK K
          try simp only [Act.put, List.setIfInBounds_toArray, List.set_cons_zero, List.set_cons_succ]
          generalize (Wq224.alloc (.cells #[.slice none 0 0, .slice none 0 0] 66)) = Wq260 at hBq259 hZ4q261 hgep4q262 hnep4q263 hZ3q265 hgep3q266 hnep3q267 ⊢
          refine wpAnyH_ready (rs := [5]) (by kernel_rfl) (by simp) ?_
          refine' (AllReadyH.cons (o := _) ?hiq268 (fun K hK => ?_) AllReadyH.nil)
          case hiq268 => (simp only [List.getElem?_toArray, List.getElem?_cons_zero, List.getElem?_cons_succ]; rfl)
          go_simp
          go_at_call 68
          refine (CP.out Wq260 hBq259).mono ?_
          rintro e Wq271 ⟨rfl, hbq269⟩
          have hBq270 := below_on hBq259 (Nat.le_refl _) hbq269
          have hZ3q272 := hZ3q265.below hbq269
          have hgep3q273 := hgep3q266
          have hnep3q274 := hnep3q267
          have hZ4q275 := hZ4q261.below hbq269
          have hgep4q276 := hgep4q262
          have hnep4q277 := hnep4q263
          refine hK.out _ _ (hBq270) (fun _ => ?_)
          clear hK K
          try simp only [Act.put, List.setIfInBounds_toArray, List.set_cons_zero, List.set_cons_succ]
          refine' wpAnyH_take (i := 6) (oi := _) (v := _) ?hiq278 (by kernel_rfl) ?hfq278 ?hrq278 ?hQq278 ?hyq278 (hBq270) ?restq278
          case hiq278 => (simp only [List.getElem?_toArray, List.getElem?_cons_zero, List.getElem?_cons_succ]; rfl)
          case hfq278 => kernel_rfl
          case hrq278 => kernel_rfl
          case hQq278 => exact fun _ _ _ h => h
          case hyq278 => refine Or.inl ⟨by rfl, ?_⟩; intro W hSw; go_simp; try with_reducible rfl
          try simp only [Act.put, List.setIfInBounds_toArray, List.set_cons_zero, List.set_cons_succ]
          refine' wpAnyH_take (i := 7) (oi := _) (v := _) ?hiq279 (by kernel_rfl) ?hfq279 ?hrq279 ?hQq279 ?hyq279 (hBq270) ?restq279
          case hiq279 => (simp only [List.getElem?_toArray, List.getElem?_cons_zero, List.getElem?_cons_succ]; rfl)
          case hfq279 => kernel_rfl
          case hrq279 => kernel_rfl
          case hQq279 => exact fun _ _ _ h => h
          case hyq279 => refine Or.inl ⟨by rfl, ?_⟩; intro W hSw; go_simp; try with_reducible rfl
          try simp only [Act.put, List.setIfInBounds_toArray, List.set_cons_zero, List.set_cons_succ]
          refine' wpAnyH_take (i := 8) (oi := _) (v := _) ?hiq280 (by kernel_rfl) ?hfq280 ?hrq280 ?hQq280 ?hyq280 (hBq270) ?restq280
          case hiq280 => (simp only [List.getElem?_toArray, List.getElem?_cons_zero, List.getElem?_cons_succ]; rfl)
          case hfq280 => kernel_rfl
          case hrq280 => kernel_rfl
          case hQq280 => exact fun _ _ _ h => h
          case hyq280 => refine Or.inl ⟨by rfl, ?_⟩; intro W hSw; go_simp; try with_reducible rfl
          try simp only [Act.put, List.setIfInBounds_toArray, List.set_cons_zero, List.set_cons_succ]
          refine wpAnyH_ready (rs := [11]) (by kernel_rfl) (by simp) ?_
          refine' (AllReadyH.cons (o := _) ?hiq281 (fun K hK => ?_) AllReadyH.nil)
          case hiq281 => (simp only [List.getElem?_toArray, List.getElem?_cons_zero, List.getElem?_cons_succ]; rfl)
          rw [if_pos (by rfl)]
          refine wp_store_row 66 (.tmp 3) (.tmp 25) rfl (Wq2.heap.size) #[.slice (some A) k c, .slice (some B) k d] rfl rfl 66 _ hZ3q272 sizeBoth rfl (by simp [Value.oneCell']) ?_
          have hZ3q282 := hZ3q272.setRow #[.slice (some A) k c, .slice (some B) k d]
          have hZ4q283 := hZ4q275.setRow_other (Wq2.heap.size) (by first | exact hnep3q274 | exact Ne.symm hnep3q274 | exact hnep4q277 | exact Ne.symm hnep4q277) #[.slice (some A) k c, .slice (some B) k d]
          have hBq284 := below_setRow hBq270 hgep3q273 #[.slice (some A) k c, .slice (some B) k d]
          refine hK.out _ _ hBq284 (fun _ => ?_)
          clear hK K
          try simp only [Act.put]
          generalize (Wq271.setRow (Wq2.heap.size) #[.slice (some A) k c, .slice (some B) k d]) = Wq285 at hZ3q282 hZ4q283 hBq284 ⊢
          refine wpAnyH_ready (rs := [12]) (by kernel_rfl) (by simp) ?_
          refine' (AllReadyH.cons (o := _) ?hiq286 (fun K hK => ?_) AllReadyH.nil)
          case hiq286 => (simp only [List.getElem?_toArray, List.getElem?_cons_zero, List.getElem?_cons_succ]; rfl)
          rw [if_pos (by rfl)]
          refine wp_store_row 66 (.tmp 4) (.tmp 26) rfl (Wq224.heap.size) #[.slice (some (A.add k)) (n - k) (c - k), .slice (some (B.add k)) (n - k) (d - k)] rfl rfl 66 _ hZ4q283 sizeBoth rfl (by simp [Value.oneCell']) ?_
          have hZ4q287 := hZ4q283.setRow #[.slice (some (A.add k)) (n - k) (c - k), .slice (some (B.add k)) (n - k) (d - k)]
          have hZ3q288 := hZ3q282.setRow_other (Wq224.heap.size) (by first | exact hnep3q274 | exact Ne.symm hnep3q274 | exact hnep4q277 | exact Ne.symm hnep4q277) #[.slice (some (A.add k)) (n - k) (c - k), .slice (some (B.add k)) (n - k) (d - k)]
          have hBq289 := below_setRow hBq284 hgep4q276 #[.slice (some (A.add k)) (n - k) (c - k), .slice (some (B.add k)) (n - k) (d - k)]
          refine hK.out _ _ hBq289 (fun _ => ?_)
          clear hK K
          try simp only [Act.put]
          generalize (Wq285.setRow (Wq224.heap.size) #[.slice (some (A.add k)) (n - k) (c - k), .slice (some (B.add k)) (n - k) (d - k)]) = Wq290 at hZ4q287 hZ3q288 hBq289 ⊢
          refine wpAnyH_done (by kernel_rfl) ?_ _
          go_wp2_with fail
          go_meet
          case rel => exact ⟨_, _, rfl, rfl, Lib.hid ⟨hZ3q288, hZ4q287, hBq289⟩⟩
      · skip
        go_simp
        have hBq291 := Below.alloc hBq214 (Below.size hBq214) (.cells #[.slice none 0 0, .slice none 0 0] 66)
        have hZ4q293 := Cells.new Wq215 66 #[.slice none 0 0, .slice none 0 0]
        have hgep4q294 := (show w2.heap.size ≤ Wq215.heap.size from Below.size hBq214)
        have hnep4q295 := (show Wq2.heap.size ≠ Wq215.heap.size from by have := hZ3q216.lt; omega)
        have hbq296 := below_alloc Wq215 (.cells #[.slice none 0 0, .slice none 0 0] 66)
        have hZ3q297 := hZ3q216.below hbq296
        have hgep3q298 := hgep3q217
        have hnep3q299 := hnep3q218
        clear hbq296
        refine hK.out _ _ (hBq291) (fun _ => ?_)
        clear hK K
        try simp only [Act.put, List.setIfInBounds_toArray, List.set_cons_zero, List.set_cons_succ]
        generalize (Wq215.alloc (.cells #[.slice none 0 0, .slice none 0 0] 66)) = Wq292 at hBq291 hZ4q293 hgep4q294 hnep4q295 hZ3q297 hgep3q298 hnep3q299 ⊢
        refine wpAnyH_ready (rs := [4]) (by kernel_rfl) (by simp) ?_
        refine' (AllReadyH.cons (o := _) ?hiq300 (fun K hK => ?_) AllReadyH.nil)
        case hiq300 => (simp only [List.getElem?_toArray, List.getElem?_cons_zero, List.getElem?_cons_succ]; rfl)
        go_simp
        go_at_call 66
        refine (CL.out Wq292 hBq291).mono ?_
        rintro e Wq303 ⟨rfl, hbq301⟩
        have hBq302 := below_on hBq291 (Nat.le_refl _) hbq301
        have hZ3q304 := hZ3q297.below hbq301
        have hgep3q305 := hgep3q298
        have hnep3q306 := hnep3q299
        have hZ4q307 := hZ4q293.below hbq301
        have hgep4q308 := hgep4q294
        have hnep4q309 := hnep4q295
        refine hK.out _ _ (hBq302) (fun _ => ?_)
        clear hK K
        try simp only [Act.put, List.setIfInBounds_toArray, List.set_cons_zero, List.set_cons_succ]
        refine wpAnyH_ready (rs := [5]) (by kernel_rfl) (by simp) ?_
        refine' (AllReadyH.cons (o := _) ?hiq310 (fun K hK => ?_) AllReadyH.nil)
        case hiq310 => (simp only [List.getElem?_toArray, List.getElem?_cons_zero, List.getElem?_cons_succ]; rfl)
        go_simp
        go_at_call 68
        refine (CP.out Wq303 hBq302).mono ?_
        rintro e Wq313 ⟨rfl, hbq311⟩
        have hBq312 := below_on hBq302 (Nat.le_refl _) hbq311
        have hZ3q314 := hZ3q304.below hbq311
        have hgep3q315 := hgep3q305
        have hnep3q316 := hnep3q306
        have hZ4q317 := hZ4q307.below hbq311
        have hgep4q318 := hgep4q308
        have hnep4q319 := hnep4q309
        refine hK.out _ _ (hBq312) (fun _ => ?_)
        clear hK K
        try simp only [Act.put, List.setIfInBounds_toArray, List.set_cons_zero, List.set_cons_succ]
        refine' wpAnyH_take (i := 6) (oi := _) (v := _) ?hiq320 (by kernel_rfl) ?hfq320 ?hrq320 ?hQq320 ?hyq320 (hBq312) ?restq320
        case hiq320 => (simp only [List.getElem?_toArray, List.getElem?_cons_zero, List.getElem?_cons_succ]; rfl)
        case hfq320 => kernel_rfl
        case hrq320 => kernel_rfl
        case hQq320 => exact fun _ _ _ h => h
        case hyq320 => refine Or.inl ⟨by rfl, ?_⟩; intro W hSw; go_simp; try with_reducible rfl
        try simp only [Act.put, List.setIfInBounds_toArray, List.set_cons_zero, List.set_cons_succ]
        refine' wpAnyH_take (i := 7) (oi := _) (v := _) ?hiq321 (by kernel_rfl) ?hfq321 ?hrq321 ?hQq321 ?hyq321 (hBq312) ?restq321
        case hiq321 => (simp only [List.getElem?_toArray, List.getElem?_cons_zero, List.getElem?_cons_succ]; rfl)
        case hfq321 => kernel_rfl
        case hrq321 => kernel_rfl
        case hQq321 => exact fun _ _ _ h => h
        case hyq321 => refine Or.inl ⟨by rfl, ?_⟩; intro W hSw; go_simp; try with_reducible rfl
        try simp only [Act.put, List.setIfInBounds_toArray, List.set_cons_zero, List.set_cons_succ]
        refine' wpAnyH_take (i := 8) (oi := _) (v := _) ?hiq322 (by kernel_rfl) ?hfq322 ?hrq322 ?hQq322 ?hyq322 (hBq312) ?restq322
        case hiq322 => (simp only [List.getElem?_toArray, List.getElem?_cons_zero, List.getElem?_cons_succ]; rfl)
        case hfq322 => kernel_rfl
        case hrq322 => kernel_rfl
        case hQq322 => exact fun _ _ _ h => h
        case hyq322 => refine Or.inl ⟨by rfl, ?_⟩; intro W hSw; go_simp; try with_reducible rfl
        try simp only [Act.put, List.setIfInBounds_toArray, List.set_cons_zero, List.set_cons_succ]
        refine wpAnyH_ready (rs := [11]) (by kernel_rfl) (by simp) ?_
        refine' (AllReadyH.cons (o := _) ?hiq323 (fun K hK => ?_) AllReadyH.nil)
        case hiq323 => (simp only [List.getElem?_toArray, List.getElem?_cons_zero, List.getElem?_cons_succ]; rfl)
        rw [if_pos (by rfl)]
        refine wp_store_row 66 (.tmp 3) (.tmp 25) rfl (Wq2.heap.size) #[.slice (some A) k c, .slice (some B) k d] rfl rfl 66 _ hZ3q314 sizeBoth rfl (by simp [Value.oneCell']) ?_
        have hZ3q324 := hZ3q314.setRow #[.slice (some A) k c, .slice (some B) k d]
        have hZ4q325 := hZ4q317.setRow_other (Wq2.heap.size) (by first | exact hnep3q316 | exact Ne.symm hnep3q316 | exact hnep4q319 | exact Ne.symm hnep4q319) #[.slice (some A) k c, .slice (some B) k d]
        have hBq326 := below_setRow hBq312 hgep3q315 #[.slice (some A) k c, .slice (some B) k d]
        refine hK.out _ _ hBq326 (fun _ => ?_)
        clear hK K
        try simp only [Act.put]
        generalize (Wq313.setRow (Wq2.heap.size) #[.slice (some A) k c, .slice (some B) k d]) = Wq327 at hZ3q324 hZ4q325 hBq326 ⊢
        refine wpAnyH_ready (rs := [12]) (by kernel_rfl) (by simp) ?_
        refine' (AllReadyH.cons (o := _) ?hiq328 (fun K hK => ?_) AllReadyH.nil)
        case hiq328 => (simp only [List.getElem?_toArray, List.getElem?_cons_zero, List.getElem?_cons_succ]; rfl)
        rw [if_pos (by rfl)]
        refine wp_store_row 66 (.tmp 4) (.tmp 26) rfl (Wq215.heap.size) #[.slice (some (A.add k)) (n - k) (c - k), .slice (some (B.add k)) (n - k) (d - k)] rfl rfl 66 _ hZ4q325 sizeBoth rfl (by simp [Value.oneCell']) ?_
        have hZ4q329 := hZ4q325.setRow #[.slice (some (A.add k)) (n - k) (c - k), .slice (some (B.add k)) (n - k) (d - k)]
        have hZ3q330 := hZ3q324.setRow_other (Wq215.heap.size) (by first | exact hnep3q316 | exact Ne.symm hnep3q316 | exact hnep4q319 | exact Ne.symm hnep4q319) #[.slice (some (A.add k)) (n - k) (c - k), .slice (some (B.add k)) (n - k) (d - k)]
        have hBq331 := below_setRow hBq326 hgep4q318 #[.slice (some (A.add k)) (n - k) (c - k), .slice (some (B.add k)) (n - k) (d - k)]
        refine hK.out _ _ hBq331 (fun _ => ?_)
        clear hK K
        try simp only [Act.put]
        generalize (Wq327.setRow (Wq215.heap.size) #[.slice (some (A.add k)) (n - k) (c - k), .slice (some (B.add k)) (n - k) (d - k)]) = Wq332 at hZ4q329 hZ3q330 hBq331 ⊢
        refine wpAnyH_done (by kernel_rfl) ?_ _
        go_wp2_with fail
        go_meet
        case rel => exact ⟨_, _, rfl, rfl, Lib.hid ⟨hZ3q330, hZ4q329, hBq331⟩⟩
    · skip
      go_simp
      have hBq333 := Below.alloc hSq1 (Below.size hSq1) (.cells #[.slice none 0 0, .slice none 0 0] 66)
      have hZ4q335 := Cells.new Wq2 66 #[.slice none 0 0, .slice none 0 0]
      have hgep4q336 := (show w2.heap.size ≤ Wq2.heap.size from Below.size hSq1)
      have hnep4q337 := trivial
      have hbq338 := below_alloc Wq2 (.cells #[.slice none 0 0, .slice none 0 0] 66)
      clear hbq338
      refine hK.out _ _ (hBq333) (fun _ => ?_)
      clear hK K
      try simp only [Act.put, List.setIfInBounds_toArray, List.set_cons_zero, List.set_cons_succ]
      generalize (Wq2.alloc (.cells #[.slice none 0 0, .slice none 0 0] 66)) = Wq334 at hBq333 hZ4q335 hgep4q336 hnep4q337 ⊢
      refine wpAnyH_ready (rs := [4, 9]) (by kernel_rfl) (by simp) ?_
      refine' (AllReadyH.cons (o := _) ?hiq339 (fun K hK => ?_) (AllReadyH.cons (o := _) ?hiq340 (fun K hK => ?_) AllReadyH.nil))
      case hiq339 => (simp only [List.getElem?_toArray, List.getElem?_cons_zero, List.getElem?_cons_succ]; rfl)
      case hiq340 => (simp only [List.getElem?_toArray, List.getElem?_cons_zero, List.getElem?_cons_succ]; rfl)
      · skip
        go_simp
        go_at_call 66
        refine (CL.out Wq334 hBq333).mono ?_
        rintro e Wq343 ⟨rfl, hbq341⟩
        have hBq342 := below_on hBq333 (Nat.le_refl _) hbq341
        have hZ4q344 := hZ4q335.below hbq341
        have hgep4q345 := hgep4q336
        have hnep4q346 := hnep4q337
        refine hK.out _ _ (hBq342) (fun _ => ?_)
        clear hK K
        try simp only [Act.put, List.setIfInBounds_toArray, List.set_cons_zero, List.set_cons_succ]
        refine wpAnyH_ready (rs := [5, 9]) (by kernel_rfl) (by simp) ?_
        refine' (AllReadyH.cons (o := _) ?hiq347 (fun K hK => ?_) (AllReadyH.cons (o := _) ?hiq348 (fun K hK => ?_) AllReadyH.nil))
        case hiq347 => (simp only [List.getElem?_toArray, List.getElem?_cons_zero, List.getElem?_cons_succ]; rfl)
        case hiq348 => (simp only [List.getElem?_toArray, List.getElem?_cons_zero, List.getElem?_cons_succ]; rfl)
        · skip
          go_simp
          go_at_call 68
          refine (CP.out Wq343 hBq342).mono ?_
          rintro e Wq351 ⟨rfl, hbq349⟩
          have hBq350 := below_on hBq342 (Nat.le_refl _) hbq349
          have hZ4q352 := hZ4q344.below hbq349
          have hgep4q353 := hgep4q345
          have hnep4q354 := hnep4q346
          refine hK.out _ _ (hBq350) (fun _ => ?_)
          clear hK K
          try simp only [Act.put, List.setIfInBounds_toArray, List.set_cons_zero, List.set_cons_succ]
          refine' wpAnyH_take (i := 6) (oi := _) (v := _) ?hiq355 (by kernel_rfl) ?hfq355 ?hrq355 ?hQq355 ?hyq355 (hBq350) ?restq355
          case hiq355 => (simp only [List.getElem?_toArray, List.getElem?_cons_zero, List.getElem?_cons_succ]; rfl)
          case hfq355 => kernel_rfl
          case hrq355 => kernel_rfl
          case hQq355 => exact fun _ _ _ h => h
          case hyq355 => refine Or.inl ⟨by rfl, ?_⟩; intro W hSw; go_simp; try with_reducible rfl
          try simp only [Act.put, List.setIfInBounds_toArray, List.set_cons_zero, List.set_cons_succ]
          refine' wpAnyH_take (i := 7) (oi := _) (v := _) ?hiq356 (by kernel_rfl) ?hfq356 ?hrq356 ?hQq356 ?hyq356 (hBq350) ?restq356
          case hiq356 => (simp only [List.getElem?_toArray, List.getElem?_cons_zero, List.getElem?_cons_succ]; rfl)
          case hfq356 => kernel_rfl
          case hrq356 => kernel_rfl
          case hQq356 => exact fun _ _ _ h => h
          case hyq356 => refine Or.inl ⟨by rfl, ?_⟩; intro W hSw; go_simp; try with_reducible rfl
          try simp only [Act.put, List.setIfInBounds_toArray, List.set_cons_zero, List.set_cons_succ]
          refine' wpAnyH_take (i := 8) (oi := _) (v := _) ?hiq357 (by kernel_rfl) ?hfq357 ?hrq357 ?hQq357 ?hyq357 (hBq350) ?restq357
          case hiq357 => (simp only [List.getElem?_toArray, List.getElem?_cons_zero, List.getElem?_cons_succ]; rfl)
          case hfq357 => kernel_rfl
          case hrq357 => kernel_rfl
          case hQq357 => exact fun _ _ _ h => h
          case hyq357 => refine Or.inl ⟨by rfl, ?_⟩; intro W hSw; go_simp; try with_reducible rfl
          try simp only [Act.put, List.setIfInBounds_toArray, List.set_cons_zero, List.set_cons_succ]
          refine wpAnyH_ready (rs := [9]) (by kernel_rfl) (by simp) ?_
          refine' (AllReadyH.cons (o := _) ?hiq358 (fun K hK => ?_) AllReadyH.nil)
          case hiq358 => (simp only [List.getElem?_toArray, List.getElem?_cons_zero, List.getElem?_cons_succ]; rfl)
          go_simp
          have hBq359 := Below.alloc hBq350 (Below.size hBq350) (.cells #[.slice none 0 0, .slice none 0 0] 66)
          have hZ3q361 := Cells.new Wq351 66 #[.slice none 0 0, .slice none 0 0]
          have hgep3q362 := (show w2.heap.size ≤ Wq351.heap.size from Below.size hBq350)
          have hnep3q363 := (show Wq351.heap.size ≠ Wq2.heap.size from by have := hZ4q352.lt; omega)
          have hbq364 := below_alloc Wq351 (.cells #[.slice none 0 0, .slice none 0 0] 66)
          have hZ4q365 := hZ4q352.below hbq364
          have hgep4q366 := hgep4q353
          have hnep4q367 := hnep4q354
          clear hbq364
          refine hK.out _ _ (hBq359) (fun _ => ?_)
          clear hK K
          try simp only [Act.put, List.setIfInBounds_toArray, List.set_cons_zero, List.set_cons_succ]
          generalize (Wq351.alloc (.cells #[.slice none 0 0, .slice none 0 0] 66)) = Wq360 at hBq359 hZ3q361 hgep3q362 hnep3q363 hZ4q365 hgep4q366 hnep4q367 ⊢
          refine wpAnyH_ready (rs := [11]) (by kernel_rfl) (by simp) ?_
          refine' (AllReadyH.cons (o := _) ?hiq368 (fun K hK => ?_) AllReadyH.nil)
          case hiq368 => (simp only [List.getElem?_toArray, List.getElem?_cons_zero, List.getElem?_cons_succ]; rfl)
          rw [if_pos (by rfl)]
          refine wp_store_row 66 (.tmp 3) (.tmp 25) rfl (Wq351.heap.size) #[.slice (some A) k c, .slice (some B) k d] rfl rfl 66 _ hZ3q361 sizeBoth rfl (by simp [Value.oneCell']) ?_
          have hZ3q369 := hZ3q361.setRow #[.slice (some A) k c, .slice (some B) k d]
          have hZ4q370 := hZ4q365.setRow_other (Wq351.heap.size) (by first | exact hnep3q363 | exact Ne.symm hnep3q363 | exact hnep4q367 | exact Ne.symm hnep4q367) #[.slice (some A) k c, .slice (some B) k d]
          have hBq371 := below_setRow hBq359 hgep3q362 #[.slice (some A) k c, .slice (some B) k d]
          refine hK.out _ _ hBq371 (fun _ => ?_)
          clear hK K
          try simp only [Act.put]
          generalize (Wq360.setRow (Wq351.heap.size) #[.slice (some A) k c, .slice (some B) k d]) = Wq372 at hZ3q369 hZ4q370 hBq371 ⊢
          refine wpAnyH_ready (rs := [12]) (by kernel_rfl) (by simp) ?_
          refine' (AllReadyH.cons (o := _) ?hiq373 (fun K hK => ?_) AllReadyH.nil)
          case hiq373 => (simp only [List.getElem?_toArray, List.getElem?_cons_zero, List.getElem?_cons_succ]; rfl)
          rw [if_pos (by rfl)]
          refine wp_store_row 66 (.tmp 4) (.tmp 26) rfl (Wq2.heap.size) #[.slice (some (A.add k)) (n - k) (c - k), .slice (some (B.add k)) (n - k) (d - k)] rfl rfl 66 _ hZ4q370 sizeBoth rfl (by simp [Value.oneCell']) ?_
          have hZ4q374 := hZ4q370.setRow #[.slice (some (A.add k)) (n - k) (c - k), .slice (some (B.add k)) (n - k) (d - k)]
          have hZ3q375 := hZ3q369.setRow_other (Wq2.heap.size) (by first | exact hnep3q363 | exact Ne.symm hnep3q363 | exact hnep4q367 | exact Ne.symm hnep4q367) #[.slice (some (A.add k)) (n - k) (c - k), .slice (some (B.add k)) (n - k) (d - k)]
          have hBq376 := below_setRow hBq371 hgep4q366 #[.slice (some (A.add k)) (n - k) (c - k), .slice (some (B.add k)) (n - k) (d - k)]
          refine hK.out _ _ hBq376 (fun _ => ?_)
          clear hK K
          try simp only [Act.put]
          generalize (Wq372.setRow (Wq2.heap.size) #[.slice (some (A.add k)) (n - k) (c - k), .slice (some (B.add k)) (n - k) (d - k)]) = Wq377 at hZ4q374 hZ3q375 hBq376 ⊢
          refine wpAnyH_done (by kernel_rfl) ?_ _
          go_wp2_with fail
          go_meet
          case rel => exact ⟨_, _, rfl, rfl, Lib.hid ⟨hZ3q375, hZ4q374, hBq376⟩⟩
        · skip
          go_simp
          have hBq378 := Below.alloc hBq342 (Below.size hBq342) (.cells #[.slice none 0 0, .slice none 0 0] 66)
          have hZ3q380 := Cells.new Wq343 66 #[.slice none 0 0, .slice none 0 0]
          have hgep3q381 := (show w2.heap.size ≤ Wq343.heap.size from Below.size hBq342)
          have hnep3q382 := (show Wq343.heap.size ≠ Wq2.heap.size from by have := hZ4q344.lt; omega)
          have hbq383 := below_alloc Wq343 (.cells #[.slice none 0 0, .slice none 0 0] 66)
          have hZ4q384 := hZ4q344.below hbq383
          have hgep4q385 := hgep4q345
          have hnep4q386 := hnep4q346
          clear hbq383
          refine hK.out _ _ (hBq378) (fun _ => ?_)
          clear hK K
          try simp only [Act.put, List.setIfInBounds_toArray, List.set_cons_zero, List.set_cons_succ]
          generalize (Wq343.alloc (.cells #[.slice none 0 0, .slice none 0 0] 66)) = Wq379 at hBq378 hZ3q380 hgep3q381 hnep3q382 hZ4q384 hgep4q385 hnep4q386 ⊢
          refine wpAnyH_ready (rs := [5]) (by kernel_rfl) (by simp) ?_
          refine' (AllReadyH.cons (o := _) ?hiq387 (fun K hK => ?_) AllReadyH.nil)
          case hiq387 => (simp only [List.getElem?_toArray, List.getElem?_cons_zero, List.getElem?_cons_succ]; rfl)
          go_simp
          go_at_call 68
          refine (CP.out Wq379 hBq378).mono ?_
          rintro e Wq390 ⟨rfl, hbq388⟩
          have hBq389 := below_on hBq378 (Nat.le_refl _) hbq388
          have hZ4q391 := hZ4q384.below hbq388
          have hgep4q392 := hgep4q385
          have hnep4q393 := hnep4q386
          have hZ3q394 := hZ3q380.below hbq388
          have hgep3q395 := hgep3q381
          have hnep3q396 := hnep3q382
          refine hK.out _ _ (hBq389) (fun _ => ?_)
          clear hK K
          try simp only [Act.put, List.setIfInBounds_toArray, List.set_cons_zero, List.set_cons_succ]
          refine' wpAnyH_take (i := 6) (oi := _) (v := _) ?hiq397 (by kernel_rfl) ?hfq397 ?hrq397 ?hQq397 ?hyq397 (hBq389) ?restq397
          case hiq397 => (simp only [List.getElem?_toArray, List.getElem?_cons_zero, List.getElem?_cons_succ]; rfl)
          case hfq397 => kernel_rfl
          case hrq397 => kernel_rfl
          case hQq397 => exact fun _ _ _ h => h
          case hyq397 => refine Or.inl ⟨by rfl, ?_⟩; intro W hSw; go_simp; try with_reducible rfl
          try simp only [Act.put, List.setIfInBounds_toArray, List.set_cons_zero, List.set_cons_succ]
          refine' wpAnyH_take (i := 7) (oi := _) (v := _) ?hiq398 (by kernel_rfl) ?hfq398 ?hrq398 ?hQq398 ?hyq398 (hBq389) ?restq398
          case hiq398 => (simp only [List.getElem?_toArray, List.getElem?_cons_zero, List.getElem?_cons_succ]; rfl)
          case hfq398 => kernel_rfl
          case hrq398 => kernel_rfl
          case hQq398 => exact fun _ _ _ h => h
          case hyq398 => refine Or.inl ⟨by rfl, ?_⟩; intro W hSw; go_simp; try with_reducible rfl
          try simp only [Act.put, List.setIfInBounds_toArray, List.set_cons_zero, List.set_cons_succ]
          refine' wpAnyH_take (i := 8) (oi := _) (v := _) ?hiq399 (by kernel_rfl) ?hfq399 ?hrq399 ?hQq399 ?hyq399 (hBq389) ?restq399
          case hiq399 => (simp only [List.getElem?_toArray, List.getElem?_cons_zero, List.getElem?_cons_succ]; rfl)
          case hfq399 => kernel_rfl
          case hrq399 => kernel_rfl
          case hQq399 => exact fun _ _ _ h => h
          case hyq399 => refine Or.inl ⟨by rfl, ?_⟩; intro W hSw; go_simp; try with_reducible rfl
          try simp only [Act.put, List.setIfInBounds_toArray, List.set_cons_zero, List.set_cons_succ]
          refine wpAnyH_ready (rs := [11]) (by kernel_rfl) (by simp) ?_
          refine' (AllReadyH.cons (o := _) ?hiq400 (fun K hK => ?_) AllReadyH.nil)
          case hiq400 => (simp only [List.getElem?_toArray, List.getElem?_cons_zero, List.getElem?_cons_succ]; rfl)
          rw [if_pos (by rfl)]
          refine wp_store_row 66 (.tmp 3) (.tmp 25) rfl (Wq343.heap.size) #[.slice (some A) k c, .slice (some B) k d] rfl rfl 66 _ hZ3q394 sizeBoth rfl (by simp [Value.oneCell']) ?_
          have hZ3q401 := hZ3q394.setRow #[.slice (some A) k c, .slice (some B) k d]
          have hZ4q402 := hZ4q391.setRow_other (Wq343.heap.size) (by first | exact hnep3q396 | exact Ne.symm hnep3q396 | exact hnep4q393 | exact Ne.symm hnep4q393) #[.slice (some A) k c, .slice (some B) k d]
          have hBq403 := below_setRow hBq389 hgep3q395 #[.slice (some A) k c, .slice (some B) k d]
          refine hK.out _ _ hBq403 (fun _ => ?_)
          clear hK K
          try simp only [Act.put]
          generalize (Wq390.setRow (Wq343.heap.size) #[.slice (some A) k c, .slice (some B) k d]) = Wq404 at hZ3q401 hZ4q402 hBq403 ⊢
          refine wpAnyH_ready (rs := [12]) (by kernel_rfl) (by simp) ?_
          refine' (AllReadyH.cons (o := _) ?hiq405 (fun K hK => ?_) AllReadyH.nil)
          case hiq405 => (simp only [List.getElem?_toArray, List.getElem?_cons_zero, List.getElem?_cons_succ]; rfl)
          rw [if_pos (by rfl)]
          refine wp_store_row 66 (.tmp 4) (.tmp 26) rfl (Wq2.heap.size) #[.slice (some (A.add k)) (n - k) (c - k), .slice (some (B.add k)) (n - k) (d - k)] rfl rfl 66 _ hZ4q402 sizeBoth rfl (by simp [Value.oneCell']) ?_
          have hZ4q406 := hZ4q402.setRow #[.slice (some (A.add k)) (n - k) (c - k), .slice (some (B.add k)) (n - k) (d - k)]
          have hZ3q407 := hZ3q401.setRow_other (Wq2.heap.size) (by first | exact hnep3q396 | exact Ne.symm hnep3q396 | exact hnep4q393 | exact Ne.symm hnep4q393) #[.slice (some (A.add k)) (n - k) (c - k), .slice (some (B.add k)) (n - k) (d - k)]
          have hBq408 := below_setRow hBq403 hgep4q392 #[.slice (some (A.add k)) (n - k) (c - k), .slice (some (B.add k)) (n - k) (d - k)]
          refine hK.out _ _ hBq408 (fun _ => ?_)
          clear hK K
          try simp only [Act.put]
          generalize (Wq404.setRow (Wq2.heap.size) #[.slice (some (A.add k)) (n - k) (c - k), .slice (some (B.add k)) (n - k) (d - k)]) = Wq409 at hZ4q406 hZ3q407 hBq408 ⊢
          refine wpAnyH_done (by kernel_rfl) ?_ _
          go_wp2_with fail
          go_meet
          case rel => exact ⟨_, _, rfl, rfl, Lib.hid ⟨hZ3q407, hZ4q406, hBq408⟩⟩
      · skip
        go_simp
        have hBq410 := Below.alloc hBq333 (Below.size hBq333) (.cells #[.slice none 0 0, .slice none 0 0] 66)
        have hZ3q412 := Cells.new Wq334 66 #[.slice none 0 0, .slice none 0 0]
        have hgep3q413 := (show w2.heap.size ≤ Wq334.heap.size from Below.size hBq333)
        have hnep3q414 := (show Wq334.heap.size ≠ Wq2.heap.size from by have := hZ4q335.lt; omega)
        have hbq415 := below_alloc Wq334 (.cells #[.slice none 0 0, .slice none 0 0] 66)
        have hZ4q416 := hZ4q335.below hbq415
        have hgep4q417 := hgep4q336
        have hnep4q418 := hnep4q337
        clear hbq415
        refine hK.out _ _ (hBq410) (fun _ => ?_)
        clear hK K
        try simp only [Act.put, List.setIfInBounds_toArray, List.set_cons_zero, List.set_cons_succ]
        generalize (Wq334.alloc (.cells #[.slice none 0 0, .slice none 0 0] 66)) = Wq411 at hBq410 hZ3q412 hgep3q413 hnep3q414 hZ4q416 hgep4q417 hnep4q418 ⊢
        refine wpAnyH_ready (rs := [4]) (by kernel_rfl) (by simp) ?_
        refine' (AllReadyH.cons (o := _) ?hiq419 (fun K hK => ?_) AllReadyH.nil)
        case hiq419 => (simp only [List.getElem?_toArray, List.getElem?_cons_zero, List.getElem?_cons_succ]; rfl)
        go_simp
        go_at_call 66
        refine (CL.out Wq411 hBq410).mono ?_
        rintro e Wq422 ⟨rfl, hbq420⟩
        have hBq421 := below_on hBq410 (Nat.le_refl _) hbq420
        have hZ4q423 := hZ4q416.below hbq420
        have hgep4q424 := hgep4q417
        have hnep4q425 := hnep4q418
        have hZ3q426 := hZ3q412.below hbq420
        have hgep3q427 := hgep3q413
        have hnep3q428 := hnep3q414
        refine hK.out _ _ (hBq421) (fun _ => ?_)
        clear hK K
        try simp only [Act.put, List.setIfInBounds_toArray, List.set_cons_zero, List.set_cons_succ]
        refine wpAnyH_ready (rs := [5]) (by kernel_rfl) (by simp) ?_
        refine' (AllReadyH.cons (o := _) ?hiq429 (fun K hK => ?_) AllReadyH.nil)
        case hiq429 => (simp only [List.getElem?_toArray, List.getElem?_cons_zero, List.getElem?_cons_succ]; rfl)
        go_simp
        go_at_call 68
        refine (CP.out Wq422 hBq421).mono ?_
        rintro e Wq432 ⟨rfl, hbq430⟩
        have hBq431 := below_on hBq421 (Nat.le_refl _) hbq430
        have hZ4q433 := hZ4q423.below hbq430
        have hgep4q434 := hgep4q424
        have hnep4q435 := hnep4q425
        have hZ3q436 := hZ3q426.below hbq430
        have hgep3q437 := hgep3q427
        have hnep3q438 := hnep3q428
        refine hK.out _ _ (hBq431) (fun _ => ?_)
        clear hK K
        try simp only [Act.put, List.setIfInBounds_toArray, List.set_cons_zero, List.set_cons_succ]
        refine' wpAnyH_take (i := 6) (oi := _) (v := _) ?hiq439 (by kernel_rfl) ?hfq439 ?hrq439 ?hQq439 ?hyq439 (hBq431) ?restq439
        case hiq439 => (simp only [List.getElem?_toArray, List.getElem?_cons_zero, List.getElem?_cons_succ]; rfl)
        case hfq439 => kernel_rfl
        case hrq439 => kernel_rfl
        case hQq439 => exact fun _ _ _ h => h
        case hyq439 => refine Or.inl ⟨by rfl, ?_⟩; intro W hSw; go_simp; try with_reducible rfl
        try simp only [Act.put, List.setIfInBounds_toArray, List.set_cons_zero, List.set_cons_succ]
        refine' wpAnyH_take (i := 7) (oi := _) (v := _) ?hiq440 (by kernel_rfl) ?hfq440 ?hrq440 ?hQq440 ?hyq440 (hBq431) ?restq440
        case hiq440 => (simp only [List.getElem?_toArray, List.getElem?_cons_zero, List.getElem?_cons_succ]; rfl)
        case hfq440 => kernel_rfl
        case hrq440 => kernel_rfl
        case hQq440 => exact fun _ _ _ h => h
        case hyq440 => refine Or.inl ⟨by rfl, ?_⟩; intro W hSw; go_simp; try with_reducible rfl
        try simp only [Act.put, List.setIfInBounds_toArray, List.set_cons_zero, List.set_cons_succ]
        refine' wpAnyH_take (i := 8) (oi := _) (v := _) ?hiq441 (by kernel_rfl) ?hfq441 ?hrq441 ?hQq441 ?hyq441 (hBq431) ?restq441
        case hiq441 => (simp only [List.getElem?_toArray, List.getElem?_cons_zero, List.getElem?_cons_succ]; rfl)
        case hfq441 => kernel_rfl
        case hrq441 => kernel_rfl
        case hQq441 => exact fun _ _ _ h => h
        case hyq441 => refine Or.inl ⟨by rfl, ?_⟩; intro W hSw; go_simp; try with_reducible rfl
        try simp only [Act.put, List.setIfInBounds_toArray, List.set_cons_zero, List.set_cons_succ]
        refine wpAnyH_ready (rs := [11]) (by kernel_rfl) (by simp) ?_
        refine' (AllReadyH.cons (o := _) ?hiq442 (fun K hK => ?_) AllReadyH.nil)
        case hiq442 => (simp only [List.getElem?_toArray, List.getElem?_cons_zero, List.getElem?_cons_succ]; rfl)
        rw [if_pos (by rfl)]
        refine wp_store_row 66 (.tmp 3) (.tmp 25) rfl (Wq334.heap.size) #[.slice (some A) k c, .slice (some B) k d] rfl rfl 66 _ hZ3q436 sizeBoth rfl (by simp [Value.oneCell']) ?_
        have hZ3q443 := hZ3q436.setRow #[.slice (some A) k c, .slice (some B) k d]
        have hZ4q444 := hZ4q433.setRow_other (Wq334.heap.size) (by first | exact hnep3q438 | exact Ne.symm hnep3q438 | exact hnep4q435 | exact Ne.symm hnep4q435) #[.slice (some A) k c, .slice (some B) k d]
        have hBq445 := below_setRow hBq431 hgep3q437 #[.slice (some A) k c, .slice (some B) k d]
        refine hK.out _ _ hBq445 (fun _ => ?_)
        clear hK K
        try simp only [Act.put]
        generalize (Wq432.setRow (Wq334.heap.size) #[.slice (some A) k c, .slice (some B) k d]) = Wq446 at hZ3q443 hZ4q444 hBq445 ⊢
        refine wpAnyH_ready (rs := [12]) (by kernel_rfl) (by simp) ?_
        refine' (AllReadyH.cons (o := _) ?hiq447 (fun K hK => ?_) AllReadyH.nil)
        case hiq447 => (simp only [List.getElem?_toArray, List.getElem?_cons_zero, List.getElem?_cons_succ]; rfl)
        rw [if_pos (by rfl)]
        refine wp_store_row 66 (.tmp 4) (.tmp 26) rfl (Wq2.heap.size) #[.slice (some (A.add k)) (n - k) (c - k), .slice (some (B.add k)) (n - k) (d - k)] rfl rfl 66 _ hZ4q444 sizeBoth rfl (by simp [Value.oneCell']) ?_
        have hZ4q448 := hZ4q444.setRow #[.slice (some (A.add k)) (n - k) (c - k), .slice (some (B.add k)) (n - k) (d - k)]
        have hZ3q449 := hZ3q443.setRow_other (Wq2.heap.size) (by first | exact hnep3q438 | exact Ne.symm hnep3q438 | exact hnep4q435 | exact Ne.symm hnep4q435) #[.slice (some (A.add k)) (n - k) (c - k), .slice (some (B.add k)) (n - k) (d - k)]
        have hBq450 := below_setRow hBq445 hgep4q434 #[.slice (some (A.add k)) (n - k) (c - k), .slice (some (B.add k)) (n - k) (d - k)]
        refine hK.out _ _ hBq450 (fun _ => ?_)
        clear hK K
        try simp only [Act.put]
        generalize (Wq446.setRow (Wq2.heap.size) #[.slice (some (A.add k)) (n - k) (c - k), .slice (some (B.add k)) (n - k) (d - k)]) = Wq451 at hZ4q448 hZ3q449 hBq450 ⊢
        refine wpAnyH_done (by kernel_rfl) ?_ _
        go_wp2_with fail
        go_meet
        case rel => exact ⟨_, _, rfl, rfl, Lib.hid ⟨hZ3q449, hZ4q448, hBq450⟩⟩
  case rest =>
    obtain ⟨p, q, rfl, rfl, HR⟩ := hcut
    have bw := below_on B2.out (Nat.le_refl _) HR.out.2.2
    have B4 := Lib.hid bw
    have pg : p ≠ g + 1 := fun e => by
      have h1 := H2.out.res.below HR.out.2.2
      rw [← e] at h1
      have h3 := HR.out.1
      unfold BArr at h1
      unfold Cells at h3
      rw [h1] at h3
      cases h3
    have qg : q ≠ g + 1 := fun e => by
      have h1 := H2.out.res.below HR.out.2.2
      rw [← e] at h1
      have h3 := HR.out.2.1
      unfold BArr at h1
      unfold Cells at h3
      rw [h1] at h3
      cases h3
    have HP := Lib.hid (fun (W : World) (hW : But (· = g + 1) wc W) => show Cells W p 66 #[.slice (some A) k c, .slice (some B) k d] from but_cells hW HR.out.1 pg)
    have HQ := Lib.hid (fun (W : World) (hW : But (· = g + 1) wc W) => show Cells W q 66 #[.slice (some (A.add k)) (n - k) (c - k), .slice (some (B.add k)) (n - k) (d - k)] from but_cells hW HR.out.2.1 qg)
    clear bw pg qg
    go_upto_region 4 with fail
    have hSs1 : Below wc.heap.size wc wc.drew := (Below.refl _ _).drew
    have hress3 := (H2.out.res.below HR.out.2.2).below hSs1
    refine wp_region_held_drew (S := fun W => But (· = g + 1) wc W) (by kernel_rfl) (But.of_below hSs1) (fun _ => ?_)
    change wpAnyH _ _ _ _ _ _ _ _ wc.drew
    generalize wc.drew = Ws2 at hSs1 hress3 ⊢
    refine' wpAnyH_take (i := 0) (oi := _) (v := .agg #[.slice (some A) k c, .slice (some B) k d]) ?his4 (by kernel_rfl) ?hfs4 ?hrs4 ?hQs4 ?hys4 (But.of_below hSs1) ?rests4
    case his4 => (simp only [List.getElem?_toArray, List.getElem?_cons_zero]; rfl)
    case hfs4 => kernel_rfl
    case hrs4 => kernel_rfl
    case hQs4 => exact fun _ _ _ h => h
    case hys4 => refine Or.inl ⟨by rfl, ?_⟩; intro W hSw; exact load_both_op (.tmp 3) (by rfl) (by rfl) (HP.out W hSw)
    try simp only [Act.put, List.setIfInBounds_toArray, List.set_cons_zero, List.set_cons_succ]
    refine' wpAnyH_take (i := 2) (oi := _) (v := .agg #[.slice (some (A.add k)) (n - k) (c - k), .slice (some (B.add k)) (n - k) (d - k)]) ?his5 (by kernel_rfl) ?hfs5 ?hrs5 ?hQs5 ?hys5 (But.of_below hSs1) ?rests5
    case his5 => (simp only [List.getElem?_toArray, List.getElem?_cons_zero, List.getElem?_cons_succ]; rfl)
    case hfs5 => kernel_rfl
    case hrs5 => kernel_rfl
    case hQs5 => exact fun _ _ _ h => h
    case hys5 => refine Or.inl ⟨by rfl, ?_⟩; intro W hSw; exact load_both_op (.tmp 4) (by rfl) (by rfl) (HQ.out W hSw)
    try simp only [Act.put, List.setIfInBounds_toArray, List.set_cons_zero, List.set_cons_succ]
    refine wpAnyH_ready (rs := [1]) (by kernel_rfl) (by simp) ?_
    refine' (AllReadyH.cons (o := _) ?his6 (fun K hK => ?_) AllReadyH.nil)
    case his6 => (simp only [List.getElem?_toArray, List.getElem?_cons_zero, List.getElem?_cons_succ]; rfl)
    go_simp
    go_at_call 59
    refine (C1.out Ws2 (below_on B4.out (Nat.le_refl _) hSs1)).mono ?_
    rintro e Ws9 ⟨hTs10, hbs7⟩
    have hBs8 := below_on hSs1 (Nat.le_refl _) hbs7
    rcases hTs10 with ⟨rfl, hs1⟩ | ⟨u, rfl, hu⟩
    · skip
      have hress11 := hress3.below hbs7
      refine hK.out _ _ (But.of_below hBs8) (fun _ => ?_)
      clear hK K
      try simp only [Act.put, List.setIfInBounds_toArray, List.set_cons_zero, List.set_cons_succ]
      refine wpAnyH_ready (rs := [3]) (by kernel_rfl) (by simp) ?_
      refine' (AllReadyH.cons (o := _) ?his12 (fun K hK => ?_) AllReadyH.nil)
      case his12 => (simp only [List.getElem?_toArray, List.getElem?_cons_zero, List.getElem?_cons_succ]; rfl)
      go_simp
      go_at_call 59
      refine (C2.out Ws9 (below_on B4.out (Nat.le_refl _) hBs8)).mono ?_
      rintro e Ws15 ⟨hTs16, hbs13⟩
      have hBs14 := below_on hBs8 (Nat.le_refl _) hbs13
      rcases hTs16 with ⟨rfl, hs2⟩ | ⟨u, rfl, hu⟩
      · skip
        have hress17 := hress11.below hbs13
        refine hK.out _ _ (But.of_below hBs14) (fun _ => ?_)
        clear hK K
        try simp only [Act.put, List.setIfInBounds_toArray, List.set_cons_zero, List.set_cons_succ]
        refine wpAnyH_ready (rs := [4]) (by kernel_rfl) (by simp) ?_
        refine' (AllReadyH.cons (o := _) ?his18 (fun K hK => ?_) AllReadyH.nil)
        case his18 => (simp only [List.getElem?_toArray, List.getElem?_cons_zero, List.getElem?_cons_succ]; rfl)
        go_simp
        go_at_call 67
        refine (C3.out Ws15 (below_on B4.out (Nat.le_refl _) hBs14)).mono ?_
        rintro e Ws21 ⟨hTs22, hbs19⟩
        have hBs20 := below_on hBs14 (Nat.le_refl _) hbs19
        rcases hTs22 with ⟨rfl, hs3⟩ | ⟨u, rfl, hu⟩
        · skip
          have hress23 := hress17.below hbs19
          refine hK.out _ _ (But.of_below hBs20) (fun _ => ?_)
          clear hK K
          try simp only [Act.put, List.setIfInBounds_toArray, List.set_cons_zero, List.set_cons_succ]
          refine wpAnyH_ready (rs := [5]) (by kernel_rfl) (by simp) ?_
          refine' (AllReadyH.cons (o := _) ?his24 (fun K hK => ?_) AllReadyH.nil)
          case his24 => (simp only [List.getElem?_toArray, List.getElem?_cons_zero, List.getElem?_cons_succ]; rfl)
          rw [if_pos (by rfl)]
          have hf := hress23
          refine step_store_pairC (.tmp 2) (.tmp 31) rfl (g + 1) rfl zero64 P (by rfl) Pl hf rfl ?_
          have hz : Below g w (Ws21.setRow (g + 1) (bvs P).toArray) := below_setRow (below_on H2.out.below (Nat.le_of_eq HG.out.symm) (below_on HR.out.2.2 (Nat.le_refl _) hBs20)) (by omega) _
          refine hK.out _ _ (but_setRow (S := (· = g + 1)) (But.of_below hBs20) rfl _) (fun _ => ?_)
          clear hK K
          try simp only [Act.put]
          have hf2 := hf.setRow P
          generalize (Ws21.setRow (g + 1) (bvs P).toArray) = Wz at hz hf2 ⊢
          refine wpAnyH_done (by kernel_rfl) ?_ _
          go_wp2_with fail
          refine bodyPost_ret_by (results_cell_row (p := 2) (ty := 63) (by kernel_rfl) _ _ (g + 1) 63 (bvs P).toArray (0, 0) _ rfl hf2 Tryd.underlying63 rfl (by rw [List.size_toArray, bvs_length, Pl]; exact sizePairC)) rfl ?_
          exact ⟨.inl ⟨rfl, HCUT.out hs1 hs2 hs3⟩, hz⟩
        · skip
          go_wp2
          exact ⟨rfl, .inr ⟨u, rfl, hu⟩, by rw [← HG.out]; exact below_on B4.out (Nat.le_refl _) hBs20⟩
      · skip
        go_wp2
        exact ⟨rfl, .inr ⟨u, rfl, hu⟩, by rw [← HG.out]; exact below_on B4.out (Nat.le_refl _) hBs14⟩
    · skip
      go_wp2
      exact ⟨rfl, .inr ⟨u, rfl, hu⟩, by rw [← HG.out]; exact below_on B4.out (Nat.le_refl _) hBs8⟩
end

theorem down_any : ∀ (n : Nat) (w : World) (A B : Addr) (c d : Nat) (R S : List (List Nat)), Ent w (some A) n c R → Ent w (some B) n d S → Knows w → Starts w → 1 ≤ n → n ≤ 60000 →
    Calls Tryd.prog 59 #[.agg #[.slice (some A) n c, .slice (some B) n d]] w fun e w' => Told w.heap.size (sv (rtl R ++ rtl S)) (rtl R = rtl S → R = S) e w' ∧ Below w.heap.size w w' := by
  intro n
  induction n using Nat.strongRecOn with
  | ind n ih =>
    intro w A B c d R S E1 E2 hk hks h1 h6
    by_cases hn : n = 1
    · subst hn; exact down_one E1 E2 hk hks
    · exact down_more E1 E2 hk hks (by omega) h6 fun m hm w A B c d R S E1 E2 hk hks h1 => ih m hm w A B c d R S E1 E2 hk hks h1 (by omega)

end Go.Proofs.YtnaebjdccngeoaaDoor

/-
  slices.EqualFunc of entries, clashes.begins.
-/
namespace Go.Proofs.YtnaebjdccngeoaaDoor
open Go.RowKit

section
variable {w : World} {A B : Option Addr} {n c m d : Nat} {R S : List (List Nat)}

set_option maxRecDepth 100000 in
set_option maxHeartbeats 1000000 in
theorem eqFunc_any (h1 : Ent w A n c R) (h2 : Ent w B n d S) (hn : n ≤ 1000000) :
    Calls Tryd.prog 64 #[.slice A n c, .slice B n d, .func (.func 47) #[] #[]] w fun e w' => e = .returned (.bool (decide (R = S))) ∧ w' = w := by
  have dn : ((n : Int) != (n : Int)) = false := by simp
  have H := Lib.hid (And.intro h1 h2)
  clear h1 h2
  go_enter Tryd.func64, Tryd.ntmps64
  go_wp2
  go_loopw [7, 8, 9, 17] (fun _ _ _ i wr => ∃ j : Nat, j ≤ n ∧ i = .int .i64 (j : Int) ∧ Hid (R.take j = S.take j) ∧ wr = w) (fun _ _ _ i _ => n - (intOf i).toNat)
  case atStart => exact ⟨0, Nat.zero_le _, rfl, Lib.hid rfl, rfl⟩
  case round =>
    obtain ⟨j, hj, rfl, HT, e⟩ := hrel
    have e' := e.symm
    clear e
    subst e'
    by_cases hlt : j < n
    · obtain ⟨ad, X, k, q, xs, rfl, hx, hcx, hX, _⟩ := H.out.1.at_ hlt
      obtain ⟨ad2, Y, k2, q2, ys, rfl, hy, hcy, hY, _⟩ := H.out.2.at_ hlt
      have hji : (j : Int) < (n : Int) := by omega
      have CE := Lib.hid (equal_any hX hY)
      by_cases hxy : xs = ys
      · rw [decide_eq_true hxy] at CE
        have HN := Lib.hid (show R.take (j + 1) = S.take (j + 1) by rw [rows_snoc hx, rows_snoc hy, HT.out, hxy])
        clear hx hy hX hY hxy HT
        go_wp2_with fail
        refine CE.out.mono ?_
        rintro e w' ⟨rfl, e1⟩
        obtain rfl := e1.symm
        clear e1
        go_wp2
        go_roundw
        case rel => exact ⟨j + 1, by omega, by go_num, HN, trivial⟩
        case measure => simp [intOf]; omega
      · rw [decide_eq_false hxy] at CE
        have HN := Lib.hid (show R ≠ S from fun e => by rw [e, hy] at hx; cases hx; exact hxy rfl)
        clear hx hy hX hY hxy HT
        go_wp2_with fail
        refine CE.out.mono ?_
        rintro e w' ⟨rfl, e1⟩
        obtain rfl := e1.symm
        clear e1
        go_wp2
        go_ret
        exact ⟨by rw [decide_eq_false HN.out]; rfl, rfl⟩
    · obtain rfl : j = n := by omega
      have hji : ¬ ((j : Int) < (j : Int)) := by omega
      have HN := Lib.hid (show R = S by
        have := HT.out
        rw [List.take_of_length_le (by rw [H.out.1.len]; omega), List.take_of_length_le (by rw [H.out.2.len]; omega)] at this
        exact this)
      clear HT
      go_wp2
      go_ret
      exact ⟨by rw [decide_eq_true HN.out]; rfl, rfl⟩

set_option maxRecDepth 100000 in
set_option maxHeartbeats 1000000 in
theorem begins_any (h1 : Ent w A n c R) (h2 : Ent w B m d S) (hn : n ≤ m) (hm : n ≤ 1000000) :
    Calls Tryd.prog 35 #[.slice A n c, .slice B m d] w fun e w' => e = .returned (.bool (decide (R = S.take n))) ∧ w' = w := by
  have hcut := fun W => run_takeR (A := B) hn h2.cap h2.nil W
  have C := Lib.hid (eqFunc_any h1 (h2.take hn) hm)
  clear h1 h2
  go_enter Tryd.func35, Tryd.ntmps35
  go_wp2_with fail
  refine C.out.mono ?_
  rintro e w' ⟨rfl, e1⟩
  obtain rfl := e1.symm
  clear e1
  go_wp2
  go_ret
  exact ⟨rfl, rfl⟩
end

end Go.Proofs.YtnaebjdccngeoaaDoor

/-
  leaves.Leaf, leaves.Node.
-/
namespace Go.Proofs.YtnaebjdccngeoaaDoor
open Go.RowKit

set_option maxRecDepth 100000 in
set_option maxHeartbeats 2000000 in
theorem leaf_any (A : Option Addr) (n c : Nat) (xs : List Nat) (w : World) (hx : Came w A n c xs) (hk : Knows w) (hs : Starts w) (hn : n ≤ 800000000) :
    Calls Tryd.prog 34 #[.slice A n c] w fun e w' => e = .returned (sv (leafL xs)) ∧ Below w.heap.size w w' := by
  have e0 : (bvs zero32).toArray = #[.int .u8 0, .int .u8 0, .int .u8 0, .int .u8 0, .int .u8 0, .int .u8 0, .int .u8 0, .int .u8 0, .int .u8 0, .int .u8 0, .int .u8 0, .int .u8 0, .int .u8 0, .int .u8 0, .int .u8 0, .int .u8 0, .int .u8 0, .int .u8 0, .int .u8 0, .int .u8 0, .int .u8 0, .int .u8 0, .int .u8 0, .int .u8 0, .int .u8 0, .int .u8 0, .int .u8 0, .int .u8 0, .int .u8 0, .int .u8 0, .int .u8 0, .int .u8 0] := rfl
  have f1 := BArr.new w 36 zero32
  have b1 := below_alloc w (.cells (bvs zero32).toArray 36)
  have s1 : (w.alloc (.cells (bvs zero32).toArray 36)).heap.size = w.heap.size + 1 := World.size_alloc _ _
  rw [e0] at f1 b1 s1
  clear e0
  have HF := Lib.hid (And.intro f1 (And.intro b1 s1))
  have HX := Lib.hid hx
  clear f1 b1 s1 hx
  go_enter Tryd.func34, Tryd.ntmps34
  go_upto_region 1 with fail
  obtain ⟨w1, hw1⟩ : ∃ w1, w1 = w.alloc (.cells #[.int .u8 0, .int .u8 0, .int .u8 0, .int .u8 0, .int .u8 0, .int .u8 0, .int .u8 0, .int .u8 0, .int .u8 0, .int .u8 0, .int .u8 0, .int .u8 0, .int .u8 0, .int .u8 0, .int .u8 0, .int .u8 0, .int .u8 0, .int .u8 0, .int .u8 0, .int .u8 0, .int .u8 0, .int .u8 0, .int .u8 0, .int .u8 0, .int .u8 0, .int .u8 0, .int .u8 0, .int .u8 0, .int .u8 0, .int .u8 0, .int .u8 0, .int .u8 0] 36) := ⟨_, rfl⟩
  rw [← hw1] at HF ⊢
  clear hw1
  obtain ⟨W, hW⟩ : ∃ W, W = w1.alloc (.cells #[.slice A n c] 23) := ⟨_, rfl⟩
  have hb : Below w1.heap.size w1 W := by rw [hW]; exact below_alloc _ _
  have hcell : W.cell? ⟨w1.heap.size, 0, none⟩ = some (.slice A n c) := by rw [hW]; exact cell_new1 _ _ _
  have bel := below_on HF.out.2.1 (Nat.le_refl _) hb
  have C := Lib.hid (marked_any 0 (some ⟨w1.heap.size, 0, none⟩) 1 1 [xs] W (by omega) ⟨rfl, fun r ys hr => by
    have hr' := (List.getElem?_eq_some_iff.1 hr).1
    obtain rfl : r = 0 := by simp at hr'; omega
    cases hr
    exact ⟨_, A, n, c, rfl, hcell, HX.out.below bel, by omega⟩⟩ (hk.below bel) (hs.below bel) (by have := HX.out.in_.len; simp [tot]; omega) (by omega))
  have hl32 := sha_length (0 :: [xs].flatten)
  have HS : leafL xs = sha (0 :: [xs].flatten) := by rw [leafL]; simp
  obtain ⟨s, hs0⟩ : ∃ s, sha (0 :: [xs].flatten) = s := ⟨_, rfl⟩
  rw [hs0] at C hl32 HS
  have HS' := Lib.hid HS
  clear hs0 HS
  have H1 := Lib.hid (And.intro (HF.out.1.below hb) bel)
  clear hb hcell bel
  go_wp2_with fail
  rw [← hW]
  clear hW
  refine C.out.mono ?_
  rintro e w4 ⟨rfl, hb4⟩
  have f4 := H1.out.1.below hb4
  have HZ32 := Lib.hid (show zero32.length = 32 from rfl)
  go_wp2_with (with_reducible refine wpList_store_sum rfl (.tmp 2) (.tmp 5) rfl w.heap.size rfl zero32 s HZ32 hl32 f4 rfl ?_)
  refine bodyPost_ret_by (results_cell_row (p := 2) (ty := 36) (by kernel_rfl) _ _ w.heap.size 36 (bvs s).toArray (0, 0) _ rfl (f4.setRow _) Tryd.underlying36 rfl (by rw [List.size_toArray, bvs_length, hl32]; exact sizeSum)) rfl ?_
  exact ⟨by rw [HS'.out]; rfl, below_setRow (below_on H1.out.2 (Nat.le_refl _) hb4) (by omega) _⟩

end Go.Proofs.YtnaebjdccngeoaaDoor

/-
  append of a list of sums to one of the call's own.
-/
namespace Go.Proofs.YtnaebjdccngeoaaDoor
open Go.RowKit

theorem own_formS {w : World} {base : Nat} {e : TypeId} {v : Value} {n : Nat} {xs : List Value} (h : w.ownsRow base e 32 v n xs) : ∃ A c, v = .slice A n c := by
  rcases h.2 with ⟨e1, h0⟩ | ⟨g, cap, cur, e1, _⟩
  · subst h0; exact ⟨none, 0, e1⟩
  · exact ⟨_, cap, e1⟩

theorem run_sapp_at (w : World) (ty : TypeId) (base : Nat) (A : Option Addr) (n c : Nat) (xs : List Nat) (hown : w.ownsRow base 36 32 (.slice A n c) n (bvs xs))
    (A2 : Option Addr) (m c2 : Nat) (ys : List Nat) (hin : InS w A2 m ys) (hnil : A2 = none → c2 = 0) (hle : n + m ≤ 1000000000) (hbase : base ≤ w.heap.size) :
    ∃ A' c' w', (Builtin.append_ #[24, 24] ty #[.slice A n c, .slice A2 m c2]).run Tryd.prog w = .ok (.slice A' (n + m) c') w' ∧
      w'.ownsRow base 36 32 (.slice A' (n + m) c') (n + m) (bvs (xs ++ ys)) ∧ Next w w' (.slice A n c) (.slice A' (n + m) c') := by
  obtain ⟨i0, hi, hz0, hz1, hz2⟩ := info_parts infoSum
  cases A2 with
  | none =>
    obtain rfl := hnil rfl
    have hy : ys = [] := by
      cases ys with
      | nil => rfl
      | cons y ys =>
        obtain ⟨ad, e, _⟩ := hin.rd 0 y rfl
        cases e
    subst hy
    obtain rfl : m = 0 := by have := hin.len; simp at this; omega
    exact ⟨A, c, w, run_append_owned_none (P := Tryd.prog) (w := w) base 24 ty 36 i0 32 Tryd.underlying24 hi _ n (bvs xs) hown, by simpa using hown, ⟨rfl, rfl, rfl, Nat.le_refl _, fun _ _ _ => rfl⟩, .inl rfl⟩
  | some ad =>
    obtain ⟨v', w', hr, h2, h3, _, h5⟩ := run_append_own_at (P := Tryd.prog) (w := w) base 24 ty 36 i0 _ 32 32 Tryd.underlying24 hi hz0 hz1 hz2 rfl (by decide) _ n (bvs xs) hown ad m c2 (bvs ys) (by rw [bvs_length, hin.len]; omega)
      (fun j u hu => by
        rw [bvs_get] at hu
        obtain ⟨y, hy, rfl⟩ := Option.map_eq_some_iff.1 hu
        obtain ⟨ad', e, hc⟩ := hin.rd j y hy
        cases e
        exact hc) (bvs_oneCell ys) (by unfold maxLen; omega) (by omega) hbase
    rw [← bvs_append] at h2
    obtain ⟨A', c', rfl⟩ := own_formS h2
    exact ⟨A', c', w', hr, h2, h3, h5⟩

theorem step_sapp {ops : Array Oper} {o : Oper} {a : Act} {w : World} {K : Act → World → Prop} {Q : Exit → Act → World → Prop} {E : Prop} (hw : Region.wanted o (yielded ops a.tmps) = true) (s x : Operand)
    (ho : o.op = .call { callee := .builtin .append, args := #[s, x], argTypes := #[24, 24] })
    (base : Nat) (A : Option Addr) (n c : Nat) (xs : List Nat) (hs : a.eval s = .slice A n c) (hown : w.ownsRow base 36 32 (.slice A n c) n (bvs xs))
    (A2 : Option Addr) (m c2 : Nat) (ys : List Nat) (hx : a.eval x = .slice A2 m c2) (hin : InS w A2 m ys) (hnil : A2 = none → c2 = 0) (hle : n + m ≤ 1000000000) (hbase : base ≤ w.heap.size)
    (h : ∀ A' c' w', w'.ownsRow base 36 32 (.slice A' (n + m) c') (n + m) (bvs (xs ++ ys)) → Next w w' (.slice A n c) (.slice A' (n + m) c') → K (a.put o.dst (.slice A' (n + m) c')) w') :
    if Region.wanted o (yielded ops a.tmps) = true then Oper.wp Tryd.prog o a w K Q else E := by
  rw [if_pos hw]
  obtain ⟨A', c', w', hr, h2, h3⟩ := run_sapp_at w o.type base A n c xs hown A2 m c2 ys hin hnil hle hbase
  unfold Oper.wp execOp
  simp only [ho, resolve, invoke, builtin, Sem.run_bind, Sem.run_pure, Result.andThen_ok, List.map_toArray, List.map_cons, List.map_nil, hs, hx, hr]
  exact h A' c' w' h2 h3

/-- nil is the call's own list of none. -/
theorem own_none (w : World) (base : Nat) (e : TypeId) (size : Nat) : w.ownsRow base e size (.slice none 0 0) 0 (bvs []) := ⟨by rw [Nat.zero_mul]; rfl, .inl ⟨rfl, rfl⟩⟩

/-- '[]api.Sum{s}' is the call's own. -/
theorem own_sum (W : World) (s : List Nat) (base : Nat) (hl : s.length = 32) (hb : base ≤ W.heap.size) : (W.alloc (.cells (bvs s).toArray 36)).ownsRow base 36 32 (.slice (some ⟨W.heap.size, 0, none⟩) 1 1) 1 (bvs s) :=
  ⟨by rw [bvs_length, hl], .inr ⟨W.heap.size, 1, (bvs s).toArray, rfl, hb, World.alloc_heap_new W _, Nat.le_refl _, by unfold maxLen; omega, by rw [List.size_toArray, bvs_length, hl], by rw [List.take_of_length_le (by rw [bvs_length, hl]; omega)]⟩⟩

end Go.Proofs.YtnaebjdccngeoaaDoor

/-
  A list of sums that a call answers, of its own; a list of one sum.
-/
namespace Go.Proofs.YtnaebjdccngeoaaDoor
open Go.RowKit

/-- '[]api.Sum{s}' in a plain region. -/
theorem wpList_one_sum {ops : Array Oper} {rest : List Oper} {o : Oper} {a : Act} {w : World} {Q : Exit → Act → World → Prop} (hgd : o.guard = none) (parts : Array (Nat × Operand)) (s : List Nat) (ho : o.op = .buildSlice 24 1 parts)
    (hx : (parts.map fun (i, x) => (i, a.eval x)).toList = [(0, sv s)]) (hl : s.length = 32)
    (h : wpList Tryd.prog ops Q rest (a.put o.dst (.slice (some ⟨w.heap.size, 0, none⟩) 1 1)) (w.alloc (.cells (bvs s).toArray 36))) : wpList Tryd.prog ops Q (o :: rest) a w := by
  refine wpList_plain hgd fun K hK => ?_
  refine wp_sums parts [s] 1 ho rfl hx (by intro x hx'; rw [List.mem_singleton.1 hx']; exact hl) (by omega) (by omega) ?_
  rw [show [s].flatten = s by simp]
  exact hK _ _ h

/-- A call has answered a list of d sums of its own, whose bytes are xs. -/
def GivesS (base : Nat) (w : World) (d : Nat) (xs : List Nat) (e : Ending) (w' : World) : Prop :=
  ∃ A' c', e = .returned (.slice A' d c') ∧ w'.ownsRow base 36 32 (.slice A' d c') d (bvs xs) ∧ Below base w w'

end Go.Proofs.YtnaebjdccngeoaaDoor

/-
  clashes.root: the root of entries.
-/
namespace Go.Proofs.YtnaebjdccngeoaaDoor
open Go.RowKit

theorem make_sums0 (m : Nat) (hm : m < 65536) (W : World) :
    (Instr.makeSlice 24 (.int .i64 0) (.int .i64 (m : Int))).run Tryd.prog W = .ok (.slice (some ⟨W.heap.size, 0, none⟩) 0 m) (W.alloc (.cells (madeCells (Array.replicate 32 (.int .u8 0)) (m * 32)) 36)) := by
  obtain ⟨i0, hi, hz0, hz1, hz2⟩ := info_parts infoSum
  have hr := run_make (P := Tryd.prog) W 24 36 i0 _ Tryd.underlying24 hi hz0 .i64 .i64 0 m (by omega) (by omega) (by rw [hz2]; omega) (by omega)
  rw [hz1, Int.toNat_natCast] at hr
  exact hr
theorem made_own (m : Nat) (hm : m < 65536) (W : World) : (W.alloc (.cells (madeCells (Array.replicate 32 (.int .u8 0)) (m * 32)) 36)).ownsRow W.heap.size 36 32 (.slice (some ⟨W.heap.size, 0, none⟩) 0 m) 0 (bvs []) :=
  ⟨rfl, .inr ⟨W.heap.size, m, _, rfl, Nat.le_refl _, World.alloc_heap_new W _, Nat.zero_le _, by unfold maxLen; omega, by simp [madeCells], rfl⟩⟩

set_option maxRecDepth 100000 in
set_option maxHeartbeats 2000000 in
theorem croot_any {w : World} {A : Option Addr} {n c : Nat} {R : List (List Nat)} (h : Ent w A n c R) (hn : n ≤ 60000) (hk : Knows w) (hs : Starts w) :
    Calls Tryd.prog 36 #[.slice A n c] w fun e w' => e = .returned (sv (rtl R)) ∧ Below w.heap.size w w' := by
  have e0 : (bvs zero32).toArray = #[.int .u8 0, .int .u8 0, .int .u8 0, .int .u8 0, .int .u8 0, .int .u8 0, .int .u8 0, .int .u8 0, .int .u8 0, .int .u8 0, .int .u8 0, .int .u8 0, .int .u8 0, .int .u8 0, .int .u8 0, .int .u8 0, .int .u8 0, .int .u8 0, .int .u8 0, .int .u8 0, .int .u8 0, .int .u8 0, .int .u8 0, .int .u8 0, .int .u8 0, .int .u8 0, .int .u8 0, .int .u8 0, .int .u8 0, .int .u8 0, .int .u8 0, .int .u8 0] := rfl
  have f1 := BArr.new w 36 zero32
  have b1 := below_alloc w (.cells (bvs zero32).toArray 36)
  rw [e0] at f1 b1
  clear e0
  obtain ⟨w1, hw1⟩ : ∃ w1, w1 = w.alloc (.cells #[.int .u8 0, .int .u8 0, .int .u8 0, .int .u8 0, .int .u8 0, .int .u8 0, .int .u8 0, .int .u8 0, .int .u8 0, .int .u8 0, .int .u8 0, .int .u8 0, .int .u8 0, .int .u8 0, .int .u8 0, .int .u8 0, .int .u8 0, .int .u8 0, .int .u8 0, .int .u8 0, .int .u8 0, .int .u8 0, .int .u8 0, .int .u8 0, .int .u8 0, .int .u8 0, .int .u8 0, .int .u8 0, .int .u8 0, .int .u8 0, .int .u8 0, .int .u8 0] 36) := ⟨_, rfl⟩
  rw [← hw1] at f1 b1
  have hmk := make_sums0 n (by omega)
  have hown := made_own n (by omega) w1
  have b2 := below_alloc w1 (.cells (madeCells (Array.replicate 32 (.int .u8 0)) (n * 32)) 36)
  obtain ⟨w2, hw2⟩ : ∃ w2, w2 = w1.alloc (.cells (madeCells (Array.replicate 32 (.int .u8 0)) (n * 32)) 36) := ⟨_, rfl⟩
  rw [← hw2] at hown b2
  have HW := Lib.hid hw1
  have HW2 := Lib.hid hw2
  have H1 := Lib.hid (And.intro f1 (And.intro b1 (And.intro hown b2)))
  have HL := Lib.hid h.len
  have HK := Lib.hid (And.intro h (And.intro hk hs))
  have hml := rtl_length R
  have hroot : rt (nth (leavesL R)) 0 n = rtl R := by have := rtl_nth R; rwa [h.len] at this
  have D := Lib.hid (fun (A' : Option Addr) (c' : Nat) (W : World) (ho : W.ownsRow w1.heap.size 36 32 (.slice A' n c') n (bvs (leavesL R))) (hW : Below w.heap.size w W) => hroot ▸ root_any A' n c' (leavesL R) W (InS.of_own ho) (leavesL_lt _) (own_cap ho) (by omega) (hk.below hW) (hs.below hW))
  obtain ⟨r, hr⟩ : ∃ r, rtl R = r := ⟨_, rfl⟩
  rw [hr] at D hml ⊢
  clear hw1 hw2 f1 b1 hown b2 hr h hk hs hroot
  go_enter Tryd.func36, Tryd.ntmps36
  go_upto_region 1 with fail
  rw [← HW.out]
  go_upto_region 2 with fail
  rw [← HW2.out]
  go_wp2_with fail
  go_loopw [3, 5, 11] (fun s _ i wr => ∃ (j : Nat) (A' : Option Addr) (c' : Nat), j ≤ n ∧ i = .int .i64 (j : Int) ∧ s = .slice A' j c' ∧ Hid (wr.ownsRow w1.heap.size 36 32 (.slice A' j c') j (bvs (leavesL (R.take j))) ∧ Below w1.heap.size w1 wr)) (fun _ _ i _ => n - (intOf i).toNat)
  case atStart => exact ⟨0, _, n, Nat.zero_le _, rfl, rfl, Lib.hid ⟨by rw [List.take_zero]; exact H1.out.2.2.1, H1.out.2.2.2⟩⟩
  case round =>
    obtain ⟨j, A1, c1, hj, rfl, rfl, HR⟩ := hrel
    by_cases hlt : j < n
    · have hji : (j : Int) < (n : Int) := by omega
      obtain ⟨ad, B, bl, d, b, rfl, hbj, hcell, hcame, hbl⟩ := HK.out.1.at_ hlt
      have hB := below_on H1.out.2.1 (Nat.le_refl _) HR.out.2
      have hcc := (hB.cell (World.block_lt_of_cell? w _ hcell)).trans hcell
      obtain ⟨s, hs⟩ : ∃ s, leafL b = s := ⟨_, rfl⟩
      have hsl : s.length = 32 := by rw [← hs]; exact leafL_length _
      have htk : leavesL (R.take (j + 1)) = leavesL (R.take j) ++ s := by rw [rows_snoc hbj, leavesL_snoc, hs]
      have CT := leaf_any B bl d b wr (hcame.below hB) (HK.out.2.1.below hB) (HK.out.2.2.below hB) (by omega)
      rw [hs] at CT
      have C1 := Lib.hid CT
      have HT := Lib.hid htk
      clear CT hs htk hcame hcell hbj hB
      go_wp2_with fail
      refine C1.out.mono ?_
      rintro e w3 ⟨rfl, hb1⟩
      have HB := Lib.hid (below_on HR.out.2 (Nat.le_refl _) hb1)
      have HO := Lib.hid (own_on (own_on HR.out.1 hb1) (below_alloc w3 (.cells (bvs s).toArray 36)))
      have HB2 := Lib.hid (below_on HB.out (Nat.le_refl _) (below_alloc w3 (.cells (bvs s).toArray 36)))
      have HI := Lib.hid (show InS (w3.alloc (.cells (bvs s).toArray 36)) (some ⟨w3.heap.size, 0, none⟩) 1 s from ⟨hsl, (In.new' w3 s 36).rd⟩)
      clear hb1 C1 hcc
      go_wp2_with (first
        | (refine wpList_one_sum rfl _ s rfl (by simp <;> rfl) hsl ?_)
        | (refine wpList_step fun K hK => ?_; refine step_sapp (K := K) (by rfl) _ _ (by rfl) w1.heap.size A1 j c1 (leavesL (R.take j)) (by rfl) HO.out (some ⟨w3.heap.size, 0, none⟩) 1 1 s (by rfl) HI.out (fun e => by cases e) (by omega) HB2.out.size ?_; intro A3 c3 w4 ow3 nx3; have HN := Lib.hid (And.intro ow3 nx3); clear ow3 nx3; refine hK _ _ ?_; clear hK K))
      go_roundw
      case rel =>
        have ho3 := HN.out.1
        rw [← HT.out] at ho3
        exact ⟨j + 1, A3, c3, by omega, by go_num, rfl, Lib.hid ⟨ho3, HN.out.2.below HO.out HB2.out (Nat.le_refl _) HB2.out.size⟩⟩
      case measure => simp [intOf]; omega
    · obtain rfl : j = n := by omega
      have ho := HR.out.1
      rw [List.take_of_length_le (by rw [HL.out]; exact Nat.le_refl _)] at ho
      have D2 := Lib.hid (D.out A1 c1 wr ho (below_on H1.out.2.1 (Nat.le_refl _) HR.out.2))
      have H2 := Lib.hid (And.intro (below_on H1.out.2.1 (Nat.le_refl _) HR.out.2) (H1.out.1.below HR.out.2))
      clear ho
      have hji : ¬ ((j : Int) < (j : Int)) := by omega
      go_wp2_with fail
      refine D2.out.mono ?_
      rintro e w3 ⟨rfl, hb3⟩
      have f3 := H2.out.2.below hb3
      have HB := Lib.hid (below_on H2.out.1 (Nat.le_refl _) hb3)
      have HZ32 := Lib.hid (show zero32.length = 32 from rfl)
      clear hb3
      go_wp2_with (with_reducible refine wpList_store_sum rfl (.tmp 2) (.tmp 22) rfl w.heap.size rfl zero32 r HZ32 hml f3 rfl ?_)
      refine bodyPost_ret_by (results_cell_row (p := 2) (ty := 36) (by kernel_rfl) _ _ w.heap.size 36 (bvs r).toArray (0, 0) _ rfl (f3.setRow _) Tryd.underlying36 rfl (by rw [List.size_toArray, bvs_length, hml]; exact sizeSum)) rfl ?_
      exact ⟨rfl, below_setRow HB.out (Nat.le_refl _) _⟩

end Go.Proofs.YtnaebjdccngeoaaDoor
