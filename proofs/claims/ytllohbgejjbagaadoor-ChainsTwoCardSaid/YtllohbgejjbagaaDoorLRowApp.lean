/-
  append to a row of slices of the call's own; such a row read as rows of bytes.
-/
import Derived.Test.YtllohbgejjbagaaDoorLRows
import Derived.Test.YtllohbgejjbagaaDoorLMem
import Derived.Test.YtllohbgejjbagaaDoorLBut
import Derived.Deep.Slices
namespace Go.Proofs.YtllohbgejjbagaaDoor
open Go.ChangeShapes Go.WideShapes Go.ChangeAt Go.RowKit Go.Deep

theorem infoSlc : (Tryd.prog.info? 22).map (fun i => (i.zero, i.size, i.bytes)) = some (some (.slice none 0 0), 1, 24) := by kernel_rfl

/-- Y: slices, one for each list of R. -/
structure RowsIs (w : World) (Y : List Value) (R : List (List Nat)) : Prop where
  len : Y.length = R.length
  row : ∀ (j : Nat) (b : List Nat), R[j]? = some b → ∃ (A : Option Addr) (n c : Nat), Y[j]? = some (Value.slice A n c) ∧ Came w A n c b ∧ n ≤ 140737488355328
theorem RowsIs.one {w : World} {Y : List Value} {R : List (List Nat)} (h : RowsIs w Y R) : ∀ v ∈ Y, v.oneCell' = true := fun v hv => by
  obtain ⟨j, hj⟩ := List.mem_iff_getElem?.1 hv
  have hlt : j < R.length := by rw [← h.len]; exact (List.getElem?_eq_some_iff.1 hj).1
  obtain ⟨A, n, c, e, _⟩ := h.row j R[j] (List.getElem?_eq_getElem hlt)
  rw [hj] at e
  cases e
  rfl
theorem RowsIs.append {w : World} {Y Z : List Value} {R S : List (List Nat)} (h : RowsIs w Y R) (h2 : RowsIs w Z S) : RowsIs w (Y ++ Z) (R ++ S) :=
  ⟨by rw [List.length_append, List.length_append, h.len, h2.len], fun j b hb => by
    by_cases hj : j < R.length
    · rw [List.getElem?_append_left hj] at hb
      rw [List.getElem?_append_left (by rw [h.len]; exact hj)]
      exact h.row j b hb
    · rw [List.getElem?_append_right (by omega)] at hb
      rw [List.getElem?_append_right (by rw [h.len]; omega), h.len]
      exact h2.row _ b hb⟩
theorem RowsIs.take {w : World} {Y : List Value} {R : List (List Nat)} (h : RowsIs w Y R) (k : Nat) : RowsIs w (Y.take k) (R.take k) :=
  ⟨by rw [List.length_take, List.length_take, h.len], fun j b hb => by
    rw [List.getElem?_take] at hb ⊢
    split at hb
    · rename_i hj; rw [if_pos hj]; exact h.row j b hb
    · cases hb⟩
theorem rowsIs_nil (w : World) : RowsIs w [] [] := ⟨rfl, fun j b hb => by simp at hb⟩
theorem rowsIs_one {w : World} {A : Option Addr} {n c : Nat} {b : List Nat} (h : Came w A n c b) (hn : n ≤ 140737488355328) : RowsIs w [.slice A n c] [b] := ⟨rfl, fun j x hx => by
  cases j with
  | zero => cases hx; exact ⟨A, n, c, rfl, h, hn⟩
  | succ j => simp at hx⟩
theorem rows_out {w : World} {A : Option Addr} {n : Nat} {R : List (List Nat)} (h : CameRows w A n R) : ∃ Y, RowsIs w Y R ∧ ∀ (j : Nat) (v : Value), Y[j]? = some v → ∃ ad, A = some ad ∧ w.cell? (ad.add j) = some v := by
  have key : ∀ j, j < R.length → ∃ v : Value, (∃ B m c, v = .slice B m c ∧ Came w B m c (R.getD j []) ∧ m ≤ 140737488355328) ∧ ∃ ad, A = some ad ∧ w.cell? (ad.add j) = some v := fun j hj => by
    obtain ⟨ad, B, m, c, e, hc, hcame, hm⟩ := h.row j R[j] (List.getElem?_eq_getElem hj)
    refine ⟨_, ⟨B, m, c, rfl, ?_, hm⟩, ad, e, hc⟩
    rw [List.getD_eq_getElem?_getD, List.getElem?_eq_getElem hj]
    exact hcame
  obtain ⟨f, hf⟩ := choose_lt key
  refine ⟨(List.range R.length).map f, ⟨by simp, fun j b hb => ?_⟩, fun j v hv => ?_⟩
  · have hlt := (List.getElem?_eq_some_iff.1 hb).1
    obtain ⟨⟨B, m, c, e, hcame, hm⟩, _⟩ := hf j hlt
    refine ⟨B, m, c, ?_, ?_, hm⟩
    · rw [List.getElem?_map, List.getElem?_range hlt]; simp [e]
    · rw [List.getD_eq_getElem?_getD, hb] at hcame; exact hcame
  · rw [List.getElem?_map] at hv
    obtain ⟨i, hi, rfl⟩ := Option.map_eq_some_iff.1 hv
    have hlt : j < R.length := by have := (List.getElem?_eq_some_iff.1 hi).1; simpa using this
    rw [List.getElem?_range hlt] at hi
    cases hi
    exact (hf j hlt).2

theorem rows_nil {H : Type} {enc : TypeId × Value → H} {w : World} {base : Nat} {held : Bool} {fuel n c : Nat} {A : Option Addr} {x : DataW H × List MemPlace} (h : DataW.trod enc Tryd.prog w base (fun _ => true) held fuel 43 [.slice A n c] = some x) : A = none → c = 0 := by
  intro e
  subst e
  rcases open_int_rows Tryd.underlying43 Tryd.underlying22 Tryd.underlying5 (by kernel_rfl) (by kernel_rfl) h with ⟨e, _⟩ | ⟨a, len, cap, B, L, C, Z, e, _⟩
  · simp at e; exact e.2
  · simp at e

theorem run_rapp (w : World) (ty : TypeId) (base : Nat) (A : Option Addr) (n c : Nat) (X : List Value) (hown : w.ownsRow base 22 1 (.slice A n c) n X)
    (A2 : Option Addr) (m c2 : Nat) (Y : List Value) (hl : Y.length = m) (hin : ∀ (j : Nat) (v : Value), Y[j]? = some v → ∃ ad, A2 = some ad ∧ w.cell? (ad.add j) = some v) (h1 : ∀ v ∈ Y, v.oneCell' = true) (hnil : A2 = none → c2 = 0) (hle : n + m ≤ 1000000) (hbase : base ≤ w.heap.size) :
    ∃ A' c' w', (Builtin.append_ #[43, 43] ty #[.slice A n c, .slice A2 m c2]).run Tryd.prog w = .ok (.slice A' (n + m) c') w' ∧
      w'.ownsRow base 22 1 (.slice A' (n + m) c') (n + m) (X ++ Y) ∧ Below base w w' := by
  obtain ⟨i0, hi, hz0, hz1, hz2⟩ := info_parts infoSlc
  cases A2 with
  | none =>
    obtain rfl := hnil rfl
    have hy : Y = [] := by
      cases Y with
      | nil => rfl
      | cons y ys =>
        obtain ⟨ad, e, _⟩ := hin 0 y rfl
        cases e
    subst hy
    obtain rfl : m = 0 := hl.symm
    exact ⟨A, c, w, run_append_owned_none (P := Tryd.prog) (w := w) base 43 ty 22 i0 1 Tryd.underlying43 hi _ n X hown, by simpa using hown, Below.refl _ _⟩
  | some ad =>
    obtain ⟨v', w', hr, h2, h3, _⟩ := run_append_own (P := Tryd.prog) w base 43 ty 22 i0 _ 1 24 Tryd.underlying43 hi hz0 hz1 hz2 rfl (by decide) _ n X hown ad m c2 Y (by rw [hl]; simp)
      (fun j u hu => by
        obtain ⟨ad', e, hc⟩ := hin j u hu
        cases e
        exact hc) h1 (by unfold maxLen; omega) (by omega) hbase
    have hf : ∃ A c, v' = .slice A (n + m) c := by
      rcases h2.2 with ⟨rfl, e⟩ | ⟨g, cap, cur, rfl, _⟩
      · rw [e]; exact ⟨_, _, rfl⟩
      · exact ⟨_, _, rfl⟩
    obtain ⟨A', c', rfl⟩ := hf
    exact ⟨A', c', w', hr, h2, (Below.refl _ _).grown h3 hbase fun k hk => (hown.lt k hk).1⟩

theorem step_rapp {ops : Array Oper} {o : Oper} {a : Act} {w : World} {K : Act → World → Prop} {Q : Exit → Act → World → Prop} {E : Prop} (hgd : o.guard = none) (s x : Operand)
    (ho : o.op = .call { callee := .builtin .append, args := #[s, x], argTypes := #[43, 43] })
    (base : Nat) (A : Option Addr) (n c : Nat) (X : List Value) (hs : a.eval s = .slice A n c) (hown : w.ownsRow base 22 1 (.slice A n c) n X)
    (A2 : Option Addr) (m c2 : Nat) (Y : List Value) (hx : a.eval x = .slice A2 m c2) (hl : Y.length = m) (hin : ∀ (j : Nat) (v : Value), Y[j]? = some v → ∃ ad, A2 = some ad ∧ w.cell? (ad.add j) = some v) (h1 : ∀ v ∈ Y, v.oneCell' = true) (hnil : A2 = none → c2 = 0) (N : Nat) (hN : n + m = N) (hle : N ≤ 1000000) (hbase : base ≤ w.heap.size)
    (h : ∀ A' c' w', w'.ownsRow base 22 1 (.slice A' N c') N (X ++ Y) → Below base w w' → K (a.put o.dst (.slice A' N c')) w') :
    if Region.wanted o (yielded ops a.tmps) = true then Oper.wp Tryd.prog o a w K Q else E := by
  subst hN
  have hw : Region.wanted o (yielded ops a.tmps) = true := by simp [Region.wanted, hgd]
  rw [if_pos hw]
  obtain ⟨A', c', w', hr, h2, h3⟩ := run_rapp w o.type base A n c X hown A2 m c2 Y hl hin h1 hnil hle hbase
  unfold Oper.wp execOp
  simp only [ho, resolve, invoke, builtin, Sem.run_bind, Sem.run_pure, Result.andThen_ok, List.map_toArray, List.map_cons, List.map_nil, hs, hx, hr]
  exact h A' c' w' h2 h3

/-- A row of slices in blocks of O; what they read was there at v. -/
structure RowIn (v W : World) (O : Nat → Prop) (A : Option Addr) (n : Nat) (R : List (List Nat)) : Prop where
  len : R.length = n
  row : ∀ (r : Nat) (b : List Nat), R[r]? = some b → ∃ (ad : Addr) (B : Option Addr) (m c : Nat), A = some ad ∧ O ad.block ∧ W.cell? (ad.add r) = some (Value.slice B m c) ∧ Came v B m c b ∧ m ≤ 140737488355328
section
variable {v W W' : World} {O S : Nat → Prop} {A : Option Addr} {n c : Nat} {R : List (List Nat)}
theorem RowIn.came (h : RowIn v W O A n R) (hb : Below v.heap.size v W) : CameRows W A n R := ⟨h.len, fun r b hr => by
  obtain ⟨ad, B, m, c, e, _, hc, hcame, hm⟩ := h.row r b hr
  exact ⟨ad, B, m, c, e, hc, hcame.below hb, hm⟩⟩
theorem RowIn.but (h : RowIn v W O A n R) (hb : But S W W') (hO : ∀ x, O x → ¬ S x) : RowIn v W' O A n R := ⟨h.len, fun r b hr => by
  obtain ⟨ad, B, m, c, e, ho, hc, hcame, hm⟩ := h.row r b hr
  have hlt := World.block_lt_of_cell? W _ hc
  have hbl : (ad.add r).block = ad.block := block_add _ _
  refine ⟨ad, B, m, c, e, ho, ?_, hcame, hm⟩
  exact (World.cell?_of_block (w := W) (hb.block _ hlt (by rw [hbl]; exact hO _ ho))).trans hc⟩
theorem RowIn.below (h : RowIn v W O A n R) (hb : Below W.heap.size W W') : RowIn v W' O A n R := h.but (S := fun _ => False) (But.of_below hb) (fun _ _ hf => hf)
theorem rowIn_of_own {base : Nat} {e : TypeId} {Y : List Value} (h : W.ownsRow base e 1 (.slice A n c) n Y) (hY : RowsIs v Y R) : RowIn v W (fun x => base ≤ x ∧ x < W.heap.size) A n R := by
  have hlen : R.length = n := by rw [← hY.len, h.1]; omega
  refine ⟨hlen, fun r b hr => ?_⟩
  obtain ⟨B, m, k, hy, hcame, hm⟩ := hY.row r b hr
  rcases h.2 with ⟨e1, h0⟩ | ⟨g, cap, cur, e1, hg, _⟩
  · have := (List.getElem?_eq_some_iff.1 hr).1
    omega
  · cases e1
    have hc := h.cells rfl r _ hy
    refine ⟨_, B, m, k, rfl, ⟨hg, ?_⟩, hc, hcame, hm⟩
    have := World.block_lt_of_cell? W _ hc
    rwa [block_add] at this
end

end Go.Proofs.YtllohbgejjbagaaDoor
