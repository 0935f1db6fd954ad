/-
  The type []byte in a walk: make, append, slices, answers in memory of their own.
-/
import Derived.Test.YthbgcijkpincfaaGreatDoorLByte
import Derived.WalkSpells
import Derived.Laws.AppendOwnNone
import Derived.Deep.RegionLaw
namespace Go.Proofs.YthbgcijkpincfaaGreatDoor
open Go.RowKit

theorem make_bytes (n c : Nat) (hnc : n ≤ c) (hc : c ≤ 200000000000000) (W : World) :
    (Instr.makeSlice 50 (.int .i64 (n : Int)) (.int .i64 (c : Int))).run Tryz.prog W = .ok (.slice (some ⟨W.heap.size, 0, none⟩) n c) (W.alloc (.cells (madeCells #[.int .u8 0] c) 5)) := by
  obtain ⟨i0, hi, hz0, hz1, hz2⟩ := info_parts infoByte
  have hr := run_make (P := Tryz.prog) W 50 5 i0 _ Tryz.underlying50 hi hz0 .i64 .i64 n c (by omega) (by omega) (by rw [hz2]; omega) (by omega)
  rw [hz1] at hr
  simpa [Value.cells] using hr

/-- A call has answered the bytes ys, n of them, in memory of its own: from block number 'base' on. -/
def Gives (base : Nat) (w : World) (n : Nat) (ys : List Nat) (e : Ending) (w' : World) : Prop :=
  ∃ A c, e = .returned (.slice A n c) ∧ w'.ownsRow base 5 1 (.slice A n c) n (bvs ys) ∧ Below base w w'

theorem gives_of {base : Nat} {w w' : World} {n : Nat} {ys : List Nat} {e : Ending} (h : ∃ v, e = .returned v ∧ w'.ownsRow base 5 1 v n (bvs ys) ∧ Below base w w') : Gives base w n ys e w' := by
  obtain ⟨v, rfl, ho, hb⟩ := h
  obtain ⟨A, c, rfl⟩ := own_form ho
  exact ⟨A, c, rfl, ho, hb⟩

/-- A call has answered the bytes ys, a number, and no error. -/
def Gives3 (base : Nat) (w : World) (n : Nat) (ys : List Nat) (took : Int) (e : Ending) (w' : World) : Prop :=
  ∃ A c, e = .returned (.tuple #[.slice A n c, .int .i64 took, .int .i64 0]) ∧ w'.ownsRow base 5 1 (.slice A n c) n (bvs ys) ∧ Below base w w'

def Short3 (w : World) (e : Ending) (w' : World) : Prop := e = .returned (.tuple #[.slice none 0 0, .int .i64 0, .int .i64 5]) ∧ w = w'

/-- 'append(out, l...)' of bytes, out a row of the call's own, l whatever: nil, empty, or not. -/
theorem wpList_app {ops : Array Oper} {rest : List Oper} {o : Oper} {a : Act} {Q : Exit → Act → World → Prop} (w : World) (hgd : o.guard = none) (s x : Operand)
    (ho : o.op = .call { callee := .builtin .append, args := #[s, x], argTypes := #[50, 50] })
    (base : Nat) (A : Option Addr) (n c : Nat) (xs : List Nat) (hs : a.eval s = .slice A n c) (hown : w.ownsRow base 5 1 (.slice A n c) n (bvs xs))
    (A2 : Option Addr) (m c2 : Nat) (ys : List Nat) (hx : a.eval x = .slice A2 m c2) (hin : In w A2 m ys) (hnil : A2 = none → c2 = 0) (hle : n + m ≤ 140737488355328) (hbase : base ≤ w.heap.size)
    (h : ∀ A' c' w', w'.ownsRow base 5 1 (.slice A' (n + m) c') (n + m) (bvs (xs ++ ys)) → Below base w w' → wpList Tryz.prog ops Q rest (a.put o.dst (.slice A' (n + m) c')) w') :
    wpList Tryz.prog ops Q (o :: rest) a w := by
  obtain ⟨i0, hi, hz0, hz1, hz2⟩ := info_parts infoByte
  cases A2 with
  | none =>
    obtain rfl := hnil rfl
    have hy : ys = [] := by
      cases ys with
      | nil => rfl
      | cons y ys =>
        obtain ⟨ad, e, _⟩ := hin.rd 0 y rfl
        cases e
    subst hy
    obtain rfl : m = 0 := hin.len.symm
    refine wpList_append_own_none hgd s x 50 ho base 5 i0 1 Tryz.underlying50 hi _ n (bvs xs) hs hown hx ?_
    exact h A c w (by simpa using hown) (Below.refl _ _)
  | some ad =>
    refine wpList_append_own w hgd s x 50 ho base 5 i0 _ 1 1 Tryz.underlying50 hi hz0 hz1 hz2 rfl (by decide) _ n (bvs xs) hs hown ad m c2 (bvs ys) hx (by rw [bvs_length, hin.len]; simp) ?_ (bvs_oneCell ys) (by unfold maxLen; omega) (by omega) hbase ?_
    · intro j u hu
      rw [bvs_get] at hu
      obtain ⟨y, hy, rfl⟩ := Option.map_eq_some_iff.1 hu
      obtain ⟨ad', e, hc⟩ := hin.rd j y hy
      cases e
      exact hc
    · intro v' w' h2 h3 _
      rw [← bvs_append] at h2
      obtain ⟨A', c', rfl⟩ := own_form h2
      exact h A' c' w' h2 ((Below.refl _ _).grown h3 hbase fun k hk => (hown.lt k hk).1)

theorem In.new (W : World) (xs : List Nat) : In (W.alloc (.cells (bvs xs).toArray 5)) (some ⟨W.heap.size, 0, none⟩) xs.length xs :=
  ⟨rfl, fun j x hx => ⟨_, rfl, by
    rw [show (⟨W.heap.size, 0, none⟩ : Addr).add j = ⟨W.heap.size, j, none⟩ from by unfold Addr.add; split <;> simp_all]
    rw [cell_of_row _ W.heap.size j _ 5 (0, 0) (World.alloc_heap_new W _), List.getElem?_toArray, bvs_get, hx]
    rfl⟩⟩

/-- What a call that leaves the world alone leaves, said less sharply: so that the world behind it is a name. -/
theorem loose {f : FuncId} {args : Array Value} {w : World} {v : Value} (h : Calls Tryz.prog f args w fun e w' => e = .returned v ∧ w = w') :
    Calls Tryz.prog f args w fun e w' => e = .returned v ∧ Below w.heap.size w w' := h.mono fun _ _ ⟨h1, h2⟩ => ⟨h1, h2 ▸ Below.refl _ _⟩
theorem loose3 {f : FuncId} {args : Array Value} {w : World} (h : Calls Tryz.prog f args w (Short3 w)) :
    Calls Tryz.prog f args w fun e w' => e = .returned (.tuple #[.slice none 0 0, .int .i64 0, .int .i64 5]) ∧ Below w.heap.size w w' := h.mono fun _ _ ⟨h1, h2⟩ => ⟨h1, h2 ▸ Below.refl _ _⟩
theorem looseN {f : FuncId} {args : Array Value} {w : World} {v : Value} (h : Calls Tryz.prog f args w fun e w' => e = .returned v ∧ ∃ q, w' = w.drewN q) :
    Calls Tryz.prog f args w fun e w' => e = .returned v ∧ Below w.heap.size w w' := h.mono fun _ _ ⟨h1, _, h2⟩ => ⟨h1, h2 ▸ ⟨rfl, rfl, rfl, Nat.le_refl _, fun _ _ => rfl⟩⟩

theorem run_app (w : World) (ty : TypeId) (base : Nat) (A : Option Addr) (n c : Nat) (xs : List Nat) (hown : w.ownsRow base 5 1 (.slice A n c) n (bvs xs))
    (A2 : Option Addr) (m c2 : Nat) (ys : List Nat) (hin : In w A2 m ys) (hnil : A2 = none → c2 = 0) (hle : n + m ≤ 140737488355328) (hbase : base ≤ w.heap.size) :
    ∃ A' c' w', (Builtin.append_ #[50, 50] ty #[.slice A n c, .slice A2 m c2]).run Tryz.prog w = .ok (.slice A' (n + m) c') w' ∧
      w'.ownsRow base 5 1 (.slice A' (n + m) c') (n + m) (bvs (xs ++ ys)) ∧ Below base w w' := by
  obtain ⟨i0, hi, hz0, hz1, hz2⟩ := info_parts infoByte
  cases A2 with
  | none =>
    obtain rfl := hnil rfl
    have hy : ys = [] := by
      cases ys with
      | nil => rfl
      | cons y ys =>
        obtain ⟨ad, e, _⟩ := hin.rd 0 y rfl
        cases e
    subst hy
    obtain rfl : m = 0 := hin.len.symm
    exact ⟨A, c, w, run_append_owned_none (P := Tryz.prog) (w := w) base 50 ty 5 i0 1 Tryz.underlying50 hi _ n (bvs xs) hown, by simpa using hown, Below.refl _ _⟩
  | some ad =>
    obtain ⟨v', w', hr, h2, h3, _⟩ := run_append_own (P := Tryz.prog) w base 50 ty 5 i0 _ 1 1 Tryz.underlying50 hi hz0 hz1 hz2 rfl (by decide) _ n (bvs xs) hown ad m c2 (bvs ys) (by rw [bvs_length, hin.len]; simp)
      (fun j u hu => by
        rw [bvs_get] at hu
        obtain ⟨y, hy, rfl⟩ := Option.map_eq_some_iff.1 hu
        obtain ⟨ad', e, hc⟩ := hin.rd j y hy
        cases e
        exact hc) (bvs_oneCell ys) (by unfold maxLen; omega) (by omega) hbase
    rw [← bvs_append] at h2
    obtain ⟨A', c', rfl⟩ := own_form h2
    exact ⟨A', c', w', hr, h2, (Below.refl _ _).grown h3 hbase fun k hk => (hown.lt k hk).1⟩

theorem step_app {ops : Array Oper} {o : Oper} {a : Act} {w : World} {K : Act → World → Prop} {Q : Exit → Act → World → Prop} {E : Prop} (hgd : o.guard = none) (s x : Operand)
    (ho : o.op = .call { callee := .builtin .append, args := #[s, x], argTypes := #[50, 50] })
    (base : Nat) (A : Option Addr) (n c : Nat) (xs : List Nat) (hs : a.eval s = .slice A n c) (hown : w.ownsRow base 5 1 (.slice A n c) n (bvs xs))
    (A2 : Option Addr) (m c2 : Nat) (ys : List Nat) (hx : a.eval x = .slice A2 m c2) (hin : In w A2 m ys) (hnil : A2 = none → c2 = 0) (hle : n + m ≤ 140737488355328) (hbase : base ≤ w.heap.size)
    (h : ∀ A' c' w', w'.ownsRow base 5 1 (.slice A' (n + m) c') (n + m) (bvs (xs ++ ys)) → Below base w w' → K (a.put o.dst (.slice A' (n + m) c')) w') :
    if Region.wanted o (yielded ops a.tmps) = true then Oper.wp Tryz.prog o a w K Q else E := by
  have hw : Region.wanted o (yielded ops a.tmps) = true := by simp [Region.wanted, hgd]
  rw [if_pos hw]
  obtain ⟨A', c', w', hr, h2, h3⟩ := run_app w o.type base A n c xs hown A2 m c2 ys hin hnil hle hbase
  unfold Oper.wp execOp
  simp only [ho, resolve, invoke, builtin, Sem.run_bind, Sem.run_pure, Result.andThen_ok, List.map_toArray, List.map_cons, List.map_nil, hs, hx, hr]
  exact h A' c' w' h2 h3

/-- A slice of bytes from k on, its address under a name: nobody asks whether the room behind it is empty. -/
theorem cut_name {A : Option Addr} {n c k : Nat} (hk : k ≤ n) :
    ∃ B, (∀ W : World, (Instr.slice 50 (.slice A n c) (some (.int .i64 (k : Int))) none none).run Tryz.prog W = .ok (.slice B (n - k) (c - k)) W) ∧
      B = (if c = k then A else A.map (·.add k)) := by
  refine ⟨_, fun W => ?_, rfl⟩
  obtain ⟨i0, hi, hz0, hz1, hz2⟩ := info_parts infoByte
  have he : Tryz.prog.elem 50 = 5 := by kernel_rfl
  rw [run_slice_l W 50 A n c (by rw [he]; exact Tryz.underlying50) .i64 (k : Int) (by omega) (by omega), he]
  simp [sizeOf, typeInfo, hi, hz1, sliced]

theorem run_append_zeros (w : World) (ty : TypeId) (b : Addr) (n c m : Nat) (xs : List Nat) (hin : In w (some b) n xs) (hm : 0 < m) (hg : c < n + m) (hle : n + m ≤ 1000000000) :
    ∃ A' c' w', (Builtin.append_ #[50, 3] ty #[.slice (some b) n c, .int .i64 (m : Int)]).run Tryz.prog w = .ok (.slice A' (n + m) c') w' ∧
      In w' A' (n + m) (xs ++ List.replicate m 0) ∧ n + m ≤ c' ∧ Below w.heap.size w w' := by
  obtain ⟨i0, hi, hz0, hz1, hz2⟩ := info_parts infoByte
  have hn : ¬ (n + m ≤ c) := by omega
  have h63' : ¬ (9223372036854775807 < ((n : Int) + (m : Int))) := by omega
  have hf := growslice_fits (need := n + m) (old := c) (bytes := 1) (by omega) (by omega)
  have h48' : ¬ (281474976710656 < Builtin.nextslicecap (n + m) c) := by omega
  have hw : IntKind.i64.wrap (m : Int) = (m : Int) := by rw [IntKind.wrap_i64]; omega
  have hn0 : ¬ ((m : Int) < 0) := by omega
  have hnb : ¬ (281474976710656 < (m : Int)) := by omega
  have hm0 : ¬ m = 0 := by omega
  have hcl : ∀ j v, (bvs xs)[j]? = some v → w.cell? (b.add j) = some v := by
    intro j v hv
    rw [bvs_get] at hv
    obtain ⟨y, hy, rfl⟩ := Option.map_eq_some_iff.1 hv
    obtain ⟨ad', e, hc'⟩ := hin.rd j y hy
    cases e
    exact hc'
  have hfo := run_firstCells_some (P := Tryz.prog) w.drew 1 n b n c (bvs xs) (by rw [bvs_length, hin.len]; simp) (by simpa using hcl)
  have hge := grownCap_ge w (n + m) c 5
  have hrun : (Builtin.append_ #[50, 3] ty #[.slice (some b) n c, .int .i64 (m : Int)]).run Tryz.prog w =
      .ok (.slice (some ⟨w.heap.size, 0, none⟩) (n + m) (grownCap w (n + m) c 5)) (w.drew.alloc (.cells ((bvs xs).toArray ++ Builtin.zeroCells #[.int .u8 0] m ++ Builtin.zeroCells #[.int .u8 0] (grownCap w (n + m) c 5 - (n + m))) 5)) := by
    simp [Builtin.append_, run_underlying Tryz.underlying50, run_underlying Tryz.underlying3, sizeOf, typeInfo, zeroValue, hi, hz0, hz1, hz2, asInt, asIntOf, hw, hn0, hnb, hn, hm0, h63', h48', Question.forced, hfo, newRow, grownCap, Value.cells]
  refine ⟨_, _, _, hrun, ⟨by rw [List.length_append, hin.len, List.length_replicate], fun j x hx => ⟨_, rfl, ?_⟩⟩, hge, ?_⟩
  · rw [show (⟨w.heap.size, 0, none⟩ : Addr).add j = ⟨w.heap.size, j, none⟩ from by unfold Addr.add; split <;> simp_all]
    rw [cell_of_row _ w.heap.size j _ 5 (0, 0) (World.alloc_heap_new w.drew _)]
    rw [zeroCells_bytes, zeroCells_bytes]
    have hlt : j < (xs ++ List.replicate m 0).length := (List.getElem?_eq_some_iff.1 hx).1
    rw [List.append_toArray, List.append_toArray, List.getElem?_toArray, ← bvs_append, List.getElem?_append_left (by rw [bvs_length]; exact hlt), bvs_get, hx]
    rfl
  · exact ((Below.refl _ w).drew).alloc (Nat.le_refl _) _

theorem wpList_zeros {ops : Array Oper} {rest : List Oper} {o : Oper} {a : Act} {Q : Exit → Act → World → Prop} (w : World) (hgd : o.guard = none) (s x : Operand)
    (ho : o.op = .call { callee := .builtin .append, args := #[s, x], argTypes := #[50, 3] })
    (b : Addr) (n c m : Nat) (xs : List Nat) (hs : a.eval s = .slice (some b) n c) (hx : a.eval x = .int .i64 (m : Int)) (hin : In w (some b) n xs) (hm : 0 < m) (hg : c < n + m) (hle : n + m ≤ 1000000000)
    (h : ∀ A' c' w', In w' A' (n + m) (xs ++ List.replicate m 0) → n + m ≤ c' → Below w.heap.size w w' → wpList Tryz.prog ops Q rest (a.put o.dst (.slice A' (n + m) c')) w') :
    wpList Tryz.prog ops Q (o :: rest) a w := by
  refine wpList_plain hgd fun K hK => ?_
  obtain ⟨A', c', w', hr, h2, h3, h4⟩ := run_append_zeros w o.type b n c m xs hin hm hg hle
  unfold Oper.wp execOp
  simp only [ho, resolve, invoke, builtin, Sem.run_bind, Sem.run_pure, Result.andThen_ok, List.map_toArray, List.map_cons, List.map_nil, hs, hx, hr]
  exact hK _ _ (h A' c' w' h2 h3 h4)

end Go.Proofs.YthbgcijkpincfaaGreatDoor
