/-
  append to one of several rows of the call's own: the others stay as they are.
-/
import Derived.Test.YtnaebjdccngeoaaDoorLMem
import Derived.Maps.AppendAt
namespace Go.Proofs.YtnaebjdccngeoaaDoor
open Go.RowKit

theorem own_on {w w' : World} {base : Nat} {e : TypeId} {size : Nat} {v : Value} {n : Nat} {xs : List Value} (h : w.ownsRow base e size v n xs) (hb : Below w.heap.size w w') : w'.ownsRow base e size v n xs := by
  refine ⟨h.1, ?_⟩
  rcases h.2 with ⟨e1, h0⟩ | ⟨g, cap, cur, e1, h1, hg, h2⟩
  · exact .inl ⟨e1, h0⟩
  · exact .inr ⟨g, cap, cur, e1, h1, (hb.block g (Array.getElem?_eq_some_iff.1 hg).1).trans hg, h2⟩

/-- Two slices that have no block in common. -/
def Apart (u v : Value) : Prop := ∀ k, u.ownBlock = some k → v.ownBlock ≠ some k
theorem Apart.symm {u v : Value} (h : Apart u v) : Apart v u := fun k hv hu => h k hu hv
theorem apart_nil (u : Value) : Apart u (.slice none 0 0) := fun _ _ h => by cases h

/-- v became v' by an append, w became w'. -/
structure Next (w w' : World) (v v' : Value) : Prop where
  grown : w.grownBy w' v.ownBlock
  at_ : v'.ownBlock = v.ownBlock ∨ v'.ownBlock = some w.heap.size
section
variable {w w' : World} {v v' u : Value} {base : Nat} {e : TypeId} {size n : Nat} {ys : List Value}
theorem Next.keep (h : Next w w' v v') (hu : w.ownsRow base e size u n ys) (ha : Apart v u) : w'.ownsRow base e size u n ys := by
  refine hu.kept h.grown ?_
  cases hk : u.ownBlock with
  | none => exact .inl rfl
  | some k => exact .inr fun e => ha k e.symm hk
theorem Next.apart (h : Next w w' v v') (hu : w.ownsRow base e size u n ys) (ha : Apart v u) : Apart v' u := by
  intro k hk hk2
  rcases h.at_ with e | e
  · exact ha k (e ▸ hk) hk2
  · rw [e] at hk
    cases hk
    have := (hu.lt _ hk2).2
    omega
theorem Next.cell (h : Next w w' v v') {a : Addr} {x : Value} (hc : w.cell? a = some x) (hne : some a.block ≠ v.ownBlock) : w'.cell? a = some x := h.grown.cell hc hne
theorem Next.below {w0 : World} {B : Nat} (h : Next w w' v v') (hv : w.ownsRow base e size v n ys) (hb : Below B w0 w) (hB : B ≤ base) (hs : B ≤ w.heap.size) : Below B w0 w' :=
  hb.grown h.grown hs fun k hk => Nat.le_trans hB (hv.lt k hk).1
end

theorem run_app_at (w : World) (ty : TypeId) (base : Nat) (A : Option Addr) (n c : Nat) (xs : List Nat) (hown : w.ownsRow base 5 1 (.slice A n c) n (bvs xs))
    (A2 : Option Addr) (m c2 : Nat) (ys : List Nat) (hin : In w A2 m ys) (hnil : A2 = none → c2 = 0) (hle : n + m ≤ 140737488355328) (hbase : base ≤ w.heap.size) :
    ∃ A' c' w', (Builtin.append_ #[23, 23] ty #[.slice A n c, .slice A2 m c2]).run Tryd.prog w = .ok (.slice A' (n + m) c') w' ∧
      w'.ownsRow base 5 1 (.slice A' (n + m) c') (n + m) (bvs (xs ++ ys)) ∧ Next w w' (.slice A n c) (.slice A' (n + m) c') := by
  obtain ⟨i0, hi, hz0, hz1, hz2⟩ := info_parts infoByte
  cases A2 with
  | none =>
    obtain rfl := hnil rfl
    have hy : ys = [] := by
      cases ys with
      | nil => rfl
      | cons y ys =>
        obtain ⟨ad, e, _⟩ := hin.rd 0 y rfl
        cases e
    subst hy
    obtain rfl : m = 0 := hin.len.symm
    exact ⟨A, c, w, run_append_owned_none (P := Tryd.prog) (w := w) base 23 ty 5 i0 1 Tryd.underlying23 hi _ n (bvs xs) hown, by simpa using hown, ⟨rfl, rfl, rfl, Nat.le_refl _, fun _ _ _ => rfl⟩, .inl rfl⟩
  | some ad =>
    obtain ⟨v', w', hr, h2, h3, _, h5⟩ := run_append_own_at (P := Tryd.prog) (w := w) base 23 ty 5 i0 _ 1 1 Tryd.underlying23 hi hz0 hz1 hz2 rfl (by decide) _ n (bvs xs) hown ad m c2 (bvs ys) (by rw [bvs_length, hin.len]; simp)
      (fun j u hu => by
        rw [bvs_get] at hu
        obtain ⟨y, hy, rfl⟩ := Option.map_eq_some_iff.1 hu
        obtain ⟨ad', e, hc⟩ := hin.rd j y hy
        cases e
        exact hc) (bvs_oneCell ys) (by unfold maxLen; omega) (by omega) hbase
    rw [← bvs_append] at h2
    obtain ⟨A', c', rfl⟩ := own_form h2
    exact ⟨A', c', w', hr, h2, h3, h5⟩

theorem wpList_app_at {ops : Array Oper} {rest : List Oper} {o : Oper} {a : Act} {Q : Exit → Act → World → Prop} (w : World) (hgd : o.guard = none) (s x : Operand)
    (ho : o.op = .call { callee := .builtin .append, args := #[s, x], argTypes := #[23, 23] })
    (base : Nat) (A : Option Addr) (n c : Nat) (xs : List Nat) (hs : a.eval s = .slice A n c) (hown : w.ownsRow base 5 1 (.slice A n c) n (bvs xs))
    (A2 : Option Addr) (m c2 : Nat) (ys : List Nat) (hx : a.eval x = .slice A2 m c2) (hin : In w A2 m ys) (hnil : A2 = none → c2 = 0) (hle : n + m ≤ 140737488355328) (hbase : base ≤ w.heap.size)
    (h : ∀ A' c' w', w'.ownsRow base 5 1 (.slice A' (n + m) c') (n + m) (bvs (xs ++ ys)) → Next w w' (.slice A n c) (.slice A' (n + m) c') → wpList Tryd.prog ops Q rest (a.put o.dst (.slice A' (n + m) c')) w') :
    wpList Tryd.prog ops Q (o :: rest) a w := by
  refine wpList_plain hgd fun K hK => ?_
  obtain ⟨A', c', w', hr, h2, h3⟩ := run_app_at w o.type base A n c xs hown A2 m c2 ys hin hnil hle hbase
  unfold Oper.wp execOp
  simp only [ho, resolve, invoke, builtin, Sem.run_bind, Sem.run_pure, Result.andThen_ok, List.map_toArray, List.map_cons, List.map_nil, hs, hx, hr]
  exact hK _ _ (h A' c' w' h2 h3)

/-- The same in a region that draws, behind '&&' or not. -/
theorem step_app_at {ops : Array Oper} {o : Oper} {a : Act} {w : World} {K : Act → World → Prop} {Q : Exit → Act → World → Prop} {E : Prop} (hw : Region.wanted o (yielded ops a.tmps) = true) (s x : Operand)
    (ho : o.op = .call { callee := .builtin .append, args := #[s, x], argTypes := #[23, 23] })
    (base : Nat) (A : Option Addr) (n c : Nat) (xs : List Nat) (hs : a.eval s = .slice A n c) (hown : w.ownsRow base 5 1 (.slice A n c) n (bvs xs))
    (A2 : Option Addr) (m c2 : Nat) (ys : List Nat) (hx : a.eval x = .slice A2 m c2) (hin : In w A2 m ys) (hnil : A2 = none → c2 = 0) (hle : n + m ≤ 140737488355328) (hbase : base ≤ w.heap.size)
    (h : ∀ A' c' w', w'.ownsRow base 5 1 (.slice A' (n + m) c') (n + m) (bvs (xs ++ ys)) → Next w w' (.slice A n c) (.slice A' (n + m) c') → K (a.put o.dst (.slice A' (n + m) c')) w') :
    if Region.wanted o (yielded ops a.tmps) = true then Oper.wp Tryd.prog o a w K Q else E := by
  rw [if_pos hw]
  obtain ⟨A', c', w', hr, h2, h3⟩ := run_app_at w o.type base A n c xs hown A2 m c2 ys hin hnil hle hbase
  unfold Oper.wp execOp
  simp only [ho, resolve, invoke, builtin, Sem.run_bind, Sem.run_pure, Result.andThen_ok, List.map_toArray, List.map_cons, List.map_nil, hs, hx, hr]
  exact h A' c' w' h2 h3

end Go.Proofs.YtnaebjdccngeoaaDoor
