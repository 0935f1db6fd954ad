/-
  Several texts in one: LApp2, VSApp, VGives, KLink, KOf, LSameSums, KAlive, LArrArg, KBackTools, KChainLaw, KLaid.
-/
import Derived.Test.YtilgikhdamkeoaaDoorLMem
import Derived.Maps.AppendAt
import Derived.Test.YtilgikhdamkeoaaDoorVTools
import Derived.Test.YtilgikhdamkeoaaDoorKLeft
import Derived.Test.YtilgikhdamkeoaaDoorKPure
import Derived.Test.YtilgikhdamkeoaaDoorLSum
import Derived.Deep.QuietTactic
import Derived.BigQuiet
import Derived.Test.YtilgikhdamkeoaaDoorLSums
import Derived.Test.YtilgikhdamkeoaaDoorKCheck
import Derived.Test.YtilgikhdamkeoaaDoorLPre
import Derived.ProofKit
import Derived.OpenShut
import Derived.Test.YtilgikhdamkeoaaDoorLRowS
import Derived.Test.YtilgikhdamkeoaaDoorLRow
import Derived.Test.YtilgikhdamkeoaaDoorKMiss
import Derived.Test.YtilgikhdamkeoaaDoorShaLaid
import Derived.LaidSub
import Derived.Stop.LaidErr
import Derived.Stop.LaidTwo
/-
  append to one of several rows of the call's own: the others stay as they are.
-/
namespace Go.Proofs.YtilgikhdamkeoaaDoor
open Go.RowKit

theorem own_on {w w' : World} {base : Nat} {e : TypeId} {size : Nat} {v : Value} {n : Nat} {xs : List Value} (h : w.ownsRow base e size v n xs) (hb : Below w.heap.size w w') : w'.ownsRow base e size v n xs := by
  refine ⟨h.1, ?_⟩
  rcases h.2 with ⟨e1, h0⟩ | ⟨g, cap, cur, e1, h1, hg, h2⟩
  · exact .inl ⟨e1, h0⟩
  · exact .inr ⟨g, cap, cur, e1, h1, (hb.block g (Array.getElem?_eq_some_iff.1 hg).1).trans hg, h2⟩

/-- Two slices that have no block in common. -/
def Apart (u v : Value) : Prop := ∀ k, u.ownBlock = some k → v.ownBlock ≠ some k
theorem Apart.symm {u v : Value} (h : Apart u v) : Apart v u := fun k hv hu => h k hu hv
theorem apart_nil (u : Value) : Apart u (.slice none 0 0) := fun _ _ h => by cases h

/-- v became v' by an append, w became w'. -/
structure Next (w w' : World) (v v' : Value) : Prop where
  grown : w.grownBy w' v.ownBlock
  at_ : v'.ownBlock = v.ownBlock ∨ v'.ownBlock = some w.heap.size
section
variable {w w' : World} {v v' u : Value} {base : Nat} {e : TypeId} {size n : Nat} {ys : List Value}
theorem Next.keep (h : Next w w' v v') (hu : w.ownsRow base e size u n ys) (ha : Apart v u) : w'.ownsRow base e size u n ys := by
  refine hu.kept h.grown ?_
  cases hk : u.ownBlock with
  | none => exact .inl rfl
  | some k => exact .inr fun e => ha k e.symm hk
theorem Next.apart (h : Next w w' v v') (hu : w.ownsRow base e size u n ys) (ha : Apart v u) : Apart v' u := by
  intro k hk hk2
  rcases h.at_ with e | e
  · exact ha k (e ▸ hk) hk2
  · rw [e] at hk
    cases hk
    have := (hu.lt _ hk2).2
    omega
theorem Next.cell (h : Next w w' v v') {a : Addr} {x : Value} (hc : w.cell? a = some x) (hne : some a.block ≠ v.ownBlock) : w'.cell? a = some x := h.grown.cell hc hne
theorem Next.below {w0 : World} {B : Nat} (h : Next w w' v v') (hv : w.ownsRow base e size v n ys) (hb : Below B w0 w) (hB : B ≤ base) (hs : B ≤ w.heap.size) : Below B w0 w' :=
  hb.grown h.grown hs fun k hk => Nat.le_trans hB (hv.lt k hk).1
end

theorem run_app_at (w : World) (ty : TypeId) (base : Nat) (A : Option Addr) (n c : Nat) (xs : List Nat) (hown : w.ownsRow base 5 1 (.slice A n c) n (bvs xs))
    (A2 : Option Addr) (m c2 : Nat) (ys : List Nat) (hin : In w A2 m ys) (hnil : A2 = none → c2 = 0) (hle : n + m ≤ 140737488355328) (hbase : base ≤ w.heap.size) :
    ∃ A' c' w', (Builtin.append_ #[33, 33] ty #[.slice A n c, .slice A2 m c2]).run Tryd.prog w = .ok (.slice A' (n + m) c') w' ∧
      w'.ownsRow base 5 1 (.slice A' (n + m) c') (n + m) (bvs (xs ++ ys)) ∧ Next w w' (.slice A n c) (.slice A' (n + m) c') := by
  obtain ⟨i0, hi, hz0, hz1, hz2⟩ := info_parts infoByte
  cases A2 with
  | none =>
    obtain rfl := hnil rfl
    have hy : ys = [] := by
      cases ys with
      | nil => rfl
      | cons y ys =>
        obtain ⟨ad, e, _⟩ := hin.rd 0 y rfl
        cases e
    subst hy
    obtain rfl : m = 0 := hin.len.symm
    exact ⟨A, c, w, run_append_owned_none (P := Tryd.prog) (w := w) base 33 ty 5 i0 1 Tryd.underlying33 hi _ n (bvs xs) hown, by simpa using hown, ⟨rfl, rfl, rfl, Nat.le_refl _, fun _ _ _ => rfl⟩, .inl rfl⟩
  | some ad =>
    obtain ⟨v', w', hr, h2, h3, _, h5⟩ := run_append_own_at (P := Tryd.prog) (w := w) base 33 ty 5 i0 _ 1 1 Tryd.underlying33 hi hz0 hz1 hz2 rfl (by decide) _ n (bvs xs) hown ad m c2 (bvs ys) (by rw [bvs_length, hin.len]; simp)
      (fun j u hu => by
        rw [bvs_get] at hu
        obtain ⟨y, hy, rfl⟩ := Option.map_eq_some_iff.1 hu
        obtain ⟨ad', e, hc⟩ := hin.rd j y hy
        cases e
        exact hc) (bvs_oneCell ys) (by unfold maxLen; omega) (by omega) hbase
    rw [← bvs_append] at h2
    obtain ⟨A', c', rfl⟩ := own_form h2
    exact ⟨A', c', w', hr, h2, h3, h5⟩

theorem wpList_app_at {ops : Array Oper} {rest : List Oper} {o : Oper} {a : Act} {Q : Exit → Act → World → Prop} (w : World) (hgd : o.guard = none) (s x : Operand)
    (ho : o.op = .call { callee := .builtin .append, args := #[s, x], argTypes := #[33, 33] })
    (base : Nat) (A : Option Addr) (n c : Nat) (xs : List Nat) (hs : a.eval s = .slice A n c) (hown : w.ownsRow base 5 1 (.slice A n c) n (bvs xs))
    (A2 : Option Addr) (m c2 : Nat) (ys : List Nat) (hx : a.eval x = .slice A2 m c2) (hin : In w A2 m ys) (hnil : A2 = none → c2 = 0) (hle : n + m ≤ 140737488355328) (hbase : base ≤ w.heap.size)
    (h : ∀ A' c' w', w'.ownsRow base 5 1 (.slice A' (n + m) c') (n + m) (bvs (xs ++ ys)) → Next w w' (.slice A n c) (.slice A' (n + m) c') → wpList Tryd.prog ops Q rest (a.put o.dst (.slice A' (n + m) c')) w') :
    wpList Tryd.prog ops Q (o :: rest) a w := by
  refine wpList_plain hgd fun K hK => ?_
  obtain ⟨A', c', w', hr, h2, h3⟩ := run_app_at w o.type base A n c xs hown A2 m c2 ys hin hnil hle hbase
  unfold Oper.wp execOp
  simp only [ho, resolve, invoke, builtin, Sem.run_bind, Sem.run_pure, Result.andThen_ok, List.map_toArray, List.map_cons, List.map_nil, hs, hx, hr]
  exact hK _ _ (h A' c' w' h2 h3)

/-- The same in a region that draws, behind '&&' or not. -/
theorem step_app_at {ops : Array Oper} {o : Oper} {a : Act} {w : World} {K : Act → World → Prop} {Q : Exit → Act → World → Prop} {E : Prop} (hw : Region.wanted o (yielded ops a.tmps) = true) (s x : Operand)
    (ho : o.op = .call { callee := .builtin .append, args := #[s, x], argTypes := #[33, 33] })
    (base : Nat) (A : Option Addr) (n c : Nat) (xs : List Nat) (hs : a.eval s = .slice A n c) (hown : w.ownsRow base 5 1 (.slice A n c) n (bvs xs))
    (A2 : Option Addr) (m c2 : Nat) (ys : List Nat) (hx : a.eval x = .slice A2 m c2) (hin : In w A2 m ys) (hnil : A2 = none → c2 = 0) (hle : n + m ≤ 140737488355328) (hbase : base ≤ w.heap.size)
    (h : ∀ A' c' w', w'.ownsRow base 5 1 (.slice A' (n + m) c') (n + m) (bvs (xs ++ ys)) → Next w w' (.slice A n c) (.slice A' (n + m) c') → K (a.put o.dst (.slice A' (n + m) c')) w') :
    if Region.wanted o (yielded ops a.tmps) = true then Oper.wp Tryd.prog o a w K Q else E := by
  rw [if_pos hw]
  obtain ⟨A', c', w', hr, h2, h3⟩ := run_app_at w o.type base A n c xs hown A2 m c2 ys hin hnil hle hbase
  unfold Oper.wp execOp
  simp only [ho, resolve, invoke, builtin, Sem.run_bind, Sem.run_pure, Result.andThen_ok, List.map_toArray, List.map_cons, List.map_nil, hs, hx, hr]
  exact h A' c' w' h2 h3

end Go.Proofs.YtilgikhdamkeoaaDoor

/-
  append of a list of sums to one of the call's own.
-/
namespace Go.Proofs.YtilgikhdamkeoaaDoor
open Go.RowKit

theorem own_formS {w : World} {base : Nat} {e : TypeId} {v : Value} {n : Nat} {xs : List Value} (h : w.ownsRow base e 32 v n xs) : ∃ A c, v = .slice A n c := by
  rcases h.2 with ⟨e1, h0⟩ | ⟨g, cap, cur, e1, _⟩
  · subst h0; exact ⟨none, 0, e1⟩
  · exact ⟨_, cap, e1⟩

theorem run_sapp_at (w : World) (ty : TypeId) (base : Nat) (A : Option Addr) (n c : Nat) (xs : List Nat) (hown : w.ownsRow base 24 32 (.slice A n c) n (bvs xs))
    (A2 : Option Addr) (m c2 : Nat) (ys : List Nat) (hin : InS w A2 m ys) (hnil : A2 = none → c2 = 0) (hle : n + m ≤ 1000000000) (hbase : base ≤ w.heap.size) :
    ∃ A' c' w', (Builtin.append_ #[22, 22] ty #[.slice A n c, .slice A2 m c2]).run Tryd.prog w = .ok (.slice A' (n + m) c') w' ∧
      w'.ownsRow base 24 32 (.slice A' (n + m) c') (n + m) (bvs (xs ++ ys)) ∧ Next w w' (.slice A n c) (.slice A' (n + m) c') := by
  obtain ⟨i0, hi, hz0, hz1, hz2⟩ := info_parts infoSum
  cases A2 with
  | none =>
    obtain rfl := hnil rfl
    have hy : ys = [] := by
      cases ys with
      | nil => rfl
      | cons y ys =>
        obtain ⟨ad, e, _⟩ := hin.rd 0 y rfl
        cases e
    subst hy
    obtain rfl : m = 0 := by have := hin.len; simp at this; omega
    exact ⟨A, c, w, run_append_owned_none (P := Tryd.prog) (w := w) base 22 ty 24 i0 32 Tryd.underlying22 hi _ n (bvs xs) hown, by simpa using hown, ⟨rfl, rfl, rfl, Nat.le_refl _, fun _ _ _ => rfl⟩, .inl rfl⟩
  | some ad =>
    obtain ⟨v', w', hr, h2, h3, _, h5⟩ := run_append_own_at (P := Tryd.prog) (w := w) base 22 ty 24 i0 _ 32 32 Tryd.underlying22 hi hz0 hz1 hz2 rfl (by decide) _ n (bvs xs) hown ad m c2 (bvs ys) (by rw [bvs_length, hin.len]; omega)
      (fun j u hu => by
        rw [bvs_get] at hu
        obtain ⟨y, hy, rfl⟩ := Option.map_eq_some_iff.1 hu
        obtain ⟨ad', e, hc⟩ := hin.rd j y hy
        cases e
        exact hc) (bvs_oneCell ys) (by unfold maxLen; omega) (by omega) hbase
    rw [← bvs_append] at h2
    obtain ⟨A', c', rfl⟩ := own_formS h2
    exact ⟨A', c', w', hr, h2, h3, h5⟩

theorem step_sapp {ops : Array Oper} {o : Oper} {a : Act} {w : World} {K : Act → World → Prop} {Q : Exit → Act → World → Prop} {E : Prop} (hw : Region.wanted o (yielded ops a.tmps) = true) (s x : Operand)
    (ho : o.op = .call { callee := .builtin .append, args := #[s, x], argTypes := #[22, 22] })
    (base : Nat) (A : Option Addr) (n c : Nat) (xs : List Nat) (hs : a.eval s = .slice A n c) (hown : w.ownsRow base 24 32 (.slice A n c) n (bvs xs))
    (A2 : Option Addr) (m c2 : Nat) (ys : List Nat) (hx : a.eval x = .slice A2 m c2) (hin : InS w A2 m ys) (hnil : A2 = none → c2 = 0) (hle : n + m ≤ 1000000000) (hbase : base ≤ w.heap.size)
    (h : ∀ A' c' w', w'.ownsRow base 24 32 (.slice A' (n + m) c') (n + m) (bvs (xs ++ ys)) → Next w w' (.slice A n c) (.slice A' (n + m) c') → K (a.put o.dst (.slice A' (n + m) c')) w') :
    if Region.wanted o (yielded ops a.tmps) = true then Oper.wp Tryd.prog o a w K Q else E := by
  rw [if_pos hw]
  obtain ⟨A', c', w', hr, h2, h3⟩ := run_sapp_at w o.type base A n c xs hown A2 m c2 ys hin hnil hle hbase
  unfold Oper.wp execOp
  simp only [ho, resolve, invoke, builtin, Sem.run_bind, Sem.run_pure, Result.andThen_ok, List.map_toArray, List.map_cons, List.map_nil, hs, hx, hr]
  exact h A' c' w' h2 h3

/-- nil is the call's own list of none. -/
theorem own_none (w : World) (base : Nat) (e : TypeId) (size : Nat) : w.ownsRow base e size (.slice none 0 0) 0 (bvs []) := ⟨by rw [Nat.zero_mul]; rfl, .inl ⟨rfl, rfl⟩⟩

/-- '[]api.Sum{s}' is the call's own. -/
theorem own_sum (W : World) (s : List Nat) (base : Nat) (hl : s.length = 32) (hb : base ≤ W.heap.size) : (W.alloc (.cells (bvs s).toArray 24)).ownsRow base 24 32 (.slice (some ⟨W.heap.size, 0, none⟩) 1 1) 1 (bvs s) :=
  ⟨by rw [bvs_length, hl], .inr ⟨W.heap.size, 1, (bvs s).toArray, rfl, hb, World.alloc_heap_new W _, Nat.le_refl _, by unfold maxLen; omega, by rw [List.size_toArray, bvs_length, hl], by rw [List.take_of_length_le (by rw [bvs_length, hl]; omega)]⟩⟩

end Go.Proofs.YtilgikhdamkeoaaDoor

/-
  A list of sums that a call answers, of its own; a list of one sum.
-/
namespace Go.Proofs.YtilgikhdamkeoaaDoor
open Go.RowKit

/-- '[]api.Sum{s}' in a plain region. -/
theorem wpList_one_sum {ops : Array Oper} {rest : List Oper} {o : Oper} {a : Act} {w : World} {Q : Exit → Act → World → Prop} (hgd : o.guard = none) (parts : Array (Nat × Operand)) (s : List Nat) (ho : o.op = .buildSlice 22 1 parts)
    (hx : (parts.map fun (i, x) => (i, a.eval x)).toList = [(0, sv s)]) (hl : s.length = 32)
    (h : wpList Tryd.prog ops Q rest (a.put o.dst (.slice (some ⟨w.heap.size, 0, none⟩) 1 1)) (w.alloc (.cells (bvs s).toArray 24))) : wpList Tryd.prog ops Q (o :: rest) a w := by
  refine wpList_plain hgd fun K hK => ?_
  refine wp_sums parts [s] 1 ho rfl hx (by intro x hx'; rw [List.mem_singleton.1 hx']; exact hl) (by omega) (by omega) ?_
  rw [show [s].flatten = s by simp]
  exact hK _ _ h

/-- A call has answered a list of d sums of its own, whose bytes are xs. -/
def GivesS (base : Nat) (w : World) (d : Nat) (xs : List Nat) (e : Ending) (w' : World) : Prop :=
  ∃ A' c', e = .returned (.slice A' d c') ∧ w'.ownsRow base 24 32 (.slice A' d c') d (bvs xs) ∧ Below base w w'

end Go.Proofs.YtilgikhdamkeoaaDoor

/-
  links.linkOf, one step.
-/
namespace Go.Proofs.YtilgikhdamkeoaaDoor
open Go.RowKit

theorem kwrap64 {k : Nat} (h : k ≤ 65536) : wrap64 (k : Int) = (k : Int) := by simp only [wrap64]; omega
theorem kwrapI {k : Nat} (h : k ≤ 65536) : IntKind.i64.wrap (k : Int) = (k : Int) := by rw [IntKind.wrap_i64]; omega

section
variable {w : World} {n c from_ : Nat} {A : Option Addr} {ys : List Nat} {edge : Bool}

set_option maxRecDepth 100000 in
set_option maxHeartbeats 1000000 in
theorem klink_edge (hf : from_ = n) : Calls Tryd.prog 13 #[.slice A n c, .int .i64 (from_ : Int), .bool true] w (GivesS w.heap.size w 0 []) := by
  subst hf
  have hq : ((from_ : Int) == (from_ : Int)) = true := by simp
  go_enter Tryd.func13, Tryd.ntmps13
  go_wp2_with fail
  go_ret
  exact ⟨none, 0, rfl, own_none _ _ _ _, Below.refl _ _⟩

set_option maxRecDepth 100000 in
set_option maxHeartbeats 1000000 in
theorem klink_root {R : List Nat} (hf : from_ = n) (hRl : R.length = 32) (cr : Calls Tryd.prog 9 #[.slice A n c] w fun e w' => e = .returned (sv R) ∧ Below w.heap.size w w') :
    Calls Tryd.prog 13 #[.slice A n c, .int .i64 (from_ : Int), .bool false] w (GivesS w.heap.size w 1 R) := by
  subst hf
  have hq : ((from_ : Int) == (from_ : Int)) = true := by simp
  go_enter Tryd.func13, Tryd.ntmps13
  go_wp2_with fail
  refine cr.mono ?_
  rintro e w1 ⟨rfl, hb1⟩
  have HB := Lib.hid hb1
  clear hb1
  go_wp2_with (refine wpList_one_sum rfl _ R rfl (by simp <;> rfl) hRl ?_)
  go_ret
  exact ⟨some ⟨w1.heap.size, 0, none⟩, 1, rfl, own_sum w1 R w.heap.size hRl HB.out.size, below_on HB.out (Nat.le_refl _) (below_alloc w1 _)⟩

set_option maxRecDepth 100000 in
set_option maxHeartbeats 4000000 in
theorem klink_low {ad : Addr} {k m d : Nat} {L R : List Nat} (hc : n ≤ c) (hn : n ≤ 65536) (h2 : 2 ≤ n) (hfn : from_ < n) (hk0 : cutN n = k) (hm0 : n - k = m) (ha : from_ ≤ k) (hd : d ≤ 100) (hRl : R.length = 32)
    (ci : Calls Tryd.prog 13 #[.slice (some ad) k c, .int .i64 (from_ : Int), .bool edge] w.drew (GivesS w.heap.size w d L))
    (cr : ∀ W : World, Below w.heap.size w W → Calls Tryd.prog 9 #[.slice (some (ad.add (k * 32))) m (c - k)] W fun e w' => e = .returned (sv R) ∧ Below W.heap.size W w') :
    Calls Tryd.prog 13 #[.slice (some ad) n c, .int .i64 (from_ : Int), .bool edge] w (GivesS w.heap.size w (d + 1) (L ++ R)) := by
  have hcl := cutN_lt h2
  have hcp := cutN_pos n
  rw [hk0] at hcl hcp
  have hk65 : k ≤ 65536 := by omega
  have hne : ((from_ : Int) == (n : Int)) = false := by simp; omega
  have hai : (from_ : Int) ≤ (k : Int) := by omega
  have CM := Lib.hid (kleft_any n w h2 (by omega))
  rw [hk0] at CM
  have ht := run_take_sums (ad := ad) (n := n) (c := c) (k := k) (by omega) hc
  have hr := run_drop_sums (ad := ad) (n := n) (c := c) (k := k) hcl hc
  rw [hm0] at hr
  have CI := Lib.hid ci
  have CR := Lib.hid cr
  have HD := Lib.hid hd
  have hd9 : d + 1 ≤ 1000000000 := by omega
  have wn : IntKind.u64.wrap (n : Int) = (n : Int) := by rw [IntKind.wrap_u64]; omega
  have wk : IntKind.i64.wrap (k : Int) = (k : Int) := kwrapI hk65
  have wk2 : wrap64 (k : Int) = (k : Int) := kwrap64 hk65
  clear ci cr hcl hcp hc hn h2 hk0 hm0 hd ha hfn hk65
  go_enter Tryd.func13, Tryd.ntmps13
  go_wp2_with fail
  refine CM.out.mono ?_
  rintro e w1 ⟨rfl, rfl⟩
  go_upto_region 7 with fail
  refine wp_region_held (S := fun _ => True) (by kernel_rfl) ?_
  change wpAnyH _ _ _ _ _ _ _ _ w1.drew
  refine' wpAnyH_take (i := 0) (oi := _) (v := _) ?hi0 (by kernel_rfl) ?hf0 ?hr0 ?hQ0 ?hy0 trivial ?rest0
  case hi0 => (simp only [List.getElem?_toArray, List.getElem?_cons_zero]; rfl)
  case hf0 => kernel_rfl
  case hr0 => kernel_rfl
  case hQ0 => exact fun _ _ _ h => h
  case hy0 =>
    refine Or.inl ⟨by rfl, ?_⟩
    intro W _
    go_simp
    try with_reducible rfl
  try simp only [Act.put, List.setIfInBounds_toArray, List.set_cons_zero, List.set_cons_succ]
  refine' wpAnyH_take (i := 1) (oi := _) (v := _) ?hi1 (by kernel_rfl) ?hf1 ?hr1 ?hQ1 ?hy1 trivial ?rest1
  case hi1 => (simp only [List.getElem?_toArray, List.getElem?_cons_zero, List.getElem?_cons_succ]; rfl)
  case hf1 => kernel_rfl
  case hr1 => kernel_rfl
  case hQ1 => exact fun _ _ _ h => h
  case hy1 =>
    refine Or.inl ⟨by rfl, ?_⟩
    intro W _
    go_simp
    try with_reducible rfl
  try simp only [Act.put, List.setIfInBounds_toArray, List.set_cons_zero, List.set_cons_succ]
  refine' wpAnyH_take (i := 2) (oi := _) (v := _) ?hi2 (by kernel_rfl) ?hf2 ?hr2 ?hQ2 ?hy2 trivial ?rest2
  case hi2 => (simp only [List.getElem?_toArray, List.getElem?_cons_zero, List.getElem?_cons_succ]; rfl)
  case hf2 => kernel_rfl
  case hr2 => kernel_rfl
  case hQ2 => exact fun _ _ _ h => h
  case hy2 =>
    refine Or.inl ⟨by rfl, ?_⟩
    intro W _
    go_simp
    try with_reducible rfl
  try simp only [Act.put, List.setIfInBounds_toArray, List.set_cons_zero, List.set_cons_succ]
  refine' wpAnyH_take (i := 3) (oi := _) (v := _) ?hi3 (by kernel_rfl) ?hf3 ?hr3 ?hQ3 ?hy3 trivial ?rest3
  case hi3 => (simp only [List.getElem?_toArray, List.getElem?_cons_zero, List.getElem?_cons_succ]; rfl)
  case hf3 => kernel_rfl
  case hr3 => kernel_rfl
  case hQ3 => exact fun _ _ _ h => h
  case hy3 =>
    refine Or.inl ⟨by rfl, ?_⟩
    intro W _
    go_simp
    try with_reducible rfl
  try simp only [Act.put, List.setIfInBounds_toArray, List.set_cons_zero, List.set_cons_succ]
  refine' wpAnyH_take (i := 4) (oi := _) (v := _) ?hi4 (by kernel_rfl) ?hf4 ?hr4 ?hQ4 ?hy4 trivial ?rest4
  case hi4 => (simp only [List.getElem?_toArray, List.getElem?_cons_zero, List.getElem?_cons_succ]; rfl)
  case hf4 => kernel_rfl
  case hr4 => kernel_rfl
  case hQ4 => exact fun _ _ _ h => h
  case hy4 =>
    refine Or.inl ⟨by rfl, ?_⟩
    intro W _
    go_simp
    try with_reducible rfl
  try simp only [Act.put, List.setIfInBounds_toArray, List.set_cons_zero, List.set_cons_succ]
  refine' wpAnyH_take (i := 6) (oi := _) (v := _) ?hi6 (by kernel_rfl) ?hf6 ?hr6 ?hQ6 ?hy6 trivial ?rest6
  case hi6 => (simp only [List.getElem?_toArray, List.getElem?_cons_zero, List.getElem?_cons_succ]; rfl)
  case hf6 => kernel_rfl
  case hr6 => kernel_rfl
  case hQ6 => exact fun _ _ _ h => h
  case hy6 =>
    refine Or.inl ⟨by rfl, ?_⟩
    intro W _
    go_simp
    try with_reducible rfl
  try simp only [Act.put, List.setIfInBounds_toArray, List.set_cons_zero, List.set_cons_succ]
  refine' wpAnyH_take (i := 7) (oi := _) (v := _) ?hi7 (by kernel_rfl) ?hf7 ?hr7 ?hQ7 ?hy7 trivial ?rest7
  case hi7 => (simp only [List.getElem?_toArray, List.getElem?_cons_zero, List.getElem?_cons_succ]; rfl)
  case hf7 => kernel_rfl
  case hr7 => kernel_rfl
  case hQ7 => exact fun _ _ _ h => h
  case hy7 =>
    refine Or.inl ⟨by rfl, ?_⟩
    intro W _
    go_simp
    try with_reducible rfl
  try simp only [Act.put, List.setIfInBounds_toArray, List.set_cons_zero, List.set_cons_succ]
  refine' wpAnyH_take (i := 8) (oi := _) (v := _) ?hi8 (by kernel_rfl) ?hf8 ?hr8 ?hQ8 ?hy8 trivial ?rest8
  case hi8 => (simp only [List.getElem?_toArray, List.getElem?_cons_zero, List.getElem?_cons_succ]; rfl)
  case hf8 => kernel_rfl
  case hr8 => kernel_rfl
  case hQ8 => exact fun _ _ _ h => h
  case hy8 =>
    refine Or.inl ⟨by rfl, ?_⟩
    intro W _
    go_simp
    try with_reducible rfl
  try simp only [Act.put, List.setIfInBounds_toArray, List.set_cons_zero, List.set_cons_succ]
  refine wpAnyH_ready (rs := [5]) (by kernel_rfl) (by simp) ?_
  refine' AllReadyH.cons (o := _) ?hi5 (fun K hK => ?_) AllReadyH.nil
  case hi5 => (simp only [List.getElem?_toArray, List.getElem?_cons_zero, List.getElem?_cons_succ]; rfl)
  go_simp
  refine CI.out.mono ?_
  rintro e w2 ⟨A2, c2, rfl, ho2, hb2⟩
  have HO2 := Lib.hid (And.intro ho2 hb2)
  clear ho2 hb2
  refine hK.out _ _ trivial (fun _ => ?_)
  clear hK K
  try simp only [Act.put, List.setIfInBounds_toArray, List.set_cons_zero, List.set_cons_succ]
  refine wpAnyH_ready (rs := [9]) (by kernel_rfl) (by simp) ?_
  refine' AllReadyH.cons (o := _) ?hi9 (fun K hK => ?_) AllReadyH.nil
  case hi9 => (simp only [List.getElem?_toArray, List.getElem?_cons_zero, List.getElem?_cons_succ]; rfl)
  go_simp
  refine (CR.out w2 HO2.out.2).mono ?_
  rintro e w3 ⟨rfl, hb3⟩
  have b3 := below_on HO2.out.2 (Nat.le_refl _) hb3
  have o3 := own_on HO2.out.1 hb3
  have o4 := own_on o3 (below_alloc w3 (.cells (bvs R).toArray 24))
  have b4 := b3.alloc b3.size (.cells (bvs R).toArray 24)
  have i4 : InS (w3.alloc (.cells (bvs R).toArray 24)) (some ⟨w3.heap.size, 0, none⟩) 1 R := InS.of_own (own_sum w3 R 0 hRl (Nat.zero_le _))
  have H4 := Lib.hid (And.intro o4 (And.intro b4 i4))
  clear b3 o3 o4 b4 i4 hb3
  refine hK.out _ _ trivial (fun _ => ?_)
  clear hK K
  try simp only [Act.put, List.setIfInBounds_toArray, List.set_cons_zero, List.set_cons_succ]
  refine wpAnyH_ready (rs := [10]) (by kernel_rfl) (by simp) ?_
  refine' AllReadyH.cons (o := _) ?hi10 (fun K hK => ?_) AllReadyH.nil
  case hi10 => (simp only [List.getElem?_toArray, List.getElem?_cons_zero, List.getElem?_cons_succ]; rfl)
  rw [if_pos (by rfl)]
  refine wp_sums _ [R] 1 rfl rfl (by simp <;> rfl) (by intro q hq; simp at hq; rw [hq]; exact hRl) (by omega) (by omega) ?_
  rw [show [R].flatten = R by simp]
  refine hK.out _ _ trivial (fun _ => ?_)
  clear hK K
  try simp only [Act.put, List.setIfInBounds_toArray, List.set_cons_zero, List.set_cons_succ]
  refine wpAnyH_ready (rs := [11]) (by kernel_rfl) (by simp) ?_
  refine' AllReadyH.cons (o := _) ?hi11 (fun K hK => ?_) AllReadyH.nil
  case hi11 => (simp only [List.getElem?_toArray, List.getElem?_cons_zero, List.getElem?_cons_succ]; rfl)
  refine step_sapp (K := K) (by rfl) _ _ (by rfl) w1.heap.size A2 d c2 L (by rfl) H4.out.1 (some ⟨w3.heap.size, 0, none⟩) 1 1 R (by rfl) H4.out.2.2 (fun h => by cases h) hd9 H4.out.2.1.size ?_
  intro A5 c5 w5 o5 nx5
  refine hK.out _ _ trivial (fun _ => ?_)
  clear hK K
  try simp only [Act.put, List.setIfInBounds_toArray, List.set_cons_zero, List.set_cons_succ]
  refine' wpAnyH_take (i := 12) (oi := _) (v := _) ?hi12 (by kernel_rfl) ?hf12 ?hr12 ?hQ12 ?hy12 trivial ?rest12
  case hi12 => (simp only [List.getElem?_toArray, List.getElem?_cons_zero, List.getElem?_cons_succ]; rfl)
  case hf12 => kernel_rfl
  case hr12 => kernel_rfl
  case hQ12 => exact fun _ _ _ h => h
  case hy12 =>
    refine Or.inl ⟨by rfl, ?_⟩
    intro W _
    go_simp
    try with_reducible rfl
  try simp only [Act.put, List.setIfInBounds_toArray, List.set_cons_zero, List.set_cons_succ]
  refine wpAnyH_done (by kernel_rfl) ?_ _
  go_wp2
  go_ret
  exact ⟨A5, c5, rfl, o5, nx5.below H4.out.1 H4.out.2.1 (Nat.le_refl _) H4.out.2.1.size⟩

set_option maxRecDepth 100000 in
set_option maxHeartbeats 4000000 in
theorem klink_high {ad : Addr} {k m a d : Nat} {L R : List Nat} (hc : n ≤ c) (hn : n ≤ 65536) (h2 : 2 ≤ n) (hfn : from_ < n) (hk0 : cutN n = k) (hm0 : n - k = m) (ha : ¬ from_ ≤ k) (ha0 : from_ - k = a) (hd : d ≤ 100) (hRl : R.length = 32)
    (ci : Calls Tryd.prog 13 #[.slice (some (ad.add (k * 32))) m (c - k), .int .i64 (a : Int), .bool false] w.drew (GivesS w.heap.size w d L))
    (cr : ∀ W : World, Below w.heap.size w W → Calls Tryd.prog 9 #[.slice (some ad) k c] W fun e w' => e = .returned (sv R) ∧ Below W.heap.size W w') :
    Calls Tryd.prog 13 #[.slice (some ad) n c, .int .i64 (from_ : Int), .bool edge] w (GivesS w.heap.size w (d + 1) (L ++ R)) := by
  have hcl := cutN_lt h2
  have hcp := cutN_pos n
  rw [hk0] at hcl hcp
  have hk65 : k ≤ 65536 := by omega
  have ha65 : a ≤ 65536 := by omega
  have hne : ((from_ : Int) == (n : Int)) = false := by simp; omega
  have hai : ¬ (from_ : Int) ≤ (k : Int) := by omega
  have CM := Lib.hid (kleft_any n w h2 (by omega))
  rw [hk0] at CM
  have ht := run_take_sums (ad := ad) (n := n) (c := c) (k := k) (by omega) hc
  have hr := run_drop_sums (ad := ad) (n := n) (c := c) (k := k) hcl hc
  rw [hm0] at hr
  have CI := Lib.hid ci
  have CR := Lib.hid cr
  have HD := Lib.hid hd
  have hd9 : d + 1 ≤ 1000000000 := by omega
  have wn : IntKind.u64.wrap (n : Int) = (n : Int) := by rw [IntKind.wrap_u64]; omega
  have wk : IntKind.i64.wrap (k : Int) = (k : Int) := kwrapI hk65
  have ea : (from_ : Int) - (k : Int) = (a : Int) := by omega
  have wa : wrap64 (a : Int) = (a : Int) := kwrap64 ha65
  have wa2 : IntKind.i64.wrap (a : Int) = (a : Int) := kwrapI ha65
  have wk2 : wrap64 (k : Int) = (k : Int) := kwrap64 hk65
  clear ci cr hcl hcp hc hn h2 hk0 hm0 hd ha hfn hk65 ha0 ha65
  go_enter Tryd.func13, Tryd.ntmps13
  go_wp2_with fail
  refine CM.out.mono ?_
  rintro e w1 ⟨rfl, rfl⟩
  go_upto_region 8 with fail
  refine wp_region_held (S := fun _ => True) (by kernel_rfl) ?_
  change wpAnyH _ _ _ _ _ _ _ _ w1.drew
  refine' wpAnyH_take (i := 0) (oi := _) (v := _) ?hi0 (by kernel_rfl) ?hf0 ?hr0 ?hQ0 ?hy0 trivial ?rest0
  case hi0 => (simp only [List.getElem?_toArray, List.getElem?_cons_zero]; rfl)
  case hf0 => kernel_rfl
  case hr0 => kernel_rfl
  case hQ0 => exact fun _ _ _ h => h
  case hy0 =>
    refine Or.inl ⟨by rfl, ?_⟩
    intro W _
    go_simp
    try with_reducible rfl
  try simp only [Act.put, List.setIfInBounds_toArray, List.set_cons_zero, List.set_cons_succ]
  refine' wpAnyH_take (i := 1) (oi := _) (v := _) ?hi1 (by kernel_rfl) ?hf1 ?hr1 ?hQ1 ?hy1 trivial ?rest1
  case hi1 => (simp only [List.getElem?_toArray, List.getElem?_cons_zero, List.getElem?_cons_succ]; rfl)
  case hf1 => kernel_rfl
  case hr1 => kernel_rfl
  case hQ1 => exact fun _ _ _ h => h
  case hy1 =>
    refine Or.inl ⟨by rfl, ?_⟩
    intro W _
    go_simp
    try with_reducible rfl
  try simp only [Act.put, List.setIfInBounds_toArray, List.set_cons_zero, List.set_cons_succ]
  refine' wpAnyH_take (i := 2) (oi := _) (v := _) ?hi2 (by kernel_rfl) ?hf2 ?hr2 ?hQ2 ?hy2 trivial ?rest2
  case hi2 => (simp only [List.getElem?_toArray, List.getElem?_cons_zero, List.getElem?_cons_succ]; rfl)
  case hf2 => kernel_rfl
  case hr2 => kernel_rfl
  case hQ2 => exact fun _ _ _ h => h
  case hy2 =>
    refine Or.inl ⟨by rfl, ?_⟩
    intro W _
    go_simp
    try with_reducible rfl
  try simp only [Act.put, List.setIfInBounds_toArray, List.set_cons_zero, List.set_cons_succ]
  refine' wpAnyH_take (i := 3) (oi := _) (v := _) ?hi3 (by kernel_rfl) ?hf3 ?hr3 ?hQ3 ?hy3 trivial ?rest3
  case hi3 => (simp only [List.getElem?_toArray, List.getElem?_cons_zero, List.getElem?_cons_succ]; rfl)
  case hf3 => kernel_rfl
  case hr3 => kernel_rfl
  case hQ3 => exact fun _ _ _ h => h
  case hy3 =>
    refine Or.inl ⟨by rfl, ?_⟩
    intro W _
    go_simp
    try with_reducible rfl
  try simp only [Act.put, List.setIfInBounds_toArray, List.set_cons_zero, List.set_cons_succ]
  refine' wpAnyH_take (i := 4) (oi := _) (v := _) ?hi4 (by kernel_rfl) ?hf4 ?hr4 ?hQ4 ?hy4 trivial ?rest4
  case hi4 => (simp only [List.getElem?_toArray, List.getElem?_cons_zero, List.getElem?_cons_succ]; rfl)
  case hf4 => kernel_rfl
  case hr4 => kernel_rfl
  case hQ4 => exact fun _ _ _ h => h
  case hy4 =>
    refine Or.inl ⟨by rfl, ?_⟩
    intro W _
    go_simp
    try with_reducible rfl
  try simp only [Act.put, List.setIfInBounds_toArray, List.set_cons_zero, List.set_cons_succ]
  refine' wpAnyH_take (i := 5) (oi := _) (v := _) ?hi5 (by kernel_rfl) ?hf5 ?hr5 ?hQ5 ?hy5 trivial ?rest5
  case hi5 => (simp only [List.getElem?_toArray, List.getElem?_cons_zero, List.getElem?_cons_succ]; rfl)
  case hf5 => kernel_rfl
  case hr5 => kernel_rfl
  case hQ5 => exact fun _ _ _ h => h
  case hy5 =>
    refine Or.inl ⟨by rfl, ?_⟩
    intro W _
    go_simp
    try with_reducible rfl
  try simp only [Act.put, List.setIfInBounds_toArray, List.set_cons_zero, List.set_cons_succ]
  refine' wpAnyH_take (i := 7) (oi := _) (v := _) ?hi7 (by kernel_rfl) ?hf7 ?hr7 ?hQ7 ?hy7 trivial ?rest7
  case hi7 => (simp only [List.getElem?_toArray, List.getElem?_cons_zero, List.getElem?_cons_succ]; rfl)
  case hf7 => kernel_rfl
  case hr7 => kernel_rfl
  case hQ7 => exact fun _ _ _ h => h
  case hy7 =>
    refine Or.inl ⟨by rfl, ?_⟩
    intro W _
    go_simp
    try with_reducible rfl
  try simp only [Act.put, List.setIfInBounds_toArray, List.set_cons_zero, List.set_cons_succ]
  refine' wpAnyH_take (i := 8) (oi := _) (v := _) ?hi8 (by kernel_rfl) ?hf8 ?hr8 ?hQ8 ?hy8 trivial ?rest8
  case hi8 => (simp only [List.getElem?_toArray, List.getElem?_cons_zero, List.getElem?_cons_succ]; rfl)
  case hf8 => kernel_rfl
  case hr8 => kernel_rfl
  case hQ8 => exact fun _ _ _ h => h
  case hy8 =>
    refine Or.inl ⟨by rfl, ?_⟩
    intro W _
    go_simp
    try with_reducible rfl
  try simp only [Act.put, List.setIfInBounds_toArray, List.set_cons_zero, List.set_cons_succ]
  refine' wpAnyH_take (i := 9) (oi := _) (v := _) ?hi9 (by kernel_rfl) ?hf9 ?hr9 ?hQ9 ?hy9 trivial ?rest9
  case hi9 => (simp only [List.getElem?_toArray, List.getElem?_cons_zero, List.getElem?_cons_succ]; rfl)
  case hf9 => kernel_rfl
  case hr9 => kernel_rfl
  case hQ9 => exact fun _ _ _ h => h
  case hy9 =>
    refine Or.inl ⟨by rfl, ?_⟩
    intro W _
    go_simp
    try with_reducible rfl
  try simp only [Act.put, List.setIfInBounds_toArray, List.set_cons_zero, List.set_cons_succ]
  refine wpAnyH_ready (rs := [6]) (by kernel_rfl) (by simp) ?_
  refine' AllReadyH.cons (o := _) ?hi6 (fun K hK => ?_) AllReadyH.nil
  case hi6 => (simp only [List.getElem?_toArray, List.getElem?_cons_zero, List.getElem?_cons_succ]; rfl)
  go_simp
  refine CI.out.mono ?_
  rintro e w2 ⟨A2, c2, rfl, ho2, hb2⟩
  have HO2 := Lib.hid (And.intro ho2 hb2)
  clear ho2 hb2
  refine hK.out _ _ trivial (fun _ => ?_)
  clear hK K
  try simp only [Act.put, List.setIfInBounds_toArray, List.set_cons_zero, List.set_cons_succ]
  refine wpAnyH_ready (rs := [10]) (by kernel_rfl) (by simp) ?_
  refine' AllReadyH.cons (o := _) ?hi10 (fun K hK => ?_) AllReadyH.nil
  case hi10 => (simp only [List.getElem?_toArray, List.getElem?_cons_zero, List.getElem?_cons_succ]; rfl)
  go_simp
  refine (CR.out w2 HO2.out.2).mono ?_
  rintro e w3 ⟨rfl, hb3⟩
  have b3 := below_on HO2.out.2 (Nat.le_refl _) hb3
  have o3 := own_on HO2.out.1 hb3
  have o4 := own_on o3 (below_alloc w3 (.cells (bvs R).toArray 24))
  have b4 := b3.alloc b3.size (.cells (bvs R).toArray 24)
  have i4 : InS (w3.alloc (.cells (bvs R).toArray 24)) (some ⟨w3.heap.size, 0, none⟩) 1 R := InS.of_own (own_sum w3 R 0 hRl (Nat.zero_le _))
  have H4 := Lib.hid (And.intro o4 (And.intro b4 i4))
  clear b3 o3 o4 b4 i4 hb3
  refine hK.out _ _ trivial (fun _ => ?_)
  clear hK K
  try simp only [Act.put, List.setIfInBounds_toArray, List.set_cons_zero, List.set_cons_succ]
  refine wpAnyH_ready (rs := [11]) (by kernel_rfl) (by simp) ?_
  refine' AllReadyH.cons (o := _) ?hi11 (fun K hK => ?_) AllReadyH.nil
  case hi11 => (simp only [List.getElem?_toArray, List.getElem?_cons_zero, List.getElem?_cons_succ]; rfl)
  rw [if_pos (by rfl)]
  refine wp_sums _ [R] 1 rfl rfl (by simp <;> rfl) (by intro q hq; simp at hq; rw [hq]; exact hRl) (by omega) (by omega) ?_
  rw [show [R].flatten = R by simp]
  refine hK.out _ _ trivial (fun _ => ?_)
  clear hK K
  try simp only [Act.put, List.setIfInBounds_toArray, List.set_cons_zero, List.set_cons_succ]
  refine wpAnyH_ready (rs := [12]) (by kernel_rfl) (by simp) ?_
  refine' AllReadyH.cons (o := _) ?hi12 (fun K hK => ?_) AllReadyH.nil
  case hi12 => (simp only [List.getElem?_toArray, List.getElem?_cons_zero, List.getElem?_cons_succ]; rfl)
  refine step_sapp (K := K) (by rfl) _ _ (by rfl) w1.heap.size A2 d c2 L (by rfl) H4.out.1 (some ⟨w3.heap.size, 0, none⟩) 1 1 R (by rfl) H4.out.2.2 (fun h => by cases h) hd9 H4.out.2.1.size ?_
  intro A5 c5 w5 o5 nx5
  refine hK.out _ _ trivial (fun _ => ?_)
  clear hK K
  try simp only [Act.put, List.setIfInBounds_toArray, List.set_cons_zero, List.set_cons_succ]
  refine' wpAnyH_take (i := 13) (oi := _) (v := _) ?hi13 (by kernel_rfl) ?hf13 ?hr13 ?hQ13 ?hy13 trivial ?rest13
  case hi13 => (simp only [List.getElem?_toArray, List.getElem?_cons_zero, List.getElem?_cons_succ]; rfl)
  case hf13 => kernel_rfl
  case hr13 => kernel_rfl
  case hQ13 => exact fun _ _ _ h => h
  case hy13 =>
    refine Or.inl ⟨by rfl, ?_⟩
    intro W _
    go_simp
    try with_reducible rfl
  try simp only [Act.put, List.setIfInBounds_toArray, List.set_cons_zero, List.set_cons_succ]
  refine wpAnyH_done (by kernel_rfl) ?_ _
  go_wp2
  go_ret
  exact ⟨A5, c5, rfl, o5, nx5.below H4.out.1 H4.out.2.1 (Nat.le_refl _) H4.out.2.1.size⟩

end

end Go.Proofs.YtilgikhdamkeoaaDoor

/-
  links.linkOf whole; links.Of.
-/
namespace Go.Proofs.YtilgikhdamkeoaaDoor
open Go.RowKit

theorem klink_any : ∀ (n from_ : Nat) (edge : Bool) (A : Option Addr) (c : Nat) (ys : List Nat) (w : World), InS w A n ys → (∀ x ∈ ys, x < 256) → n ≤ c → n ≤ 65536 → 1 ≤ from_ → from_ ≤ n → Knows w → Starts w →
    Calls Tryd.prog 13 #[.slice A n c, .int .i64 (from_ : Int), .bool edge] w (GivesS w.heap.size w (ldep from_ n edge) (linkL (nth ys) 0 n from_ edge).flatten) := by
  intro n
  induction n using Nat.strongRecOn with
  | ind n ih =>
    intro from_ edge A c ys w hin hy hc hn h1 hfn hk hs
    by_cases h2 : n < 2 ∨ from_ = n
    · have hf : from_ = n := by omega
      rw [ldep_all h2, linkL_all _ h2]
      cases edge with
      | true => exact klink_edge hf
      | false =>
        simp only [Bool.false_eq_true, if_false, List.flatten_singleton]
        exact klink_root hf (rt_length _ 0 n fun j hj => nth_length hin.len (by omega)) (root_any A n c ys w hin hy hc (by omega) hk hs)
    · have hcl := cutN_lt (m := n) (by omega)
      have hcp := cutN_pos n
      obtain ⟨ad, rfl⟩ := hin.some_ (by omega)
      have hd := ldep_64 (n := n) (by omega) from_ edge
      have lk : ∀ {i m : Nat}, i + m ≤ n → (rt (nth ys) i m).length = 32 := fun {i m} h => rt_length _ i m fun j hj => nth_length hin.len (by omega)
      have dr : Below w.heap.size w w.drew := (Below.refl _ w).drew
      have ytake : ∀ x ∈ ys.take (32 * cutN n), x < 256 := fun x hx => hy x (List.mem_of_mem_take hx)
      have ydrop : ∀ x ∈ ys.drop (32 * cutN n), x < 256 := fun x hx => hy x (List.mem_of_mem_drop hx)
      by_cases ha : from_ ≤ cutN n
      · rw [ldep_low h2 ha] at hd ⊢
        rw [linkL_low _ h2 ha, List.flatten_append, List.flatten_singleton, Nat.zero_add]
        refine klink_low hc hn (by omega) (by omega) rfl rfl ha (by omega) (lk (by omega)) ?_ ?_
        · have := ih (cutN n) hcl from_ edge (some ad) c (ys.take (32 * cutN n)) w.drew ((hin.take (k := cutN n) (by omega)).below dr) ytake (by omega) (by omega) h1 ha (hk.below dr) (hs.below dr)
          rw [linkL_congr (nth (ys.take (32 * cutN n))) (nth ys) (cutN n) 0 0 from_ edge (fun j hj => by rw [Nat.zero_add]; exact nth_take hj)] at this
          exact this.mono fun e w' ⟨A', c', he, ho, hb⟩ => ⟨A', c', he, ho, dr.trans hb⟩
        · intro W hW
          have := root_any (some (ad.add (cutN n * 32))) (n - cutN n) (c - cutN n) (ys.drop (32 * cutN n)) W ((hin.drop_ _ (by omega)).below hW) ydrop (by omega) (by omega) (hk.below hW) (hs.below hW)
          rw [rt_drop] at this
          exact this
      · rw [ldep_high h2 ha] at hd ⊢
        rw [linkL_high _ h2 ha, List.flatten_append, List.flatten_singleton, Nat.zero_add]
        refine klink_high hc hn (by omega) (by omega) rfl rfl ha rfl (by omega) (lk (by omega)) ?_ ?_
        · have := ih (n - cutN n) (by omega) (from_ - cutN n) false (some (ad.add (cutN n * 32))) (c - cutN n) (ys.drop (32 * cutN n)) w.drew ((hin.drop_ (cutN n) (by omega)).below dr) ydrop (by omega) (by omega) (by omega) (by omega) (hk.below dr) (hs.below dr)
          rw [linkL_congr (nth (ys.drop (32 * cutN n))) (nth ys) (n - cutN n) 0 (cutN n) (from_ - cutN n) false (fun j hj => by rw [Nat.zero_add]; exact nth_drop _ _ _)] at this
          exact this.mono fun e w' ⟨A', c', he, ho, hb⟩ => ⟨A', c', he, ho, dr.trans hb⟩
        · intro W hW
          have := root_any (some ad) (cutN n) c (ys.take (32 * cutN n)) W ((hin.take (by omega)).below hW) ytake (by omega) (by omega) (hk.below hW) (hs.below hW)
          rw [rt_take] at this
          exact this

set_option maxRecDepth 100000 in
set_option maxHeartbeats 1000000 in
/-- links.Of of no beginning. -/
theorem kof_no {w : World} {n c : Nat} {A : Option Addr} (z : Int) (h : z < 1 ∨ (n : Int) < z) :
    Calls Tryd.prog 8 #[.slice A n c, .int .i64 z] w fun e w' => e = .returned (.tuple #[.slice none 0 0, .int .i64 1]) ∧ w' = w := by
  by_cases h0 : z < 1
  · go_enter Tryd.func8, Tryd.ntmps8
    go_wp2_with fail
    go_ret2
    exact ⟨rfl, rfl⟩
  · have h1 : (n : Int) < z := by omega
    have hd : decide (z < 1) = false := by simp; omega
    go_enter Tryd.func8, Tryd.ntmps8
    go_wp2_with fail
    go_ret2
    exact ⟨rfl, rfl⟩

set_option maxRecDepth 100000 in
set_option maxHeartbeats 1000000 in
/-- links.Of. -/
theorem kof_yes {w : World} {n c from_ : Nat} {A : Option Addr} {ys : List Nat} (hin : InS w A n ys) (hy : ∀ x ∈ ys, x < 256) (hc : n ≤ c) (hn : n ≤ 65536) (h1 : 1 ≤ from_) (hfn : from_ ≤ n) (hk : Knows w) (hs : Starts w) :
    Calls Tryd.prog 8 #[.slice A n c, .int .i64 (from_ : Int)] w fun e w' => ∃ A' c', e = .returned (.tuple #[.slice A' (ldep from_ n true) c', .int .i64 0]) ∧ w'.ownsRow w.heap.size 24 32 (.slice A' (ldep from_ n true) c') (ldep from_ n true) (bvs (linkL (nth ys) 0 n from_ true).flatten) ∧ Below w.heap.size w w' := by
  have C := Lib.hid (klink_any n from_ true A c ys w hin hy hc hn h1 hfn hk hs)
  have h0 : ¬ (from_ : Int) < 1 := by omega
  have hd : decide ((from_ : Int) < 1) = false := by simp; omega
  have h2 : ¬ (n : Int) < (from_ : Int) := by omega
  clear hin hy hc hn h1 hfn hk hs
  go_enter Tryd.func8, Tryd.ntmps8
  go_wp2_with fail
  refine C.out.mono ?_
  rintro e w1 ⟨A', c', rfl, ho, hb⟩
  go_wp2_with fail
  go_ret2
  exact ⟨A', c', rfl, ho, hb⟩

end Go.Proofs.YtilgikhdamkeoaaDoor

/-
  SameSums.
-/
namespace Go.Proofs.YtilgikhdamkeoaaDoor
open Go.RowKit

set_option maxRecDepth 100000 in
set_option maxHeartbeats 1000000 in
theorem sameSums_yes (A A2 : Option Addr) (n c c2 : Nat) (ys : List Nat) (w : World) (hin : InS w A n ys) (hin2 : InS w A2 n ys) (hn : n ≤ 200000000000000) :
    Calls Tryd.prog 12 #[.slice A n c, .slice A2 n c2] w fun e w' => e = .returned (.bool true) ∧ ∃ q, w' = w.drewN q := by
  have dn : ((n : Int) != (n : Int)) = false := by simp
  go_enter Tryd.func12, Tryd.ntmps12
  go_wp2
  go_loopw [5] (fun i wr => ∃ j : Nat, j ≤ n ∧ i = .int .i64 (j : Int) ∧ ∃ q, wr = w.drewN q) (fun i _ => n - (intOf i).toNat)
  case atStart => exact ⟨0, Nat.zero_le _, rfl, 0, rfl⟩
  case round =>
    obtain ⟨j, hj, rfl, q, rfl⟩ := hrel
    by_cases hlt : j < n
    · obtain ⟨ad, rfl, hl, hat⟩ := hin.at_ hlt
      obtain ⟨ad2, rfl, _, hat2⟩ := hin2.at_ hlt
      have i1 : (j : Int) < (n : Int) := by omega
      go_wp2
      refine wp_region_quiet_lit (by kernel_rfl) (by kernel_rfl) ?_
      iterate 3 quiet_step (fail)
      refine wpQuiet_step (fun K hK => ?_)
      refine quiet_load_sum rfl (.tmp 19) rfl (ad.add (j * 32)) rfl (nth ys j) hl (fun W hW => by obtain ⟨m, rfl⟩ := hW; exact hat) ?_
      go_simp
      refine hK _ ?_
      clear hK K
      iterate 3 quiet_step (fail)
      refine wpQuiet_step (fun K hK => ?_)
      refine quiet_load_sum rfl (.tmp 23) rfl (ad2.add (j * 32)) rfl (nth ys j) hl (fun W hW => by obtain ⟨m, rfl⟩ := hW; exact hat2) ?_
      go_simp
      refine hK _ ?_
      clear hK K
      have hne := run_neq_sum (nth ys j) (nth ys j) hl hl
      simp only [decide_true, Bool.not_true] at hne
      have hgd := fun x y => run_guard_neq x y (nth ys j) (nth ys j)
      quiet_step (fail)
      refine wpQuiet_nil ?_
      rintro _ ⟨nq, rfl⟩
      rw [World.drewN_drewN]
      clear hne hgd
      go_wp2
      go_roundw
      case rel => exact ⟨j + 1, by omega, by go_num, q + nq, rfl⟩
      case measure => simp [intOf]; omega
    · go_wp2
      go_ret
      exact ⟨rfl, q, rfl⟩

end Go.Proofs.YtilgikhdamkeoaaDoor

/-
  almonerlaw11.alive.
-/
namespace Go.Proofs.YtilgikhdamkeoaaDoor
open Go.RowKit

def oneS (x : Nat) : List Nat := x :: List.replicate 31 0
theorem oneS_lt {x : Nat} (h : x < 256) : ∀ y ∈ oneS x, y < 256 := by
  intro y hy
  rcases List.mem_cons.1 hy with rfl | hy
  · exact h
  · rw [List.eq_of_mem_replicate hy]; omega
def abS : List Nat := nodeL (oneS 1) (oneS 2)
def l3 : List Nat := [oneS 1, oneS 2, oneS 3].flatten
theorem l3_nth : nth l3 0 = oneS 1 ∧ nth l3 1 = oneS 2 ∧ nth l3 2 = oneS 3 := nth_flat _ _ _ rfl rfl rfl
theorem l3_lt : ∀ x ∈ l3, x < 256 := by
  intro x hx
  obtain ⟨s, hs, hxs⟩ := List.mem_flatten.1 hx
  simp at hs
  rcases hs with rfl | rfl | rfl
  · exact oneS_lt (by omega) x hxs
  · exact oneS_lt (by omega) x hxs
  · exact oneS_lt (by omega) x hxs
theorem cut3 : cutN 3 = 2 := by decide
theorem cut2 : cutN 2 = 1 := by decide
theorem l3_dep1 : ldep 1 3 true = 2 := by rw [ldep_low (by omega) (by rw [cut3]; omega), cut3, ldep_low (by omega) (by rw [cut2]; omega), cut2, ldep_all (by omega)]; rfl
theorem l3_dep2 : ldep 2 3 true = 1 := by rw [ldep_low (by omega) (by rw [cut3]; omega), cut3, ldep_all (by omega)]; rfl
theorem l3_dep3 : ldep 3 3 true = 0 := by rw [ldep_all (by omega)]; rfl
theorem l3_link1 : linkL (nth l3) 0 3 1 true = [oneS 2, oneS 3] := by
  rw [linkL_low _ (by omega) (by rw [cut3]; omega), cut3, linkL_low _ (by omega) (by rw [cut2]; omega), cut2, linkL_all _ (by omega)]
  show [] ++ [rt (nth l3) 1 1] ++ [rt (nth l3) 2 1] = _
  rw [rt_one, rt_one, l3_nth.2.1, l3_nth.2.2]; rfl
theorem l3_link2 : linkL (nth l3) 0 3 2 true = [oneS 3] := by
  rw [linkL_low _ (by omega) (by rw [cut3]; omega), cut3, linkL_all _ (by omega)]
  show [] ++ [rt (nth l3) 2 1] = _
  rw [rt_one, l3_nth.2.2]; rfl
theorem l3_link3 : linkL (nth l3) 0 3 3 true = [] := by rw [linkL_all _ (by omega)]; rfl
theorem abS_length : abS.length = 32 := nodeL_length _ _
theorem abS_lt : ∀ x ∈ abS, x < 256 := nodeL_lt _ _
theorem nth_self {s : List Nat} (h : s.length = 32) : nth s 0 = s := by
  have := nth_flatten [s] (by intro x hx; simp at hx; rw [hx]; exact h) 0 s rfl
  simpa using this
theorem l3_in : begins (oneS 3) abS (nodeL abS (oneS 3)) 1 2 3 = true := by
  unfold begins
  rw [l3_dep2, linkF_low _ _ (by omega) (by rw [cut3]; omega), cut3, ldep_all (by omega), linkF_all _ _ (by omega)]
  simp [nth_self (s := oneS 3) rfl]
theorem one_in (s : List Nat) : begins [] s s 0 1 1 = true := by
  unfold begins
  rw [ldep_all (by omega), linkF_all _ _ (by omega)]
  simp

set_option maxRecDepth 100000 in
set_option maxHeartbeats 8000000 in
theorem kalive_any (w : World) (E : Addr) (hk : Knows w) (hs : Starts w) (hm : Miss w E) :
    Calls Tryd.prog 7 #[] w fun e w' => e = .returned (.bool true) ∧ Below w.heap.size w w' := by
  obtain ⟨w1, hw1⟩ : ∃ w1, w1 = w.alloc (.cells (bvs l3).toArray 24) := ⟨_, rfl⟩
  have b1 : Below w.heap.size w w1 := by rw [hw1]; exact below_alloc _ _
  have i1 : InS w1 (some ⟨w.heap.size, 0, none⟩) 3 l3 := by rw [hw1]; exact ⟨by decide, (In.new' w l3 24).rd⟩
  have k1 := hk.below b1
  have s1 := hs.below b1
  have L1 := Lib.hid (And.intro b1 (And.intro i1 (And.intro k1 s1)))
  have HM1 := Lib.hid (hm.below b1)
  have HW1 := Lib.hid hw1
  clear b1 i1 k1 s1 hw1 hk hs hm
  have HE1 := Lib.hid (show sv (oneS 1) = .agg #[.int .u8 1, .int .u8 0, .int .u8 0, .int .u8 0, .int .u8 0, .int .u8 0, .int .u8 0, .int .u8 0, .int .u8 0, .int .u8 0, .int .u8 0, .int .u8 0, .int .u8 0, .int .u8 0, .int .u8 0, .int .u8 0, .int .u8 0, .int .u8 0, .int .u8 0, .int .u8 0, .int .u8 0, .int .u8 0, .int .u8 0, .int .u8 0, .int .u8 0, .int .u8 0, .int .u8 0, .int .u8 0, .int .u8 0, .int .u8 0, .int .u8 0, .int .u8 0] from rfl)
  have HE2 := Lib.hid (show sv (oneS 2) = .agg #[.int .u8 2, .int .u8 0, .int .u8 0, .int .u8 0, .int .u8 0, .int .u8 0, .int .u8 0, .int .u8 0, .int .u8 0, .int .u8 0, .int .u8 0, .int .u8 0, .int .u8 0, .int .u8 0, .int .u8 0, .int .u8 0, .int .u8 0, .int .u8 0, .int .u8 0, .int .u8 0, .int .u8 0, .int .u8 0, .int .u8 0, .int .u8 0, .int .u8 0, .int .u8 0, .int .u8 0, .int .u8 0, .int .u8 0, .int .u8 0, .int .u8 0, .int .u8 0] from rfl)
  have HE3 := Lib.hid (show sv (oneS 3) = .agg #[.int .u8 3, .int .u8 0, .int .u8 0, .int .u8 0, .int .u8 0, .int .u8 0, .int .u8 0, .int .u8 0, .int .u8 0, .int .u8 0, .int .u8 0, .int .u8 0, .int .u8 0, .int .u8 0, .int .u8 0, .int .u8 0, .int .u8 0, .int .u8 0, .int .u8 0, .int .u8 0, .int .u8 0, .int .u8 0, .int .u8 0, .int .u8 0, .int .u8 0, .int .u8 0, .int .u8 0, .int .u8 0, .int .u8 0, .int .u8 0, .int .u8 0, .int .u8 0] from rfl)
  go_enter Tryd.func7, Tryd.ntmps7
  go_upto_region 2 with (refine wpList_step fun K hK => ?_; rw [if_pos (by rfl)]; refine wp_sums (K := K) _ [oneS 1, oneS 2, oneS 3] 3 rfl rfl (by simp <;> first | rfl | exact ⟨rfl, rfl, rfl⟩ | exact ⟨HE1.out, HE2.out, HE3.out⟩ | exact ⟨HE1.out.symm, HE2.out.symm, HE3.out.symm⟩) (by intro s hs; simp at hs; rcases hs with rfl | rfl | rfl <;> rfl) (by omega) (by omega) ?_; refine hK _ _ ?_; clear hK K)
  change Code.wp _ _ _ _ (w.alloc (.cells (bvs l3).toArray 24))
  rw [← HW1.out]
  obtain ⟨b, hb0⟩ : ∃ b, w.heap.size = b := ⟨_, rfl⟩
  have HB0 := Lib.hid hb0
  rw [hb0] at L1 ⊢
  clear hb0
  go_cut [2] from 15 to 21 (fun s2 wx => ∃ p, s2 = .pointer (some ⟨p, 0, none⟩) ∧ w1.heap.size ≤ p ∧ BArr wx p 24 abS ∧ Below w1.heap.size w1 wx)
  case first =>
    have CG := Lib.hid (fun (W : World) (hW : Below w1.heap.size w1 W) => node_any (oneS 1) (oneS 2) W rfl rfl (oneS_lt (by omega)) (oneS_lt (by omega)) (L1.out.2.2.1.below hW) (L1.out.2.2.2.below hW))
    have hRl : abS.length = 32 := abS_length
    rw [show nodeL (oneS 1) (oneS 2) = abS from rfl] at CG
    have HA0 := Lib.hid (fun (W : World) (hW : Below w1.heap.size w1 W) => show At W ⟨b, 0, none⟩ (oneS 1) from by
      obtain ⟨ad, e, _, h⟩ := (L1.out.2.1.below hW).at_ (k := 0) (by omega)
      cases e
      rw [l3_nth.1] at h
      exact h)
    have HA1 := Lib.hid (fun (W : World) (hW : Below w1.heap.size w1 W) => show At W ⟨b, 32, none⟩ (oneS 2) from by
      obtain ⟨ad, e, _, h⟩ := (L1.out.2.1.below hW).at_ (k := 1) (by omega)
      cases e
      rw [l3_nth.2.1] at h
      exact h)
    have hst : ∀ (W : World) (p : Nat), BArr W p 24 zero32 → (storeCells ⟨p, 0, none⟩ (bvs abS)).run Tryd.prog W = .ok () (W.setRow p (bvs abS).toArray) := fun W p hW => by
      have := run_storeCells_from (P := Tryd.prog) p 24 (bvs abS) 0 _ W hW (by rw [bvs_length, hRl]; rfl) (bvs_oneCell abS)
      simpa using this
    have hbR : (bvs abS).length = 32 := by rw [bvs_length, hRl]
    have HE0 := Lib.hid (show #[.int .u8 0, .int .u8 0, .int .u8 0, .int .u8 0, .int .u8 0, .int .u8 0, .int .u8 0, .int .u8 0, .int .u8 0, .int .u8 0, .int .u8 0, .int .u8 0, .int .u8 0, .int .u8 0, .int .u8 0, .int .u8 0, .int .u8 0, .int .u8 0, .int .u8 0, .int .u8 0, .int .u8 0, .int .u8 0, .int .u8 0, .int .u8 0, .int .u8 0, .int .u8 0, .int .u8 0, .int .u8 0, .int .u8 0, .int .u8 0, .int .u8 0, .int .u8 0] = (bvs zero32).toArray from rfl)
    unfold sv at CG
    refine wp_region_held_drew (S := fun W => Below w1.heap.size w1 W) (by kernel_rfl) ((Below.refl _ _).drew) (fun hS0 => ?_)
    change wpAnyH _ _ _ _ _ _ _ _ w1.drew
    refine' wpAnyH_take (i := 0) (oi := _) (v := _) ?hiq0 (by kernel_rfl) ?hfq0 ?hrq0 ?hQq0 ?hyq0 hS0 ?restq0
    case hiq0 => (simp only [List.getElem?_toArray, List.getElem?_cons_zero]; rfl)
    case hfq0 => kernel_rfl
    case hrq0 => kernel_rfl
    case hQq0 => exact fun _ _ _ h => h
    case hyq0 => refine Or.inl ⟨by rfl, ?_⟩; intro W hSw; go_simp; try with_reducible rfl
    try simp only [Act.put, List.setIfInBounds_toArray, List.set_cons_zero, List.set_cons_succ]
    refine' wpAnyH_take (i := 1) (oi := _) (v := _) ?hiq1 (by kernel_rfl) ?hfq1 ?hrq1 ?hQq1 ?hyq1 hS0 ?restq1
    case hiq1 => (simp only [List.getElem?_toArray, List.getElem?_cons_zero, List.getElem?_cons_succ]; rfl)
    case hfq1 => kernel_rfl
    case hrq1 => kernel_rfl
    case hQq1 => exact fun _ _ _ h => h
    case hyq1 => refine Or.inl ⟨by rfl, ?_⟩; intro W hSw; go_simp; try with_reducible rfl
    try simp only [Act.put, List.setIfInBounds_toArray, List.set_cons_zero, List.set_cons_succ]
    refine' wpAnyH_take (i := 2) (oi := _) (v := sv ((oneS 1))) ?hiq2 (by kernel_rfl) ?hfq2 ?hrq2 ?hQq2 ?hyq2 hS0 ?restq2
    case hiq2 => (simp only [List.getElem?_toArray, List.getElem?_cons_zero, List.getElem?_cons_succ]; rfl)
    case hfq2 => kernel_rfl
    case hrq2 => kernel_rfl
    case hQq2 => exact fun _ _ _ h => h
    case hyq2 => refine yields_sum ?_ (.tmp 16) rfl ⟨b, 0, none⟩ rfl (oneS 1) rfl (fun W hSw => (HA0.out W hSw)); rfl
    try simp only [Act.put, List.setIfInBounds_toArray, List.set_cons_zero, List.set_cons_succ]
    refine' wpAnyH_take (i := 3) (oi := _) (v := _) ?hiq3 (by kernel_rfl) ?hfq3 ?hrq3 ?hQq3 ?hyq3 hS0 ?restq3
    case hiq3 => (simp only [List.getElem?_toArray, List.getElem?_cons_zero, List.getElem?_cons_succ]; rfl)
    case hfq3 => kernel_rfl
    case hrq3 => kernel_rfl
    case hQq3 => exact fun _ _ _ h => h
    case hyq3 => refine Or.inl ⟨by rfl, ?_⟩; intro W hSw; go_simp; try with_reducible rfl
    try simp only [Act.put, List.setIfInBounds_toArray, List.set_cons_zero, List.set_cons_succ]
    refine' wpAnyH_take (i := 4) (oi := _) (v := _) ?hiq4 (by kernel_rfl) ?hfq4 ?hrq4 ?hQq4 ?hyq4 hS0 ?restq4
    case hiq4 => (simp only [List.getElem?_toArray, List.getElem?_cons_zero, List.getElem?_cons_succ]; rfl)
    case hfq4 => kernel_rfl
    case hrq4 => kernel_rfl
    case hQq4 => exact fun _ _ _ h => h
    case hyq4 => refine Or.inl ⟨by rfl, ?_⟩; intro W hSw; go_simp; try with_reducible rfl
    try simp only [Act.put, List.setIfInBounds_toArray, List.set_cons_zero, List.set_cons_succ]
    refine' wpAnyH_take (i := 5) (oi := _) (v := sv (oneS 2)) ?hiq5 (by kernel_rfl) ?hfq5 ?hrq5 ?hQq5 ?hyq5 hS0 ?restq5
    case hiq5 => (simp only [List.getElem?_toArray, List.getElem?_cons_zero, List.getElem?_cons_succ]; rfl)
    case hfq5 => kernel_rfl
    case hrq5 => kernel_rfl
    case hQq5 => exact fun _ _ _ h => h
    case hyq5 => exact yields_sum (by rfl) (.tmp 19) (by rfl) _ (by rfl) (oneS 2) rfl (fun W hSw => (HA1.out W hSw))
    try simp only [Act.put, List.setIfInBounds_toArray, List.set_cons_zero, List.set_cons_succ]
    refine wpAnyH_ready (rs := [6, 7]) (by kernel_rfl) (by simp) ?_
    refine' AllReadyH.cons (o := _) ?hix7 (fun K hK => ?_) (AllReadyH.cons (o := _) ?hix8 (fun K hK => ?_) AllReadyH.nil)
    case hix7 => (simp only [List.getElem?_toArray, List.getElem?_cons_zero, List.getElem?_cons_succ]; rfl)
    case hix8 => (simp only [List.getElem?_toArray, List.getElem?_cons_zero, List.getElem?_cons_succ]; rfl)
    · skip
      go_simp
      go_at_call 11
      refine (CG.out _ hS0).mono ?_
      rintro e W1 ⟨rfl, hb1⟩
      have hB1 := below_on hS0 (Nat.le_refl _) hb1
      refine hK.out _ _ hB1 (fun _ => ?_)
      clear hK K
      try simp only [Act.put, List.setIfInBounds_toArray, List.set_cons_zero, List.set_cons_succ]
      refine wpAnyH_ready (rs := [7]) (by kernel_rfl) (by simp) ?_
      refine' AllReadyH.cons (o := _) ?hib8 (fun K hK => ?_) AllReadyH.nil
      case hib8 => (simp only [List.getElem?_toArray, List.getElem?_cons_zero, List.getElem?_cons_succ]; rfl)
      go_simp
      have hB2 := Below.alloc hB1 (Below.size hB1) (.cells (bvs zero32).toArray 24)
      have hZ := BArr.new W1 24 zero32
      rw [← HE0.out] at hB2 hZ
      refine hK.out _ _ hB2 (fun _ => ?_)
      clear hK K
      try simp only [Act.put, List.setIfInBounds_toArray, List.set_cons_zero, List.set_cons_succ]
      have hZ3 : BArr _ (W1.heap.size) 24 zero32 := hZ
      refine wpAnyH_ready (rs := [8]) (by kernel_rfl) (by simp) ?_
      refine' AllReadyH.cons (o := _) ?hib9 (fun K hK => ?_) AllReadyH.nil
      case hib9 => (simp only [List.getElem?_toArray, List.getElem?_cons_zero, List.getElem?_cons_succ]; rfl)
      go_simp
      refine hK.out _ _ (below_setRow hB2 (hB1.size) _) (fun _ => ?_)
      clear hK K
      refine wpAnyH_done (by kernel_rfl) ?_ _
      go_wp2_with fail
      go_meet
      case rel => exact ⟨W1.heap.size, rfl, hB1.size, hZ3.setRow abS, below_setRow hB2 (hB1.size) _⟩
    · skip
      go_simp
      have hB2 := Below.alloc hS0 (Below.size hS0) (.cells (bvs zero32).toArray 24)
      have hZ := BArr.new w1.drew 24 zero32
      rw [← HE0.out] at hB2 hZ
      refine hK.out _ _ hB2 (fun _ => ?_)
      clear hK K
      try simp only [Act.put, List.setIfInBounds_toArray, List.set_cons_zero, List.set_cons_succ]
      refine wpAnyH_ready (rs := [6]) (by kernel_rfl) (by simp) ?_
      refine' AllReadyH.cons (o := _) ?hic7 (fun K hK => ?_) AllReadyH.nil
      case hic7 => (simp only [List.getElem?_toArray, List.getElem?_cons_zero, List.getElem?_cons_succ]; rfl)
      go_simp
      go_at_call 11
      refine (CG.out _ hB2).mono ?_
      rintro e W1 ⟨rfl, hb1⟩
      have hB1 := below_on hB2 (Nat.le_refl _) hb1
      refine hK.out _ _ hB1 (fun _ => ?_)
      clear hK K
      try simp only [Act.put, List.setIfInBounds_toArray, List.set_cons_zero, List.set_cons_succ]
      have hZ3 : BArr _ (w1.heap.size) 24 zero32 := (hZ.below hb1)
      refine wpAnyH_ready (rs := [8]) (by kernel_rfl) (by simp) ?_
      refine' AllReadyH.cons (o := _) ?hic9 (fun K hK => ?_) AllReadyH.nil
      case hic9 => (simp only [List.getElem?_toArray, List.getElem?_cons_zero, List.getElem?_cons_succ]; rfl)
      go_simp
      refine hK.out _ _ (below_setRow hB1 (Nat.le_refl _) _) (fun _ => ?_)
      clear hK K
      refine wpAnyH_done (by kernel_rfl) ?_ _
      go_wp2_with fail
      go_meet
      case rel => exact ⟨w1.heap.size, rfl, Nat.le_refl _, hZ3.setRow abS, below_setRow hB1 (Nat.le_refl _) _⟩
  case rest =>
    obtain ⟨p, rfl, hpw, hp, hbc⟩ := hcut
    have IC := Lib.hid (And.intro (L1.out.2.1.below hbc) (And.intro (L1.out.2.2.1.below hbc) (And.intro (L1.out.2.2.2.below hbc) (And.intro hp (And.intro (below_on L1.out.1 (by rw [← HB0.out]; exact Nat.le_refl _) hbc) hpw)))))
    have HBC := Lib.hid hbc
    clear hp hbc hpw
    have HMC := Lib.hid (HM1.out.below HBC.out)
    have C3 : Calls Tryd.prog 8 #[.slice (some ⟨b, 0, none⟩) 3 3, .int .i64 1] wc fun e w' => ∃ A' c', e = .returned (.tuple #[.slice A' 2 c', .int .i64 0]) ∧ w'.ownsRow wc.heap.size 24 32 (.slice A' 2 c') 2 (bvs [oneS 2, oneS 3].flatten) ∧ Below wc.heap.size wc w' := by
      have := kof_yes (w := wc) (from_ := 1) (c := 3) IC.out.1 l3_lt (Nat.le_refl _) (by omega) (by omega) (by omega) IC.out.2.1 IC.out.2.2.1
      rw [l3_dep1, l3_link1] at this
      exact this
    have H3 := Lib.hid C3
    clear C3
    go_wp2_with fail
    refine H3.out.mono ?_
    rintro e w3 ⟨A3, c3, rfl, ho3, hb3⟩
    have C4 : Calls Tryd.prog 8 #[.slice (some ⟨b, 0, none⟩) 3 3, .int .i64 2] w3 fun e w' => ∃ A' c', e = .returned (.tuple #[.slice A' 1 c', .int .i64 0]) ∧ w'.ownsRow w3.heap.size 24 32 (.slice A' 1 c') 1 (bvs [oneS 3].flatten) ∧ Below w3.heap.size w3 w' := by
      have := kof_yes (w := w3) (from_ := 2) (c := 3) (IC.out.1.below hb3) l3_lt (Nat.le_refl _) (by omega) (by omega) (by omega) (IC.out.2.1.below hb3) (IC.out.2.2.1.below hb3)
      rw [l3_dep2, l3_link2] at this
      exact this
    have H4 := Lib.hid C4
    have I3 := Lib.hid (And.intro (InS.of_own ho3) (And.intro (own_nil ho3) hb3))
    clear C4 H3 ho3 hb3
    go_wp2_with fail
    refine H4.out.mono ?_
    rintro e w4 ⟨A4, c4, rfl, ho4, hb4⟩
    have hb34 := below_on I3.out.2.2 (Nat.le_refl _) hb4
    have C5 : Calls Tryd.prog 8 #[.slice (some ⟨b, 0, none⟩) 3 3, .int .i64 3] w4 fun e w' => ∃ A' c', e = .returned (.tuple #[.slice A' 0 c', .int .i64 0]) ∧ w'.ownsRow w4.heap.size 24 32 (.slice A' 0 c') 0 (bvs [].flatten) ∧ Below w4.heap.size w4 w' := by
      have := kof_yes (w := w4) (from_ := 3) (c := 3) (IC.out.1.below hb34) l3_lt (Nat.le_refl _) (by omega) (by omega) (by omega) (IC.out.2.1.below hb34) (IC.out.2.2.1.below hb34)
      rw [l3_dep3, l3_link3] at this
      exact this
    have H5 := Lib.hid C5
    have I4 := Lib.hid (And.intro (InS.of_own ho4) (And.intro (own_nil ho4) (And.intro hb4 hb34)))
    clear C5 H4 ho4 hb4 hb34
    go_wp2_with fail
    refine H5.out.mono ?_
    rintro e w5 ⟨A5, c5, rfl, ho5, hb5⟩
    have H6 := Lib.hid (kof_no (w := w5) (n := 3) (c := 3) (A := some ⟨b, 0, none⟩) 0 (.inl (by omega)))
    have B45 := Lib.hid hb5
    clear H5 ho5 hb5
    go_wp2_with fail
    refine H6.out.mono ?_
    rintro e w6 ⟨rfl, h65⟩
    subst h65
    clear H6
    have B6 : Below wc.heap.size wc w6 := below_on I4.out.2.2.2 (Nat.le_refl _) B45.out
    have I6 := Lib.hid (And.intro (IC.out.1.below B6) (And.intro (IC.out.2.1.below B6) (And.intro (IC.out.2.2.1.below B6) (And.intro (IC.out.2.2.2.1.below B6) (below_on IC.out.2.2.2.2.1 (by rw [← HB0.out]; exact Nat.le_refl _) B6)))))
    have HM6 := Lib.hid (HMC.out.below B6)
    have S3 := Lib.hid ((I3.out.1.below I4.out.2.2.1).below B45.out)
    have S4 := Lib.hid (I4.out.1.below B45.out)
    clear B6 I3 I4 B45 IC
    obtain ⟨R, hR⟩ : ∃ R, nodeL abS (oneS 3) = R := ⟨_, rfl⟩
    have lR : R.length = 32 := by rw [← hR]; exact nodeL_length _ _
    have CN := Lib.hid (fun (W : World) (hW : Below w6.heap.size w6 W) => show Calls Tryd.prog 11 #[sv abS, sv (oneS 3)] W fun e w' => e = .returned (sv R) ∧ Below w6.heap.size w6 w' ∧ Below W.heap.size W w' from (node_any abS (oneS 3) W abS_length rfl abS_lt (oneS_lt (by omega)) (I6.out.2.1.below hW) (I6.out.2.2.1.below hW)).mono fun e w' ⟨he, hb⟩ => ⟨by rw [he, hR], below_on hW (Nat.le_refl _) hb, hb⟩)
    have CK1 := Lib.hid (fun (W : World) (A : Option Addr) (hW : Below w6.heap.size w6 W) (hi : InS W A 1 (oneS 3)) => show Calls Tryd.prog 10 #[.int .u64 2, .int .u64 3, sv abS, sv R, .slice A 1 1] W fun e w' => e = .returned (.bool true) ∧ Below w6.heap.size w6 w' from later hW (by rw [← hR, l3_in]) (kcheck_any (from_ := 2) (size := 3) hi (oneS_lt (by omega)) (Nat.le_refl _) (by omega) abS_length abS_lt lR (by omega) (I6.out.2.1.below hW) (I6.out.2.2.1.below hW) (HM6.out.below hW)))
    have CK2 := Lib.hid (fun (W : World) (hW : Below w6.heap.size w6 W) => show Calls Tryd.prog 10 #[.int .u64 1, .int .u64 1, sv (oneS 1), sv (oneS 1), .slice none 0 0] W fun e w' => e = .returned (.bool true) ∧ Below w6.heap.size w6 w' from later hW (by rw [one_in]) (kcheck_any (from_ := 1) (size := 1) (n := 0) (c := 0) (A := none) (ys := []) (InS.none_ _ _) (by intro x hx; cases hx) (Nat.le_refl _) (by omega) rfl (oneS_lt (by omega)) rfl (by omega) (I6.out.2.1.below hW) (I6.out.2.2.1.below hW) (HM6.out.below hW)))
    have CK3 := Lib.hid (fun (W : World) (hW : Below w6.heap.size w6 W) => show Calls Tryd.prog 10 #[.int .u64 0, .int .u64 1, sv (oneS 1), sv (oneS 1), .slice none 0 0] W fun e w' => e = .returned (.bool false) ∧ Below w6.heap.size w6 w' from later hW rfl (kcheck_far (w := W) (n := 0) (c := 0) (A := none) (a := oneS 1) (b := oneS 1) (from_ := 0) (size := 1) (by omega)))
    have KP := Lib.hid (fun (W : World) (hW : Below w6.heap.size w6 W) => (I6.out.2.2.2.1.below hW).at_)
    have KA := Lib.hid (fun (W : World) (hW : Below w6.heap.size w6 W) => show At W ⟨b, 0, none⟩ (oneS 1) from by
      obtain ⟨ad, e, _, h⟩ := (I6.out.1.below hW).at_ (k := 0) (by omega)
      cases e
      rw [l3_nth.1] at h
      exact h)
    have KC := Lib.hid (fun (W : World) (hW : Below w6.heap.size w6 W) => show At W ⟨b, 64, none⟩ (oneS 3) from by
      obtain ⟨ad, e, _, h⟩ := (I6.out.1.below hW).at_ (k := 2) (by omega)
      cases e
      rw [l3_nth.2.2] at h
      exact h)
    have BL := Lib.hid (fun (W : World) (hW : Below w6.heap.size w6 W) => below_on I6.out.2.2.2.2 (by rw [← HB0.out]; exact Nat.le_refl _) hW)
    have lN := abS_length
    clear hR I6
    go_upto_region 7 with fail
    refine wp_region_held_drew (S := fun W => Below w6.heap.size w6 W) (by kernel_rfl) ((Below.refl _ _).drew) (fun hT0 => ?_)
    change wpAnyH _ _ _ _ _ _ _ _ w6.drew
    refine' wpAnyH_take (i := 0) (oi := _) (v := _) ?hir0 (by kernel_rfl) ?hfr0 ?hrr0 ?hQr0 ?hyr0 hT0 ?restr0
    case hir0 => (simp only [List.getElem?_toArray]; rfl)
    case hfr0 => kernel_rfl
    case hrr0 => kernel_rfl
    case hQr0 => exact fun _ _ _ h => h
    case hyr0 => refine Or.inl ⟨by rfl, ?_⟩; intro W hSw; go_simp; try with_reducible rfl
    try simp only [Act.put, List.setIfInBounds_toArray, List.set_cons_zero, List.set_cons_succ]
    refine' wpAnyH_take (i := 1) (oi := _) (v := _) ?hir1 (by kernel_rfl) ?hfr1 ?hrr1 ?hQr1 ?hyr1 hT0 ?restr1
    case hir1 => (simp only [List.getElem?_toArray]; rfl)
    case hfr1 => kernel_rfl
    case hrr1 => kernel_rfl
    case hQr1 => exact fun _ _ _ h => h
    case hyr1 => refine Or.inl ⟨by rfl, ?_⟩; intro W hSw; go_simp; try with_reducible rfl
    try simp only [Act.put, List.setIfInBounds_toArray, List.set_cons_zero, List.set_cons_succ]
    refine' wpAnyH_take (i := 2) (oi := _) (v := _) ?hir2 (by kernel_rfl) ?hfr2 ?hrr2 ?hQr2 ?hyr2 hT0 ?restr2
    case hir2 => (simp only [List.getElem?_toArray]; rfl)
    case hfr2 => kernel_rfl
    case hrr2 => kernel_rfl
    case hQr2 => exact fun _ _ _ h => h
    case hyr2 => refine Or.inl ⟨by rfl, ?_⟩; intro W hSw; go_simp; try with_reducible rfl
    try simp only [Act.put, List.setIfInBounds_toArray, List.set_cons_zero, List.set_cons_succ]
    refine' wpAnyH_take (i := 3) (oi := _) (v := _) ?hir3 (by kernel_rfl) ?hfr3 ?hrr3 ?hQr3 ?hyr3 hT0 ?restr3
    case hir3 => (simp only [List.getElem?_toArray]; rfl)
    case hfr3 => kernel_rfl
    case hrr3 => kernel_rfl
    case hQr3 => exact fun _ _ _ h => h
    case hyr3 => refine Or.inl ⟨by rfl, ?_⟩; intro W hSw; go_simp; try with_reducible rfl
    try simp only [Act.put, List.setIfInBounds_toArray, List.set_cons_zero, List.set_cons_succ]
    refine' wpAnyH_take (i := 4) (oi := _) (v := sv (oneS 2)) ?hir4 (by kernel_rfl) ?hfr4 ?hrr4 ?hQr4 ?hyr4 hT0 ?restr4
    case hir4 => (simp only [List.getElem?_toArray]; rfl)
    case hfr4 => kernel_rfl
    case hrr4 => kernel_rfl
    case hQr4 => exact fun _ _ _ h => h
    case hyr4 => refine Or.inl ⟨by rfl, ?_⟩; intro W hSw; go_simp; rfl
    try simp only [Act.put, List.setIfInBounds_toArray, List.set_cons_zero, List.set_cons_succ]
    refine' wpAnyH_take (i := 5) (oi := _) (v := sv (oneS 3)) ?hir5 (by kernel_rfl) ?hfr5 ?hrr5 ?hQr5 ?hyr5 hT0 ?restr5
    case hir5 => (simp only [List.getElem?_toArray]; rfl)
    case hfr5 => kernel_rfl
    case hrr5 => kernel_rfl
    case hQr5 => exact fun _ _ _ h => h
    case hyr5 => refine Or.inl ⟨by rfl, ?_⟩; intro W hSw; go_simp; rfl
    try simp only [Act.put, List.setIfInBounds_toArray, List.set_cons_zero, List.set_cons_succ]
    refine wpAnyH_ready (rs := [6]) (by kernel_rfl) (by simp) ?_
    refine' AllReadyH.cons (o := _) ?hir6 (fun K hK => ?_) AllReadyH.nil
    case hir6 => (simp only [List.getElem?_toArray]; rfl)
    rw [if_pos (by rfl)]
    refine wp_sums _ [oneS 2, oneS 3] 2 rfl rfl (by simp <;> first | rfl | exact ⟨rfl, rfl⟩) (by intro s hs; simp at hs; rcases hs with rfl | rfl; exact rfl; exact rfl) (by omega) (by omega) ?_
    have hBr1 := Below.alloc hT0 (Below.size hT0) (.cells (bvs [oneS 2, oneS 3].flatten).toArray 24)
    have iL6 : InS (w6.drew.alloc (.cells (bvs [oneS 2, oneS 3].flatten).toArray 24)) (some ⟨w6.drew.heap.size, 0, none⟩) 2 [oneS 2, oneS 3].flatten := ⟨by simp [oneS], (In.new' w6.drew [oneS 2, oneS 3].flatten 24).rd⟩
    refine hK.out _ _ hBr1 (fun _ => ?_)
    clear hK K
    try simp only [Act.put, List.setIfInBounds_toArray, List.set_cons_zero, List.set_cons_succ]
    have CS7 := Lib.hid (sameSums_yes A3 (some ⟨w6.drew.heap.size, 0, none⟩) 2 c3 2 [oneS 2, oneS 3].flatten (w6.drew.alloc (.cells (bvs [oneS 2, oneS 3].flatten).toArray 24)) (S3.out.below hBr1) iL6 (by omega))
    refine wpAnyH_ready (rs := [7]) (by kernel_rfl) (by simp) ?_
    refine' AllReadyH.cons (o := _) ?hir7 (fun K hK => ?_) AllReadyH.nil
    case hir7 => (simp only [List.getElem?_toArray]; rfl)
    go_simp
    go_at_call 12
    refine CS7.out.mono ?_
    rintro e WS7 ⟨rfl, qS, hqS⟩
    have hBr2 : Below w6.heap.size w6 WS7 := by rw [hqS]; exact ⟨hBr1.os, hBr1.tape, hBr1.output, hBr1.size, hBr1.block⟩
    clear hqS
    refine hK.out _ _ hBr2 (fun _ => ?_)
    clear hK K iL6 CS7
    try simp only [Act.put, List.setIfInBounds_toArray, List.set_cons_zero, List.set_cons_succ]
    refine' wpAnyH_take (i := 8) (oi := _) (v := _) ?hir8 (by kernel_rfl) ?hfr8 ?hrr8 ?hQr8 ?hyr8 hBr2 ?restr8
    case hir8 => (simp only [List.getElem?_toArray]; rfl)
    case hfr8 => kernel_rfl
    case hrr8 => kernel_rfl
    case hQr8 => exact fun _ _ _ h => h
    case hyr8 => refine Or.inl ⟨by rfl, ?_⟩; intro W hSw; go_simp; try with_reducible rfl
    try simp only [Act.put, List.setIfInBounds_toArray, List.set_cons_zero, List.set_cons_succ]
    refine' wpAnyH_take (i := 9) (oi := _) (v := _) ?hir9 (by kernel_rfl) ?hfr9 ?hrr9 ?hQr9 ?hyr9 hBr2 ?restr9
    case hir9 => (simp only [List.getElem?_toArray]; rfl)
    case hfr9 => kernel_rfl
    case hrr9 => kernel_rfl
    case hQr9 => exact fun _ _ _ h => h
    case hyr9 => refine Or.inl ⟨by rfl, ?_⟩; intro W hSw; go_simp; try with_reducible rfl
    try simp only [Act.put, List.setIfInBounds_toArray, List.set_cons_zero, List.set_cons_succ]
    refine' wpAnyH_take (i := 10) (oi := _) (v := _) ?hir10 (by kernel_rfl) ?hfr10 ?hrr10 ?hQr10 ?hyr10 hBr2 ?restr10
    case hir10 => (simp only [List.getElem?_toArray]; rfl)
    case hfr10 => kernel_rfl
    case hrr10 => kernel_rfl
    case hQr10 => exact fun _ _ _ h => h
    case hyr10 => refine Or.inl ⟨by rfl, ?_⟩; intro W hSw; go_simp; try with_reducible rfl
    try simp only [Act.put, List.setIfInBounds_toArray, List.set_cons_zero, List.set_cons_succ]
    refine' wpAnyH_take (i := 11) (oi := _) (v := _) ?hir11 (by kernel_rfl) ?hfr11 ?hrr11 ?hQr11 ?hyr11 hBr2 ?restr11
    case hir11 => (simp only [List.getElem?_toArray]; rfl)
    case hfr11 => kernel_rfl
    case hrr11 => kernel_rfl
    case hQr11 => exact fun _ _ _ h => h
    case hyr11 => refine Or.inl ⟨by rfl, ?_⟩; intro W hSw; go_simp; try with_reducible rfl
    try simp only [Act.put, List.setIfInBounds_toArray, List.set_cons_zero, List.set_cons_succ]
    refine' wpAnyH_take (i := 12) (oi := _) (v := _) ?hir12 (by kernel_rfl) ?hfr12 ?hrr12 ?hQr12 ?hyr12 hBr2 ?restr12
    case hir12 => (simp only [List.getElem?_toArray]; rfl)
    case hfr12 => kernel_rfl
    case hrr12 => kernel_rfl
    case hQr12 => exact fun _ _ _ h => h
    case hyr12 => refine Or.inl ⟨by rfl, ?_⟩; intro W hSw; go_simp; try with_reducible rfl
    try simp only [Act.put, List.setIfInBounds_toArray, List.set_cons_zero, List.set_cons_succ]
    refine' wpAnyH_take (i := 13) (oi := _) (v := _) ?hir13 (by kernel_rfl) ?hfr13 ?hrr13 ?hQr13 ?hyr13 hBr2 ?restr13
    case hir13 => (simp only [List.getElem?_toArray]; rfl)
    case hfr13 => kernel_rfl
    case hrr13 => kernel_rfl
    case hQr13 => exact fun _ _ _ h => h
    case hyr13 => refine Or.inl ⟨by rfl, ?_⟩; intro W hSw; go_simp; try with_reducible rfl
    try simp only [Act.put, List.setIfInBounds_toArray, List.set_cons_zero, List.set_cons_succ]
    refine' wpAnyH_take (i := 14) (oi := _) (v := _) ?hir14 (by kernel_rfl) ?hfr14 ?hrr14 ?hQr14 ?hyr14 hBr2 ?restr14
    case hir14 => (simp only [List.getElem?_toArray]; rfl)
    case hfr14 => kernel_rfl
    case hrr14 => kernel_rfl
    case hQr14 => exact fun _ _ _ h => h
    case hyr14 => refine Or.inl ⟨by rfl, ?_⟩; intro W hSw; go_simp; try with_reducible rfl
    try simp only [Act.put, List.setIfInBounds_toArray, List.set_cons_zero, List.set_cons_succ]
    refine' wpAnyH_take (i := 15) (oi := _) (v := sv (oneS 3)) ?hir15 (by kernel_rfl) ?hfr15 ?hrr15 ?hQr15 ?hyr15 hBr2 ?restr15
    case hir15 => (simp only [List.getElem?_toArray]; rfl)
    case hfr15 => kernel_rfl
    case hrr15 => kernel_rfl
    case hQr15 => exact fun _ _ _ h => h
    case hyr15 => refine Or.inl ⟨by rfl, ?_⟩; intro W hSw; go_simp; rfl
    try simp only [Act.put, List.setIfInBounds_toArray, List.set_cons_zero, List.set_cons_succ]
    refine wpAnyH_ready (rs := [16]) (by kernel_rfl) (by simp) ?_
    refine' AllReadyH.cons (o := _) ?hir16 (fun K hK => ?_) AllReadyH.nil
    case hir16 => (simp only [List.getElem?_toArray]; rfl)
    rw [if_pos (by rfl)]
    refine wp_sums _ [oneS 3] 1 rfl rfl (by simp <;> first | rfl | exact rfl) (by intro s hs; simp at hs; rw [hs]; exact rfl) (by omega) (by omega) ?_
    have hBr3 := Below.alloc hBr2 (Below.size hBr2) (.cells (bvs [oneS 3].flatten).toArray 24)
    have iL16 : InS (WS7.alloc (.cells (bvs [oneS 3].flatten).toArray 24)) (some ⟨WS7.heap.size, 0, none⟩) 1 [oneS 3].flatten := ⟨by simp [oneS], (In.new' WS7 [oneS 3].flatten 24).rd⟩
    refine hK.out _ _ hBr3 (fun _ => ?_)
    clear hK K
    try simp only [Act.put, List.setIfInBounds_toArray, List.set_cons_zero, List.set_cons_succ]
    have CS17 := Lib.hid (sameSums_yes A4 (some ⟨WS7.heap.size, 0, none⟩) 1 c4 1 [oneS 3].flatten (WS7.alloc (.cells (bvs [oneS 3].flatten).toArray 24)) (S4.out.below hBr3) iL16 (by omega))
    refine wpAnyH_ready (rs := [17]) (by kernel_rfl) (by simp) ?_
    refine' AllReadyH.cons (o := _) ?hir17 (fun K hK => ?_) AllReadyH.nil
    case hir17 => (simp only [List.getElem?_toArray]; rfl)
    go_simp
    go_at_call 12
    refine CS17.out.mono ?_
    rintro e WS17 ⟨rfl, qS, hqS⟩
    have hBr4 : Below w6.heap.size w6 WS17 := by rw [hqS]; exact ⟨hBr3.os, hBr3.tape, hBr3.output, hBr3.size, hBr3.block⟩
    clear hqS
    refine hK.out _ _ hBr4 (fun _ => ?_)
    clear hK K iL16 CS17
    try simp only [Act.put, List.setIfInBounds_toArray, List.set_cons_zero, List.set_cons_succ]
    refine' wpAnyH_take (i := 18) (oi := _) (v := _) ?hir18 (by kernel_rfl) ?hfr18 ?hrr18 ?hQr18 ?hyr18 hBr4 ?restr18
    case hir18 => (simp only [List.getElem?_toArray]; rfl)
    case hfr18 => kernel_rfl
    case hrr18 => kernel_rfl
    case hQr18 => exact fun _ _ _ h => h
    case hyr18 => refine Or.inl ⟨by rfl, ?_⟩; intro W hSw; go_simp; try with_reducible rfl
    try simp only [Act.put, List.setIfInBounds_toArray, List.set_cons_zero, List.set_cons_succ]
    refine' wpAnyH_take (i := 19) (oi := _) (v := _) ?hir19 (by kernel_rfl) ?hfr19 ?hrr19 ?hQr19 ?hyr19 hBr4 ?restr19
    case hir19 => (simp only [List.getElem?_toArray]; rfl)
    case hfr19 => kernel_rfl
    case hrr19 => kernel_rfl
    case hQr19 => exact fun _ _ _ h => h
    case hyr19 => refine Or.inl ⟨by rfl, ?_⟩; intro W hSw; go_simp; try with_reducible rfl
    try simp only [Act.put, List.setIfInBounds_toArray, List.set_cons_zero, List.set_cons_succ]
    refine' wpAnyH_take (i := 20) (oi := _) (v := _) ?hir20 (by kernel_rfl) ?hfr20 ?hrr20 ?hQr20 ?hyr20 hBr4 ?restr20
    case hir20 => (simp only [List.getElem?_toArray]; rfl)
    case hfr20 => kernel_rfl
    case hrr20 => kernel_rfl
    case hQr20 => exact fun _ _ _ h => h
    case hyr20 => refine Or.inl ⟨by rfl, ?_⟩; intro W hSw; go_simp; try with_reducible rfl
    try simp only [Act.put, List.setIfInBounds_toArray, List.set_cons_zero, List.set_cons_succ]
    refine' wpAnyH_take (i := 21) (oi := _) (v := _) ?hir21 (by kernel_rfl) ?hfr21 ?hrr21 ?hQr21 ?hyr21 hBr4 ?restr21
    case hir21 => (simp only [List.getElem?_toArray]; rfl)
    case hfr21 => kernel_rfl
    case hrr21 => kernel_rfl
    case hQr21 => exact fun _ _ _ h => h
    case hyr21 => refine Or.inl ⟨by rfl, ?_⟩; intro W hSw; go_simp; try with_reducible rfl
    try simp only [Act.put, List.setIfInBounds_toArray, List.set_cons_zero, List.set_cons_succ]
    refine' wpAnyH_take (i := 22) (oi := _) (v := _) ?hir22 (by kernel_rfl) ?hfr22 ?hrr22 ?hQr22 ?hyr22 hBr4 ?restr22
    case hir22 => (simp only [List.getElem?_toArray]; rfl)
    case hfr22 => kernel_rfl
    case hrr22 => kernel_rfl
    case hQr22 => exact fun _ _ _ h => h
    case hyr22 => refine Or.inl ⟨by rfl, ?_⟩; intro W hSw; go_simp; try with_reducible rfl
    try simp only [Act.put, List.setIfInBounds_toArray, List.set_cons_zero, List.set_cons_succ]
    refine' wpAnyH_take (i := 23) (oi := _) (v := _) ?hir23 (by kernel_rfl) ?hfr23 ?hrr23 ?hQr23 ?hyr23 hBr4 ?restr23
    case hir23 => (simp only [List.getElem?_toArray]; rfl)
    case hfr23 => kernel_rfl
    case hrr23 => kernel_rfl
    case hQr23 => exact fun _ _ _ h => h
    case hyr23 => refine Or.inl ⟨by rfl, ?_⟩; intro W hSw; go_simp; try with_reducible rfl
    try simp only [Act.put, List.setIfInBounds_toArray, List.set_cons_zero, List.set_cons_succ]
    refine' wpAnyH_take (i := 24) (oi := _) (v := _) ?hir24 (by kernel_rfl) ?hfr24 ?hrr24 ?hQr24 ?hyr24 hBr4 ?restr24
    case hir24 => (simp only [List.getElem?_toArray]; rfl)
    case hfr24 => kernel_rfl
    case hrr24 => kernel_rfl
    case hQr24 => exact fun _ _ _ h => h
    case hyr24 => refine Or.inl ⟨by rfl, ?_⟩; intro W hSw; go_simp; try with_reducible rfl
    try simp only [Act.put, List.setIfInBounds_toArray, List.set_cons_zero, List.set_cons_succ]
    refine' wpAnyH_take (i := 25) (oi := _) (v := _) ?hir25 (by kernel_rfl) ?hfr25 ?hrr25 ?hQr25 ?hyr25 hBr4 ?restr25
    case hir25 => (simp only [List.getElem?_toArray]; rfl)
    case hfr25 => kernel_rfl
    case hrr25 => kernel_rfl
    case hQr25 => exact fun _ _ _ h => h
    case hyr25 => refine Or.inl ⟨by rfl, ?_⟩; intro W hSw; go_simp; try with_reducible rfl
    try simp only [Act.put, List.setIfInBounds_toArray, List.set_cons_zero, List.set_cons_succ]
    refine' wpAnyH_take (i := 26) (oi := _) (v := _) ?hir26 (by kernel_rfl) ?hfr26 ?hrr26 ?hQr26 ?hyr26 hBr4 ?restr26
    case hir26 => (simp only [List.getElem?_toArray]; rfl)
    case hfr26 => kernel_rfl
    case hrr26 => kernel_rfl
    case hQr26 => exact fun _ _ _ h => h
    case hyr26 => refine Or.inl ⟨by rfl, ?_⟩; intro W hSw; go_simp; try with_reducible rfl
    try simp only [Act.put, List.setIfInBounds_toArray, List.set_cons_zero, List.set_cons_succ]
    refine' wpAnyH_take (i := 27) (oi := _) (v := _) ?hir27 (by kernel_rfl) ?hfr27 ?hrr27 ?hQr27 ?hyr27 hBr4 ?restr27
    case hir27 => (simp only [List.getElem?_toArray]; rfl)
    case hfr27 => kernel_rfl
    case hrr27 => kernel_rfl
    case hQr27 => exact fun _ _ _ h => h
    case hyr27 => refine Or.inl ⟨by rfl, ?_⟩; intro W hSw; go_simp; try with_reducible rfl
    try simp only [Act.put, List.setIfInBounds_toArray, List.set_cons_zero, List.set_cons_succ]
    refine' wpAnyH_take (i := 28) (oi := _) (v := _) ?hir28 (by kernel_rfl) ?hfr28 ?hrr28 ?hQr28 ?hyr28 hBr4 ?restr28
    case hir28 => (simp only [List.getElem?_toArray]; rfl)
    case hfr28 => kernel_rfl
    case hrr28 => kernel_rfl
    case hQr28 => exact fun _ _ _ h => h
    case hyr28 => refine Or.inl ⟨by rfl, ?_⟩; intro W hSw; go_simp; try with_reducible rfl
    try simp only [Act.put, List.setIfInBounds_toArray, List.set_cons_zero, List.set_cons_succ]
    refine' wpAnyH_take (i := 29) (oi := _) (v := _) ?hir29 (by kernel_rfl) ?hfr29 ?hrr29 ?hQr29 ?hyr29 hBr4 ?restr29
    case hir29 => (simp only [List.getElem?_toArray]; rfl)
    case hfr29 => kernel_rfl
    case hrr29 => kernel_rfl
    case hQr29 => exact fun _ _ _ h => h
    case hyr29 => refine Or.inl ⟨by rfl, ?_⟩; intro W hSw; go_simp; try with_reducible rfl
    try simp only [Act.put, List.setIfInBounds_toArray, List.set_cons_zero, List.set_cons_succ]
    refine' wpAnyH_take (i := 30) (oi := _) (v := _) ?hir30 (by kernel_rfl) ?hfr30 ?hrr30 ?hQr30 ?hyr30 hBr4 ?restr30
    case hir30 => (simp only [List.getElem?_toArray]; rfl)
    case hfr30 => kernel_rfl
    case hrr30 => kernel_rfl
    case hQr30 => exact fun _ _ _ h => h
    case hyr30 => refine Or.inl ⟨by rfl, ?_⟩; intro W hSw; go_simp; try with_reducible rfl
    try simp only [Act.put, List.setIfInBounds_toArray, List.set_cons_zero, List.set_cons_succ]
    refine' wpAnyH_take (i := 31) (oi := _) (v := _) ?hir31 (by kernel_rfl) ?hfr31 ?hrr31 ?hQr31 ?hyr31 hBr4 ?restr31
    case hir31 => (simp only [List.getElem?_toArray]; rfl)
    case hfr31 => kernel_rfl
    case hrr31 => kernel_rfl
    case hQr31 => exact fun _ _ _ h => h
    case hyr31 => refine Or.inl ⟨by rfl, ?_⟩; intro W hSw; go_simp; try with_reducible rfl
    try simp only [Act.put, List.setIfInBounds_toArray, List.set_cons_zero, List.set_cons_succ]
    refine' wpAnyH_take (i := 32) (oi := _) (v := _) ?hir32 (by kernel_rfl) ?hfr32 ?hrr32 ?hQr32 ?hyr32 hBr4 ?restr32
    case hir32 => (simp only [List.getElem?_toArray]; rfl)
    case hfr32 => kernel_rfl
    case hrr32 => kernel_rfl
    case hQr32 => exact fun _ _ _ h => h
    case hyr32 => refine Or.inl ⟨by rfl, ?_⟩; intro W hSw; go_simp; try with_reducible rfl
    try simp only [Act.put, List.setIfInBounds_toArray, List.set_cons_zero, List.set_cons_succ]
    refine' wpAnyH_take (i := 33) (oi := _) (v := sv (abS)) ?hir33 (by kernel_rfl) ?hfr33 ?hrr33 ?hQr33 ?hyr33 hBr4 ?restr33
    case hir33 => (simp only [List.getElem?_toArray]; rfl)
    case hfr33 => kernel_rfl
    case hrr33 => kernel_rfl
    case hQr33 => exact fun _ _ _ h => h
    case hyr33 => refine yields_sum ?_ (.tmp 2) rfl ⟨p, 0, none⟩ rfl abS lN (fun W hSw => (KP.out W hSw)); rfl
    try simp only [Act.put, List.setIfInBounds_toArray, List.set_cons_zero, List.set_cons_succ]
    refine' wpAnyH_take (i := 34) (oi := _) (v := sv (abS)) ?hir34 (by kernel_rfl) ?hfr34 ?hrr34 ?hQr34 ?hyr34 hBr4 ?restr34
    case hir34 => (simp only [List.getElem?_toArray]; rfl)
    case hfr34 => kernel_rfl
    case hrr34 => kernel_rfl
    case hQr34 => exact fun _ _ _ h => h
    case hyr34 => refine yields_sum ?_ (.tmp 2) rfl ⟨p, 0, none⟩ rfl abS lN (fun W hSw => (KP.out W hSw)); rfl
    try simp only [Act.put, List.setIfInBounds_toArray, List.set_cons_zero, List.set_cons_succ]
    refine' wpAnyH_take (i := 35) (oi := _) (v := _) ?hir35 (by kernel_rfl) ?hfr35 ?hrr35 ?hQr35 ?hyr35 hBr4 ?restr35
    case hir35 => (simp only [List.getElem?_toArray]; rfl)
    case hfr35 => kernel_rfl
    case hrr35 => kernel_rfl
    case hQr35 => exact fun _ _ _ h => h
    case hyr35 => refine Or.inl ⟨by rfl, ?_⟩; intro W hSw; go_simp; try with_reducible rfl
    try simp only [Act.put, List.setIfInBounds_toArray, List.set_cons_zero, List.set_cons_succ]
    refine' wpAnyH_take (i := 36) (oi := _) (v := _) ?hir36 (by kernel_rfl) ?hfr36 ?hrr36 ?hQr36 ?hyr36 hBr4 ?restr36
    case hir36 => (simp only [List.getElem?_toArray]; rfl)
    case hfr36 => kernel_rfl
    case hrr36 => kernel_rfl
    case hQr36 => exact fun _ _ _ h => h
    case hyr36 => refine Or.inl ⟨by rfl, ?_⟩; intro W hSw; go_simp; try with_reducible rfl
    try simp only [Act.put, List.setIfInBounds_toArray, List.set_cons_zero, List.set_cons_succ]
    refine' wpAnyH_take (i := 37) (oi := _) (v := sv (oneS 3)) ?hir37 (by kernel_rfl) ?hfr37 ?hrr37 ?hQr37 ?hyr37 hBr4 ?restr37
    case hir37 => (simp only [List.getElem?_toArray]; rfl)
    case hfr37 => kernel_rfl
    case hrr37 => kernel_rfl
    case hQr37 => exact fun _ _ _ h => h
    case hyr37 => exact yields_sum (by rfl) (.tmp 78) (by rfl) _ (by rfl) (oneS 3) rfl (fun W hSw => (KC.out W hSw))
    try simp only [Act.put, List.setIfInBounds_toArray, List.set_cons_zero, List.set_cons_succ]
    refine' wpAnyH_take (i := 39) (oi := _) (v := sv (oneS 3)) ?hir39 (by kernel_rfl) ?hfr39 ?hrr39 ?hQr39 ?hyr39 hBr4 ?restr39
    case hir39 => (simp only [List.getElem?_toArray]; rfl)
    case hfr39 => kernel_rfl
    case hrr39 => kernel_rfl
    case hQr39 => exact fun _ _ _ h => h
    case hyr39 => refine Or.inl ⟨by rfl, ?_⟩; intro W hSw; go_simp; rfl
    try simp only [Act.put, List.setIfInBounds_toArray, List.set_cons_zero, List.set_cons_succ]
    refine wpAnyH_ready (rs := [38, 40]) (by kernel_rfl) (by simp) ?_
    refine' AllReadyH.cons (o := _) ?hiy37 (fun K hK => ?_) (AllReadyH.cons (o := _) ?hiy42 (fun K hK => ?_) AllReadyH.nil)
    case hiy37 => (simp only [List.getElem?_toArray]; rfl)
    case hiy42 => (simp only [List.getElem?_toArray]; rfl)
    · skip
      go_simp
      go_at_call 11
      refine (CN.out _ hBr4).mono ?_
      rintro e Wa52 ⟨rfl, hBa51, hBa51b⟩
      refine hK.out _ _ hBa51 (fun _ => ?_)
      clear hK K
      try simp only [Act.put, List.setIfInBounds_toArray, List.set_cons_zero, List.set_cons_succ]
      refine wpAnyH_ready (rs := [40]) (by kernel_rfl) (by simp) ?_
      refine' AllReadyH.cons (o := _) ?hia40 (fun K hK => ?_) AllReadyH.nil
      case hia40 => (simp only [List.getElem?_toArray]; rfl)
      rw [if_pos (by rfl)]
      refine wp_sums _ [oneS 3] 1 rfl rfl (by simp <;> rfl) (by intro s hs; simp at hs; rw [hs]; rfl) (by omega) (by omega) ?_
      have hBa53 := Below.alloc hBa51 (Below.size hBa51) (.cells (bvs [oneS 3].flatten).toArray 24)
      have iL : InS (Wa52.alloc (.cells (bvs [oneS 3].flatten).toArray 24)) (some ⟨Wa52.heap.size, 0, none⟩) 1 (oneS 3) := by have := (In.new' Wa52 [oneS 3].flatten 24).rd; rw [show [oneS 3].flatten = oneS 3 by simp] at this ⊢; exact ⟨rfl, this⟩
      refine hK.out _ _ hBa53 (fun _ => ?_)
      clear hK K
      try simp only [Act.put, List.setIfInBounds_toArray, List.set_cons_zero, List.set_cons_succ]
      refine wpAnyH_ready (rs := [41]) (by kernel_rfl) (by simp) ?_
      refine' AllReadyH.cons (o := _) ?hia41 (fun K hK => ?_) AllReadyH.nil
      case hia41 => (simp only [List.getElem?_toArray]; rfl)
      go_simp
      go_at_call 10
      refine (CK1.out _ _ hBa53 iL).mono ?_
      rintro e Wa55 ⟨rfl, hBa54⟩
      refine hK.out _ _ hBa54 (fun _ => ?_)
      clear hK K iL
      try simp only [Act.put, List.setIfInBounds_toArray, List.set_cons_zero, List.set_cons_succ]
      refine' wpAnyH_take (i := 42) (oi := _) (v := _) ?hia42 (by kernel_rfl) ?hfa42 ?hra42 ?hQa42 ?hya42 hBa54 ?resta42
      case hia42 => (simp only [List.getElem?_toArray]; rfl)
      case hfa42 => kernel_rfl
      case hra42 => kernel_rfl
      case hQa42 => exact fun _ _ _ h => h
      case hya42 => refine Or.inl ⟨by rfl, ?_⟩; intro W hSw; go_simp; try with_reducible rfl
      try simp only [Act.put, List.setIfInBounds_toArray, List.set_cons_zero, List.set_cons_succ]
      refine' wpAnyH_take (i := 43) (oi := _) (v := _) ?hia43 (by kernel_rfl) ?hfa43 ?hra43 ?hQa43 ?hya43 hBa54 ?resta43
      case hia43 => (simp only [List.getElem?_toArray]; rfl)
      case hfa43 => kernel_rfl
      case hra43 => kernel_rfl
      case hQa43 => exact fun _ _ _ h => h
      case hya43 => refine Or.inl ⟨by rfl, ?_⟩; intro W hSw; go_simp; try with_reducible rfl
      try simp only [Act.put, List.setIfInBounds_toArray, List.set_cons_zero, List.set_cons_succ]
      refine' wpAnyH_take (i := 44) (oi := _) (v := _) ?hia44 (by kernel_rfl) ?hfa44 ?hra44 ?hQa44 ?hya44 hBa54 ?resta44
      case hia44 => (simp only [List.getElem?_toArray]; rfl)
      case hfa44 => kernel_rfl
      case hra44 => kernel_rfl
      case hQa44 => exact fun _ _ _ h => h
      case hya44 => refine Or.inl ⟨by rfl, ?_⟩; intro W hSw; go_simp; try with_reducible rfl
      try simp only [Act.put, List.setIfInBounds_toArray, List.set_cons_zero, List.set_cons_succ]
      refine' wpAnyH_take (i := 45) (oi := _) (v := _) ?hia45 (by kernel_rfl) ?hfa45 ?hra45 ?hQa45 ?hya45 hBa54 ?resta45
      case hia45 => (simp only [List.getElem?_toArray]; rfl)
      case hfa45 => kernel_rfl
      case hra45 => kernel_rfl
      case hQa45 => exact fun _ _ _ h => h
      case hya45 => refine Or.inl ⟨by rfl, ?_⟩; intro W hSw; go_simp; try with_reducible rfl
      try simp only [Act.put, List.setIfInBounds_toArray, List.set_cons_zero, List.set_cons_succ]
      refine' wpAnyH_take (i := 46) (oi := _) (v := sv ((oneS 1))) ?hia46 (by kernel_rfl) ?hfa46 ?hra46 ?hQa46 ?hya46 hBa54 ?resta46
      case hia46 => (simp only [List.getElem?_toArray]; rfl)
      case hfa46 => kernel_rfl
      case hra46 => kernel_rfl
      case hQa46 => exact fun _ _ _ h => h
      case hya46 => refine yields_sum ?_ (.tmp 87) rfl ⟨b, 0, none⟩ rfl (oneS 1) rfl (fun W hSw => (KA.out W hSw)); rfl
      try simp only [Act.put, List.setIfInBounds_toArray, List.set_cons_zero, List.set_cons_succ]
      refine' wpAnyH_take (i := 47) (oi := _) (v := _) ?hia47 (by kernel_rfl) ?hfa47 ?hra47 ?hQa47 ?hya47 hBa54 ?resta47
      case hia47 => (simp only [List.getElem?_toArray]; rfl)
      case hfa47 => kernel_rfl
      case hra47 => kernel_rfl
      case hQa47 => exact fun _ _ _ h => h
      case hya47 => refine Or.inl ⟨by rfl, ?_⟩; intro W hSw; go_simp; try with_reducible rfl
      try simp only [Act.put, List.setIfInBounds_toArray, List.set_cons_zero, List.set_cons_succ]
      refine' wpAnyH_take (i := 48) (oi := _) (v := _) ?hia48 (by kernel_rfl) ?hfa48 ?hra48 ?hQa48 ?hya48 hBa54 ?resta48
      case hia48 => (simp only [List.getElem?_toArray]; rfl)
      case hfa48 => kernel_rfl
      case hra48 => kernel_rfl
      case hQa48 => exact fun _ _ _ h => h
      case hya48 => refine Or.inl ⟨by rfl, ?_⟩; intro W hSw; go_simp; try with_reducible rfl
      try simp only [Act.put, List.setIfInBounds_toArray, List.set_cons_zero, List.set_cons_succ]
      refine' wpAnyH_take (i := 49) (oi := _) (v := sv ((oneS 1))) ?hia49 (by kernel_rfl) ?hfa49 ?hra49 ?hQa49 ?hya49 hBa54 ?resta49
      case hia49 => (simp only [List.getElem?_toArray]; rfl)
      case hfa49 => kernel_rfl
      case hra49 => kernel_rfl
      case hQa49 => exact fun _ _ _ h => h
      case hya49 => refine yields_sum ?_ (.tmp 90) rfl ⟨b, 0, none⟩ rfl (oneS 1) rfl (fun W hSw => (KA.out W hSw)); rfl
      try simp only [Act.put, List.setIfInBounds_toArray, List.set_cons_zero, List.set_cons_succ]
      refine wpAnyH_ready (rs := [50]) (by kernel_rfl) (by simp) ?_
      refine' AllReadyH.cons (o := _) ?hia50 (fun K hK => ?_) AllReadyH.nil
      case hia50 => (simp only [List.getElem?_toArray]; rfl)
      go_simp
      go_at_call 10
      refine (CK2.out _ hBa54).mono ?_
      rintro e Wa57 ⟨rfl, hBa56⟩
      refine hK.out _ _ hBa56 (fun _ => ?_)
      clear hK K
      try simp only [Act.put, List.setIfInBounds_toArray, List.set_cons_zero, List.set_cons_succ]
      refine' wpAnyH_take (i := 51) (oi := _) (v := _) ?hia51 (by kernel_rfl) ?hfa51 ?hra51 ?hQa51 ?hya51 hBa56 ?resta51
      case hia51 => (simp only [List.getElem?_toArray]; rfl)
      case hfa51 => kernel_rfl
      case hra51 => kernel_rfl
      case hQa51 => exact fun _ _ _ h => h
      case hya51 => refine Or.inl ⟨by rfl, ?_⟩; intro W hSw; go_simp; try with_reducible rfl
      try simp only [Act.put, List.setIfInBounds_toArray, List.set_cons_zero, List.set_cons_succ]
      refine' wpAnyH_take (i := 52) (oi := _) (v := _) ?hia52 (by kernel_rfl) ?hfa52 ?hra52 ?hQa52 ?hya52 hBa56 ?resta52
      case hia52 => (simp only [List.getElem?_toArray]; rfl)
      case hfa52 => kernel_rfl
      case hra52 => kernel_rfl
      case hQa52 => exact fun _ _ _ h => h
      case hya52 => refine Or.inl ⟨by rfl, ?_⟩; intro W hSw; go_simp; try with_reducible rfl
      try simp only [Act.put, List.setIfInBounds_toArray, List.set_cons_zero, List.set_cons_succ]
      refine' wpAnyH_take (i := 53) (oi := _) (v := _) ?hia53 (by kernel_rfl) ?hfa53 ?hra53 ?hQa53 ?hya53 hBa56 ?resta53
      case hia53 => (simp only [List.getElem?_toArray]; rfl)
      case hfa53 => kernel_rfl
      case hra53 => kernel_rfl
      case hQa53 => exact fun _ _ _ h => h
      case hya53 => refine Or.inl ⟨by rfl, ?_⟩; intro W hSw; go_simp; try with_reducible rfl
      try simp only [Act.put, List.setIfInBounds_toArray, List.set_cons_zero, List.set_cons_succ]
      refine' wpAnyH_take (i := 54) (oi := _) (v := _) ?hia54 (by kernel_rfl) ?hfa54 ?hra54 ?hQa54 ?hya54 hBa56 ?resta54
      case hia54 => (simp only [List.getElem?_toArray]; rfl)
      case hfa54 => kernel_rfl
      case hra54 => kernel_rfl
      case hQa54 => exact fun _ _ _ h => h
      case hya54 => refine Or.inl ⟨by rfl, ?_⟩; intro W hSw; go_simp; try with_reducible rfl
      try simp only [Act.put, List.setIfInBounds_toArray, List.set_cons_zero, List.set_cons_succ]
      refine' wpAnyH_take (i := 55) (oi := _) (v := sv ((oneS 1))) ?hia55 (by kernel_rfl) ?hfa55 ?hra55 ?hQa55 ?hya55 hBa56 ?resta55
      case hia55 => (simp only [List.getElem?_toArray]; rfl)
      case hfa55 => kernel_rfl
      case hra55 => kernel_rfl
      case hQa55 => exact fun _ _ _ h => h
      case hya55 => refine yields_sum ?_ (.tmp 96) rfl ⟨b, 0, none⟩ rfl (oneS 1) rfl (fun W hSw => (KA.out W hSw)); rfl
      try simp only [Act.put, List.setIfInBounds_toArray, List.set_cons_zero, List.set_cons_succ]
      refine' wpAnyH_take (i := 56) (oi := _) (v := _) ?hia56 (by kernel_rfl) ?hfa56 ?hra56 ?hQa56 ?hya56 hBa56 ?resta56
      case hia56 => (simp only [List.getElem?_toArray]; rfl)
      case hfa56 => kernel_rfl
      case hra56 => kernel_rfl
      case hQa56 => exact fun _ _ _ h => h
      case hya56 => refine Or.inl ⟨by rfl, ?_⟩; intro W hSw; go_simp; try with_reducible rfl
      try simp only [Act.put, List.setIfInBounds_toArray, List.set_cons_zero, List.set_cons_succ]
      refine' wpAnyH_take (i := 57) (oi := _) (v := _) ?hia57 (by kernel_rfl) ?hfa57 ?hra57 ?hQa57 ?hya57 hBa56 ?resta57
      case hia57 => (simp only [List.getElem?_toArray]; rfl)
      case hfa57 => kernel_rfl
      case hra57 => kernel_rfl
      case hQa57 => exact fun _ _ _ h => h
      case hya57 => refine Or.inl ⟨by rfl, ?_⟩; intro W hSw; go_simp; try with_reducible rfl
      try simp only [Act.put, List.setIfInBounds_toArray, List.set_cons_zero, List.set_cons_succ]
      refine' wpAnyH_take (i := 58) (oi := _) (v := sv ((oneS 1))) ?hia58 (by kernel_rfl) ?hfa58 ?hra58 ?hQa58 ?hya58 hBa56 ?resta58
      case hia58 => (simp only [List.getElem?_toArray]; rfl)
      case hfa58 => kernel_rfl
      case hra58 => kernel_rfl
      case hQa58 => exact fun _ _ _ h => h
      case hya58 => refine yields_sum ?_ (.tmp 99) rfl ⟨b, 0, none⟩ rfl (oneS 1) rfl (fun W hSw => (KA.out W hSw)); rfl
      try simp only [Act.put, List.setIfInBounds_toArray, List.set_cons_zero, List.set_cons_succ]
      refine wpAnyH_ready (rs := [59]) (by kernel_rfl) (by simp) ?_
      refine' AllReadyH.cons (o := _) ?hia59 (fun K hK => ?_) AllReadyH.nil
      case hia59 => (simp only [List.getElem?_toArray]; rfl)
      go_simp
      go_at_call 10
      refine (CK3.out _ hBa56).mono ?_
      rintro e Wa59 ⟨rfl, hBa58⟩
      refine hK.out _ _ hBa58 (fun _ => ?_)
      clear hK K
      try simp only [Act.put, List.setIfInBounds_toArray, List.set_cons_zero, List.set_cons_succ]
      refine' wpAnyH_take (i := 60) (oi := _) (v := _) ?hia60 (by kernel_rfl) ?hfa60 ?hra60 ?hQa60 ?hya60 hBa58 ?resta60
      case hia60 => (simp only [List.getElem?_toArray]; rfl)
      case hfa60 => kernel_rfl
      case hra60 => kernel_rfl
      case hQa60 => exact fun _ _ _ h => h
      case hya60 => refine Or.inl ⟨by rfl, ?_⟩; intro W hSw; go_simp; try with_reducible rfl
      try simp only [Act.put, List.setIfInBounds_toArray, List.set_cons_zero, List.set_cons_succ]
      refine' wpAnyH_take (i := 61) (oi := _) (v := _) ?hia61 (by kernel_rfl) ?hfa61 ?hra61 ?hQa61 ?hya61 hBa58 ?resta61
      case hia61 => (simp only [List.getElem?_toArray]; rfl)
      case hfa61 => kernel_rfl
      case hra61 => kernel_rfl
      case hQa61 => exact fun _ _ _ h => h
      case hya61 => refine Or.inl ⟨by rfl, ?_⟩; intro W hSw; go_simp; try with_reducible rfl
      try simp only [Act.put, List.setIfInBounds_toArray, List.set_cons_zero, List.set_cons_succ]
      refine' wpAnyH_take (i := 62) (oi := _) (v := _) ?hia62 (by kernel_rfl) ?hfa62 ?hra62 ?hQa62 ?hya62 hBa58 ?resta62
      case hia62 => (simp only [List.getElem?_toArray]; rfl)
      case hfa62 => kernel_rfl
      case hra62 => kernel_rfl
      case hQa62 => exact fun _ _ _ h => h
      case hya62 => refine Or.inl ⟨by rfl, ?_⟩; intro W hSw; go_simp; try with_reducible rfl
      try simp only [Act.put, List.setIfInBounds_toArray, List.set_cons_zero]
      refine wpAnyH_done (by kernel_rfl) ?_ _
      go_wp2
      go_ret
      rw [HB0.out]
      exact ⟨rfl, BL.out _ hBa58⟩
    · skip
      rw [if_pos (by rfl)]
      refine wp_sums _ [oneS 3] 1 rfl rfl (by simp <;> rfl) (by intro s hs; simp at hs; rw [hs]; rfl) (by omega) (by omega) ?_
      have hBc51 := Below.alloc hBr4 (Below.size hBr4) (.cells (bvs [oneS 3].flatten).toArray 24)
      have iL : InS (WS17.alloc (.cells (bvs [oneS 3].flatten).toArray 24)) (some ⟨WS17.heap.size, 0, none⟩) 1 (oneS 3) := by have := (In.new' WS17 [oneS 3].flatten 24).rd; rw [show [oneS 3].flatten = oneS 3 by simp] at this ⊢; exact ⟨rfl, this⟩
      refine hK.out _ _ hBc51 (fun _ => ?_)
      clear hK K
      try simp only [Act.put, List.setIfInBounds_toArray, List.set_cons_zero, List.set_cons_succ]
      refine wpAnyH_ready (rs := [38]) (by kernel_rfl) (by simp) ?_
      refine' AllReadyH.cons (o := _) ?hic38 (fun K hK => ?_) AllReadyH.nil
      case hic38 => (simp only [List.getElem?_toArray]; rfl)
      go_simp
      go_at_call 11
      refine (CN.out _ hBc51).mono ?_
      rintro e Wc53 ⟨rfl, hBc52, hBc52b⟩
      have iL := iL.below hBc52b
      refine hK.out _ _ hBc52 (fun _ => ?_)
      clear hK K
      try simp only [Act.put, List.setIfInBounds_toArray, List.set_cons_zero, List.set_cons_succ]
      refine wpAnyH_ready (rs := [41]) (by kernel_rfl) (by simp) ?_
      refine' AllReadyH.cons (o := _) ?hic41 (fun K hK => ?_) AllReadyH.nil
      case hic41 => (simp only [List.getElem?_toArray]; rfl)
      go_simp
      go_at_call 10
      refine (CK1.out _ _ hBc52 iL).mono ?_
      rintro e Wc55 ⟨rfl, hBc54⟩
      refine hK.out _ _ hBc54 (fun _ => ?_)
      clear hK K iL
      try simp only [Act.put, List.setIfInBounds_toArray, List.set_cons_zero, List.set_cons_succ]
      refine' wpAnyH_take (i := 42) (oi := _) (v := _) ?hic42 (by kernel_rfl) ?hfc42 ?hrc42 ?hQc42 ?hyc42 hBc54 ?restc42
      case hic42 => (simp only [List.getElem?_toArray]; rfl)
      case hfc42 => kernel_rfl
      case hrc42 => kernel_rfl
      case hQc42 => exact fun _ _ _ h => h
      case hyc42 => refine Or.inl ⟨by rfl, ?_⟩; intro W hSw; go_simp; try with_reducible rfl
      try simp only [Act.put, List.setIfInBounds_toArray, List.set_cons_zero, List.set_cons_succ]
      refine' wpAnyH_take (i := 43) (oi := _) (v := _) ?hic43 (by kernel_rfl) ?hfc43 ?hrc43 ?hQc43 ?hyc43 hBc54 ?restc43
      case hic43 => (simp only [List.getElem?_toArray]; rfl)
      case hfc43 => kernel_rfl
      case hrc43 => kernel_rfl
      case hQc43 => exact fun _ _ _ h => h
      case hyc43 => refine Or.inl ⟨by rfl, ?_⟩; intro W hSw; go_simp; try with_reducible rfl
      try simp only [Act.put, List.setIfInBounds_toArray, List.set_cons_zero, List.set_cons_succ]
      refine' wpAnyH_take (i := 44) (oi := _) (v := _) ?hic44 (by kernel_rfl) ?hfc44 ?hrc44 ?hQc44 ?hyc44 hBc54 ?restc44
      case hic44 => (simp only [List.getElem?_toArray]; rfl)
      case hfc44 => kernel_rfl
      case hrc44 => kernel_rfl
      case hQc44 => exact fun _ _ _ h => h
      case hyc44 => refine Or.inl ⟨by rfl, ?_⟩; intro W hSw; go_simp; try with_reducible rfl
      try simp only [Act.put, List.setIfInBounds_toArray, List.set_cons_zero, List.set_cons_succ]
      refine' wpAnyH_take (i := 45) (oi := _) (v := _) ?hic45 (by kernel_rfl) ?hfc45 ?hrc45 ?hQc45 ?hyc45 hBc54 ?restc45
      case hic45 => (simp only [List.getElem?_toArray]; rfl)
      case hfc45 => kernel_rfl
      case hrc45 => kernel_rfl
      case hQc45 => exact fun _ _ _ h => h
      case hyc45 => refine Or.inl ⟨by rfl, ?_⟩; intro W hSw; go_simp; try with_reducible rfl
      try simp only [Act.put, List.setIfInBounds_toArray, List.set_cons_zero, List.set_cons_succ]
      refine' wpAnyH_take (i := 46) (oi := _) (v := sv ((oneS 1))) ?hic46 (by kernel_rfl) ?hfc46 ?hrc46 ?hQc46 ?hyc46 hBc54 ?restc46
      case hic46 => (simp only [List.getElem?_toArray]; rfl)
      case hfc46 => kernel_rfl
      case hrc46 => kernel_rfl
      case hQc46 => exact fun _ _ _ h => h
      case hyc46 => refine yields_sum ?_ (.tmp 87) rfl ⟨b, 0, none⟩ rfl (oneS 1) rfl (fun W hSw => (KA.out W hSw)); rfl
      try simp only [Act.put, List.setIfInBounds_toArray, List.set_cons_zero, List.set_cons_succ]
      refine' wpAnyH_take (i := 47) (oi := _) (v := _) ?hic47 (by kernel_rfl) ?hfc47 ?hrc47 ?hQc47 ?hyc47 hBc54 ?restc47
      case hic47 => (simp only [List.getElem?_toArray]; rfl)
      case hfc47 => kernel_rfl
      case hrc47 => kernel_rfl
      case hQc47 => exact fun _ _ _ h => h
      case hyc47 => refine Or.inl ⟨by rfl, ?_⟩; intro W hSw; go_simp; try with_reducible rfl
      try simp only [Act.put, List.setIfInBounds_toArray, List.set_cons_zero, List.set_cons_succ]
      refine' wpAnyH_take (i := 48) (oi := _) (v := _) ?hic48 (by kernel_rfl) ?hfc48 ?hrc48 ?hQc48 ?hyc48 hBc54 ?restc48
      case hic48 => (simp only [List.getElem?_toArray]; rfl)
      case hfc48 => kernel_rfl
      case hrc48 => kernel_rfl
      case hQc48 => exact fun _ _ _ h => h
      case hyc48 => refine Or.inl ⟨by rfl, ?_⟩; intro W hSw; go_simp; try with_reducible rfl
      try simp only [Act.put, List.setIfInBounds_toArray, List.set_cons_zero, List.set_cons_succ]
      refine' wpAnyH_take (i := 49) (oi := _) (v := sv ((oneS 1))) ?hic49 (by kernel_rfl) ?hfc49 ?hrc49 ?hQc49 ?hyc49 hBc54 ?restc49
      case hic49 => (simp only [List.getElem?_toArray]; rfl)
      case hfc49 => kernel_rfl
      case hrc49 => kernel_rfl
      case hQc49 => exact fun _ _ _ h => h
      case hyc49 => refine yields_sum ?_ (.tmp 90) rfl ⟨b, 0, none⟩ rfl (oneS 1) rfl (fun W hSw => (KA.out W hSw)); rfl
      try simp only [Act.put, List.setIfInBounds_toArray, List.set_cons_zero, List.set_cons_succ]
      refine wpAnyH_ready (rs := [50]) (by kernel_rfl) (by simp) ?_
      refine' AllReadyH.cons (o := _) ?hic50 (fun K hK => ?_) AllReadyH.nil
      case hic50 => (simp only [List.getElem?_toArray]; rfl)
      go_simp
      go_at_call 10
      refine (CK2.out _ hBc54).mono ?_
      rintro e Wc57 ⟨rfl, hBc56⟩
      refine hK.out _ _ hBc56 (fun _ => ?_)
      clear hK K
      try simp only [Act.put, List.setIfInBounds_toArray, List.set_cons_zero, List.set_cons_succ]
      refine' wpAnyH_take (i := 51) (oi := _) (v := _) ?hic51 (by kernel_rfl) ?hfc51 ?hrc51 ?hQc51 ?hyc51 hBc56 ?restc51
      case hic51 => (simp only [List.getElem?_toArray]; rfl)
      case hfc51 => kernel_rfl
      case hrc51 => kernel_rfl
      case hQc51 => exact fun _ _ _ h => h
      case hyc51 => refine Or.inl ⟨by rfl, ?_⟩; intro W hSw; go_simp; try with_reducible rfl
      try simp only [Act.put, List.setIfInBounds_toArray, List.set_cons_zero, List.set_cons_succ]
      refine' wpAnyH_take (i := 52) (oi := _) (v := _) ?hic52 (by kernel_rfl) ?hfc52 ?hrc52 ?hQc52 ?hyc52 hBc56 ?restc52
      case hic52 => (simp only [List.getElem?_toArray]; rfl)
      case hfc52 => kernel_rfl
      case hrc52 => kernel_rfl
      case hQc52 => exact fun _ _ _ h => h
      case hyc52 => refine Or.inl ⟨by rfl, ?_⟩; intro W hSw; go_simp; try with_reducible rfl
      try simp only [Act.put, List.setIfInBounds_toArray, List.set_cons_zero, List.set_cons_succ]
      refine' wpAnyH_take (i := 53) (oi := _) (v := _) ?hic53 (by kernel_rfl) ?hfc53 ?hrc53 ?hQc53 ?hyc53 hBc56 ?restc53
      case hic53 => (simp only [List.getElem?_toArray]; rfl)
      case hfc53 => kernel_rfl
      case hrc53 => kernel_rfl
      case hQc53 => exact fun _ _ _ h => h
      case hyc53 => refine Or.inl ⟨by rfl, ?_⟩; intro W hSw; go_simp; try with_reducible rfl
      try simp only [Act.put, List.setIfInBounds_toArray, List.set_cons_zero, List.set_cons_succ]
      refine' wpAnyH_take (i := 54) (oi := _) (v := _) ?hic54 (by kernel_rfl) ?hfc54 ?hrc54 ?hQc54 ?hyc54 hBc56 ?restc54
      case hic54 => (simp only [List.getElem?_toArray]; rfl)
      case hfc54 => kernel_rfl
      case hrc54 => kernel_rfl
      case hQc54 => exact fun _ _ _ h => h
      case hyc54 => refine Or.inl ⟨by rfl, ?_⟩; intro W hSw; go_simp; try with_reducible rfl
      try simp only [Act.put, List.setIfInBounds_toArray, List.set_cons_zero, List.set_cons_succ]
      refine' wpAnyH_take (i := 55) (oi := _) (v := sv ((oneS 1))) ?hic55 (by kernel_rfl) ?hfc55 ?hrc55 ?hQc55 ?hyc55 hBc56 ?restc55
      case hic55 => (simp only [List.getElem?_toArray]; rfl)
      case hfc55 => kernel_rfl
      case hrc55 => kernel_rfl
      case hQc55 => exact fun _ _ _ h => h
      case hyc55 => refine yields_sum ?_ (.tmp 96) rfl ⟨b, 0, none⟩ rfl (oneS 1) rfl (fun W hSw => (KA.out W hSw)); rfl
      try simp only [Act.put, List.setIfInBounds_toArray, List.set_cons_zero, List.set_cons_succ]
      refine' wpAnyH_take (i := 56) (oi := _) (v := _) ?hic56 (by kernel_rfl) ?hfc56 ?hrc56 ?hQc56 ?hyc56 hBc56 ?restc56
      case hic56 => (simp only [List.getElem?_toArray]; rfl)
      case hfc56 => kernel_rfl
      case hrc56 => kernel_rfl
      case hQc56 => exact fun _ _ _ h => h
      case hyc56 => refine Or.inl ⟨by rfl, ?_⟩; intro W hSw; go_simp; try with_reducible rfl
      try simp only [Act.put, List.setIfInBounds_toArray, List.set_cons_zero, List.set_cons_succ]
      refine' wpAnyH_take (i := 57) (oi := _) (v := _) ?hic57 (by kernel_rfl) ?hfc57 ?hrc57 ?hQc57 ?hyc57 hBc56 ?restc57
      case hic57 => (simp only [List.getElem?_toArray]; rfl)
      case hfc57 => kernel_rfl
      case hrc57 => kernel_rfl
      case hQc57 => exact fun _ _ _ h => h
      case hyc57 => refine Or.inl ⟨by rfl, ?_⟩; intro W hSw; go_simp; try with_reducible rfl
      try simp only [Act.put, List.setIfInBounds_toArray, List.set_cons_zero, List.set_cons_succ]
      refine' wpAnyH_take (i := 58) (oi := _) (v := sv ((oneS 1))) ?hic58 (by kernel_rfl) ?hfc58 ?hrc58 ?hQc58 ?hyc58 hBc56 ?restc58
      case hic58 => (simp only [List.getElem?_toArray]; rfl)
      case hfc58 => kernel_rfl
      case hrc58 => kernel_rfl
      case hQc58 => exact fun _ _ _ h => h
      case hyc58 => refine yields_sum ?_ (.tmp 99) rfl ⟨b, 0, none⟩ rfl (oneS 1) rfl (fun W hSw => (KA.out W hSw)); rfl
      try simp only [Act.put, List.setIfInBounds_toArray, List.set_cons_zero, List.set_cons_succ]
      refine wpAnyH_ready (rs := [59]) (by kernel_rfl) (by simp) ?_
      refine' AllReadyH.cons (o := _) ?hic59 (fun K hK => ?_) AllReadyH.nil
      case hic59 => (simp only [List.getElem?_toArray]; rfl)
      go_simp
      go_at_call 10
      refine (CK3.out _ hBc56).mono ?_
      rintro e Wc59 ⟨rfl, hBc58⟩
      refine hK.out _ _ hBc58 (fun _ => ?_)
      clear hK K
      try simp only [Act.put, List.setIfInBounds_toArray, List.set_cons_zero, List.set_cons_succ]
      refine' wpAnyH_take (i := 60) (oi := _) (v := _) ?hic60 (by kernel_rfl) ?hfc60 ?hrc60 ?hQc60 ?hyc60 hBc58 ?restc60
      case hic60 => (simp only [List.getElem?_toArray]; rfl)
      case hfc60 => kernel_rfl
      case hrc60 => kernel_rfl
      case hQc60 => exact fun _ _ _ h => h
      case hyc60 => refine Or.inl ⟨by rfl, ?_⟩; intro W hSw; go_simp; try with_reducible rfl
      try simp only [Act.put, List.setIfInBounds_toArray, List.set_cons_zero, List.set_cons_succ]
      refine' wpAnyH_take (i := 61) (oi := _) (v := _) ?hic61 (by kernel_rfl) ?hfc61 ?hrc61 ?hQc61 ?hyc61 hBc58 ?restc61
      case hic61 => (simp only [List.getElem?_toArray]; rfl)
      case hfc61 => kernel_rfl
      case hrc61 => kernel_rfl
      case hQc61 => exact fun _ _ _ h => h
      case hyc61 => refine Or.inl ⟨by rfl, ?_⟩; intro W hSw; go_simp; try with_reducible rfl
      try simp only [Act.put, List.setIfInBounds_toArray, List.set_cons_zero, List.set_cons_succ]
      refine' wpAnyH_take (i := 62) (oi := _) (v := _) ?hic62 (by kernel_rfl) ?hfc62 ?hrc62 ?hQc62 ?hyc62 hBc58 ?restc62
      case hic62 => (simp only [List.getElem?_toArray]; rfl)
      case hfc62 => kernel_rfl
      case hrc62 => kernel_rfl
      case hQc62 => exact fun _ _ _ h => h
      case hyc62 => refine Or.inl ⟨by rfl, ?_⟩; intro W hSw; go_simp; try with_reducible rfl
      try simp only [Act.put, List.setIfInBounds_toArray, List.set_cons_zero]
      refine wpAnyH_done (by kernel_rfl) ?_ _
      go_wp2
      go_ret
      rw [HB0.out]
      exact ⟨rfl, BL.out _ hBc58⟩

end Go.Proofs.YtilgikhdamkeoaaDoor

/-
  An argument that is an array of bytes.
-/
namespace Go.Proofs.YtilgikhdamkeoaaDoor
open Go.ChangeShapes Go.WideShapes Go.ChangeAt Go.RowKit

/-- A value as a byte. -/
def byteOf : Value → Nat
  | .int _ z => z.toNat
  | _ => 0

theorem came_arr {H : Type} {enc : TypeId × Value → H} {P : Program} {W : World} {base b0 n : Nat} {spare : Nat → Bool} {held : Bool} {r : Reach} {t e : TypeId} {v : Value} {d : DataW H} {ps : List MemPlace}
    (ht : P.underlying t = some (.array n e)) (he : P.underlying e = some (.int .u8)) (hc : P.cellsOf e = 1) (hct : P.cellsOf t = n)
    (hval : Value.okWide P W r b0 t v) (hd : DataW.Trod enc P W base spare held t v d ps) : ∃ xs : List Nat, v = .agg (bvs xs).toArray ∧ xs.length = n ∧ ∀ x ∈ xs, x < 256 := by
  simp only [Value.okWide, ht] at hval
  obtain ⟨cs, rfl, hsz, _⟩ := hval
  rw [hct] at hsz
  obtain ⟨fuel, hf⟩ := hd
  obtain ⟨xs, m, rfl, _, _, hlen, hp⟩ := DataW.trod_array ht hf
  have hx : ∀ i, i < n → ∃ z : Nat, z < 256 ∧ cs.toList[i]? = some (bv z) := fun i hi => by
    have h1 := hp i hi
    rw [List.getElem?_eq_getElem (by omega)] at h1
    obtain ⟨z, hz, _, hw⟩ := DataW.trod_int he h1
    rw [hc, Nat.mul_one] at hz
    have hb := bounds_u8 hw
    obtain ⟨z, rfl⟩ := Int.eq_ofNat_of_zero_le hb.1
    refine ⟨z, by omega, ?_⟩
    have : (List.take 1 (List.drop i cs.toList))[0]? = some (.int .u8 (z : Int)) := by simp only [Value.cells] at hz; rw [hz]; rfl
    rw [List.getElem?_take, if_pos (by omega), List.getElem?_drop, Nat.add_zero] at this
    exact this
  have hl : cs.toList.length = n := by simpa using hsz
  refine ⟨cs.toList.map byteOf, ?_, by rw [List.length_map, hl], fun x hxm => ?_⟩
  · congr 1
    apply Array.ext'
    rw [List.toList_toArray]
    apply List.ext_getElem?
    intro i
    rw [bvs_get, List.getElem?_map]
    by_cases hi : i < n
    · obtain ⟨z, _, hz⟩ := hx i hi
      rw [hz]; rfl
    · rw [List.getElem?_eq_none (by omega)]; rfl
  · obtain ⟨v, hv, rfl⟩ := List.mem_map.1 hxm
    obtain ⟨i, hi⟩ := List.mem_iff_getElem?.1 hv
    obtain ⟨z, hz, hz2⟩ := hx i (by rw [← hl]; exact (List.getElem?_eq_some_iff.1 hi).1)
    rw [hi] at hz2
    cases hz2
    exact hz

end Go.Proofs.YtilgikhdamkeoaaDoor

/-
  almonerlaw11.LinksBack.
-/
namespace Go.Proofs.YtilgikhdamkeoaaDoor
open Go.RowKit

section
variable {w : World} {ys s : List Nat} {z n c : Nat} {A : Option Addr} {E : Addr}

set_option maxRecDepth 100000 in
set_option maxHeartbeats 4000000 in
theorem kback_else (hk : Knows w) (hs : Starts w) (hm : Miss w E) (h : n = 0 ∨ 150 < n) :
    Calls Tryd.prog 3 #[.slice A n c, .int .u8 (z : Int), .agg (bvs s).toArray] w fun e w' => e = .returned (.bool true) ∧ Below w.heap.size w w' := by
  obtain ⟨w1, hw1⟩ : ∃ w1, w1 = w.alloc (.cells (bvs s).toArray 24) := ⟨_, rfl⟩
  have b1 : Below w.heap.size w w1 := by rw [hw1]; exact below_alloc _ _
  have CA := Lib.hid (kalive_any w1 E (hk.below b1) (hs.below b1) (hm.below b1))
  have HB := Lib.hid b1
  have HW := Lib.hid hw1
  clear hw1 b1 hk hs hm
  by_cases h0 : n = 0
  · subst h0
    go_enter Tryd.func3, Tryd.ntmps3
    go_upto_region 1 with fail
    rw [← HW.out]
    go_wp2_with fail
    refine CA.out.mono ?_
    rintro e w2 ⟨rfl, hb2⟩
    go_wp2_with fail
    go_ret
    exact ⟨rfl, below_on HB.out (Nat.le_refl _) hb2⟩
  · have n0 : ((n : Int) == 0) = false := by simp; omega
    have n1 : (150 : Int) < (n : Int) := by omega
    go_enter Tryd.func3, Tryd.ntmps3
    go_upto_region 1 with fail
    rw [← HW.out]
    go_wp2_with fail
    refine CA.out.mono ?_
    rintro e w2 ⟨rfl, hb2⟩
    go_wp2_with fail
    go_ret
    exact ⟨rfl, below_on HB.out (Nat.le_refl _) hb2⟩

/-- What the link says of the beginning; with one more, with one fewer. -/
theorem link_in (h : ys.length = 32 * n) {k d : Nat} (h1 : 1 ≤ k) (hk : k ≤ n) (hd : ldep k n true = d) : begins (linkL (nth ys) 0 n k true).flatten (rt (nth ys) 0 k) (rt (nth ys) 0 n) d k n = true := by
  have hl := linkL_len32 (nth ys) n 0 k true (fun j hj => by rw [Nat.zero_add]; exact nth_length h hj)
  have := link_back (nth ys) (nth (linkL (nth ys) 0 n k true).flatten) (rt (nth ys) 0 k) n 0 k 0 true h1 hk (fun _ => rfl) (fun j x hx => by rw [Nat.zero_add]; exact nth_flatten _ hl j x hx)
  unfold begins
  rw [this, decide_eq_true (show 1 ≤ k ∧ k ≤ n from ⟨h1, hk⟩), decide_eq_true hd]
  simp
theorem link_not {k d m : Nat} (P a R : List Nat) (hd : ldep k n true = d) (hm : m ≠ d) : begins P a R m k n = false := by
  unfold begins
  rw [decide_eq_false (p := ldep k n true = m) (by omega)]
  simp
theorem link_lt (hy : ∀ x ∈ ys, x < 256) (n k : Nat) (edge : Bool) : ∀ x ∈ (linkL (nth ys) 0 n k edge).flatten, x < 256 := by
  intro x hx
  obtain ⟨q, hq, hxq⟩ := List.mem_flatten.1 hx
  exact linkL_of (P := fun q => ∀ x ∈ q, x < 256) (nth ys) n 0 k edge (fun i m => rt_lt _ i m fun _ _ => nth_lt hy _) q hq x hxq

end
end Go.Proofs.YtilgikhdamkeoaaDoor

/-
  almonerlaw11.LinksChain.
-/
namespace Go.Proofs.YtilgikhdamkeoaaDoor
open Go.RowKit

theorem kwrap64t {j : Nat} (h : j ≤ 65536) : wrap64 ((j : Int) + 1) = (j : Int) + 1 := by simp only [wrap64]; omega

section
variable {w : World} {ys xs : List Nat} {n c m c' : Nat} {A B : Option Addr} {E : Addr}

set_option maxRecDepth 100000 in
set_option maxHeartbeats 4000000 in
theorem kchain_else (hk : Knows w) (hs : Starts w) (hm : Miss w E) (h : n = 0 ∨ 60 < n ∨ 20 < m) :
    Calls Tryd.prog 4 #[.slice A n c, .slice B m c'] w fun e w' => e = .returned (.bool true) ∧ Below w.heap.size w w' := by
  have CA := Lib.hid (kalive_any w E hk hs hm)
  clear hk hs hm
  by_cases h0 : n = 0
  · subst h0
    go_enter Tryd.func4, Tryd.ntmps4
    go_wp2_with fail
    refine CA.out.mono ?_
    rintro e w2 ⟨rfl, hb2⟩
    go_wp2_with fail
    go_ret
    exact ⟨rfl, hb2⟩
  · have n0 : ((n : Int) == 0) = false := by simp; omega
    by_cases h1 : 60 < n
    · have n1 : (60 : Int) < (n : Int) := by omega
      go_enter Tryd.func4, Tryd.ntmps4
      go_wp2_with fail
      refine CA.out.mono ?_
      rintro e w2 ⟨rfl, hb2⟩
      go_wp2_with fail
      go_ret
      exact ⟨rfl, hb2⟩
    · have n1 : ¬ (60 : Int) < (n : Int) := by omega
      have n3 : decide ((60 : Int) < (n : Int)) = false := by simp; omega
      have n2 : (20 : Int) < (m : Int) := by omega
      go_enter Tryd.func4, Tryd.ntmps4
      go_wp2_with fail
      refine CA.out.mono ?_
      rintro e w2 ⟨rfl, hb2⟩
      go_wp2_with fail
      go_ret
      exact ⟨rfl, hb2⟩

set_option maxRecDepth 100000 in
set_option maxHeartbeats 8000000 in
theorem kchain_main (hk : Knows w) (hs : Starts w) (hm : Miss w E) (cm : CameS w A n c ys) (cx : Came w B m c' xs) (h0 : 0 < n) (hn : n ≤ 60) (hm2 : m ≤ 20) :
    Calls Tryd.prog 4 #[.slice A n c, .slice B m c'] w fun e w' => e = .returned (.bool true) ∧ Below w.heap.size w w' := by
  obtain ⟨ad, hA⟩ := cm.in_.some_ h0
  subst hA
  have n0 : ((n : Int) == 0) = false := by simp; omega
  have n1 : ¬ (60 : Int) < (n : Int) := by omega
  have n3 : decide ((60 : Int) < (n : Int)) = false := by simp; omega
  have n2 : ¬ (20 : Int) < (m : Int) := by omega
  have HK := Lib.hid (And.intro hk (And.intro hs hm))
  have HC := Lib.hid (And.intro cm (And.intro cx (And.intro h0 (And.intro hn hm2))))
  clear hk hs hm cm cx h0 hn hm2
  go_enter Tryd.func4, Tryd.ntmps4
  go_wp2_with fail
  go_loopw [5, 6, 7, 8, 9] (fun a i _ _ _ wr => ∃ at_ j : Nat, a = .int .i64 (at_ : Int) ∧ i = .int .i64 (j : Int) ∧ Hid (1 ≤ at_ ∧ at_ ≤ n ∧ j ≤ m ∧ Below w.heap.size w wr)) (fun _ i _ _ _ _ => m - (intOf i).toNat)
  case atStart => exact ⟨1, 0, rfl, rfl, Lib.hid ⟨Nat.le_refl _, HC.out.2.2.1, Nat.zero_le _, Below.refl _ _⟩⟩
  case round =>
    obtain ⟨at_, j, rfl, rfl, HR⟩ := hrel
    by_cases hlt : j < m
    · have hji : (j : Int) < (m : Int) := by omega
      have hj0 : (0 : Int) ≤ (j : Int) := by omega
      obtain ⟨ha1, han, _, hbw⟩ := HR.out
      have hn60 : n ≤ 60 := HC.out.2.2.2.1
      have hjm : j < 20 := by have := HC.out.2.2.2.2; omega
      obtain ⟨y, hy⟩ : ∃ y, xs[j]? = some y := ⟨_, List.getElem?_eq_getElem (by rw [HC.out.2.1.in_.len]; exact hlt)⟩
      have hy256 : y < 256 := HC.out.2.1.lt y (List.mem_of_getElem? hy)
      obtain ⟨adx, hB, hcy⟩ := (HC.out.2.1.in_.below hbw).rd j y hy
      subst hB
      have hcy1 : wr.cell? (adx.add j) = some (.int .u8 (y : Int)) := hcy
      obtain ⟨p, hp⟩ : ∃ p, n - at_ = p := ⟨_, rfl⟩
      obtain ⟨q, hq⟩ : ∃ q, p + 1 = q := ⟨_, rfl⟩
      obtain ⟨r, hr⟩ : ∃ r, y % q = r := ⟨_, rfl⟩
      have hrq : r < q := by rw [← hr]; exact Nat.mod_lt _ (by omega)
      obtain ⟨tz, hto⟩ : ∃ tz, at_ + r = tz := ⟨_, rfl⟩
      have hton : tz ≤ n := by omega
      have hato : at_ ≤ tz := by omega
      have e1 : (n : Int) - (at_ : Int) = (p : Int) := by omega
      have e2 : (p : Int) + 1 = (q : Int) := by omega
      have e3 : (at_ : Int) + (r : Int) = (tz : Int) := by omega
      have ht : Int.tmod (y : Int) (q : Int) = (r : Int) := by rw [Int.tmod_eq_emod_of_nonneg (by omega), ← hr]; rfl
      have hq0 : ¬ (q : Int) = 0 := by omega
      have wau : IntKind.u64.wrap (at_ : Int) = (at_ : Int) := by rw [IntKind.wrap_u64]; omega
      have wtu : IntKind.u64.wrap (tz : Int) = (tz : Int) := by rw [IntKind.wrap_u64]; omega
      have wy : IntKind.i64.wrap (y : Int) = (y : Int) := kwrapI (by omega)
      have hp65 : p ≤ 65536 := by omega
      have hq65 : q ≤ 65536 := by omega
      have hto65 : tz ≤ 65536 := by omega
      have HWJ := Lib.hid (kwrap64t (j := j) (by omega))
      have HT := Lib.hid (And.intro ha1 (And.intro hato (And.intro hton (And.intro hlt hn60))))
      have hk := HK.out.1.below hbw
      have hs := HK.out.2.1.below hbw
      have cin := HC.out.1.in_.below hbw
      have cap := HC.out.1.cap
      have ylt := HC.out.1.lt
      have i2 := cin.take hton
      have ilt : ∀ x ∈ ys.take (32 * tz), x < 256 := fun x hx => ylt x (List.mem_of_mem_take hx)
      obtain ⟨d, hd0⟩ : ∃ d, ldep at_ tz true = d := ⟨_, rfl⟩
      have C4 := kof_yes (w := wr) (from_ := at_) (c := c) i2 ilt (by omega) (by omega) ha1 hato hk hs
      have hin := link_in i2.len ha1 hato hd0
      rw [rt_take, rt_congr (nth (ys.take (32 * tz))) (nth ys) at_ 0 0 (fun i hi => by rw [Nat.zero_add]; exact nth_take (by omega))] at hin
      have hPb := link_lt ilt tz at_ true
      obtain ⟨P, hP⟩ : ∃ P, (linkL (nth (ys.take (32 * tz))) 0 tz at_ true).flatten = P := ⟨_, rfl⟩
      obtain ⟨R, hR⟩ : ∃ R, rt (nth ys) 0 tz = R := ⟨_, rfl⟩
      obtain ⟨Y, hY⟩ : ∃ Y, rt (nth ys) 0 at_ = Y := ⟨_, rfl⟩
      have hRl : R.length = 32 := by rw [← hR]; exact rt_length _ 0 tz fun j hj => by rw [Nat.zero_add]; exact nth_length cin.len (by omega)
      have hYl : Y.length = 32 := by rw [← hY]; exact rt_length _ 0 at_ fun j hj => by rw [Nat.zero_add]; exact nth_length cin.len (by omega)
      have hYb : ∀ x ∈ Y, x < 256 := by rw [← hY]; exact rt_lt _ 0 at_ fun _ _ => nth_lt ylt _
      rw [hP, hR, hY] at hin
      rw [hP] at hPb
      rw [hP, hd0] at C4
      have hd64 : d ≤ 100 := by rw [← hd0]; exact Nat.le_trans (ldep_64 (by omega) at_ true) (by omega)
      have CR := Lib.hid (fun (W : World) (hW : Below w.heap.size w W) => (root_any (some ad) tz c (ys.take (32 * tz)) W ((HC.out.1.in_.take hton).below hW) ilt (by omega) (by omega) (HK.out.1.below hW) (HK.out.2.1.below hW)).mono (R' := fun e w' => e = .returned (sv R) ∧ Below W.heap.size W w') fun e w' ⟨he, hb⟩ => ⟨by rw [he, rt_take, hR], hb⟩)
      have CY := Lib.hid (fun (W : World) (hW : Below w.heap.size w W) => (root_any (some ad) at_ c (ys.take (32 * at_)) W ((HC.out.1.in_.take han).below hW) (fun x hx => ylt x (List.mem_of_mem_take hx)) (by omega) (by omega) (HK.out.1.below hW) (HK.out.2.1.below hW)).mono (R' := fun e w' => e = .returned (sv Y) ∧ Below W.heap.size W w') fun e w' ⟨he, hb⟩ => ⟨by rw [he, rt_take, hY], hb⟩)
      have CK := Lib.hid (fun (W : World) (B : Option Addr) (cB : Nat) (hW : Below w.heap.size w W) (hi : InS W B d P) (hc : d ≤ cB) => (kcheck_any (w := W) (A := B) (c := cB) (n := d) (ys := P) (a := Y) (b := R) (from_ := at_) (size := tz) hi hPb hc (by omega) hYl hYb hRl (by omega) (HK.out.1.below hW) (HK.out.2.1.below hW) (HK.out.2.2.below hW)).mono (R' := fun e w' => e = .returned (.bool true) ∧ Below W.heap.size W w') fun e w' ⟨he, hb⟩ => ⟨by rw [he, hin], hb⟩)
      have HC4 := Lib.hid C4
      have hcut1 := run_take_sums (ad := ad) (n := n) (c := c) (k := tz) hton cap
      have hcut2 := run_take_sums (ad := ad) (n := n) (c := c) (k := at_) han cap
      have HWT := Lib.hid (kwrap64 hto65)
      have HWU := Lib.hid (And.intro wau wtu)
      have HBW := Lib.hid hbw
      clear C4 hin hPb hP hR hY hRl hYl hYb hd0 hd64 hk hs cin cap ylt i2 ilt ha1 han hbw hlt hy hcy hp hq hr hrq hto hton hato hp65 hq65 hto65 hy256 hn60 hjm wau wtu
      go_upto_region 8 with fail
      rw [HWT.out]
      clear e1 e2 e3 ht hq0 wy hcy1
      go_wp2_with fail
      refine HC4.out.mono ?_
      rintro e w2 ⟨A3, c3, rfl, ho2, hb2⟩
      have O2 := Lib.hid (And.intro (InS.of_own ho2) (own_cap ho2))
      have B2 := Lib.hid (below_on HBW.out (Nat.le_refl _) hb2)
      clear ho2 hb2
      have wau := HWU.out.1
      have wtu := HWU.out.2
      go_upto_region 9 with fail
      refine wp_region_held_drew (S := fun W => Below w2.heap.size w2 W) (by kernel_rfl) ((Below.refl _ _).drew) (fun hT0 => ?_)
      change wpAnyH _ _ _ _ _ _ _ _ w2.drew
      refine' wpAnyH_take (i := 0) (oi := _) (v := _) ?hip0 (by kernel_rfl) ?hfp0 ?hrp0 ?hQp0 ?hyp0 hT0 ?restp0
      case hip0 => (simp only [List.getElem?_toArray, List.getElem?_cons_zero]; rfl)
      case hfp0 => kernel_rfl
      case hrp0 => kernel_rfl
      case hQp0 => exact fun _ _ _ h => h
      case hyp0 => refine Or.inl ⟨by rfl, ?_⟩; intro W hSw; go_simp; try with_reducible rfl
      try simp only [Act.put, List.setIfInBounds_toArray, List.set_cons_zero, List.set_cons_succ]
      refine' wpAnyH_take (i := 1) (oi := _) (v := _) ?hip1 (by kernel_rfl) ?hfp1 ?hrp1 ?hQp1 ?hyp1 hT0 ?restp1
      case hip1 => (simp only [List.getElem?_toArray, List.getElem?_cons_zero, List.getElem?_cons_succ]; rfl)
      case hfp1 => kernel_rfl
      case hrp1 => kernel_rfl
      case hQp1 => exact fun _ _ _ h => h
      case hyp1 => refine Or.inl ⟨by rfl, ?_⟩; intro W hSw; go_simp; try with_reducible rfl
      try simp only [Act.put, List.setIfInBounds_toArray, List.set_cons_zero, List.set_cons_succ]
      refine' wpAnyH_take (i := 2) (oi := _) (v := _) ?hip2 (by kernel_rfl) ?hfp2 ?hrp2 ?hQp2 ?hyp2 hT0 ?restp2
      case hip2 => (simp only [List.getElem?_toArray, List.getElem?_cons_zero, List.getElem?_cons_succ]; rfl)
      case hfp2 => kernel_rfl
      case hrp2 => kernel_rfl
      case hQp2 => exact fun _ _ _ h => h
      case hyp2 => refine Or.inl ⟨by rfl, ?_⟩; intro W hSw; go_simp; try with_reducible rfl
      try simp only [Act.put, List.setIfInBounds_toArray, List.set_cons_zero, List.set_cons_succ]
      refine' wpAnyH_take (i := 3) (oi := _) (v := _) ?hip3 (by kernel_rfl) ?hfp3 ?hrp3 ?hQp3 ?hyp3 hT0 ?restp3
      case hip3 => (simp only [List.getElem?_toArray, List.getElem?_cons_zero, List.getElem?_cons_succ]; rfl)
      case hfp3 => kernel_rfl
      case hrp3 => kernel_rfl
      case hQp3 => exact fun _ _ _ h => h
      case hyp3 => refine Or.inl ⟨by rfl, ?_⟩; intro W hSw; go_simp; try with_reducible rfl
      try simp only [Act.put, List.setIfInBounds_toArray, List.set_cons_zero, List.set_cons_succ]
      refine' wpAnyH_take (i := 4) (oi := _) (v := _) ?hip4 (by kernel_rfl) ?hfp4 ?hrp4 ?hQp4 ?hyp4 hT0 ?restp4
      case hip4 => (simp only [List.getElem?_toArray, List.getElem?_cons_zero, List.getElem?_cons_succ]; rfl)
      case hfp4 => kernel_rfl
      case hrp4 => kernel_rfl
      case hQp4 => exact fun _ _ _ h => h
      case hyp4 => refine Or.inl ⟨by rfl, ?_⟩; intro W hSw; go_simp; try with_reducible rfl
      try simp only [Act.put, List.setIfInBounds_toArray, List.set_cons_zero, List.set_cons_succ]
      refine' wpAnyH_take (i := 5) (oi := _) (v := _) ?hip5 (by kernel_rfl) ?hfp5 ?hrp5 ?hQp5 ?hyp5 hT0 ?restp5
      case hip5 => (simp only [List.getElem?_toArray, List.getElem?_cons_zero, List.getElem?_cons_succ]; rfl)
      case hfp5 => kernel_rfl
      case hrp5 => kernel_rfl
      case hQp5 => exact fun _ _ _ h => h
      case hyp5 => refine Or.inl ⟨by rfl, ?_⟩; intro W hSw; go_simp; try with_reducible rfl
      try simp only [Act.put, List.setIfInBounds_toArray, List.set_cons_zero, List.set_cons_succ]
      refine' wpAnyH_take (i := 6) (oi := _) (v := _) ?hip6 (by kernel_rfl) ?hfp6 ?hrp6 ?hQp6 ?hyp6 hT0 ?restp6
      case hip6 => (simp only [List.getElem?_toArray, List.getElem?_cons_zero, List.getElem?_cons_succ]; rfl)
      case hfp6 => kernel_rfl
      case hrp6 => kernel_rfl
      case hQp6 => exact fun _ _ _ h => h
      case hyp6 => refine Or.inl ⟨by rfl, ?_⟩; intro W hSw; go_simp; try with_reducible rfl
      try simp only [Act.put, List.setIfInBounds_toArray, List.set_cons_zero, List.set_cons_succ]
      refine' wpAnyH_take (i := 7) (oi := _) (v := _) ?hip7 (by kernel_rfl) ?hfp7 ?hrp7 ?hQp7 ?hyp7 hT0 ?restp7
      case hip7 => (simp only [List.getElem?_toArray, List.getElem?_cons_zero, List.getElem?_cons_succ]; rfl)
      case hfp7 => kernel_rfl
      case hrp7 => kernel_rfl
      case hQp7 => exact fun _ _ _ h => h
      case hyp7 => refine Or.inl ⟨by rfl, ?_⟩; intro W hSw; go_simp; try with_reducible rfl
      try simp only [Act.put, List.setIfInBounds_toArray, List.set_cons_zero, List.set_cons_succ]
      refine' wpAnyH_take (i := 8) (oi := _) (v := _) ?hip8 (by kernel_rfl) ?hfp8 ?hrp8 ?hQp8 ?hyp8 hT0 ?restp8
      case hip8 => (simp only [List.getElem?_toArray, List.getElem?_cons_zero, List.getElem?_cons_succ]; rfl)
      case hfp8 => kernel_rfl
      case hrp8 => kernel_rfl
      case hQp8 => exact fun _ _ _ h => h
      case hyp8 => refine Or.inl ⟨by rfl, ?_⟩; intro W hSw; go_simp; try with_reducible rfl
      try simp only [Act.put, List.setIfInBounds_toArray, List.set_cons_zero, List.set_cons_succ]
      refine' wpAnyH_take (i := 9) (oi := _) (v := _) ?hip9 (by kernel_rfl) ?hfp9 ?hrp9 ?hQp9 ?hyp9 hT0 ?restp9
      case hip9 => (simp only [List.getElem?_toArray, List.getElem?_cons_zero, List.getElem?_cons_succ]; rfl)
      case hfp9 => kernel_rfl
      case hrp9 => kernel_rfl
      case hQp9 => exact fun _ _ _ h => h
      case hyp9 => refine Or.inl ⟨by rfl, ?_⟩; intro W hSw; go_simp; try with_reducible rfl
      try simp only [Act.put, List.setIfInBounds_toArray, List.set_cons_zero, List.set_cons_succ]
      refine' wpAnyH_take (i := 11) (oi := _) (v := _) ?hip11 (by kernel_rfl) ?hfp11 ?hrp11 ?hQp11 ?hyp11 hT0 ?restp11
      case hip11 => (simp only [List.getElem?_toArray, List.getElem?_cons_zero, List.getElem?_cons_succ]; rfl)
      case hfp11 => kernel_rfl
      case hrp11 => kernel_rfl
      case hQp11 => exact fun _ _ _ h => h
      case hyp11 => refine Or.inl ⟨by rfl, ?_⟩; intro W hSw; go_simp; try with_reducible rfl
      try simp only [Act.put, List.setIfInBounds_toArray, List.set_cons_zero, List.set_cons_succ]
      refine' wpAnyH_take (i := 12) (oi := _) (v := _) ?hip12 (by kernel_rfl) ?hfp12 ?hrp12 ?hQp12 ?hyp12 hT0 ?restp12
      case hip12 => (simp only [List.getElem?_toArray, List.getElem?_cons_zero, List.getElem?_cons_succ]; rfl)
      case hfp12 => kernel_rfl
      case hrp12 => kernel_rfl
      case hQp12 => exact fun _ _ _ h => h
      case hyp12 => refine Or.inl ⟨by rfl, ?_⟩; intro W hSw; go_simp; try with_reducible rfl
      try simp only [Act.put, List.setIfInBounds_toArray, List.set_cons_zero, List.set_cons_succ]
      refine' wpAnyH_take (i := 13) (oi := _) (v := _) ?hip13 (by kernel_rfl) ?hfp13 ?hrp13 ?hQp13 ?hyp13 hT0 ?restp13
      case hip13 => (simp only [List.getElem?_toArray, List.getElem?_cons_zero, List.getElem?_cons_succ]; rfl)
      case hfp13 => kernel_rfl
      case hrp13 => kernel_rfl
      case hQp13 => exact fun _ _ _ h => h
      case hyp13 => refine Or.inl ⟨by rfl, ?_⟩; intro W hSw; go_simp; try with_reducible rfl
      try simp only [Act.put, List.setIfInBounds_toArray, List.set_cons_zero, List.set_cons_succ]
      refine' wpAnyH_take (i := 15) (oi := _) (v := _) ?hip15 (by kernel_rfl) ?hfp15 ?hrp15 ?hQp15 ?hyp15 hT0 ?restp15
      case hip15 => (simp only [List.getElem?_toArray, List.getElem?_cons_zero, List.getElem?_cons_succ]; rfl)
      case hfp15 => kernel_rfl
      case hrp15 => kernel_rfl
      case hQp15 => exact fun _ _ _ h => h
      case hyp15 => refine Or.inl ⟨by rfl, ?_⟩; intro W hSw; go_simp; try with_reducible rfl
      try simp only [Act.put, List.setIfInBounds_toArray, List.set_cons_zero, List.set_cons_succ]
      refine wpAnyH_ready (rs := [10]) (by kernel_rfl) (by simp) ?_
      refine' AllReadyH.cons (o := _) ?hip10 (fun K hK => ?_) AllReadyH.nil
      case hip10 => (simp only [List.getElem?_toArray, List.getElem?_cons_zero, List.getElem?_cons_succ]; rfl)
      go_simp
      go_at_call 9
      refine (CY.out _ (below_on B2.out (Nat.le_refl _) hT0)).mono ?_
      rintro e Wp2 ⟨rfl, hBp1b⟩
      have hBp1 := below_on hT0 (Nat.le_refl _) hBp1b
      refine hK.out _ _ hBp1 (fun _ => ?_)
      clear hK K
      try simp only [Act.put, List.setIfInBounds_toArray, List.set_cons_zero, List.set_cons_succ]
      refine wpAnyH_ready (rs := [14]) (by kernel_rfl) (by simp) ?_
      refine' AllReadyH.cons (o := _) ?hip14 (fun K hK => ?_) AllReadyH.nil
      case hip14 => (simp only [List.getElem?_toArray, List.getElem?_cons_zero, List.getElem?_cons_succ]; rfl)
      go_simp
      go_at_call 9
      refine (CR.out _ (below_on B2.out (Nat.le_refl _) hBp1)).mono ?_
      rintro e Wp4 ⟨rfl, hBp3b⟩
      have hBp3 := below_on hBp1 (Nat.le_refl _) hBp3b
      refine hK.out _ _ hBp3 (fun _ => ?_)
      clear hK K
      try simp only [Act.put, List.setIfInBounds_toArray, List.set_cons_zero, List.set_cons_succ]
      refine wpAnyH_ready (rs := [16]) (by kernel_rfl) (by simp) ?_
      refine' AllReadyH.cons (o := _) ?hip16 (fun K hK => ?_) AllReadyH.nil
      case hip16 => (simp only [List.getElem?_toArray, List.getElem?_cons_zero, List.getElem?_cons_succ]; rfl)
      go_simp
      go_at_call 10
      refine (CK.out _ A3 c3 (below_on B2.out (Nat.le_refl _) hBp3) (O2.out.1.below hBp3) O2.out.2).mono ?_
      rintro e Wp6 ⟨rfl, hBp5b⟩
      have hBp5 := below_on hBp3 (Nat.le_refl _) hBp5b
      refine hK.out _ _ hBp5 (fun _ => ?_)
      clear hK K
      try simp only [Act.put, List.setIfInBounds_toArray, List.set_cons_zero, List.set_cons_succ]
      refine' wpAnyH_take (i := 17) (oi := _) (v := _) ?hip17 (by kernel_rfl) ?hfp17 ?hrp17 ?hQp17 ?hyp17 hBp5 ?restp17
      case hip17 => (simp only [List.getElem?_toArray, List.getElem?_cons_zero, List.getElem?_cons_succ]; rfl)
      case hfp17 => kernel_rfl
      case hrp17 => kernel_rfl
      case hQp17 => exact fun _ _ _ h => h
      case hyp17 => refine Or.inl ⟨by rfl, ?_⟩; intro W hSw; go_simp; try with_reducible rfl
      try simp only [Act.put, List.setIfInBounds_toArray, List.set_cons_zero, List.set_cons_succ]
      refine' wpAnyH_take (i := 18) (oi := _) (v := _) ?hip18 (by kernel_rfl) ?hfp18 ?hrp18 ?hQp18 ?hyp18 hBp5 ?restp18
      case hip18 => (simp only [List.getElem?_toArray, List.getElem?_cons_zero, List.getElem?_cons_succ]; rfl)
      case hfp18 => kernel_rfl
      case hrp18 => kernel_rfl
      case hQp18 => exact fun _ _ _ h => h
      case hyp18 => refine Or.inl ⟨by rfl, ?_⟩; intro W hSw; go_simp; try with_reducible rfl
      try simp only [Act.put, List.setIfInBounds_toArray, List.set_cons_zero, List.set_cons_succ]
      refine wpAnyH_done (by kernel_rfl) ?_ _
      go_wp2_with fail
      go_roundw
      case rel => exact ⟨tz, j + 1, by first | rfl | go_num, by (try rw [HWJ.out]); rfl, Lib.hid ⟨by have := HT.out; omega, HT.out.2.2.1, HT.out.2.2.2.1, below_on B2.out (Nat.le_refl _) hBp5⟩⟩
      case measure => (try rw [HWJ.out]); simp [intOf]; have := HT.out; omega
    · have hji : ¬ (j : Int) < (m : Int) := by omega
      have CA := Lib.hid (kalive_any wr E (HK.out.1.below HR.out.2.2.2) (HK.out.2.1.below HR.out.2.2.2) (HK.out.2.2.below HR.out.2.2.2))
      have hw := HR.out.2.2.2
      go_wp2_with fail
      refine CA.out.mono ?_
      rintro e w2 ⟨rfl, hb2⟩
      go_wp2_with fail
      go_ret
      exact ⟨rfl, below_on hw (Nat.le_refl _) hb2⟩

end

theorem linksChain_law (w : World) (hk : Knows w) (hs : Starts w) (E : Addr) (hm : Miss w E) {A B : Option Addr} {n c m c' : Nat} {ys xs : List Nat} (cm : CameS w A n c ys) (cx : Came w B m c' xs) :
    Calls Tryd.prog 4 #[.slice A n c, .slice B m c'] w fun e w' => e = .returned (.bool true) ∧ Below w.heap.size w w' := by
  by_cases h : n = 0 ∨ 60 < n ∨ 20 < m
  · exact kchain_else hk hs hm h
  · exact kchain_main hk hs hm cm cx (by omega) (by omega) (by omega)

end Go.Proofs.YtilgikhdamkeoaaDoor

/-
  What the three listed variables hold when a call begins: two of package shas, and the sentinel of package links.
-/
namespace Go.Proofs.YtilgikhdamkeoaaDoor
open Go.ChangeShapes Go.WideShapes Go.ChangeAt Go.RowKit

theorem gMissing : Tryd.prog.globalNamed "almoner/links.errMissing" = some 0 := by kernel_rfl
theorem tMissing : (Tryd.prog.globals[0]?).map (·.type) = some 48 := by kernel_rfl
theorem cellsEs : Tryd.prog.cellsOf 123 = 1 := by kernel_rfl
theorem cellsStr : Tryd.prog.cellsOf 9 = 1 := by kernel_rfl
theorem starEs : "*" ++ "errors.errorString" = "*errors.errorString" := by decide
theorem rowEs (u : TypeId) (h : Tryd.prog.typeName? 3 u = some "*errors.errorString") : u = 98 :=
  typeName_ptr_named (nm := "errors.errorString") (by rw [starEs]; kernel_rfl) (by kernel_rfl) (by decide) u (by rw [starEs]; exact h)

def laid1 : List (String × DataW Unit) := [("almoner/links.errMissing", Rows.laid_almoner_links_errMissing)]

set_option maxRecDepth 100000 in
theorem of_laid1 {W : World} (h : laidMetH Tryd.prog laid1 W) : ∃ E, Miss W E := by
  rw [MakeChecks.laidMetH_plain _ _ _ (by kernel_rfl)] at h
  obtain ⟨ps, ⟨g0', t0', cs0, f0, p0, q0, hg0', ht0', hv0, hd0, _, e0⟩, hnd, hrows⟩ := h
  obtain rfl := Option.some.inj (gMissing.symm.trans hg0')
  obtain rfl := Option.some.inj (tMissing.symm.trans ht0')
  subst e0
  obtain ⟨l0⟩ := cs0
  have ok0 : ∀ u v, l0 = [.iface u v] → Value.okWide Tryd.prog W .any 0 u v := fun u v e => by
    subst e
    exact (hrows 0 0 (by simp [MemPlace.row])).2 u v (by simpa using World.var?_cell hg0' hv0 0)
  obtain ⟨a0, s0, rfl, hc0, hs0, hz0, rfl⟩ := errorString_of_trod Tryd.underlying48 rowEs Tryd.underlying98 Tryd.underlying123 rfl rfl Tryd.underlying9 cellsEs cellsStr hd0 ok0
  exact ⟨a0, by simpa [Miss, missV] using World.var?_cell hg0' hv0 0⟩

def laidK : List (String × DataW Unit) := [("almoner/shas.start", Rows.laid_almoner_shas_start), ("almoner/shas.added", Rows.laid_almoner_shas_added), ("almoner/links.errMissing", Rows.laid_almoner_links_errMissing)]
def isShas (x : String × DataW Unit) : Bool := ["almoner/shas.start", "almoner/shas.added"].contains x.1
def isMiss (x : String × DataW Unit) : Bool := ["almoner/links.errMissing"].contains x.1
theorem laidK_shas : laidK.filter isShas = laid2 := by
  unfold laidK laid2 isShas
  simp [List.filter]
theorem laidK_miss : laidK.filter isMiss = laid1 := by
  unfold laidK laid1 isMiss
  simp [List.filter]

theorem of_laidK {W : World} (h : laidMetH Tryd.prog laidK W) : (Starts W ∧ Knows W) ∧ ∃ E, Miss W E := by
  have h1 := h.filter isShas
  rw [laidK_shas] at h1
  have h2 := h.filter isMiss
  rw [laidK_miss] at h2
  exact ⟨of_laid h1, of_laid1 h2⟩

end Go.Proofs.YtilgikhdamkeoaaDoor
