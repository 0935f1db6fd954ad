/-
  A range over a function value that has bound a receiver, where the iterator tells the round what it hands over, and the round tells the iterator what it has left.
-/
import Derived.RangeFuncNested
import Derived.RangeFuncBound
import Derived.RangeFuncCalls
import Derived.RangeFuncLeaves
import Derived.Test.YthbgcijkpincfaaGreatDoorLPre
namespace Go.Proofs.YthbgcijkpincfaaGreatDoor
open Go.RowKit

/-- Cells of these types stay. -/
def KeepT (Ty : TypeId → Prop) (W W' : World) : Prop := ∀ (b : Nat) (c : Array Value) (t : TypeId) (f : Nat × Nat), Ty t → W.heap[b]? = some (Obj.cells c t f) → W'.heap[b]? = some (Obj.cells c t f)
theorem KeepT.refl (Ty : TypeId → Prop) (W : World) : KeepT Ty W W := fun _ _ _ _ _ h => h
theorem KeepT.trans {Ty : TypeId → Prop} {A B C : World} (h : KeepT Ty A B) (k : KeepT Ty B C) : KeepT Ty A C := fun b c t f ht hb => k b c t f ht (h b c t f ht hb)
theorem KeepT.of_below {Ty : TypeId → Prop} {W W' : World} (h : Below W.heap.size W W') : KeepT Ty W W' := fun b _ _ _ _ hb => (h.block b (Array.getElem?_eq_some_iff.1 hb).1).trans hb
theorem KeepT.mono {Ty Ty' : TypeId → Prop} {A B : World} (h : KeepT Ty A B) (hs : ∀ t, Ty' t → Ty t) : KeepT Ty' A B := fun b c t f ht hb => h b c t f (hs t ht) hb
theorem KeepT.putObj {Ty : TypeId → Prop} {W : World} {l : Nat} {o : Obj} (o' : Obj) (hl : W.heap[l]? = some o) (ho : o.isCells = false) : KeepT Ty W (W.putObj l o') := fun b c t f _ hb =>
  (World.putObj_heap_other (fun e => by subst e; rw [hl] at hb; cases hb; cases ho)).trans hb

/-- What an iterator owes: at each round R (it is told what is handed over), behind each round that goes on G (it is told what is left); at the end S, or Sp where a round has said no more. -/
def SeqR {α : Type} (F : Fence) (n : Nat) (P : Program) (gf : Nat) (bd lb : Array Value) (encs : α → Array Value) (Ty : TypeId → Prop) (R : List α → α → World → Prop) (G : List α → World → Prop) (S Sp : List α → World → Prop) (w : World) : Prop :=
  ∀ (l : Nat) (J Jx : List α → World → Prop), OwnFrom w.heap.size J → OwnFrom w.heap.size Jx →
    (∀ pre x W, J pre W → R pre x W → YieldAt F (n - 1) P l (encs x) W fun e W' =>
      (e = .returned (.bool true) ∧ J (pre ++ [x]) W' ∧ G (pre ++ [x]) W' ∧ KeepT Ty W W' ∧ KeepsFrom w.heap.size W W') ∨ (e = .returned (.bool false) ∧ Jx (pre ++ [x]) W' ∧ KeepsFrom w.heap.size W W')) →
    J [] w → CallsIn F n P gf (bd ++ #[.func (.yield l) #[] #[]] ++ lb) w fun e W' => (∃ v, e = .returned v) ∧ ((∃ xs, S xs W' ∧ J xs W') ∨ ∃ pre, Sp pre W' ∧ Jx pre W')

/-- How a round's body is left. -/
def roundQ {α : Type} (B : Nat) (Ty : TypeId → Prop) (G : List α → World → Prop) (I Ix : List α → World → Prop) (xs : List α) (W : World) : Exit → Act → World → Prop
  | .normal, _, W' => KeepsFrom B W W' ∧ KeepT Ty W W' ∧ G xs W' ∧ I xs W'
  | .ret, _, W' => KeepsFrom B W W' ∧ Ix xs W'
  | .exit _, _, _ => False
  | .goto _, _, _ => False
  | .panic _, _, _ => False
  | .outgrown, _, _ => False

variable {F : Fence} {n : Nat} {P : Program}

theorem wpIn_range_R {α : Type} {g : Operand} {ps : Array Tmp} {assign body : Code} {Q : Exit → Act → World → Prop} {a : Act} {w : World}
    (hro : F.round = none) (h1 : 1 ≤ n) {gf : Nat} {bd lb : Array Value} (hg : a.eval g = .func (.func gf) bd lb) (hFg : F.fn gf) (eg : ∀ args w, (callFunc gf args).run P w = .ok (.enter gf args) w)
    {encs : α → Array Value} {Ty : TypeId → Prop} {R : List α → α → World → Prop} {G S Sp : List α → World → Prop}
    (hseq : ∀ W1, Below w.heap.size w W1 → SeqR F (n - 1) P gf bd lb encs Ty R G S Sp W1) (hps : ∀ x, (encs x).size = ps.size)
    (hRo : ∀ pre x, OwnFrom w.heap.size (fun (_ : Unit) W => R pre x W)) (hGo : OwnFrom w.heap.size G) (hSo : OwnFrom w.heap.size S) (hSpo : OwnFrom w.heap.size Sp)
    (I Ix : List α → World → Prop) (hI : OwnFrom w.heap.size I) (hIx : OwnFrom w.heap.size Ix) (h0 : I [] w) (a₁ : α → Act)
    (hassign : ∀ (l : Nat) (x : α) (W : World) (K : Act → World → Prop), K (a₁ x) W →
      assign.wpIn (F.inRound l) (n - 1 - 1) P (Exit.then K (fun _ _ _ => False)) { tmps := (ps.zip (encs x)).foldl (fun t (p, v) => t.setIfInBounds p v) a.tmps, defers := [] } W)
    (hbody : ∀ (l : Nat) (pre : List α) (x : α) (W : World), I pre W → R pre x W → body.wpIn (F.inRound l) (n - 1 - 1) P (roundQ w.heap.size Ty G I Ix (pre ++ [x]) W) (a₁ x) W)
    (hdone : ∀ (D : Nat) (xs : List α) (W : World), w.heap.size ≤ D → S xs W → I xs W → W.heap[D]? = some (.deferred (some [])) → Q .normal { a with defers := { target := .collected D, args := #[] } :: a.defers } W)
    (hstop : ∀ (D : Nat) (pre : List α) (W : World), w.heap.size ≤ D → Sp pre W → Ix pre W → W.heap[D]? = some (.deferred (some [])) → Code.ret.wpIn F n P Q { a with defers := { target := .collected D, args := #[] } :: a.defers } W) :
    (Code.rangeFunc g ps assign body).wpIn F n P Q a w := by
  refine wpIn_rangeFunc fun fn hfn => ?_
  rw [hro]
  -- the record of the loop in its states
  let lp : LoopState → Option Code → Loop := fun st pe => { state := st, pending := pe, fn := fn, tmps := a.tmps, params := ps, assign := assign, body := body, defers := w.heap.size }
  let W1 : World := (w.alloc (.deferred (some []))).alloc (.loop (lp .ready none))
  have sz : W1.heap.size = w.heap.size + 2 := by simp [W1]
  have b1 : Below w.heap.size w W1 := ((Below.refl _ w).alloc (Nat.le_refl _) _).alloc (by simp) _
  have eL : W1.heap[w.heap.size + 1]? = some (.loop (lp .ready none)) := by
    have := World.alloc_heap_new (w.alloc (.deferred (some []))) (.loop (lp .ready none))
    rwa [World.size_alloc] at this
  have eD : W1.heap[w.heap.size]? = some (.deferred (some [])) := (Below.heap_alloc _ _ _ (by simp)).trans (World.alloc_heap_new w _)
  have i1 : I [] W1 := hI.alloc _ (hI.alloc _ h0)
  -- what is not cells and lies below W1's end stays through the iterator's own steps
  have stay : ∀ {A B : World} {row : Option Nat} {k : Nat} {o : Obj}, A.grownBy B row → (∀ r, row = some r → W1.heap.size ≤ r ∧ ∃ o : Obj, A.heap[r]? = some o ∧ o.isCells = false) → k < W1.heap.size → A.heap[k]? = some o → B.heap[k]? = some o :=
    fun hgr hr hk ho => (hgr.block _ (Array.getElem?_eq_some_iff.1 ho).1 (fun e => by have := (hr _ e.symm).1; omega)).trans ho
  have low : ∀ {A : World} {row : Option Nat}, (∀ r, row = some r → W1.heap.size ≤ r ∧ ∃ o : Obj, A.heap[r]? = some o ∧ o.isCells = false) → ∀ r, row = some r → w.heap.size ≤ r ∧ ∃ o : Obj, A.heap[r]? = some o ∧ o.isCells = false :=
    fun hr r e => ⟨by have := (hr r e).1; omega, (hr r e).2⟩
  refine ⟨w.heap.size + 1, [{ target := .collected w.heap.size, args := #[] }], W1, { target := .fn (.func gf) lb, args := bd ++ #[.func (.yield (w.heap.size + 1)) #[] #[]] }, W1, gf,
    bd ++ #[.func (.yield (w.heap.size + 1)) #[] #[]] ++ lb, W1, run_enterLoop_outer .., ?_, fun f' hf' => ?_, ?_, fun _ => h1, ?_⟩
  · simp only [resolve, hg]
    simp [go_sem]
  · simp [Target.leads] at hf'; subst hf'; exact hFg
  · simp [invoke, go_sem, eg]
  · refine (hseq W1 b1 (w.heap.size + 1) (fun pre W => I pre W ∧ W.heap[w.heap.size + 1]? = some (.loop (lp .ready none)) ∧ W.heap[w.heap.size]? = some (.deferred (some [])))
      (fun pre W => Ix pre W ∧ W.heap[w.heap.size + 1]? = some (.loop (lp .done (some .ret))) ∧ W.heap[w.heap.size]? = some (.deferred (some [])))
      (fun s A B row hs hgr hr => ⟨hI s A B row hs.1 hgr (low hr), stay hgr hr (by omega) hs.2.1, stay hgr hr (by omega) hs.2.2⟩)
      (fun s A B row hs hgr hr => ⟨hIx s A B row hs.1 hgr (low hr), stay hgr hr (by omega) hs.2.1, stay hgr hr (by omega) hs.2.2⟩) ?_ ⟨i1, eL, eD⟩).mono ?_
    · rintro pre x W ⟨hi, hl, hd⟩ hx
      refine ⟨fn, _, assign, body, run_yield (args := encs x) hl (hps x), roundIn_of_wpIn hfn (hassign _ x W _ ?_)⟩
      refine ⟨_, run_beginRound hl rfl, ?_⟩
      have hlt := (Array.getElem?_eq_some_iff.1 hl).1
      have hb : (W.putObj (w.heap.size + 1) (.loop (lp .busy none))).heap[w.heap.size + 1]? = some (.loop (lp .busy none)) := World.putObj_heap_same hlt
      have hd2 : (W.putObj (w.heap.size + 1) (.loop (lp .busy none))).heap[w.heap.size]? = some (.deferred (some [])) := (World.putObj_heap_other (by omega)).trans hd
      have kput : ∀ (A : World) (o' : Obj), KeepsFrom W1.heap.size A (A.putObj (w.heap.size + 1) o') := fun A o' => ⟨by rw [World.putObj_size]; exact Nat.le_refl _, fun k o hk ho _ => (World.putObj_heap_other (by omega)).trans ho⟩
      have kmono : ∀ {A B : World}, KeepsFrom w.heap.size A B → KeepsFrom W1.heap.size A B := fun h => ⟨h.size, fun k o hk ho hc => h.same k o (by omega) ho hc⟩
      refine wpIn_mono (hbody _ pre x _ (hI.putObj _ hi (by omega) hl rfl) ((hRo pre x).putObj (s := ()) _ hx (by omega) hl rfl)) ?_
      rintro e a3 W3 hp
      cases e with
      | normal =>
        obtain ⟨hk, hkt, hg3, hi3⟩ := hp
        have hl3 := hk.same _ _ (by omega) hb rfl
        have hd3 := hk.same _ _ (Nat.le_refl _) hd2 rfl
        exact ⟨_, _, run_endRound none hl3, .inl ⟨rfl, ⟨hI.putObj _ hi3 (by omega) hl3 rfl, World.putObj_heap_same (Array.getElem?_eq_some_iff.1 hl3).1, (World.putObj_heap_other (by omega)).trans hd3⟩, hGo.putObj _ hg3 (by omega) hl3 rfl, ((KeepT.putObj _ hl rfl).trans hkt).trans (KeepT.putObj _ hl3 rfl), ((kput _ _).trans (kmono hk)).trans (kput _ _)⟩⟩
      | ret =>
        obtain ⟨hk, hi3⟩ := hp
        have hl3 := hk.same _ _ (by omega) hb rfl
        have hd3 := hk.same _ _ (Nat.le_refl _) hd2 rfl
        exact ⟨_, _, run_endRound (some .ret) hl3, .inr ⟨rfl, ⟨hIx.putObj _ hi3 (by omega) hl3 rfl, World.putObj_heap_same (Array.getElem?_eq_some_iff.1 hl3).1, (World.putObj_heap_other (by omega)).trans hd3⟩, ((kput _ _).trans (kmono hk)).trans (kput _ _)⟩⟩
      | exit id => exact hp.elim
      | goto t => exact hp.elim
      | panic ch => exact hp.elim
      | outgrown => exact hp.elim
    · rintro e W2 ⟨⟨v, rfl⟩, (⟨xs, hS, hi, hl, hd⟩ | ⟨pre, hS, hi, hl, hd⟩)⟩
      · exact ⟨none, _, run_endLoop hl (by simp [lp]), hdone _ xs _ (Nat.le_refl _) (hSo.putObj _ hS (by omega) hl rfl) (hI.putObj _ hi (by omega) hl rfl) ((World.putObj_heap_other (by omega)).trans hd)⟩
      · exact ⟨some .ret, _, run_endLoop hl (by simp [lp]), hstop _ pre _ (Nat.le_refl _) (hSpo.putObj _ hS (by omega) hl rfl) (hIx.putObj _ hi (by omega) hl rfl) ((World.putObj_heap_other (by omega)).trans hd)⟩

/-- A round of yield within another round, at any depth. -/
theorem yield_within (hd : F.depth = none) {m : Nat} (m' l0 : Nat) {l : Nat} {args : Array Value} {W : World} {Rr : Ending → World → Prop} (h : YieldAt F m P l args W Rr) :
    ∃ fn tmps assign body, (Instr.yield l args).run P W = .ok (.round l fn tmps assign body) W ∧ RoundIn (F.inRound l0) m' P l fn tmps assign body W Rr := by
  obtain ⟨fn, tmps, assign, body, hy, hR⟩ := h
  exact ⟨fn, tmps, assign, body, hy, hR.1, fun c cs _ => hR.2 c cs (fun d e => by rw [hd] at e; cases e)⟩

/-- What is said of cells, or of what lies below, abides. -/
theorem own_true {β : Type} (B : Nat) : OwnFrom B (fun (_ : β) (_ : World) => True) := fun _ _ _ _ _ _ _ => trivial
theorem own_pure {β : Type} (B : Nat) (p : β → Prop) : OwnFrom B (fun s (_ : World) => p s) := fun _ _ _ _ h _ _ => h

end Go.Proofs.YthbgcijkpincfaaGreatDoor
