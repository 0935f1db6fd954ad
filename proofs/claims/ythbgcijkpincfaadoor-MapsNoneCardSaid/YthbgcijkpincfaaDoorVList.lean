/-
  '[]api.Sum{..}' of one and of three, and a sum that is loaded, in a region that draws its order.
-/
import Derived.Test.YthbgcijkpincfaaDoorVPure
import Derived.Test.YthbgcijkpincfaaDoorLSums
import Derived.Great.BuildSlice
import Derived.Deep.RegionHeld
namespace Go.Proofs.YthbgcijkpincfaaDoor
open Go.RowKit

theorem vfold (l : List Value) : ∀ (pre suf tail : List Value) (base off : Nat), suf.length = l.length → pre.length = base + off →
    ((l.zipIdx off).foldl (fun (cs : Array Value) (x : Value × Nat) => cs.setIfInBounds (base + x.2) x.1) (pre ++ suf ++ tail).toArray) = (pre ++ l ++ tail).toArray := by
  induction l with
  | nil =>
    intro pre suf tail base off h _
    obtain rfl : suf = [] := List.eq_nil_of_length_eq_zero h
    rfl
  | cons x l ih =>
    intro pre suf tail base off h hp
    cases suf with
    | nil => simp at h
    | cons y suf =>
      rw [List.zipIdx_cons, List.foldl_cons]
      have e : (pre ++ y :: suf ++ tail).toArray.setIfInBounds (base + off) x = ((pre ++ [x]) ++ suf ++ tail).toArray := by
        rw [List.setIfInBounds_toArray, List.append_assoc, List.set_append_right _ _ (by omega), hp, Nat.sub_self, List.cons_append, List.set_cons_zero]
        simp
      rw [e, ih (pre ++ [x]) suf tail base (off + 1) (by simpa using h) (by rw [List.length_append, hp]; rfl)]
      simp

theorem fill_step (cs pre suf tail : List Value) (k : Nat) (rest : List (Nat × Value)) (hl : cs.length = 32) (hs : suf.length = 32) (hp : pre.length = k * 32) :
    Instr.fill (fun i => some (i * 32, 32)) (pre ++ suf ++ tail).toArray ((k, .agg cs.toArray) :: rest) = Instr.fill (fun i => some (i * 32, 32)) (pre ++ cs ++ tail).toArray rest := by
  have e := vfold cs pre suf tail (k * 32) 0 (by rw [hl, hs]) (by rw [hp]; rfl)
  have e2 : (cs.toArray.zipIdx.foldl (fun (c : Array Value) (x : Value × Nat) => c.setIfInBounds (k * 32 + x.2) x.1) (pre ++ suf ++ tail).toArray) = (pre ++ cs ++ tail).toArray := by
    rw [← Array.foldl_toList]
    have : cs.toArray.zipIdx.toList = cs.zipIdx 0 := by simp
    rw [this]
    exact e
  have hv : (Value.agg cs.toArray).cells = cs.toArray := rfl
  have hc : ¬ ((cs.toArray.size ≠ 32 || decide (k * 32 + cs.toArray.size > (pre ++ suf ++ tail).toArray.size)) = true) := by
    simp only [List.size_toArray, List.length_append, hl, hs, hp]
    simp
  rw [Instr.fill]
  simp only [hv]
  rw [if_neg hc]
  exact congrArg (fun c => Instr.fill (fun i => some (i * 32, 32)) c rest) e2

/-- A list of sums, one behind the other. -/
def flatS (ss : List (List Nat)) : List Nat := ss.flatten

theorem fill_all : ∀ (ss : List (List Nat)) (pre suf : List Value) (k : Nat), (∀ s ∈ ss, s.length = 32) → suf.length = 32 * ss.length → pre.length = k * 32 →
    Instr.fill (fun i => some (i * 32, 32)) (pre ++ suf).toArray ((ss.zipIdx k).map fun (p : List Nat × Nat) => (p.2, sv p.1)) = some (pre ++ bvs ss.flatten).toArray := by
  intro ss
  induction ss with
  | nil =>
    intro pre suf k _ hs _
    obtain rfl : suf = [] := List.eq_nil_of_length_eq_zero hs
    rfl
  | cons s ss ih =>
    intro pre suf k hl hs hp
    have hs0 := hl s (List.mem_cons_self ..)
    rw [List.length_cons] at hs
    rw [List.zipIdx_cons, List.map_cons]
    have hsplit : pre ++ suf = pre ++ suf.take 32 ++ suf.drop 32 := by rw [List.append_assoc, List.take_append_drop]
    have h1 := fill_step (bvs s) pre (suf.take 32) (suf.drop 32) k ((ss.zipIdx (k + 1)).map fun (p : List Nat × Nat) => (p.2, sv p.1)) (by rw [bvs_length, hs0]) (by rw [List.length_take]; omega) hp
    rw [hsplit]
    refine h1.trans ?_
    rw [ih (pre ++ bvs s) (suf.drop 32) (k + 1) (fun x hx => hl x (List.mem_cons_of_mem _ hx)) (by rw [List.length_drop]; omega) (by rw [List.length_append, bvs_length, hp, hs0]; omega), List.flatten_cons, bvs_append, List.append_assoc]

/-- The k-th sum of a list. -/
theorem nth_flatten : ∀ (ss : List (List Nat)), (∀ s ∈ ss, s.length = 32) → ∀ (k : Nat) (s : List Nat), ss[k]? = some s → nth ss.flatten k = s := by
  intro ss
  induction ss with
  | nil => intro _ k s h; simp at h
  | cons t ts ih =>
    intro hl k s h
    have ht := hl t (List.mem_cons_self ..)
    rw [List.flatten_cons, nth]
    cases k with
    | zero =>
      cases h
      rw [Nat.mul_zero, List.drop_zero, List.take_append_of_le_length (by omega), List.take_of_length_le (by omega)]
    | succ k =>
      rw [show 32 * (k + 1) = t.length + 32 * k by omega, List.drop_length_add_append]
      exact ih (fun x hx => hl x (List.mem_cons_of_mem _ hx)) k s h

/-- The operation, as a region that draws asks it. -/
theorem wp_sums {o : Oper} {a : Act} {w : World} {K : Act → World → Prop} {Q : Exit → Act → World → Prop} (parts : Array (Nat × Operand)) (ss : List (List Nat)) (n : Nat) (ho : o.op = .buildSlice 59 n parts) (hn : n = ss.length)
    (hx : (parts.map fun (i, x) => (i, a.eval x)).toList = (ss.zipIdx 0).map fun (p : List Nat × Nat) => (p.2, sv p.1)) (hl : ∀ s ∈ ss, s.length = 32) (h0 : 0 < n) (h9 : n ≤ 9)
    (h : K (a.put o.dst (.slice (some ⟨w.heap.size, 0, none⟩) n n)) (w.alloc (.cells (bvs ss.flatten).toArray 23))) : o.wp Tryd.prog a w K Q := by
  subst hn
  obtain ⟨i0, hi, hz0, hz1, hz2⟩ := info_parts infoSum
  refine wp_buildSlice 59 23 ss.length parts ho (bvs ss.flatten).toArray i0 _ Tryd.underlying59 hi hz0 (by rw [hz1]; omega) (by rw [hz1]; omega) ?_ h
  rw [hx, hz1]
  have := fill_all ss [] ((Array.range (ss.length * 32)).map ((Value.agg (Array.replicate 32 (.int .u8 0))).cells[· % (Value.agg (Array.replicate 32 (.int .u8 0))).cells.size]!)).toList 0 hl (by simp; omega) rfl
  rw [List.nil_append, Array.toArray_toList, List.nil_append] at this
  exact this

/-- A sum that is loaded, in every world that keeps it. -/
theorem yields_sum {ops : Array Oper} {S : World → Prop} {o : Oper} {a : Act} (hw : Region.wanted o (yielded ops a.tmps) = true) (x : Operand) (ho : o.op = .load 23 x)
    (ad : Addr) (hx : a.eval x = .pointer (some ad)) (s : List Nat) (hl : s.length = 32) (hc : ∀ w, S w → At w ad s) : YieldsIf Tryd.prog ops S o (sv s) a := by
  refine Or.inl ⟨hw, fun w hS => ?_⟩
  unfold execOp
  simp only [ho, hx, Instr.loadAt, Instr.sureAddr, Sem.run_bind, Sem.run_pure, Result.andThen_ok, run_load_sum w ad s hl (hc w hS)]

end Go.Proofs.YthbgcijkpincfaaDoor
