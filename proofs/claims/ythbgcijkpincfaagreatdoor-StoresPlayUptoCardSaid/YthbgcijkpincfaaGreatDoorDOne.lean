/-
  '[]E{x}', x a whole value of many cells: the row of one. No function of the program is named here.
-/
import Derived.Test.YthbgcijkpincfaaGreatDoorDChunk
import Derived.Great.BuildSlice
import Derived.Deep.RegionHeld
namespace Go.Proofs.YthbgcijkpincfaaGreatDoor
open Go.RowKit

theorem fold_fill (l : List Value) : ∀ (pre suf : List Value) (off : Nat), suf.length = l.length → pre.length = off →
    ((l.zipIdx off).foldl (fun (cs : Array Value) (x : Value × Nat) => cs.setIfInBounds (0 + x.2) x.1) (pre ++ suf).toArray) = (pre ++ l).toArray := by
  induction l with
  | nil =>
    intro pre suf off h _
    obtain rfl : suf = [] := List.eq_nil_of_length_eq_zero h
    rfl
  | cons x l ih =>
    intro pre suf off h hp
    cases suf with
    | nil => simp at h
    | cons y suf =>
      rw [List.zipIdx_cons, List.foldl_cons]
      have e : (pre ++ y :: suf).toArray.setIfInBounds (0 + off) x = ((pre ++ [x]) ++ suf).toArray := by
        rw [List.setIfInBounds_toArray, Nat.zero_add, List.set_append_right _ _ (by omega), hp, Nat.sub_self, List.set_cons_zero, List.append_assoc]
        rfl
      rw [e, ih (pre ++ [x]) suf (off + 1) (by simpa using h) (by rw [List.length_append, hp]; rfl), List.append_assoc]
      rfl

theorem fill_whole (cs : List Value) (cells : Array Value) (m : Nat) (h1 : cs.length = m) (h2 : cells.size = m) :
    Instr.fill (fun i => some (i * m, m)) cells [(0, .agg cs.toArray)] = some cs.toArray := by
  have e := fold_fill cs [] cells.toList 0 (by rw [Array.length_toList, h1, h2]) rfl
  simp only [List.nil_append] at e
  have e2 : (cs.toArray.zipIdx.foldl (fun (cs : Array Value) (x : Value × Nat) => cs.setIfInBounds (0 + x.2) x.1) cells) = cs.toArray := by
    rw [← Array.foldl_toList]
    have : cs.toArray.zipIdx.toList = cs.zipIdx 0 := by simp
    rw [this]
    simpa using e
  have hv : (Value.agg cs.toArray).cells = cs.toArray := rfl
  unfold Instr.fill
  simp only [hv, Nat.zero_mul, List.size_toArray, h1, h2, Nat.zero_add]
  rw [if_neg (by simp)]
  unfold Instr.fill
  simp only [Nat.zero_add] at e2
  exact congrArg some e2

/-- The operation, as a region that draws asks it. -/
theorem wp_one {o : Oper} {a : Act} {w : World} {K : Act → World → Prop} {Q : Exit → Act → World → Prop} (t e : TypeId) (x : Operand) (ho : o.op = .buildSlice t 1 #[(0, x)])
    (ie : TypeInfo) (z : Value) (m : Nat) (cs : List Value) (hx : a.eval x = .agg cs.toArray)
    (hu : Tryz.prog.underlying t = some (.slice e)) (hie : Tryz.prog.info? e = some ie) (hz : ie.zero = some z) (hsz : ie.size = m) (hm0 : 0 < m) (hm : m ≤ 1000000) (hl : cs.length = m)
    (h : K (a.put o.dst (.slice (some ⟨w.heap.size, 0, none⟩) 1 1)) (w.alloc (.cells cs.toArray e))) : o.wp Tryz.prog a w K Q := by
  subst hsz
  refine wp_buildSlice t e 1 _ ho cs.toArray ie z hu hie hz (by omega) (by omega) ?_ h
  have : ((#[(0, x)] : Array (Nat × Operand)).map fun (p : Nat × Operand) => (p.1, a.eval p.2)).toList = [(0, .agg cs.toArray)] := by simp [hx]
  rw [show ((#[(0, x)] : Array (Nat × Operand)).map fun (i, x) => (i, a.eval x)).toList = [(0, .agg cs.toArray)] from this]
  exact fill_whole cs _ ie.size hl (by simp)

end Go.Proofs.YthbgcijkpincfaaGreatDoor
