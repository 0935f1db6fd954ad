/-
  Arrays of numbers of 32 bits, each in a block of its own.
-/
import Derived.Test.YthbgcijkpincfaaDoorShaRot
import Derived.Deep.QuietTactic
import Derived.BigQuiet
import Derived.StillTailTactics
import Derived.Deep.WholeRow
import Derived.Deep.MidRow
import Derived.Deep.RegionHeld3
import Derived.Deep.CutRange
import Derived.Deep.CutBlock
import Derived.Deep.DeepCutAuto
namespace Go.Proofs.YthbgcijkpincfaaDoor
open Go.RowKit

/-- A number of 32 bits as a value. -/
def uv (x : Nat) : Value := .int .u32 (x : Int)
def uvs (xs : List Nat) : List Value := xs.map uv
theorem uvs_length (xs : List Nat) : (uvs xs).length = xs.length := List.length_map ..
theorem uvs_get (xs : List Nat) (j : Nat) : (uvs xs)[j]? = (xs[j]?).map uv := List.getElem?_map ..
theorem uvs_set (xs : List Nat) (i v : Nat) : (uvs xs).set i (uv v) = uvs (xs.set i v) := by
  unfold uvs
  rw [List.map_set]
theorem uvs_oneCell (xs : List Nat) : ∀ u ∈ uvs xs, u.oneCell' = true := by
  intro u hu
  obtain ⟨x, _, rfl⟩ := List.mem_map.1 hu
  rfl

theorem quiet_add_left {P : Program} {f : FuncId} {args : Array Value} {w : World} {a n : Nat} {v : Value}
    (h : Calls P f args (w.drewN (a + n)) fun e w' => e = .returned v ∧ w.drewN (a + n) = w') :
    Calls P f args (w.drewN (a + n)) fun e w'' => e = .returned v ∧ ∃ m, w'' = w.drewN (a + m) :=
  h.mono fun _ _ ⟨he, hm⟩ => ⟨he, n, hm.symm⟩
theorem quiet_left {P : Program} {f : FuncId} {args : Array Value} {w : World} {n : Nat} {v : Value}
    (h : Calls P f args (w.drewN n) fun e w' => e = .returned v ∧ w.drewN n = w') : Calls P f args (w.drewN n) fun e w'' => e = .returned v ∧ ∃ m, w'' = w.drewN m :=
  h.mono fun _ _ ⟨he, hm⟩ => ⟨he, n, hm.symm⟩

theorem still_left {P : Program} {f : FuncId} {args : Array Value} {w : World} {v : Value} (h : Calls P f args w fun e w' => e = .returned v ∧ w = w') :
    Calls P f args w fun e w' => e = .returned v ∧ w' = w := h.mono fun _ _ ⟨he, hm⟩ => ⟨he, hm.symm⟩

theorem below_setRow {B : Nat} {a w : World} (h : Below B a w) {g : Nat} (hg : B ≤ g) (cs : Array Value) : Below B a (w.setRow g cs) :=
  ⟨h.os, h.tape, h.output, by rw [size_setRow]; exact h.size, fun k hk => by rw [setRow_other _ _ _ _ (by omega)]; exact h.block k hk⟩

/-- Block g is an array of the numbers xs. -/
def Arr (w : World) (g : Nat) (T : TypeId) (xs : List Nat) : Prop := w.heap[g]? = some (.cells (uvs xs).toArray T (0, 0))

section
variable {w w' : World} {g : Nat} {T : TypeId} {xs : List Nat}
theorem Arr.cell (h : Arr w g T xs) {i : Nat} (hi : i < xs.length) : w.cell? ⟨g, i, none⟩ = some (.int .u32 ((xs.getD i 0 : Nat) : Int)) := by
  rw [cell_of_row _ g i _ T (0, 0) h, List.getElem?_toArray, uvs_get, List.getElem?_eq_getElem hi, List.getD_eq_getElem?_getD, List.getElem?_eq_getElem hi]
  rfl
theorem Arr.free (h : Arr w g T xs) (i : Nat) : w.frozen? ⟨g, i, none⟩ = false := frozen_of_row w g i _ T h
theorem Arr.set (h : Arr w g T xs) (i v : Nat) : Arr (w.setCell ⟨g, i, none⟩ (.int .u32 (v : Int))) g T (xs.set i v) := by
  unfold Arr
  rw [heap_setCell_same w g i _ T _ h, List.setIfInBounds_toArray, ← uvs_set]
  rfl
theorem Arr.other (h : Arr w g T xs) (a : Addr) (v : Value) (hne : g ≠ a.block) : Arr (w.setCell a v) g T xs := by
  unfold Arr
  rw [heap_setCell_other w a g v hne]
  exact h
theorem Arr.drewN (h : Arr w g T xs) (q : Nat) : Arr (w.drewN q) g T xs := h
theorem Arr.drew (h : Arr w g T xs) : Arr w.drew g T xs := h
theorem Arr.below (h : Arr w g T xs) (hb : Below w.heap.size w w') : Arr w' g T xs := (hb.block g (Array.getElem?_eq_some_iff.1 h).1).trans h
theorem Arr.alloc (h : Arr w g T xs) (o : Obj) : Arr (w.alloc o) g T xs := h.below (below_alloc w o)
theorem Arr.lt (h : Arr w g T xs) : g < w.heap.size := (Array.getElem?_eq_some_iff.1 h).1
theorem Arr.new (w : World) (T : TypeId) (xs : List Nat) : Arr (w.alloc (.cells (uvs xs).toArray T)) w.heap.size T xs := World.alloc_heap_new w _
theorem Arr.setRow (h : Arr w g T xs) (ys : List Nat) : Arr (w.setRow g (uvs ys).toArray) g T ys := setRow_heap w g _ _ T (0, 0) h
theorem Arr.setRow_other (h : Arr w g T xs) (k : Nat) (hne : g ≠ k) (cs : Array Value) : Arr (w.setRow k cs) g T xs := by
  unfold Arr
  rw [Go.setRow_other _ _ _ _ hne]
  exact h
end

theorem info8 : (Tryd.prog.info? 79).map (·.size) = some 8 := by kernel_rfl
theorem info16 : (Tryd.prog.info? 100).map (·.size) = some 16 := by kernel_rfl

theorem wpList_load8 {ops : Array Oper} {rest : List Oper} {o : Oper} {a : Act} {w : World} {Q : Exit → Act → World → Prop} (hgd : o.guard = none) (x : Operand) (ho : o.op = .load 79 x)
    (g : Nat) (hx : a.eval x = .pointer (some ⟨g, 0, none⟩)) {T : TypeId} (xs : List Nat) (hl : Hid (xs.length = 8)) (hc : Arr w g T xs)
    (h : wpList Tryd.prog ops Q rest (a.put o.dst (.agg (uvs xs).toArray)) w) : wpList Tryd.prog ops Q (o :: rest) a w :=
  wpList_load_row hgd 79 x ho g hx T (uvs xs).toArray (0, 0) _ hc Tryd.underlying79 rfl (by rw [List.size_toArray, uvs_length, hl.out]; exact info8) h

theorem wpList_store8 {ops : Array Oper} {rest : List Oper} {o : Oper} {a : Act} {w : World} {Q : Exit → Act → World → Prop} (hgd : o.guard = none) (x y : Operand) (ho : o.op = .store 79 x y)
    (g : Nat) (hx : a.eval x = .pointer (some ⟨g, 0, none⟩)) {T : TypeId} (xs ys : List Nat) (hl : Hid (xs.length = 8)) (hl' : Hid (ys.length = 8)) (hc : Arr w g T xs) (hy : a.eval y = .agg (uvs ys).toArray)
    (h : wpList Tryd.prog ops Q rest (a.put o.dst undef) (w.setRow g (uvs ys).toArray)) : wpList Tryd.prog ops Q (o :: rest) a w :=
  wpList_store_row hgd 79 x y ho g (uvs ys).toArray hx hy T (uvs xs).toArray hc (by rw [List.size_toArray, uvs_length, hl'.out]; exact info8) (by rw [List.size_toArray, uvs_length, hl.out, List.size_toArray, uvs_length, hl'.out]) (all_oneCell_toArray (uvs_oneCell ys)) h

def zero8 : List Nat := [0, 0, 0, 0, 0, 0, 0, 0]
theorem zero8_lit : (uvs zero8).toArray = #[.int .u32 0, .int .u32 0, .int .u32 0, .int .u32 0, .int .u32 0, .int .u32 0, .int .u32 0, .int .u32 0] := rfl

end Go.Proofs.YthbgcijkpincfaaDoor
