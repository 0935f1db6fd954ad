/-
  What is written into one block; sums in variables of their own; arrays of bytes as slices. No function of the program is named here.
-/
import Derived.Test.YthbgcijkpincfaaDoorLSum
import Derived.Test.YthbgcijkpincfaaDoorLBArr
import Derived.Laws.CopyOwn
import Derived.Deep.MidRow
import Derived.Deep.Quiet
namespace Go.Proofs.YthbgcijkpincfaaDoor
open Go.RowKit

/-- All blocks but g are as they were. -/
structure Only (g : Nat) (w w' : World) : Prop where
  os : w'.os = w.os
  tape : w'.tape = w.tape
  output : w'.output = w.output
  size : w.heap.size ≤ w'.heap.size
  block : ∀ k, k < w.heap.size → k ≠ g → w'.heap[k]? = w.heap[k]?

section
variable {g : Nat} {a b c w w' : World}
theorem Only.refl (g : Nat) (w : World) : Only g w w := ⟨rfl, rfl, rfl, Nat.le_refl _, fun _ _ _ => rfl⟩
theorem Only.trans (h : Only g a b) (k : Only g b c) : Only g a c :=
  ⟨k.os.trans h.os, k.tape.trans h.tape, k.output.trans h.output, Nat.le_trans h.size k.size, fun i hi hn => (k.block i (Nat.lt_of_lt_of_le hi h.size) hn).trans (h.block i hi hn)⟩
theorem Only.of_below (g : Nat) (h : Below w.heap.size w w') : Only g w w' := ⟨h.os, h.tape, h.output, h.size, fun k hk _ => h.block k hk⟩
theorem Only.setCell (h : Only g a w) (o : Nat) (v : Value) : Only g a (w.setCell ⟨g, o, none⟩ v) :=
  h.trans (by
    have := (Below.refl 0 w).setCell (p := ⟨g, o, none⟩) (Nat.zero_le _) v
    exact ⟨this.os, this.tape, this.output, this.size, fun k _ hn => heap_setCell_other w ⟨g, o, none⟩ k v hn⟩)
theorem Only.setCells (vs : List Value) : ∀ {w : World} (o : Nat), Only g a w → Only g a (w.setCells g o vs) := by
  induction vs with
  | nil => intro w o h; exact h
  | cons v vs ih => intro w o h; rw [World.setCells]; exact ih _ (h.setCell o v)
theorem Only.drew (h : Only g a w) : Only g a w.drew := ⟨h.os, h.tape, h.output, h.size, h.block⟩
theorem Only.below {B : Nat} (h : Below B a b) (hg : B ≤ g) (hB : B ≤ a.heap.size) (k : Only g b c) : Below B a c :=
  ⟨k.os.trans h.os, k.tape.trans h.tape, k.output.trans h.output, Nat.le_trans h.size k.size, fun i hi => (k.block i (by have := h.size; omega) (by omega)).trans (h.block i hi)⟩
theorem Only.heap (h : Only g w w') {k : Nat} (hk : k ≠ g) {o : Obj} (hb : w.heap[k]? = some o) : w'.heap[k]? = some o := (h.block k (Array.getElem?_eq_some_iff.1 hb).1 hk).trans hb
theorem Only.cell (h : Only g w w') {p : Addr} (hk : p.block ≠ g) {v : Value} (hb : w.cell? p = some v) : w'.cell? p = some v := by
  have hl := World.block_lt_of_cell? w p hb
  have e := h.block p.block hl hk
  have : w'.cell? p = w.cell? p := by simp only [World.cell?, e]
  rw [this, hb]
end

/-- A slice of n bytes that does not lie in block g. -/
def Off (A : Option Addr) (n g : Nat) : Prop := 0 < n → ∀ ad, A = some ad → ad.block ≠ g
theorem In.only {w w' : World} {A : Option Addr} {n g : Nat} {xs : List Nat} (h : In w A n xs) (ho : Only g w w') (hA : Off A n g) : In w' A n xs :=
  ⟨h.len, fun j x hx => by
    obtain ⟨ad, e, hc⟩ := h.rd j x hx
    exact ⟨ad, e, ho.cell (by rw [block_add]; exact hA (by have := (List.getElem?_eq_some_iff.1 hx).1; rw [h.len] at this; omega) ad e) hc⟩⟩

theorem Only.setRow {g : Nat} {a w : World} (h : Only g a w) (cs : Array Value) : Only g a (w.setRow g cs) :=
  h.trans ⟨rfl, rfl, rfl, by rw [size_setRow]; exact Nat.le_refl _, fun k _ hn => setRow_other w g k cs hn⟩

theorem quiet_load_mid {ops : Array Oper} {o : Oper} {a : Act} {C : World → Prop} {K : Act → Prop} {E : Prop} (hgd : o.guard = none) (ty : TypeId) (x : Operand) (ho : o.op = .load ty x)
    (b k : Nat) (hx : a.eval x = .pointer (some ⟨b, k, none⟩)) (cs : List Value) (d : TypeDesc) (hu : Tryd.prog.underlying ty = some d) (hd : d.isRow = true) (hi : (Tryd.prog.info? ty).map (·.size) = some cs.length) (hc : ∀ w, C w → w.rangeAt b k cs) (h : K (a.put o.dst (.agg cs.toArray))) :
    if Region.wanted o (yielded ops a.tmps) = true then o.quiet Tryd.prog a C K else E := by
  have hw : Region.wanted o (yielded ops a.tmps) = true := by simp [Region.wanted, hgd]
  rw [if_pos hw]
  refine ⟨.agg cs.toArray, fun w hC => ?_, h⟩
  unfold Oper.quietAt execOp
  simp only [ho, hx, run_loadAt_mid w b k ty cs d (hc w hC) hu hd hi, Sem.run_bind, Sem.run_pure, Result.andThen_ok]
  exact ⟨rfl, rfl⟩

def zero32 : List Nat := List.replicate 32 0
theorem wpList_store_sum {ops : Array Oper} {rest : List Oper} {o : Oper} {a : Act} {w : World} {Q : Exit → Act → World → Prop} (hgd : o.guard = none) (x y : Operand) (ho : o.op = .store 23 x y)
    (g : Nat) (hx : a.eval x = .pointer (some ⟨g, 0, none⟩)) {T : TypeId} (xs ys : List Nat) (hl : Hid (xs.length = 32)) (hl' : ys.length = 32) (hc : BArr w g T xs) (hy : a.eval y = sv ys)
    (h : wpList Tryd.prog ops Q rest (a.put o.dst undef) (w.setRow g (bvs ys).toArray)) : wpList Tryd.prog ops Q (o :: rest) a w :=
  wpList_store_row hgd 23 x y ho g (bvs ys).toArray hx hy T (bvs xs).toArray hc (by rw [List.size_toArray, bvs_length, hl']; exact sizeSum) (by rw [List.size_toArray, bvs_length, hl.out, List.size_toArray, bvs_length, hl']) (all_oneCell_toArray (bvs_oneCell ys)) h

/-- Two results, of which the first lies in memory. -/
theorem results_cell_tmp {P : Program} {fn : Func} {p q : Tmp} {ty : TypeId} (h : fn.results = #[.cell p ty, .tmp q]) (tmps : Array Value) (w : World) (ad : Addr) (v : Value)
    (hp : tmps.getD p undef = .pointer (some ad)) (hl : (loadVar ty ad).run P w = .ok v w) : (results fn tmps).run P w = .ok (.tuple #[v, tmps.getD q undef]) w := by
  have hp' : tmps[p]?.getD undef = .pointer (some ad) := by simpa using hp
  simp [results, h, hp', asAddr, hl]

theorem lit32_zero : (Value.agg #[.int .u8 0, .int .u8 0, .int .u8 0, .int .u8 0, .int .u8 0, .int .u8 0, .int .u8 0, .int .u8 0, .int .u8 0, .int .u8 0, .int .u8 0, .int .u8 0, .int .u8 0, .int .u8 0, .int .u8 0, .int .u8 0, .int .u8 0, .int .u8 0, .int .u8 0, .int .u8 0, .int .u8 0, .int .u8 0, .int .u8 0, .int .u8 0, .int .u8 0, .int .u8 0, .int .u8 0, .int .u8 0, .int .u8 0, .int .u8 0, .int .u8 0, .int .u8 0]) = sv zero32 := rfl
/-- Noughts into a variable of noughts. -/
theorem wpList_store_nought {ops : Array Oper} {rest : List Oper} {o : Oper} {a : Act} {w : World} {Q : Exit → Act → World → Prop} (hgd : o.guard = none) (x y : Operand) (ho : o.op = .store 23 x y)
    (g : Nat) (hx : a.eval x = .pointer (some ⟨g, 0, none⟩)) (hg : w.heap[g]? = some (.cells #[.int .u8 0, .int .u8 0, .int .u8 0, .int .u8 0, .int .u8 0, .int .u8 0, .int .u8 0, .int .u8 0, .int .u8 0, .int .u8 0, .int .u8 0, .int .u8 0, .int .u8 0, .int .u8 0, .int .u8 0, .int .u8 0, .int .u8 0, .int .u8 0, .int .u8 0, .int .u8 0, .int .u8 0, .int .u8 0, .int .u8 0, .int .u8 0, .int .u8 0, .int .u8 0, .int .u8 0, .int .u8 0, .int .u8 0, .int .u8 0, .int .u8 0, .int .u8 0] 23 (0, 0))) (hy : a.eval y = .agg #[.int .u8 0, .int .u8 0, .int .u8 0, .int .u8 0, .int .u8 0, .int .u8 0, .int .u8 0, .int .u8 0, .int .u8 0, .int .u8 0, .int .u8 0, .int .u8 0, .int .u8 0, .int .u8 0, .int .u8 0, .int .u8 0, .int .u8 0, .int .u8 0, .int .u8 0, .int .u8 0, .int .u8 0, .int .u8 0, .int .u8 0, .int .u8 0, .int .u8 0, .int .u8 0, .int .u8 0, .int .u8 0, .int .u8 0, .int .u8 0, .int .u8 0, .int .u8 0])
    (h : ∀ w', BArr w' g 23 zero32 → Only g w w' → wpList Tryd.prog ops Q rest (a.put o.dst undef) w') : wpList Tryd.prog ops Q (o :: rest) a w :=
  wpList_store_row hgd 23 x y ho g (bvs zero32).toArray hx hy 23 (bvs zero32).toArray hg sizeSum rfl (all_oneCell_toArray (bvs_oneCell zero32)) (h _ (setRow_heap w g _ _ _ (0, 0) hg) ((Only.refl g w).setRow _))
theorem eql_nought (w : World) : (binOp .eql 23 (sv zero32) (.agg #[.int .u8 0, .int .u8 0, .int .u8 0, .int .u8 0, .int .u8 0, .int .u8 0, .int .u8 0, .int .u8 0, .int .u8 0, .int .u8 0, .int .u8 0, .int .u8 0, .int .u8 0, .int .u8 0, .int .u8 0, .int .u8 0, .int .u8 0, .int .u8 0, .int .u8 0, .int .u8 0, .int .u8 0, .int .u8 0, .int .u8 0, .int .u8 0, .int .u8 0, .int .u8 0, .int .u8 0, .int .u8 0, .int .u8 0, .int .u8 0, .int .u8 0, .int .u8 0])).run Tryd.prog w = .ok (.bool true) w := run_eql_sum zero32 zero32 rfl rfl w
theorem guard_nought (x y : Operand) (w : World) : (eqGuard .eql 23 x y (sv zero32) (.agg #[.int .u8 0, .int .u8 0, .int .u8 0, .int .u8 0, .int .u8 0, .int .u8 0, .int .u8 0, .int .u8 0, .int .u8 0, .int .u8 0, .int .u8 0, .int .u8 0, .int .u8 0, .int .u8 0, .int .u8 0, .int .u8 0, .int .u8 0, .int .u8 0, .int .u8 0, .int .u8 0, .int .u8 0, .int .u8 0, .int .u8 0, .int .u8 0, .int .u8 0, .int .u8 0, .int .u8 0, .int .u8 0, .int .u8 0, .int .u8 0, .int .u8 0, .int .u8 0])).run Tryd.prog w = .ok () w := run_guard_eql x y zero32 zero32 w

/-- 'a[k:]', 'a[:k]' of an array of bytes. -/
theorem run_arr_l {T : TypeId} {n : Nat} (hu : Tryd.prog.underlying T = some (.array n 5)) (ad : Addr) (kd : IntKind) (z : Int) (k : Nat) (hz : z = (k : Int)) (hk : k ≤ n) (W : World) :
    (Instr.sliceAt T (.pointer (some ad)) (some (.int kd z)) none none).run Tryd.prog W = .ok (.slice (some (if n = k then ad else ad.add k)) (n - k) (n - k)) W := by
  subst hz
  obtain ⟨i0, hi, hz0, hz1, hz2⟩ := info_parts infoByte
  simp [Instr.sliceAt, run_underlying hu, Instr.sureAddr, Instr.sliceBounds, run_sliceBound, sizeOf, typeInfo, hi, hz1, hk]
theorem run_arr_h {T : TypeId} {n : Nat} (hu : Tryd.prog.underlying T = some (.array n 5)) (ad : Addr) (kd : IntKind) (z : Int) (k : Nat) (hz : z = (k : Int)) (hk : k ≤ n) (W : World) :
    (Instr.sliceAt T (.pointer (some ad)) none (some (.int kd z)) none).run Tryd.prog W = .ok (.slice (some ad) k n) W := by
  subst hz
  obtain ⟨i0, hi, hz0, hz1, hz2⟩ := info_parts infoByte
  simp [Instr.sliceAt, run_underlying hu, Instr.sureAddr, Instr.sliceBounds, run_sliceBound, sizeOf, typeInfo, hi, hk, Addr.add]
theorem run_arr_all {T : TypeId} {n : Nat} (hu : Tryd.prog.underlying T = some (.array n 5)) (ad : Addr) (W : World) :
    (Instr.sliceAt T (.pointer (some ad)) none none none).run Tryd.prog W = .ok (.slice (some ad) n n) W := by
  obtain ⟨i0, hi, hz0, hz1, hz2⟩ := info_parts infoByte
  simp [Instr.sliceAt, run_underlying hu, Instr.sureAddr, Instr.sliceBounds, sizeOf, typeInfo, hi, Addr.add]

theorem bvs_splice (ys : List Nat) (k : Nat) (cs : List Nat) : splice (bvs ys) k (bvs cs) = bvs (ys.take k ++ cs ++ ys.drop (k + cs.length)) := by
  unfold splice
  rw [bvs_append, bvs_append, bvs_length]
  simp [bvs, List.map_take, List.map_drop]

end Go.Proofs.YthbgcijkpincfaaDoor
