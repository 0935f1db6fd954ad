/-
  Several texts in one: LOnly, LMark, LBook, LFill, LSums, LSumAt, LQuietTail, LFillS, LGrowS, LGrow.
-/
import Derived.Test.YtfniddnfkciblaaGreatDoorOfB3
import Derived.Laws.CopyOwn
import Derived.Deep.MidRow
import Derived.Deep.Quiet
import Derived.Deep.RegionHeld3
import Derived.Deep.AppendLies
import Derived.Laws.Pointers
import Derived.StillTactics
import Derived.Laws.CopyRow
import Derived.StillTail
import Derived.Great.BuildSlice
/-
  What is written into one block; sums in variables of their own; arrays of bytes as slices. No function of the program is named here.
-/
namespace Go.Proofs.YtfniddnfkciblaaGreatDoor
open Go.RowKit

/-- All blocks but g are as they were. -/
structure Only (g : Nat) (w w' : World) : Prop where
  os : w'.os = w.os
  tape : w'.tape = w.tape
  output : w'.output = w.output
  size : w.heap.size ≤ w'.heap.size
  block : ∀ k, k < w.heap.size → k ≠ g → w'.heap[k]? = w.heap[k]?

section
variable {g : Nat} {a b c w w' : World}
theorem Only.refl (g : Nat) (w : World) : Only g w w := ⟨rfl, rfl, rfl, Nat.le_refl _, fun _ _ _ => rfl⟩
theorem Only.trans (h : Only g a b) (k : Only g b c) : Only g a c :=
  ⟨k.os.trans h.os, k.tape.trans h.tape, k.output.trans h.output, Nat.le_trans h.size k.size, fun i hi hn => (k.block i (Nat.lt_of_lt_of_le hi h.size) hn).trans (h.block i hi hn)⟩
theorem Only.of_below (g : Nat) (h : Below w.heap.size w w') : Only g w w' := ⟨h.os, h.tape, h.output, h.size, fun k hk _ => h.block k hk⟩
theorem Only.setCell (h : Only g a w) (o : Nat) (v : Value) : Only g a (w.setCell ⟨g, o, none⟩ v) :=
  h.trans (by
    have := (Below.refl 0 w).setCell (p := ⟨g, o, none⟩) (Nat.zero_le _) v
    exact ⟨this.os, this.tape, this.output, this.size, fun k _ hn => heap_setCell_other w ⟨g, o, none⟩ k v hn⟩)
theorem Only.setCells (vs : List Value) : ∀ {w : World} (o : Nat), Only g a w → Only g a (w.setCells g o vs) := by
  induction vs with
  | nil => intro w o h; exact h
  | cons v vs ih => intro w o h; rw [World.setCells]; exact ih _ (h.setCell o v)
theorem Only.drew (h : Only g a w) : Only g a w.drew := ⟨h.os, h.tape, h.output, h.size, h.block⟩
theorem Only.below {B : Nat} (h : Below B a b) (hg : B ≤ g) (hB : B ≤ a.heap.size) (k : Only g b c) : Below B a c :=
  ⟨k.os.trans h.os, k.tape.trans h.tape, k.output.trans h.output, Nat.le_trans h.size k.size, fun i hi => (k.block i (by have := h.size; omega) (by omega)).trans (h.block i hi)⟩
theorem Only.heap (h : Only g w w') {k : Nat} (hk : k ≠ g) {o : Obj} (hb : w.heap[k]? = some o) : w'.heap[k]? = some o := (h.block k (Array.getElem?_eq_some_iff.1 hb).1 hk).trans hb
theorem Only.cell (h : Only g w w') {p : Addr} (hk : p.block ≠ g) {v : Value} (hb : w.cell? p = some v) : w'.cell? p = some v := by
  have hl := World.block_lt_of_cell? w p hb
  have e := h.block p.block hl hk
  have : w'.cell? p = w.cell? p := by simp only [World.cell?, e]
  rw [this, hb]
end

/-- A slice of n bytes that does not lie in block g. -/
def Off (A : Option Addr) (n g : Nat) : Prop := 0 < n → ∀ ad, A = some ad → ad.block ≠ g
theorem In.only {w w' : World} {A : Option Addr} {n g : Nat} {xs : List Nat} (h : In w A n xs) (ho : Only g w w') (hA : Off A n g) : In w' A n xs :=
  ⟨h.len, fun j x hx => by
    obtain ⟨ad, e, hc⟩ := h.rd j x hx
    exact ⟨ad, e, ho.cell (by rw [block_add]; exact hA (by have := (List.getElem?_eq_some_iff.1 hx).1; rw [h.len] at this; omega) ad e) hc⟩⟩

theorem Only.setRow {g : Nat} {a w : World} (h : Only g a w) (cs : Array Value) : Only g a (w.setRow g cs) :=
  h.trans ⟨rfl, rfl, rfl, by rw [size_setRow]; exact Nat.le_refl _, fun k _ hn => setRow_other w g k cs hn⟩

theorem quiet_load_mid {ops : Array Oper} {o : Oper} {a : Act} {C : World → Prop} {K : Act → Prop} {E : Prop} (hgd : o.guard = none) (ty : TypeId) (x : Operand) (ho : o.op = .load ty x)
    (b k : Nat) (hx : a.eval x = .pointer (some ⟨b, k, none⟩)) (cs : List Value) (d : TypeDesc) (hu : Tryz.prog.underlying ty = some d) (hd : d.isRow = true) (hi : (Tryz.prog.info? ty).map (·.size) = some cs.length) (hc : ∀ w, C w → w.rangeAt b k cs) (h : K (a.put o.dst (.agg cs.toArray))) :
    if Region.wanted o (yielded ops a.tmps) = true then o.quiet Tryz.prog a C K else E := by
  have hw : Region.wanted o (yielded ops a.tmps) = true := by simp [Region.wanted, hgd]
  rw [if_pos hw]
  refine ⟨.agg cs.toArray, fun w hC => ?_, h⟩
  unfold Oper.quietAt execOp
  simp only [ho, hx, run_loadAt_mid w b k ty cs d (hc w hC) hu hd hi, Sem.run_bind, Sem.run_pure, Result.andThen_ok]
  exact ⟨rfl, rfl⟩

def zero32 : List Nat := List.replicate 32 0
theorem wpList_store_sum {ops : Array Oper} {rest : List Oper} {o : Oper} {a : Act} {w : World} {Q : Exit → Act → World → Prop} (hgd : o.guard = none) (x y : Operand) (ho : o.op = .store 90 x y)
    (g : Nat) (hx : a.eval x = .pointer (some ⟨g, 0, none⟩)) {T : TypeId} (xs ys : List Nat) (hl : Hid (xs.length = 32)) (hl' : ys.length = 32) (hc : BArr w g T xs) (hy : a.eval y = sv ys)
    (h : wpList Tryz.prog ops Q rest (a.put o.dst undef) (w.setRow g (bvs ys).toArray)) : wpList Tryz.prog ops Q (o :: rest) a w :=
  wpList_store_row hgd 90 x y ho g (bvs ys).toArray hx hy T (bvs xs).toArray hc (by rw [List.size_toArray, bvs_length, hl']; exact sizeSum) (by rw [List.size_toArray, bvs_length, hl.out, List.size_toArray, bvs_length, hl']) (all_oneCell_toArray (bvs_oneCell ys)) h

/-- Two results, of which the first lies in memory. -/
theorem results_cell_tmp {P : Program} {fn : Func} {p q : Tmp} {ty : TypeId} (h : fn.results = #[.cell p ty, .tmp q]) (tmps : Array Value) (w : World) (ad : Addr) (v : Value)
    (hp : tmps.getD p undef = .pointer (some ad)) (hl : (loadVar ty ad).run P w = .ok v w) : (results fn tmps).run P w = .ok (.tuple #[v, tmps.getD q undef]) w := by
  have hp' : tmps[p]?.getD undef = .pointer (some ad) := by simpa using hp
  simp [results, h, hp', asAddr, hl]

theorem lit32_zero : (Value.agg #[.int .u8 0, .int .u8 0, .int .u8 0, .int .u8 0, .int .u8 0, .int .u8 0, .int .u8 0, .int .u8 0, .int .u8 0, .int .u8 0, .int .u8 0, .int .u8 0, .int .u8 0, .int .u8 0, .int .u8 0, .int .u8 0, .int .u8 0, .int .u8 0, .int .u8 0, .int .u8 0, .int .u8 0, .int .u8 0, .int .u8 0, .int .u8 0, .int .u8 0, .int .u8 0, .int .u8 0, .int .u8 0, .int .u8 0, .int .u8 0, .int .u8 0, .int .u8 0]) = sv zero32 := rfl
/-- Noughts into a variable of noughts. -/
theorem wpList_store_nought {ops : Array Oper} {rest : List Oper} {o : Oper} {a : Act} {w : World} {Q : Exit → Act → World → Prop} (hgd : o.guard = none) (x y : Operand) (ho : o.op = .store 90 x y)
    (g : Nat) (hx : a.eval x = .pointer (some ⟨g, 0, none⟩)) (hg : w.heap[g]? = some (.cells #[.int .u8 0, .int .u8 0, .int .u8 0, .int .u8 0, .int .u8 0, .int .u8 0, .int .u8 0, .int .u8 0, .int .u8 0, .int .u8 0, .int .u8 0, .int .u8 0, .int .u8 0, .int .u8 0, .int .u8 0, .int .u8 0, .int .u8 0, .int .u8 0, .int .u8 0, .int .u8 0, .int .u8 0, .int .u8 0, .int .u8 0, .int .u8 0, .int .u8 0, .int .u8 0, .int .u8 0, .int .u8 0, .int .u8 0, .int .u8 0, .int .u8 0, .int .u8 0] 90 (0, 0))) (hy : a.eval y = .agg #[.int .u8 0, .int .u8 0, .int .u8 0, .int .u8 0, .int .u8 0, .int .u8 0, .int .u8 0, .int .u8 0, .int .u8 0, .int .u8 0, .int .u8 0, .int .u8 0, .int .u8 0, .int .u8 0, .int .u8 0, .int .u8 0, .int .u8 0, .int .u8 0, .int .u8 0, .int .u8 0, .int .u8 0, .int .u8 0, .int .u8 0, .int .u8 0, .int .u8 0, .int .u8 0, .int .u8 0, .int .u8 0, .int .u8 0, .int .u8 0, .int .u8 0, .int .u8 0])
    (h : ∀ w', BArr w' g 90 zero32 → Only g w w' → wpList Tryz.prog ops Q rest (a.put o.dst undef) w') : wpList Tryz.prog ops Q (o :: rest) a w :=
  wpList_store_row hgd 90 x y ho g (bvs zero32).toArray hx hy 90 (bvs zero32).toArray hg sizeSum rfl (all_oneCell_toArray (bvs_oneCell zero32)) (h _ (setRow_heap w g _ _ _ (0, 0) hg) ((Only.refl g w).setRow _))
theorem eql_nought (w : World) : (binOp .eql 90 (sv zero32) (.agg #[.int .u8 0, .int .u8 0, .int .u8 0, .int .u8 0, .int .u8 0, .int .u8 0, .int .u8 0, .int .u8 0, .int .u8 0, .int .u8 0, .int .u8 0, .int .u8 0, .int .u8 0, .int .u8 0, .int .u8 0, .int .u8 0, .int .u8 0, .int .u8 0, .int .u8 0, .int .u8 0, .int .u8 0, .int .u8 0, .int .u8 0, .int .u8 0, .int .u8 0, .int .u8 0, .int .u8 0, .int .u8 0, .int .u8 0, .int .u8 0, .int .u8 0, .int .u8 0])).run Tryz.prog w = .ok (.bool true) w := run_eql_sum zero32 zero32 rfl rfl w
theorem guard_nought (x y : Operand) (w : World) : (eqGuard .eql 90 x y (sv zero32) (.agg #[.int .u8 0, .int .u8 0, .int .u8 0, .int .u8 0, .int .u8 0, .int .u8 0, .int .u8 0, .int .u8 0, .int .u8 0, .int .u8 0, .int .u8 0, .int .u8 0, .int .u8 0, .int .u8 0, .int .u8 0, .int .u8 0, .int .u8 0, .int .u8 0, .int .u8 0, .int .u8 0, .int .u8 0, .int .u8 0, .int .u8 0, .int .u8 0, .int .u8 0, .int .u8 0, .int .u8 0, .int .u8 0, .int .u8 0, .int .u8 0, .int .u8 0, .int .u8 0])).run Tryz.prog w = .ok () w := run_guard_eql x y zero32 zero32 w

/-- 'a[k:]', 'a[:k]' of an array of bytes. -/
theorem run_arr_l {T : TypeId} {n : Nat} (hu : Tryz.prog.underlying T = some (.array n 5)) (ad : Addr) (kd : IntKind) (z : Int) (k : Nat) (hz : z = (k : Int)) (hk : k ≤ n) (W : World) :
    (Instr.sliceAt T (.pointer (some ad)) (some (.int kd z)) none none).run Tryz.prog W = .ok (.slice (some (if n = k then ad else ad.add k)) (n - k) (n - k)) W := by
  subst hz
  obtain ⟨i0, hi, hz0, hz1, hz2⟩ := info_parts infoByte
  simp [Instr.sliceAt, run_underlying hu, Instr.sureAddr, Instr.sliceBounds, run_sliceBound, sizeOf, typeInfo, hi, hz1, hk]
theorem run_arr_h {T : TypeId} {n : Nat} (hu : Tryz.prog.underlying T = some (.array n 5)) (ad : Addr) (kd : IntKind) (z : Int) (k : Nat) (hz : z = (k : Int)) (hk : k ≤ n) (W : World) :
    (Instr.sliceAt T (.pointer (some ad)) none (some (.int kd z)) none).run Tryz.prog W = .ok (.slice (some ad) k n) W := by
  subst hz
  obtain ⟨i0, hi, hz0, hz1, hz2⟩ := info_parts infoByte
  simp [Instr.sliceAt, run_underlying hu, Instr.sureAddr, Instr.sliceBounds, run_sliceBound, sizeOf, typeInfo, hi, hk, Addr.add]
theorem run_arr_all {T : TypeId} {n : Nat} (hu : Tryz.prog.underlying T = some (.array n 5)) (ad : Addr) (W : World) :
    (Instr.sliceAt T (.pointer (some ad)) none none none).run Tryz.prog W = .ok (.slice (some ad) n n) W := by
  obtain ⟨i0, hi, hz0, hz1, hz2⟩ := info_parts infoByte
  simp [Instr.sliceAt, run_underlying hu, Instr.sureAddr, Instr.sliceBounds, sizeOf, typeInfo, hi, Addr.add]

theorem bvs_splice (ys : List Nat) (k : Nat) (cs : List Nat) : splice (bvs ys) k (bvs cs) = bvs (ys.take k ++ cs ++ ys.drop (k + cs.length)) := by
  unfold splice
  rw [bvs_append, bvs_append, bvs_length]
  simp [bvs, List.map_take, List.map_drop]

end Go.Proofs.YtfniddnfkciblaaGreatDoor

/-
  The mark of a number as a sum.
-/
namespace Go.Proofs.YtfniddnfkciblaaGreatDoor
open Go.RowKit

/-- The bytes of a mark. -/
def mark32 (num : Nat) : List Nat := (num % 256) :: List.replicate 31 0
theorem mark32_length (num : Nat) : (mark32 num).length = 32 := rfl
theorem mark32_lt (num : Nat) : ∀ y ∈ mark32 num, y < 256 := by
  intro y hy
  rcases List.mem_cons.1 hy with rfl | hy
  · exact Nat.mod_lt _ (by decide)
  · rw [List.eq_of_mem_replicate hy]; decide
theorem mark_head (num : Nat) : Value.int .u8 ((num : Int) % 256) = bv (num % 256) := by
  show Value.int .u8 ((num : Int) % 256) = .int .u8 (((num % 256 : Nat)) : Int)
  rw [Int.natCast_emod]
  rfl
theorem lit32_tail (v : Value) : (#[v, .int .u8 0, .int .u8 0, .int .u8 0, .int .u8 0, .int .u8 0, .int .u8 0, .int .u8 0, .int .u8 0, .int .u8 0, .int .u8 0, .int .u8 0, .int .u8 0, .int .u8 0, .int .u8 0, .int .u8 0, .int .u8 0, .int .u8 0, .int .u8 0, .int .u8 0, .int .u8 0, .int .u8 0, .int .u8 0, .int .u8 0, .int .u8 0, .int .u8 0, .int .u8 0, .int .u8 0, .int .u8 0, .int .u8 0, .int .u8 0, .int .u8 0] : Array Value) = (v :: bvs (List.replicate 31 0)).toArray := rfl
theorem lit32_mark (num : Nat) : (Value.agg #[.int .u8 ((num : Int) % 256), .int .u8 0, .int .u8 0, .int .u8 0, .int .u8 0, .int .u8 0, .int .u8 0, .int .u8 0, .int .u8 0, .int .u8 0, .int .u8 0, .int .u8 0, .int .u8 0, .int .u8 0, .int .u8 0, .int .u8 0, .int .u8 0, .int .u8 0, .int .u8 0, .int .u8 0, .int .u8 0, .int .u8 0, .int .u8 0, .int .u8 0, .int .u8 0, .int .u8 0, .int .u8 0, .int .u8 0, .int .u8 0, .int .u8 0, .int .u8 0, .int .u8 0]) = sv (mark32 num) := by
  rw [lit32_tail, mark_head]
  rfl
/-- A mark into a variable of noughts. -/
theorem wpList_store_mark {ops : Array Oper} {rest : List Oper} {o : Oper} {a : Act} {w : World} {Q : Exit → Act → World → Prop} (num : Nat) (hgd : o.guard = none) (x y : Operand) (ho : o.op = .store 90 x y)
    (g : Nat) (hx : a.eval x = .pointer (some ⟨g, 0, none⟩)) (hg : w.heap[g]? = some (.cells #[.int .u8 0, .int .u8 0, .int .u8 0, .int .u8 0, .int .u8 0, .int .u8 0, .int .u8 0, .int .u8 0, .int .u8 0, .int .u8 0, .int .u8 0, .int .u8 0, .int .u8 0, .int .u8 0, .int .u8 0, .int .u8 0, .int .u8 0, .int .u8 0, .int .u8 0, .int .u8 0, .int .u8 0, .int .u8 0, .int .u8 0, .int .u8 0, .int .u8 0, .int .u8 0, .int .u8 0, .int .u8 0, .int .u8 0, .int .u8 0, .int .u8 0, .int .u8 0] 90 (0, 0))) (hy : a.eval y = .agg #[.int .u8 ((num : Int) % 256), .int .u8 0, .int .u8 0, .int .u8 0, .int .u8 0, .int .u8 0, .int .u8 0, .int .u8 0, .int .u8 0, .int .u8 0, .int .u8 0, .int .u8 0, .int .u8 0, .int .u8 0, .int .u8 0, .int .u8 0, .int .u8 0, .int .u8 0, .int .u8 0, .int .u8 0, .int .u8 0, .int .u8 0, .int .u8 0, .int .u8 0, .int .u8 0, .int .u8 0, .int .u8 0, .int .u8 0, .int .u8 0, .int .u8 0, .int .u8 0, .int .u8 0])
    (h : ∀ w', BArr w' g 90 (mark32 num) → Only g w w' → wpList Tryz.prog ops Q rest (a.put o.dst undef) w') : wpList Tryz.prog ops Q (o :: rest) a w := by
  rw [lit32_mark] at hy
  exact wpList_store_row hgd 90 x y ho g (bvs (mark32 num)).toArray hx hy 90 (bvs zero32).toArray hg sizeSum rfl (all_oneCell_toArray (bvs_oneCell (mark32 num))) (h _ (setRow_heap w g _ _ _ (0, 0) hg) ((Only.refl g w).setRow _))

set_option maxRecDepth 100000 in
set_option maxHeartbeats 1000000 in
theorem markSum_any (num : Nat) (w : World) :
    Calls Tryz.prog 63 #[.int .i64 (num : Int)] w fun e w' => e = .returned (sv (mark32 num)) ∧ Below w.heap.size w w' := by
  go_enter Tryz.func63, Tryz.ntmps63
  go_wp2_with (with_reducible refine wpList_store_mark num rfl (.tmp 2) (.tmp 5) rfl w.heap.size rfl (World.alloc_heap_new w _) rfl ?_)
  intro w2 hb2 ho2
  go_wp2
  exact bodyPost_ret_by (results_cell_row (p := 2) (ty := 90) (by kernel_rfl) _ _ w.heap.size 90 (bvs (mark32 num)).toArray (0, 0) _ rfl hb2 Tryz.underlying90 rfl sizeSum) rfl ⟨rfl, Only.below (below_alloc w _) (Nat.le_refl _) (Nat.le_refl _) ho2⟩

theorem eql_mark (num : Nat) (s : List Nat) (hs : s = mark32 num) (w : World) : (binOp .eql 90 (sv s) (.agg #[.int .u8 ((num : Int) % 256), .int .u8 0, .int .u8 0, .int .u8 0, .int .u8 0, .int .u8 0, .int .u8 0, .int .u8 0, .int .u8 0, .int .u8 0, .int .u8 0, .int .u8 0, .int .u8 0, .int .u8 0, .int .u8 0, .int .u8 0, .int .u8 0, .int .u8 0, .int .u8 0, .int .u8 0, .int .u8 0, .int .u8 0, .int .u8 0, .int .u8 0, .int .u8 0, .int .u8 0, .int .u8 0, .int .u8 0, .int .u8 0, .int .u8 0, .int .u8 0, .int .u8 0])).run Tryz.prog w = .ok (.bool true) w := by
  rw [lit32_mark, hs, run_eql_sum _ _ (mark32_length num) (mark32_length num) w, decide_eq_true rfl]
theorem guard_mark (num : Nat) (x y : Operand) (s : List Nat) (w : World) : (eqGuard .eql 90 x y (sv s) (.agg #[.int .u8 ((num : Int) % 256), .int .u8 0, .int .u8 0, .int .u8 0, .int .u8 0, .int .u8 0, .int .u8 0, .int .u8 0, .int .u8 0, .int .u8 0, .int .u8 0, .int .u8 0, .int .u8 0, .int .u8 0, .int .u8 0, .int .u8 0, .int .u8 0, .int .u8 0, .int .u8 0, .int .u8 0, .int .u8 0, .int .u8 0, .int .u8 0, .int .u8 0, .int .u8 0, .int .u8 0, .int .u8 0, .int .u8 0, .int .u8 0, .int .u8 0, .int .u8 0, .int .u8 0])).run Tryz.prog w = .ok () w := by
  rw [lit32_mark]
  exact run_guard_eql x y s (mark32 num) w

set_option maxRecDepth 100000 in
set_option maxHeartbeats 1000000 in
theorem isSum_any (num : Nat) (s : List Nat) (hs : s = mark32 num) (w : World) :
    Calls Tryz.prog 72 #[sv s, .int .i64 (num : Int)] w fun e w' => e = .returned (.bool true) ∧ Below w.heap.size w w' := by
  have q1 := eql_mark num s hs
  have q2 := fun x y => guard_mark num x y s
  have hl : s.length = 32 := by rw [hs]; rfl
  clear hs
  show Calls Tryz.prog 72 #[.agg (bvs s).toArray, .int .i64 (num : Int)] w _
  go_enter Tryz.func72, Tryz.ntmps72
  go_wp2_with (with_reducible refine wpList_load_sum rfl (.tmp 2) rfl ⟨w.heap.size, 0, none⟩ rfl s hl (BArr.new w 90 s).at_ ?_)
  go_ret
  exact ⟨rfl, below_alloc w _⟩

end Go.Proofs.YtfniddnfkciblaaGreatDoor

/-
  The Book of the statements: which lists it keeps.
-/
namespace Go.Proofs.YtfniddnfkciblaaGreatDoor
open Go.RowKit

/-- Block kb is a Book that has counted N lists: bs is its row of lists of bytes, ss that of lists of sums; it has no other. -/
def BookAt (w : World) (kb N : Nat) (bs ss : Value) : Prop :=
  w.heap[kb]? = some (.cells #[.int .i64 (N : Int), bs, .slice none 0 0, .slice none 0 0, .slice none 0 0, ss, .slice none 0 0, .slice none 0 0, .slice none 0 0, .slice none 0 0] 41 (0, 0))

theorem BookAt.lt {w : World} {kb N : Nat} {bs ss : Value} (h : BookAt w kb N bs ss) : kb < w.heap.size := (Array.getElem?_eq_some_iff.1 h).1
theorem BookAt.n {w : World} {kb N : Nat} {bs ss : Value} (h : BookAt w kb N bs ss) : w.cell? ⟨kb, 0, none⟩ = some (.int .i64 (N : Int)) := by rw [cell_of_row _ kb 0 _ _ (0, 0) h]; rfl
theorem BookAt.b {w : World} {kb N : Nat} {bs ss : Value} (h : BookAt w kb N bs ss) : w.cell? ⟨kb, 1, none⟩ = some bs := by rw [cell_of_row _ kb 1 _ _ (0, 0) h]; rfl
theorem BookAt.s {w : World} {kb N : Nat} {bs ss : Value} (h : BookAt w kb N bs ss) : w.cell? ⟨kb, 5, none⟩ = some ss := by rw [cell_of_row _ kb 5 _ _ (0, 0) h]; rfl
theorem BookAt.fz {w : World} {kb N : Nat} {bs ss : Value} (h : BookAt w kb N bs ss) (i : Nat) : w.frozen? ⟨kb, i, none⟩ = false := frozen_of_row _ kb i _ _ h
theorem BookAt.other {w : World} {kb N : Nat} {bs ss : Value} (h : BookAt w kb N bs ss) {base : Nat} {e : TypeId} {size n : Nat} {v : Value} {xs : List Value} (he : e ≠ 41) (ho : w.ownsRow base e size v n xs) : v.ownBlock ≠ some kb := by
  rcases ho.2 with ⟨rfl, _⟩ | ⟨g, cap, cur, rfl, _, hg, _⟩
  · simp [Value.ownBlock]
  · intro e'
    obtain rfl : g = kb := by simpa [Value.ownBlock] using e'
    have := (show w.heap[g]? = _ from h).symm.trans hg
    simp at this
    exact he this.2.symm
theorem BookAt.grown {w w' : World} {kb N : Nat} {bs ss : Value} {row : Option Nat} (h : BookAt w kb N bs ss) (hg : w.grownBy w' row) (hne : row ≠ some kb) : BookAt w' kb N bs ss := (hg.block kb h.lt hne.symm).trans h
theorem BookAt.below {w w' : World} {kb N : Nat} {bs ss : Value} (h : BookAt w kb N bs ss) (hb : Below w.heap.size w w') : BookAt w' kb N bs ss := (hb.block kb h.lt).trans h

theorem BookAt.setN {w : World} {kb N : Nat} {bs ss : Value} (h : BookAt w kb N bs ss) (M : Nat) : BookAt (w.setCell ⟨kb, 0, none⟩ (.int .i64 (M : Int))) kb M bs ss := by
  have := heap_setCell_same w kb 0 _ _ (.int .i64 (M : Int)) h
  exact this
theorem BookAt.setB {w : World} {kb N : Nat} {bs ss : Value} (h : BookAt w kb N bs ss) (v : Value) : BookAt (w.setCell ⟨kb, 1, none⟩ v) kb N v ss := by
  have := heap_setCell_same w kb 1 _ _ v h
  exact this
theorem BookAt.setS {w : World} {kb N : Nat} {bs ss : Value} (h : BookAt w kb N bs ss) (v : Value) : BookAt (w.setCell ⟨kb, 5, none⟩ v) kb N bs v := by
  have := heap_setCell_same w kb 5 _ _ v h
  exact this
theorem grown_set (w : World) (b i : Nat) (v : Value) : w.grownBy (w.setCell ⟨b, i, none⟩ v) (some b) :=
  ⟨rfl, rfl, rfl, by simp [World.setCell], fun k _ hk => Below.heap_setCell _ _ _ k (fun e => hk (by rw [e]))⟩

theorem infoHeldByte : (Tryz.prog.info? 73).map (fun i => (i.zero, i.size, i.bytes)) = some (some (.agg #[.slice none 0 0, .slice none 0 0, .int .i64 0]), 3, 56) := by kernel_rfl

set_option maxRecDepth 100000 in
set_option maxHeartbeats 1000000 in
theorem keepByte_any (kb N base k : Nat) (bs ss : Value) (es : List Value) (A : Option Addr) (n c : Nat) (w : World) (hbk : BookAt w kb N bs ss) (hbase : base ≤ w.heap.size)
    (hown : w.ownsRow base 73 3 bs k es) (hN : N ≤ 1000000) (hk : k ≤ 1000000) :
    Calls Tryz.prog 23 #[.pointer (some ⟨kb, 0, none⟩), .slice A n c] w fun e w' => e = .returned (.tuple #[]) ∧
      (∃ bs', BookAt w' kb (N + 1) bs' ss ∧ w'.ownsRow base 73 3 bs' (k + 1) (es ++ [.slice A n c, .slice none 0 0, .int .i64 ((N + 1 : Nat) : Int)])) ∧ But (fun b => b = kb ∨ bs.ownBlock = some b) w w' := by
  obtain ⟨i0, hi0, hz0, hz1, hz2⟩ := info_parts infoHeldByte
  have h0 := hbk.n
  have h1 := hbk.b
  have f0 := hbk.fz 0
  have f1 := hbk.fz 1
  go_enter Tryz.func23, Tryz.ntmps23
  go_wp2_with fail
  have hbk1 := hbk.setN (N + 1)
  have hown1 := hown.kept (grown_set w kb 0 (.int .i64 ((N + 1 : Nat) : Int))) (.inr (hbk.other (by decide) hown))
  have hB1 : But (fun b => b = kb ∨ bs.ownBlock = some b) w (w.setCell ⟨kb, 0, none⟩ (.int .i64 ((N + 1 : Nat) : Int))) := (But.refl _ w).set 0 _ (fun _ => .inl rfl)
  have hbase1 : base ≤ (w.setCell ⟨kb, 0, none⟩ (.int .i64 ((N + 1 : Nat) : Int))).heap.size := by simpa [World.setCell] using hbase
  rw [show ((N + 1 : Nat) : Int) = (N : Int) + 1 by omega] at hbk1 hown1 hbase1 hB1
  generalize w.setCell ⟨kb, 0, none⟩ (.int .i64 ((N : Int) + 1)) = w1 at *
  clear h0 h1 f0 f1 hbk hown hbase
  have h0 := hbk1.n
  have h1 := hbk1.b
  rw [show ((N + 1 : Nat) : Int) = (N : Int) + 1 by omega] at h0
  have lk := hbk1.lt
  have ag := hbk1.other (by decide) hown1
  go_region_law
    ((refine step_append_lies _ (by rfl) _ _ _ (by rfl) base 73 i0 _ 3 56 Tryz.underlying31 hi0 hz0 hz1 hz2 rfl (by omega) bs k es (by rfl) ((hown1.alloc _).drew)
        ⟨w1.heap.size, 0, none⟩ 1 1 [.slice A n c, .slice none 0 0, .int .i64 ((N : Int) + 1)] (by rfl) (by rfl) (World.news_of_block (cs := #[.slice A n c, .slice none 0 0, .int .i64 ((N : Int) + 1)]) (t := 73) (fr := (0, 0)) (heap_alloc_new w1 _)) (by simp [Value.oneCell'])
        (by omega) (by unfold maxLen; omega) (by omega) (by simp; omega) (w1.heap.size + 1) (by simp) ?_; intro gg cap w2 hown2 hgrow hat hlt; have hbk2 := BookAt.grown (hbk1.below (below_alloc w1 (.cells #[.slice A n c, .slice none 0 0, .int .i64 ((N : Int) + 1)] 73)).drew) hgrow ag; have hc2 := hbk2.b; have hf2 := hbk2.fz 1))
  all_goals
    have hown3 := hown2.kept (grown_set w2 kb 1 (.slice (some ⟨gg, 0, none⟩) (k + 1) cap)) (.inr (hbk2.other (by decide) hown2))
    have hB3 : But (fun b => b = kb ∨ bs.ownBlock = some b) w (w2.setCell ⟨kb, 1, none⟩ (.slice (some ⟨gg, 0, none⟩) (k + 1) cap)) :=
      (((hB1.alloc _).drew).grown hgrow (fun _ e _ => .inr e)).set 1 _ (fun _ => .inl rfl)
    go_end0
    exact ⟨rfl, ⟨_, hbk2.setB _, hown3⟩, hB3⟩

set_option maxRecDepth 100000 in
set_option maxHeartbeats 400000 in
theorem bookBytes_any (kb N base k : Nat) (bs ss : Value) (es : List Value) (A : Option Addr) (n c : Nat) (w : World) (hbk : BookAt w kb N bs ss) (hbase : base ≤ w.heap.size)
    (hown : w.ownsRow base 73 3 bs k es) (hN : N ≤ 1000000) (hk : k ≤ 1000000) :
    Calls Tryz.prog 11 #[.pointer (some ⟨kb, 0, none⟩), .slice A n c] w fun e w' => e = .returned (.tuple #[]) ∧
      (∃ bs', BookAt w' kb (N + 1) bs' ss ∧ w'.ownsRow base 73 3 bs' (k + 1) (es ++ [.slice A n c, .slice none 0 0, .int .i64 ((N + 1 : Nat) : Int)])) ∧ But (fun b => b = kb ∨ bs.ownBlock = some b) w w' := by
  go_enter Tryz.func11, Tryz.ntmps11
  go_wp2_with fail
  refine (keepByte_any kb N base k bs ss es A n c w hbk hbase hown hN hk).mono ?_
  rintro e w1 ⟨rfl, h1, h2⟩
  go_wp2_with fail
  go_end0
  exact ⟨rfl, h1, h2⟩

end Go.Proofs.YtfniddnfkciblaaGreatDoor

/-
  The Book of the statements: marks are written into every list of bytes.
-/
namespace Go.Proofs.YtfniddnfkciblaaGreatDoor
open Go.RowKit

/-- A list that is kept: its value, the longer one, how many elements it has, its number. -/
structure Held where
  A : Option Addr
  len : Nat
  c : Nat
  A2 : Option Addr
  len2 : Nat
  c2 : Nat
  num : Nat

def Held.v (h : Held) : Value := .slice h.A h.len h.c
def Held.long (h : Held) : Value := .slice h.A2 h.len2 h.c2

/-- The cells of a row of such. -/
def heldCells (hs : List Held) : List Value := hs.flatMap fun h => [h.v, h.long, .int .i64 (h.num : Int)]

theorem heldCells_cons (h : Held) (hs : List Held) : heldCells (h :: hs) = h.v :: h.long :: .int .i64 (h.num : Int) :: heldCells hs := rfl
theorem heldCells_append (hs ks : List Held) : heldCells (hs ++ ks) = heldCells hs ++ heldCells ks := by simp [heldCells]
theorem heldCells_length (hs : List Held) : (heldCells hs).length = hs.length * 3 := by
  induction hs with
  | nil => rfl
  | cons h hs ih => rw [heldCells_cons]; simp [ih]; omega
theorem heldCells_get {hs : List Held} {i : Nat} {h : Held} (hi : hs[i]? = some h) : (heldCells hs)[i * 3]? = some h.v ∧ (heldCells hs)[i * 3 + 1]? = some h.long ∧ (heldCells hs)[i * 3 + 2]? = some (.int .i64 (h.num : Int)) := by
  induction hs generalizing i with
  | nil => simp at hi
  | cons k hs ih =>
    cases i with
    | zero => simp at hi; subst hi; simp [heldCells_cons]
    | succ i =>
      have := ih (i := i) (by simpa using hi)
      rw [heldCells_cons, show (i + 1) * 3 = i * 3 + 1 + 1 + 1 by omega]
      exact this

/-- Rows of unlike element types lie in unlike blocks. -/
theorem rows_ne {w : World} {b1 b2 : Nat} {e1 e2 : TypeId} {s1 s2 n1 n2 : Nat} {v1 v2 : Value} {x1 x2 : List Value} (he : e1 ≠ e2) (h1 : w.ownsRow b1 e1 s1 v1 n1 x1) (h2 : w.ownsRow b2 e2 s2 v2 n2 x2) : v1.ownBlock = none ∨ v1.ownBlock ≠ v2.ownBlock := by
  rcases h1.2 with ⟨rfl, _⟩ | ⟨g, cap, cur, rfl, _, hg, _⟩
  · left; rfl
  · right
    rcases h2.2 with ⟨rfl, _⟩ | ⟨g2, cap2, cur2, rfl, _, hg2, _⟩
    · simp [Value.ownBlock]
    · simp only [Value.ownBlock]
      intro e
      injection e with e
      have e : g = g2 := e
      subst e
      rw [hg] at hg2
      simp at hg2
      exact he hg2.2

theorem own_kept_but {S : Nat → Prop} {w w' : World} {base : Nat} {e : TypeId} {size n : Nat} {v : Value} {xs : List Value} (h : w.ownsRow base e size v n xs) (hb : But S w w') (hn : ∀ b, v.ownBlock = some b → ¬ S b) : w'.ownsRow base e size v n xs := by
  refine ⟨h.1, ?_⟩
  rcases h.2 with hn' | ⟨g, cap, cur, rfl, hbb, hgg, rest⟩
  · exact .inl hn'
  · exact .inr ⟨g, cap, cur, rfl, hbb, (hb.block g (Array.getElem?_eq_some_iff.1 hgg).1 (hn g rfl)).trans hgg, rest⟩
theorem BookAt.but {S : Nat → Prop} {w w' : World} {kb N : Nat} {bs ss : Value} (h : BookAt w kb N bs ss) (hb : But S w w') (hn : ¬ S kb) : BookAt w' kb N bs ss := (hb.block kb h.lt hn).trans h

/-- The mark of a number. -/
def mk (num : Nat) : Value := .int .u8 ((num : Int) % 256)

set_option maxRecDepth 100000 in
set_option maxHeartbeats 400000 in
theorem markByte_any (num : Nat) (w : World) : Calls Tryz.prog 59 #[.int .i64 (num : Int)] w fun e w' => e = .returned (.int .u8 ((num : Int) % 256)) ∧ w = w' := by
  go_enter Tryz.func59, Tryz.ntmps59
  go_wp2
  go_ret
  exact ⟨rfl, rfl⟩

/-- One element more of an owned row of bytes is written. -/
theorem own_set {w : World} {base g len cap k : Nat} {xs : List Value} {u : Value} (h : w.ownsRow base 5 1 (.slice (some ⟨g, 0, none⟩) len cap) len xs) (hk : k < len) (ht : xs.take k = List.replicate k u) :
    ∃ ys, (w.setCell ⟨g, k, none⟩ u).ownsRow base 5 1 (.slice (some ⟨g, 0, none⟩) len cap) len ys ∧ ys.take (k + 1) = List.replicate (k + 1) u := by
  rcases h.2 with ⟨e, _⟩ | ⟨g', cap', cur, e, hb, hg, hle, hm, hs, htk⟩
  · cases e
  · cases e
    have hl := h.1
    refine ⟨xs.set k u, ⟨by simpa using hl, .inr ⟨g, cap, cur.setIfInBounds k u, rfl, hb, heap_setCell_same w g k cur _ u hg, hle, hm, by simp [hs], ?_⟩⟩, ?_⟩
    · rw [Array.toList_setIfInBounds, List.take_set, htk]
    · have e1 : (xs.set k u).take k = xs.take k := by rw [List.take_set, List.set_eq_of_length_le (by rw [List.length_take]; omega)]
      have e2 : (xs.set k u)[k]? = some u := by rw [List.getElem?_set_self]; omega
      rw [List.take_add_one, e1, e2, ht, List.replicate_succ']
      rfl
theorem own_cellAt {w : World} {base g len cap k : Nat} {xs : List Value} {e : TypeId} (h : w.ownsRow base e 1 (.slice (some ⟨g, 0, none⟩) len cap) len xs) (hk : k < len) : (∃ u, w.cell? ⟨g, k, none⟩ = some u) ∧ w.frozen? ⟨g, k, none⟩ = false := by
  rcases h.2 with ⟨e, _⟩ | ⟨g', cap', cur, e, hb, hg, hle, hm, hs, htk⟩
  · cases e
  · cases e
    exact ⟨⟨cur[k]'(by omega), by rw [cell_of_row _ g k _ _ (0, 0) hg]; exact Array.getElem?_eq_getElem (by omega)⟩, frozen_of_row _ g k _ _ hg⟩

/-- What is asked of the lists of bytes of a Book: each owns its row; no two the same block. -/
structure Lists (w : World) (base : Nat) (hs : List Held) : Prop where
  own : ∀ (i : Nat) (h : Held), hs[i]? = some h → ∃ xs, w.ownsRow base 5 1 h.v h.len xs
  apart : ∀ (i j : Nat) (h k : Held), hs[i]? = some h → hs[j]? = some k → i ≠ j → h.v.ownBlock = none ∨ h.v.ownBlock ≠ k.v.ownBlock

/-- The blocks of the lists. -/
def inLists (hs : List Held) (b : Nat) : Prop := ∃ (i : Nat) (h : Held), hs[i]? = some h ∧ h.v.ownBlock = some b

/-- The first i lists have their marks. -/
def Filled (w : World) (base : Nat) (hs : List Held) (i : Nat) : Prop :=
  ∀ (j : Nat) (h : Held), hs[j]? = some h → ∃ xs, w.ownsRow base 5 1 h.v h.len xs ∧ (j < i → xs = List.replicate h.len (mk h.num))

theorem own_form3 {w : World} {base : Nat} {e : TypeId} {size n : Nat} {v : Value} {xs : List Value} (h : w.ownsRow base e size v n xs) : ∃ A c, v = .slice A n c := by
  rcases h.2 with ⟨rfl, rfl⟩ | ⟨g, cap, cur, rfl, _⟩
  · exact ⟨_, _, rfl⟩
  · exact ⟨_, _, rfl⟩

set_option maxRecDepth 100000 in
set_option maxHeartbeats 2000000 in
theorem fillByte_any (kb N base K : Nat) (bs ss : Value) (hs : List Held) (w : World) (hbk : BookAt w kb N bs ss) (hown : w.ownsRow base 73 3 bs K (heldCells hs)) (hlist : Lists w base hs)
    (hK : K ≤ 1000000) (hlen : ∀ (i : Nat) (h : Held), hs[i]? = some h → h.len ≤ 1000000000) :
    Calls Tryz.prog 24 #[.pointer (some ⟨kb, 0, none⟩)] w fun e w' => e = .returned (.tuple #[]) ∧
      Filled w' base hs K ∧ But (inLists hs) w w' := by
  have hKl : hs.length = K := by have := hown.1; rw [heldCells_length] at this; omega
  have HKl := Lib.hid hKl
  clear hKl
  obtain ⟨Ab, cb, rfl⟩ := own_form3 hown
  have h1 := hbk.b
  go_enter Tryz.func24, Tryz.ntmps24
  go_wp2
  go_loopw [2] (fun i wr => ∃ j : Nat, j ≤ K ∧ i = .int .i64 (j : Int) ∧ Filled wr base hs j ∧ But (inLists hs) w wr) (fun i _ => K - (intOf i).toNat)
  case atStart => exact ⟨0, Nat.zero_le _, rfl, fun j h hj => by obtain ⟨xs, hx⟩ := hlist.own j h hj; exact ⟨xs, hx, fun h => by omega⟩, But.refl _ _⟩
  case round =>
    obtain ⟨j, hj, rfl, hfl, hbut⟩ := hrel
    obtain ⟨wo, rfl⟩ : ∃ wo : World, wo = wr := ⟨_, rfl⟩
    have nokb : ¬ inLists hs kb := by
      rintro ⟨i, h, hi, he⟩
      obtain ⟨xs, hx⟩ := hlist.own i h hi
      exact hbk.other (by decide) hx he
    have hbk2 := hbk.but hbut nokb
    have hown2 := own_kept_but hown hbut (by
      rintro b hb ⟨i, h, hi, he⟩
      obtain ⟨xs, hx⟩ := hlist.own i h hi
      rcases rows_ne (by decide) hx hown with h0 | h0
      · rw [h0] at he; cases he
      · exact h0 (he.trans hb.symm))
    have h2 := hbk2.b
    by_cases hlt : j < K
    · obtain ⟨h, hh⟩ : ∃ h, hs[j]? = some h := ⟨_, List.getElem?_eq_getElem (by rw [HKl.out]; exact hlt)⟩
      obtain ⟨g1, g2, g3⟩ := heldCells_get hh
      rcases hown2.2 with ⟨e, h0⟩ | ⟨gb, cap, cur, e, hbb, hgb, hle, hm, hsz, htk⟩
      · omega
      · cases e
        have p1 : wo.cell? ⟨gb, j * 3, none⟩ = some h.v := by
          have := hown2.cells (g := gb) rfl _ _ g1
          rwa [Addr.add_lit, Nat.zero_add] at this
        have p2 : wo.cell? ⟨gb, j * 3 + 1, none⟩ = some h.long := by
          have := hown2.cells (g := gb) rfl _ _ g2
          rwa [Addr.add_lit, Nat.zero_add] at this
        have p3 : wo.cell? ⟨gb, j * 3 + 2, none⟩ = some (.int .i64 (h.num : Int)) := by
          have := hown2.cells (g := gb) rfl _ _ g3
          rwa [Addr.add_lit, Nat.zero_add] at this
        have i1 : (j : Int) < (K : Int) := by omega
        obtain ⟨xs0, hx0, _⟩ := hfl j h hh
        have hl0 := hlen j h hh
        have hin0 : ∀ b, h.v.ownBlock = some b → inLists hs b := fun b hb => ⟨j, h, hh, hb⟩
        have hrest : ∀ wi, But (fun b => h.v.ownBlock = some b) wo wi → (∃ xs, wi.ownsRow base 5 1 h.v h.len xs ∧ xs = List.replicate h.len (mk h.num)) → Filled wi base hs (j + 1) := by
          intro wi hbi hrow j' h' hj'
          by_cases e : j' = j
          · subst e
            rw [hh] at hj'
            cases hj'
            obtain ⟨xs, r1, r2⟩ := hrow
            exact ⟨xs, r1, fun _ => r2⟩
          · obtain ⟨xs, r1, r2⟩ := hfl j' h' hj'
            refine ⟨xs, own_kept_but r1 hbi (fun b hb hb' => ?_), fun hlt' => r2 (by omega)⟩
            rcases hlist.apart j' j h' h hj' hh e with h0 | h0
            · rw [h0] at hb; cases hb
            · exact h0 (hb.trans hb'.symm)
        have HR := Lib.hid hrest
        have HI := Lib.hid hin0
        have HF := Lib.hid hfl
        clear hrest hin0 hfl g1 g2 g3 hh
        obtain ⟨A, n, c, A2, n2, c2, num⟩ := h
        simp only [Held.v, Held.long] at p1 p2 p3 hx0 hl0
        go_wp2
        have hx1 := hx0.alloc (.cells #[.slice A n c, .slice A2 n2 c2, .int .i64 (num : Int)] 73)
        have hlt0 := hx0.lt
        obtain ⟨wa, hwa⟩ : ∃ wa, wo.alloc (.cells #[.slice A n c, .slice A2 n2 c2, .int .i64 (num : Int)] 73) = wa := ⟨_, rfl⟩
        have hba : But (fun b => (Value.slice A n c).ownBlock = some b) wo wa := by rw [← hwa]; exact (But.refl _ _).alloc _
        have hha : wa.heap[wo.heap.size]? = some (.cells #[.slice A n c, .slice A2 n2 c2, .int .i64 (num : Int)] 73 (0, 0)) := by rw [← hwa]; exact World.alloc_heap_new wo _
        rw [hwa] at hx1 ⊢
        have HH := Lib.hid hha
        clear hwa hha
        go_loopw [4] (fun i wi => ∃ (k : Nat) (xs : List Value), k ≤ n ∧ i = .int .i64 (k : Int) ∧ wi.ownsRow base 5 1 (.slice A n c) n xs ∧ xs.take k = List.replicate k (mk num) ∧ But (fun b => (Value.slice A n c).ownBlock = some b) wa wi) (fun i _ => n - (intOf i).toNat)
        case atStart => exact ⟨0, xs0, Nat.zero_le _, rfl, hx1, by simp, But.refl _ _⟩
        case round =>
          obtain ⟨k, xs, hk, rfl, hox, htx, hbi⟩ := hrel
          have hhi : wr.heap[wo.heap.size]? = some (.cells #[.slice A n c, .slice A2 n2 c2, .int .i64 (num : Int)] 73 (0, 0)) :=
            (hbi.block _ (Array.getElem?_eq_some_iff.1 HH.out).1 (fun e => by have := (hlt0 _ e).2; omega)).trans HH.out
          have q0 : wr.cell? ⟨wo.heap.size, 0, none⟩ = some (.slice A n c) := by rw [cell_of_row _ _ 0 _ _ (0, 0) hhi]; rfl
          have q2 : wr.cell? ⟨wo.heap.size, 2, none⟩ = some (.int .i64 (num : Int)) := by rw [cell_of_row _ _ 2 _ _ (0, 0) hhi]; rfl
          clear hhi
          have HT := Lib.hid htx
          clear htx
          by_cases hlt2 : k < n
          · obtain ⟨g, rfl⟩ : ∃ g, A = some ⟨g, 0, none⟩ := by
              rcases hox.2 with ⟨e, h0⟩ | ⟨g, cap, cur, e, _⟩
              · omega
              · cases e; exact ⟨g, rfl⟩
            obtain ⟨⟨u, hcu⟩, hfu⟩ := own_cellAt hox hlt2
            obtain ⟨ys, hoy, hty⟩ := own_set hox hlt2 HT.out
            have HY := Lib.hid hty
            clear hty
            have i2 : (k : Int) < (n : Int) := by omega
            go_wp2
            go_region_law ((go_simp; go_at_call 59; refine (markByte_any num _).mono ?_; rintro e w' ⟨rfl, rfl⟩))
            all_goals
              go_wp2
              go_roundw
              case rel => exact ⟨k + 1, ys, by omega, by go_num, hoy.drew, HY.out, (hbi.set k _ (fun _ => rfl)).drew⟩
              case measure => simp [intOf]; omega
          · obtain rfl : k = n := by omega
            have hfin : Filled wr base hs (j + 1) := HR.out wr (hba.trans hbi) ⟨xs, hox, by
              have e := HT.out
              rwa [List.take_of_length_le (by have := hox.1; omega)] at e⟩
            have hbo : But (inLists hs) w wr := hbut.trans ((hba.trans hbi).mono (fun b _ hb => HI.out b hb))
            clear HR HI HF
            go_wp2
            go_roundw
            case rel => exact ⟨j + 1, by omega, by go_num, hfin, hbo⟩
            case measure => simp [intOf]; omega
    · obtain rfl : j = K := by omega
      go_wp2
      go_end0
      exact ⟨rfl, hfl, hbut⟩

end Go.Proofs.YtfniddnfkciblaaGreatDoor

/-
  Slices of sums in a walk.
-/
namespace Go.Proofs.YtfniddnfkciblaaGreatDoor
open Go.RowKit

/-- A call has answered m sums, whose bytes are ys, a number, and no error. -/
def GivesSums (base : Nat) (w : World) (m : Nat) (ys : List Nat) (took : Int) (e : Ending) (w' : World) : Prop :=
  ∃ A c, e = .returned (.tuple #[.slice A m c, .int .i64 took, .int .i64 0]) ∧ w'.ownsRow base 90 32 (.slice A m c) m (bvs ys) ∧ Below base w w'

theorem make_sums (m : Nat) (hm : m < 65536) (W : World) :
    (Instr.makeSlice 86 (.int .i64 (m : Int)) (.int .i64 (m : Int))).run Tryz.prog W = .ok (.slice (some ⟨W.heap.size, 0, none⟩) m m) (W.alloc (.cells (madeCells (Array.replicate 32 (.int .u8 0)) (m * 32)) 90)) := by
  obtain ⟨i0, hi, hz0, hz1, hz2⟩ := info_parts infoSum
  have hr := run_make (P := Tryz.prog) W 86 90 i0 _ Tryz.underlying86 hi hz0 .i64 .i64 m m (by omega) (by omega) (by rw [hz2]; omega) (by omega)
  rw [hz1, Int.toNat_natCast] at hr
  exact hr

/-- The first 32 * j bytes of block g have been copied. -/
def SumsAt (w : World) (g m j : Nat) (ys : List Nat) (wr : World) : Prop :=
  ∃ cur : List Value, cur.length = m * 32 ∧ wr.heap[g]? = some (.cells cur.toArray 90 (0, 0)) ∧ cur.take (32 * j) = bvs (ys.take (32 * j)) ∧ Below g w wr

/-- One sum more has been copied. -/
theorem sums_step {w w' : World} {g m j : Nat} {ys : List Nat} {cur : List Value} (hj : j < m) (hl : cur.length = m * 32) (ht : cur.take (32 * j) = bvs (ys.take (32 * j))) (hc : (bvs ((ys.drop (32 * j)).take 32)).length = 32)
    (hh : w'.heap[g]? = some (.cells (splice cur (j * 32) (bvs ((ys.drop (32 * j)).take 32))).toArray 90 (0, 0))) (hb : Below g w w') : SumsAt w g m (j + 1) ys w' := by
  refine ⟨_, ?_, hh, ?_, hb⟩
  · rw [length_splice _ _ _ (by rw [hc, hl]; omega), hl]
  · rw [show 32 * (j + 1) = 32 * j + 32 by omega, take_more, bvs_append, ← ht, splice, show j * 32 = 32 * j by omega]
    have h1 : (cur.take (32 * j)).length = 32 * j := by rw [List.length_take, hl]; omega
    have h2 : List.take (32 * j + 32) (List.take (32 * j) cur) = List.take (32 * j) cur := List.take_of_length_le (by rw [h1]; omega)
    have h3 : List.take 32 (bvs ((ys.drop (32 * j)).take 32)) = bvs ((ys.drop (32 * j)).take 32) := List.take_of_length_le (by rw [hc]; omega)
    rw [List.take_append, h1, h2, show 32 * j + 32 - 32 * j = 32 by omega, List.take_append, hc, h3]
    simp

/-- The same of sums. -/
theorem cut_nameS {A : Option Addr} {n c k : Nat} (hk : k ≤ n) :
    ∃ B, (∀ W : World, (Instr.slice 86 (.slice A n c) (some (.int .i64 (k : Int))) none none).run Tryz.prog W = .ok (.slice B (n - k) (c - k)) W) ∧
      B = (if c = k then A else A.map (·.add (k * 32))) := by
  refine ⟨_, fun W => ?_, rfl⟩
  obtain ⟨i0, hi, hz0, hz1, hz2⟩ := info_parts infoSum
  have he : Tryz.prog.elem 86 = 90 := by kernel_rfl
  rw [run_slice_l W 86 A n c (by rw [he]; exact Tryz.underlying86) .i64 (k : Int) (by omega) (by omega), he]
  simp [sizeOf, typeInfo, hi, hz1, sliced]

end Go.Proofs.YtfniddnfkciblaaGreatDoor

/-
  Rows of sums of the call's own: one sum is written; a sum is read; marks.
-/
namespace Go.Proofs.YtfniddnfkciblaaGreatDoor
open Go.RowKit

theorem take_splice {α : Type} (l c : List α) (o n : Nat) (h : o + c.length ≤ n) (hn : n ≤ l.length) : (splice l o c).take n = splice (l.take n) o c := by
  unfold splice
  have h1 : (l.take o).length = o := by rw [List.length_take]; omega
  rw [List.take_append, List.take_append, h1, List.take_take, List.take_take, List.drop_take]
  rw [show min n o = o by omega, show min o n = o by omega, List.take_of_length_le (show c.length ≤ n - o by omega), show n - o - c.length = n - (o + c.length) by omega]

/-- n marks of a number, one behind the other. -/
def marks (n num : Nat) : List Value := bvs (List.replicate n (mark32 num)).flatten
theorem marks_length (n num : Nat) : (marks n num).length = n * 32 := by
  unfold marks
  rw [bvs_length, List.length_flatten, List.map_replicate, List.sum_replicate_nat, mark32_length]
theorem marks_snoc (n num : Nat) : marks (n + 1) num = marks n num ++ bvs (mark32 num) := by
  unfold marks
  rw [List.replicate_succ', List.flatten_append, bvs_append]
  simp
theorem marks_add (n m num : Nat) : marks (n + m) num = marks n num ++ marks m num := by
  unfold marks
  rw [← List.replicate_append_replicate, List.flatten_append, bvs_append]
theorem marks_oneCell (n num : Nat) : ∀ v ∈ marks n num, v.oneCell' = true := bvs_oneCell _
theorem marks_at (n num k : Nat) (hk : k < n) : ∀ j x, (mark32 num)[j]? = some x → (marks n num)[k * 32 + j]? = some (bv x) := by
  intro j x hx
  obtain ⟨m, rfl⟩ : ∃ m, n = k + (1 + m) := ⟨n - k - 1, by omega⟩
  have hj := (List.getElem?_eq_some_iff.1 hx).1
  rw [mark32_length] at hj
  rw [marks_add, List.getElem?_append_right (by rw [marks_length]; omega), marks_length, Nat.add_sub_cancel_left, marks_add, List.getElem?_append_left (by rw [marks_length]; omega)]
  have : marks 1 num = bvs (mark32 num) := by unfold marks; simp
  rw [this, bvs_get, hx]
  rfl

/-- A sum of a row of the call's own is written. -/
theorem own_put {w : World} {base g len cap k : Nat} {xs cs : List Value} {e : TypeId} (h : w.ownsRow base e 32 (.slice (some ⟨g, 0, none⟩) len cap) len xs) (hk : k < len) (hc : cs.length = 32) :
    ∃ cur : List Value, w.heap[g]? = some (.cells cur.toArray e (0, 0)) ∧ k * 32 + 32 ≤ cur.length ∧ (w.setRow g (splice cur (k * 32) cs).toArray).ownsRow base e 32 (.slice (some ⟨g, 0, none⟩) len cap) len (splice xs (k * 32) cs) := by
  rcases h.2 with ⟨e, _⟩ | ⟨g', cap', cur, e, hb, hg, hle, hm, hs, htk⟩
  · cases e
  · cases e
    have hl : cur.toList.length = cap * 32 := by rw [Array.length_toList, hs]
    have hxl := h.1
    refine ⟨cur.toList, by simpa using hg, by omega, ⟨by rw [length_splice _ _ _ (by omega)]; exact hxl, .inr ⟨g, cap, _, rfl, hb, setRow_heap w g cur _ _ (0, 0) hg, hle, hm, by rw [List.size_toArray, length_splice _ _ _ (by omega), hl], ?_⟩⟩⟩
    rw [List.toList_toArray, take_splice _ _ _ _ (by omega) (by omega), htk]

theorem But.setRow {S : Nat → Prop} {a w : World} (h : But S a w) {b : Nat} (cs : Array Value) (hb : b < a.heap.size → S b) : But S a (w.setRow b cs) :=
  h.grown (row := some b) ⟨rfl, rfl, rfl, by rw [size_setRow]; exact Nat.le_refl _, fun k _ hk => setRow_other w b k _ (fun e => hk (by rw [e]))⟩ (fun k e hk => by cases e; exact hb hk)

/-- A value of as many cells as its variable has goes into a block from an offset on. -/
theorem wpList_store_at {ops : Array Oper} {rest : List Oper} {o : Oper} {a : Act} {w : World} {Q : Exit → Act → World → Prop} (hgd : o.guard = none) (ty : TypeId) (x y : Operand) (ho : o.op = .store ty x y)
    (g off : Nat) (cs cur : List Value) (t : TypeId) (hx : a.eval x = .pointer (some ⟨g, off, none⟩)) (hy : a.eval y = .agg cs.toArray) (hg : w.heap[g]? = some (.cells cur.toArray t (0, 0)))
    (hi : (Tryz.prog.info? ty).map (·.size) = some cs.length) (hfit : off + cs.length ≤ cur.length) (h1 : ∀ v ∈ cs, v.oneCell' = true)
    (h : wpList Tryz.prog ops Q rest (a.put o.dst undef) (w.setRow g (splice cur off cs).toArray)) : wpList Tryz.prog ops Q (o :: rest) a w := by
  refine wpList_plain hgd fun K hK => ?_
  have hst := run_storeCells_at Tryz.prog g off t cs 0 cur.toArray w hg (by simpa using hfit) h1
  simp only [Nat.add_zero] at hst
  cases hq : Tryz.prog.info? ty with
  | none => simp [hq] at hi
  | some i =>
    have hs : cs.length = i.size := by simp [hq] at hi; omega
    have hrun : (storeVar ty ⟨g, off, none⟩ (.agg cs.toArray)).run Tryz.prog w = .ok () (w.setRow g (splice cur off cs).toArray) := by
      simp [storeVar, sizeOf, typeInfo, hq, Value.cells, hs, hst, splice]
    unfold Oper.wp execOp
    simp only [ho, hx, hy, Instr.storeAt, Instr.sureAddr, Sem.run_bind, Sem.run_pure, Result.andThen_ok, hrun]
    exact hK _ _ h

/-- One cell is read, in every world of a class. -/
theorem quiet_load_cell {ops : Array Oper} {o : Oper} {a : Act} {C : World → Prop} {K : Act → Prop} {E : Prop} (hw : Region.wanted o (yielded ops a.tmps) = true) (ty : TypeId) (hagg : ∀ w, (isAgg ty).run Tryz.prog w = .ok false w) (x : Operand) (ho : o.op = .load ty x)
    (ad : Addr) (hx : a.eval x = .pointer (some ad)) (v : Value) (hc : ∀ w, C w → w.cell? ad = some v) (h : K (a.put o.dst v)) :
    if Region.wanted o (yielded ops a.tmps) = true then o.quiet Tryz.prog a C K else E := by
  rw [if_pos hw]
  refine ⟨v, fun w hC => ?_, h⟩
  unfold Oper.quietAt execOp
  have hl : (loadVar ty ad).run Tryz.prog w = .ok v w := by simp [loadVar, Sem.run_bind, hagg, hc w hC]
  simp only [ho, hx, Instr.loadAt, Instr.sureAddr, Sem.run_bind, Sem.run_pure, Result.andThen_ok, hl]
  exact ⟨rfl, rfl⟩
theorem agg_sums (w : World) : (isAgg 86).run Tryz.prog w = .ok false w := by
  unfold isAgg
  rw [Sem.run_bind, run_underlying Tryz.underlying86 w]
  rfl
theorem agg_int (w : World) : (isAgg 3).run Tryz.prog w = .ok false w := by
  unfold isAgg
  rw [Sem.run_bind, run_underlying Tryz.underlying3 w]
  rfl

/-- One mark more of an owned row of sums. -/
theorem own_mark_put {w : World} {base g len cap k num : Nat} {xs : List Value} (h : w.ownsRow base 90 32 (.slice (some ⟨g, 0, none⟩) len cap) len xs) (hk : k < len) (ht : xs.take (k * 32) = marks k num) :
    ∃ cur : List Value, w.heap[g]? = some (.cells cur.toArray 90 (0, 0)) ∧ k * 32 + 32 ≤ cur.length ∧ ∃ ys, (w.setRow g (splice cur (k * 32) (bvs (mark32 num))).toArray).ownsRow base 90 32 (.slice (some ⟨g, 0, none⟩) len cap) len ys ∧ ys.take ((k + 1) * 32) = marks (k + 1) num := by
  obtain ⟨cur, h1, h2, h3⟩ := own_put (cs := bvs (mark32 num)) h hk (by rw [bvs_length, mark32_length])
  refine ⟨cur, h1, h2, _, h3, ?_⟩
  have hl := h.1
  have hm : (bvs (mark32 num)).length = 32 := by rw [bvs_length, mark32_length]
  unfold splice
  have e1 : (xs.take (k * 32)).length = k * 32 := by rw [List.length_take]; omega
  rw [← List.append_assoc, List.take_append_of_le_length (by rw [List.length_append, e1, hm]; omega), List.take_of_length_le (by rw [List.length_append, e1, hm]; omega), ht, ← marks_snoc]

end Go.Proofs.YtfniddnfkciblaaGreatDoor

/-
  A region that draws its order: all operations but the last ones yield one value each in every world of a class (calls may make memory), and the last ones come in one forced order. One walk of the text's order serves every order. No program is named here.
-/
namespace Go.Proofs.YtfniddnfkciblaaGreatDoor

section
variable {P : Program} {ops : Array Oper} {md : Region.Mode} {C : World → Prop}

/-- The first n operations, in whatever order they come up; then L. -/
def HeadQ (P : Program) (md : Region.Mode) (ops : Array Oper) (C : World → Prop) (n : Nat) (L : Array Bool → Act → Prop) : Nat → Array Bool → Act → Prop
  | 0, done, a => L done a
  | k + 1, done, a => Region.ready md ops done ≠ [] ∧ ∀ i ∈ Region.ready md ops done, i < n ∧ qOp P ops C i (HeadQ P md ops C n L k (done.setIfInBounds i true)) a

theorem HeadQ.any {n g : Nat} {L : Array Bool → Act → Prop} {Q : Exit → Act → World → Prop} (hL : ∀ done a w, C w → L done a → wpAny P md ops Q g done a w) (k : Nat) :
    ∀ (done : Array Bool) (a : Act) (w : World), C w → HeadQ P md ops C n L k done a → wpAny P md ops Q (k + g) done a w := by
  induction k with
  | zero => intro done a w hw h; rw [Nat.zero_add]; exact hL done a w hw h
  | succ k ih =>
    intro done a w hw h
    rw [show k + 1 + g = (k + g) + 1 by omega]
    exact ⟨fun e => absurd e h.1, fun i hi => wpOp_of_qOp hw (fun a' w' hw' h' => ih _ a' w' hw' h') (h.2 i hi).2⟩

/-- An operation of the head that may come up now may be taken first. -/
theorem HeadQ.first {n i : Nat} {oi : Oper} {v : Value} {L : Array Bool → Act → Prop} (hi : ops[i]? = some oi) (hsel : Region.noSelect ops = true)
    (hs : Region.sinkB md ops n = true) (hc : Region.chainB md ops n = true) (hn : n < ops.size) (hin : i < n) (hL : ∀ done a, L done a → ∀ j ∈ Region.ready md ops done, n ≤ j) (k : Nat) :
    ∀ (done : Array Bool) (a : Act), HeadInv md ops n done →
      (∀ j oj, ops[j]? = some oj → j ≠ i → done.getD j true = false → (∀ e ∈ oj.after, Region.binds md e = true → e.on ≠ i) → oi.apart ops oj = true) →
      i ∈ Region.ready md ops done → YieldsIn P ops C oi v a → HeadQ P md ops C n L k (done.setIfInBounds i true) (a.put oi.dst v) → HeadQ P md ops C n L (k + 1) done a := by
  induction k with
  | zero =>
    intro done a inv _ hr hy H
    have early : ∀ j ∈ Region.ready md ops done, j < n := fun j hj => Nat.lt_of_not_le fun h => tail_waits hs hc hn inv _ i rfl hin (mem_ready.1 hr).1 j h hj
    refine ⟨(fun e => by rw [e] at hr; cases hr), fun j hj => ⟨early j hj, ?_⟩⟩
    by_cases e : j = i
    · subst e
      exact hy.qOp hi H
    · exact absurd (hL _ _ H j (ready_mono hj e)) (Nat.not_le.2 (early j hj))
  | succ k ih =>
    intro done a inv free hr hy H
    have early : ∀ j ∈ Region.ready md ops done, j < n := fun j hj => Nat.lt_of_not_le fun h => tail_waits hs hc hn inv _ i rfl hin (mem_ready.1 hr).1 j h hj
    refine ⟨(fun e => by rw [e] at hr; cases hr), fun j hj => ⟨early j hj, ?_⟩⟩
    by_cases e : j = i
    · subst e
      exact hy.qOp hi H
    · obtain ⟨hun, oj, hoj, hall⟩ := mem_ready.1 hj
      have apart := free j oj hoj e hun fun x hx hb he => by
        have h1 := hall x hx hb
        rw [he, getD_both (mem_ready.1 hr).1] at h1
        cases h1
      have h2 := qOp_put hoj apart (fun cs b => Region.noSelect_spec hsel i oi cs b hi) (fun cs b => Region.noSelect_spec hsel j oj cs b hoj) hy (H.2 j (ready_mono hj e)).2
      refine qOp_mono (fun a' h3 => ih _ a' (inv.set hj (early j hj)) (fun x ox hx hxi hux hno => free x ox hx hxi ?_ hno) (ready_mono hr (Ne.symm e)) h3.1 ?_) h2
      · by_cases hjx : j = x
        · subst hjx; exact hun
        · rw [getD_set_ne true hjx] at hux; exact hux
      · rw [Array.setIfInBounds_comm _ _ e]
        exact h3.2

theorem HeadQ.lex {n g : Nat} {T : Act → Prop} (hsel : Region.noSelect ops = true) (hs : Region.sinkB md ops n = true) (hc : Region.chainB md ops n = true) (hn : n < ops.size) (l : List Oper) :
    ∀ (k : Nat) (done : Array Bool) (a : Act), (∀ j, j < l.length → l[j]? = ops[k + j]?) → k + l.length = n → HeadInv md ops n done → Region.lexHead md ops g l.length k done = true → wpQuiet P ops C T l a →
      HeadQ P md ops C n (fun done' a' => Region.seqB md ops g n done' = true ∧ T a') l.length done a := by
  induction l with
  | nil =>
    intro k done a _ hk _ hB h
    obtain rfl : k = n := by simpa using hk
    exact ⟨by simpa [Region.lexHead] using hB, h⟩
  | cons o l ih =>
    intro k done a hl hk inv hB h
    have h0 : ops[k]? = some o := by simpa using (hl 0 (by simp)).symm
    simp only [List.length_cons, Region.lexHead, Bool.and_eq_true] at hB
    have hkn : k < n := by simp only [List.length_cons] at hk; omega
    have hr : k ∈ Region.ready md ops done := by simpa using hB.1.1
    obtain ⟨v, hy, hK⟩ := yieldsIn_of_qOp (C := C) (K := wpQuiet P ops C T l) h0 (by unfold qOp; simp only [h0]; exact h)
    refine HeadQ.first h0 hsel hs hc hn hkn (fun _ _ hL => seqB_ready hL.1) l.length done a inv (Region.free_spec h0 hB.1.2) hr hy (ih (k + 1) _ _ (fun j hj => ?_) (by simp only [List.length_cons] at hk; omega) (inv.set hr hkn) hB.2 hK)
    have := hl (j + 1) (by simp; omega)
    simpa [Nat.add_assoc, Nat.add_comm 1 j] using this

theorem wp_region_quiet_tail {id : Nat} {Q : Exit → Act → World → Prop} {a : Act} {w : World} {l : List Oper} (n : Nat) (hm : P.follows .mixedOrders = true) (hB : Region.lexTailB .any l.toArray n = true) (hC : C w.drew)
    (h : wpQuiet P l.toArray C (fun a' => ∀ w', C w' → wpList P l.toArray Q (l.drop n) a' w') (l.take n) a) : (Code.region id l.toArray true).wp P Q a w := by
  simp only [Region.lexTailB, Bool.and_eq_true, decide_eq_true_eq] at hB
  obtain ⟨⟨⟨⟨hsel, hn⟩, hs⟩, hc⟩, hlex⟩ := hB
  have hn' : n < l.length := by simpa using hn
  have htl : (l.take n).length = n := by simp; omega
  have hdl : (l.drop n).length = l.toArray.size - n := by simp
  have inv0 : HeadInv .any l.toArray n (Array.replicate l.toArray.size false) :=
    ⟨by simp, fun j oj _ hl => (by rw [getD_replicate_false] at hl; cases hl), fun t _ ht => getD_in (by simpa using ht) (getD_replicate_false _ _)⟩
  have H := HeadQ.lex (C := C) (md := .any) (g := l.toArray.size - n) hsel hs hc hn (l.take n) 0 _ a (fun j hj => by
    have hj' : j < n := by rw [htl] at hj; exact hj
    simp [hj']) (by simpa using htl) inv0 (by rw [htl]; exact hlex) h
  have H2 := HeadQ.any (Q := Q) (g := l.toArray.size - n) (fun done a' w' hw' hL => by
    have := wpAny_of_seq (md := .any) (Q' := Q) (l.drop n) n done a' w' (fun j => by simp [List.getElem?_drop]) (by rw [hdl]; exact hL.1) (hL.2 w' hw')
    rwa [hdl] at this) _ _ _ _ hC H
  rw [htl, show n + (l.toArray.size - n) = l.toArray.size by omega] at H2
  exact wp_region_any hm H2

end
end Go.Proofs.YtfniddnfkciblaaGreatDoor

/-
  The Book of the statements: marks are written into every list of sums.
-/
namespace Go.Proofs.YtfniddnfkciblaaGreatDoor
open Go.RowKit

/-- What is asked of the lists of sums of a Book: each owns its row; no two the same block. -/
structure ListsS (w : World) (base : Nat) (hs : List Held) : Prop where
  own : ∀ (i : Nat) (h : Held), hs[i]? = some h → ∃ xs, w.ownsRow base 90 32 h.v h.len xs
  apart : ∀ (i j : Nat) (h k : Held), hs[i]? = some h → hs[j]? = some k → i ≠ j → h.v.ownBlock = none ∨ h.v.ownBlock ≠ k.v.ownBlock

/-- The first i lists have their marks. -/
def FilledS (w : World) (base : Nat) (hs : List Held) (i : Nat) : Prop :=
  ∀ (j : Nat) (h : Held), hs[j]? = some h → ∃ xs, w.ownsRow base 90 32 h.v h.len xs ∧ (j < i → xs = marks h.len h.num)

set_option maxRecDepth 100000 in
set_option maxHeartbeats 2000000 in
theorem fillSum_any (kb N base K : Nat) (bs ss : Value) (hs : List Held) (w : World) (hbk : BookAt w kb N bs ss) (hown : w.ownsRow base 88 3 ss K (heldCells hs)) (hlist : ListsS w base hs)
    (hK : K ≤ 1000000) (hlen : ∀ (i : Nat) (h : Held), hs[i]? = some h → h.len ≤ 1000000000) :
    Calls Tryz.prog 28 #[.pointer (some ⟨kb, 0, none⟩)] w fun e w' => e = .returned (.tuple #[]) ∧
      FilledS w' base hs K ∧ But (inLists hs) w w' := by
  have hKl : hs.length = K := by have := hown.1; rw [heldCells_length] at this; omega
  have HKl := Lib.hid hKl
  clear hKl
  obtain ⟨Ab, cb, rfl⟩ := own_form3 hown
  have h1 := hbk.s
  go_enter Tryz.func28, Tryz.ntmps28
  go_wp2
  go_loopw [2] (fun i wr => ∃ j : Nat, j ≤ K ∧ i = .int .i64 (j : Int) ∧ FilledS wr base hs j ∧ But (inLists hs) w wr) (fun i _ => K - (intOf i).toNat)
  case atStart => exact ⟨0, Nat.zero_le _, rfl, fun j h hj => by obtain ⟨xs, hx⟩ := hlist.own j h hj; exact ⟨xs, hx, fun h => by omega⟩, But.refl _ _⟩
  case round =>
    obtain ⟨j, hj, rfl, hfl, hbut⟩ := hrel
    obtain ⟨wo, rfl⟩ : ∃ wo : World, wo = wr := ⟨_, rfl⟩
    have nokb : ¬ inLists hs kb := by
      rintro ⟨i, h, hi, he⟩
      obtain ⟨xs, hx⟩ := hlist.own i h hi
      exact hbk.other (by decide) hx he
    have hbk2 := hbk.but hbut nokb
    have hown2 := own_kept_but hown hbut (by
      rintro b hb ⟨i, h, hi, he⟩
      obtain ⟨xs, hx⟩ := hlist.own i h hi
      rcases rows_ne (by decide) hx hown with h0 | h0
      · rw [h0] at he; cases he
      · exact h0 (he.trans hb.symm))
    have h2 := hbk2.s
    by_cases hlt : j < K
    · obtain ⟨h, hh⟩ : ∃ h, hs[j]? = some h := ⟨_, List.getElem?_eq_getElem (by rw [HKl.out]; exact hlt)⟩
      obtain ⟨g1, g2, g3⟩ := heldCells_get hh
      rcases hown2.2 with ⟨e, h0⟩ | ⟨gb, cap, cur, e, hbb, hgb, hle, hm, hsz, htk⟩
      · omega
      · cases e
        have p1 : wo.cell? ⟨gb, j * 3, none⟩ = some h.v := by
          have := hown2.cells (g := gb) rfl _ _ g1
          rwa [Addr.add_lit, Nat.zero_add] at this
        have p2 : wo.cell? ⟨gb, j * 3 + 1, none⟩ = some h.long := by
          have := hown2.cells (g := gb) rfl _ _ g2
          rwa [Addr.add_lit, Nat.zero_add] at this
        have p3 : wo.cell? ⟨gb, j * 3 + 2, none⟩ = some (.int .i64 (h.num : Int)) := by
          have := hown2.cells (g := gb) rfl _ _ g3
          rwa [Addr.add_lit, Nat.zero_add] at this
        have i1 : (j : Int) < (K : Int) := by omega
        obtain ⟨xs0, hx0, _⟩ := hfl j h hh
        have hl0 := hlen j h hh
        have hin0 : ∀ b, h.v.ownBlock = some b → inLists hs b := fun b hb => ⟨j, h, hh, hb⟩
        have hrest : ∀ wi, But (fun b => h.v.ownBlock = some b) wo wi → (∃ xs, wi.ownsRow base 90 32 h.v h.len xs ∧ xs = marks h.len h.num) → FilledS wi base hs (j + 1) := by
          intro wi hbi hrow j' h' hj'
          by_cases e : j' = j
          · subst e
            rw [hh] at hj'
            cases hj'
            obtain ⟨xs, r1, r2⟩ := hrow
            exact ⟨xs, r1, fun _ => r2⟩
          · obtain ⟨xs, r1, r2⟩ := hfl j' h' hj'
            refine ⟨xs, own_kept_but r1 hbi (fun b hb hb' => ?_), fun hlt' => r2 (by omega)⟩
            rcases hlist.apart j' j h' h hj' hh e with h0 | h0
            · rw [h0] at hb; cases hb
            · exact h0 (hb.trans hb'.symm)
        have HR := Lib.hid hrest
        have HI := Lib.hid hin0
        have HF := Lib.hid hfl
        clear hrest hin0 hfl g1 g2 g3 hh
        obtain ⟨A, n, c, A2, n2, c2, num⟩ := h
        simp only [Held.v, Held.long] at p1 p2 p3 hx0 hl0
        go_wp2
        have hx1 := hx0.alloc (.cells #[.slice A n c, .slice A2 n2 c2, .int .i64 (num : Int)] 88)
        have hlt0 := hx0.lt
        obtain ⟨wa, hwa⟩ : ∃ wa, wo.alloc (.cells #[.slice A n c, .slice A2 n2 c2, .int .i64 (num : Int)] 88) = wa := ⟨_, rfl⟩
        have hba : But (fun b => (Value.slice A n c).ownBlock = some b) wo wa := by rw [← hwa]; exact (But.refl _ _).alloc _
        have hha : wa.heap[wo.heap.size]? = some (.cells #[.slice A n c, .slice A2 n2 c2, .int .i64 (num : Int)] 88 (0, 0)) := by rw [← hwa]; exact World.alloc_heap_new wo _
        rw [hwa] at hx1 ⊢
        have HH := Lib.hid hha
        clear hwa hha
        go_loopw [4] (fun i wi => ∃ (k : Nat) (xs : List Value), k ≤ n ∧ i = .int .i64 (k : Int) ∧ wi.ownsRow base 90 32 (.slice A n c) n xs ∧ xs.take (k * 32) = marks k num ∧ But (fun b => (Value.slice A n c).ownBlock = some b) wa wi) (fun i _ => n - (intOf i).toNat)
        case atStart => exact ⟨0, xs0, Nat.zero_le _, rfl, hx1, by simp [marks, bvs], But.refl _ _⟩
        case round =>
          obtain ⟨k, xs, hk, rfl, hox, htx, hbi⟩ := hrel
          have hhi : wr.heap[wo.heap.size]? = some (.cells #[.slice A n c, .slice A2 n2 c2, .int .i64 (num : Int)] 88 (0, 0)) :=
            (hbi.block _ (Array.getElem?_eq_some_iff.1 HH.out).1 (fun e => by have := (hlt0 _ e).2; omega)).trans HH.out
          have q0 : wr.cell? ⟨wo.heap.size, 0, none⟩ = some (.slice A n c) := by rw [cell_of_row _ _ 0 _ _ (0, 0) hhi]; rfl
          have q2 : wr.cell? ⟨wo.heap.size, 2, none⟩ = some (.int .i64 (num : Int)) := by rw [cell_of_row _ _ 2 _ _ (0, 0) hhi]; rfl
          clear hhi
          have HT := Lib.hid htx
          clear htx
          by_cases hlt2 : k < n
          · obtain ⟨g, rfl⟩ : ∃ g, A = some ⟨g, 0, none⟩ := by
              rcases hox.2 with ⟨e, h0⟩ | ⟨g, cap, cur, e, _⟩
              · omega
              · cases e; exact ⟨g, rfl⟩
            have HQ := Lib.hid (And.intro q0 q2)
            have HO := Lib.hid hox
            have CM := Lib.hid (fun (W : World) (_ : Below wr.heap.size wr W) => markSum_any num W)
            have i2 : (k : Int) < (n : Int) := by omega
            clear hox
            go_wp2
            refine wp_region_quiet_tail (C := fun w' => Below wr.heap.size wr w') 7 (by kernel_rfl) (by kernel_rfl) ((Below.refl _ _).drew) ?_
            simp only [List.take_succ_cons, List.take_zero, List.drop_succ_cons, List.drop_zero]
            refine wpQuiet_step (fun K hK => ?_)
            go_simp
            refine ⟨_, fun _ _ => rfl, hK _ ?_⟩
            clear hK K
            refine wpQuiet_step (fun K hK => ?_)
            refine quiet_load_cell (by rfl) 86 agg_sums (.tmp 28) rfl ⟨wo.heap.size, 0, none⟩ rfl (.slice (some ⟨g, 0, none⟩) n c) (fun W hC => (hC.cell (World.block_lt_of_cell? wr _ HQ.out.1)).trans HQ.out.1) (hK _ ?_)
            clear hK K
            iterate 2 (refine wpQuiet_step (fun K hK => ?_); go_simp; refine ⟨_, fun _ _ => rfl, hK _ ?_⟩; clear hK K)
            refine wpQuiet_step (fun K hK => ?_)
            refine quiet_load_cell (by rfl) 3 agg_int (.tmp 31) rfl ⟨wo.heap.size, 2, none⟩ rfl (.int .i64 (num : Int)) (fun W hC => (hC.cell (World.block_lt_of_cell? wr _ HQ.out.2)).trans HQ.out.2) (hK _ ?_)
            clear hK K
            refine wpQuiet_step (fun K hK => ?_)
            go_simp
            refine ⟨sv (mark32 num), fun W hC => (CM.out W hC).mono fun e w'' ⟨he, hb'⟩ => ⟨he, below_on hC (Nat.le_refl _) hb'⟩, hK _ ?_⟩
            clear hK K
            refine wpQuiet_step (fun K hK => ?_)
            go_simp
            refine ⟨_, fun _ _ => rfl, hK _ ?_⟩
            clear hK K
            refine wpQuiet_nil ?_
            intro w6 hb6
            obtain ⟨cur, hcur, hfit, ys, hoy, hty⟩ := own_mark_put (own_on HO.out hb6) hlt2 HT.out
            refine wpList_store_at rfl 90 (.tmp 34) (.tmp 33) rfl g (k * 32) (bvs (mark32 num)) cur 90 rfl rfl hcur (by rw [bvs_length, mark32_length]; exact sizeSum) (by rw [bvs_length, mark32_length]; exact hfit) (bvs_oneCell _) ?_
            have HY := Lib.hid (And.intro hoy hty)
            have HB := Lib.hid ((hbi.trans (But.of_below hb6)).setRow (b := g) (splice cur (k * 32) (bvs (mark32 num))).toArray (fun _ => rfl))
            clear hcur hfit hoy hty hbi
            go_wp2
            go_roundw
            case rel => exact ⟨k + 1, ys, by omega, by go_num, HY.out.1, HY.out.2, HB.out⟩
            case measure => simp [intOf]; omega
          · obtain rfl : k = n := by omega
            have hfin : FilledS wr base hs (j + 1) := HR.out wr (hba.trans hbi) ⟨xs, hox, by
              have e := HT.out
              rwa [List.take_of_length_le (by have := hox.1; omega)] at e⟩
            have hbo : But (inLists hs) w wr := hbut.trans ((hba.trans hbi).mono (fun b _ hb => HI.out b hb))
            clear HR HI HF
            go_wp2
            go_roundw
            case rel => exact ⟨j + 1, by omega, by go_num, hfin, hbo⟩
            case measure => simp [intOf]; omega
    · obtain rfl : j = K := by omega
      go_wp2
      go_end0
      exact ⟨rfl, hfl, hbut⟩

end Go.Proofs.YtfniddnfkciblaaGreatDoor

/-
  The Book of the statements: each list of sums is made longer, mark by mark.
-/
namespace Go.Proofs.YtfniddnfkciblaaGreatDoor
open Go.RowKit

/-- The beginning of an owned row of sums. -/
theorem sub_rowS {w : World} {base : Nat} {e : TypeId} {g n m c : Nat} {xs ys : List Value} (h : w.ownsRow base e 32 (.slice (some ⟨g, 0, none⟩) m c) m (xs ++ ys)) (hx : xs.length = n * 32) : w.ownsRow base e 32 (.slice (some ⟨g, 0, none⟩) n c) n xs := by
  rcases h.2 with ⟨e1, _⟩ | ⟨g', cap, cur, e1, hb, hg, hle, hm, hs, ht⟩
  · cases e1
  · cases e1
    have hl := h.1
    rw [List.length_append, hx] at hl
    refine ⟨hx, .inr ⟨g, c, cur, rfl, hb, hg, by omega, hm, hs, ?_⟩⟩
    have e2 := congrArg (List.take (n * 32)) ht
    have e3 : List.take (n * 32) (xs ++ ys) = xs := by
      rw [List.take_append_of_le_length (by omega), List.take_of_length_le (by omega)]
    have e4 : min (n * 32) (m * 32) = n * 32 := by omega
    rw [List.take_take, e4, e3] at e2
    exact e2

/-- One sum behind a full row: a new row. -/
theorem run_app_growS (w : World) (ty : TypeId) (base : Nat) (A : Option Addr) (m c : Nat) (xs news : List Value) (hown : w.ownsRow base 90 32 (.slice A m c) m xs) (hc : c < m + 1) (hm : m ≤ 2000000000)
    (a : Addr) (hnl : news.length = 32) (hnews : ∀ j v, news[j]? = some v → w.cell? (a.add j) = some v) (hbase : base ≤ w.heap.size) :
    ∃ c' w', (Builtin.append_ #[86, 86] ty #[.slice A m c, .slice (some a) 1 1]).run Tryz.prog w = .ok (.slice (some ⟨w.heap.size, 0, none⟩) (m + 1) c') w' ∧
      w'.ownsRow base 90 32 (.slice (some ⟨w.heap.size, 0, none⟩) (m + 1) c') (m + 1) (xs ++ news) ∧ Below w.heap.size w w' := by
  obtain ⟨i0, hi, hz0, hz1, hz2⟩ := info_parts infoSum
  have hzs : (Value.agg (Array.replicate 32 (.int .u8 0))).cells.size = 32 := rfl
  have key : ∀ old, old < m + 1 → (w.drew.alloc (.cells (xs.toArray ++ news.toArray ++ Builtin.zeroCells (Value.agg (Array.replicate 32 (.int .u8 0))).cells (grownCap w (m + 1) old 90 - (m + 1))) 90)).ownsRow base 90 32
      (.slice (some ⟨w.heap.size, 0, none⟩) (m + 1) (grownCap w (m + 1) old 90)) (m + 1) (xs ++ news) := by
    intro old ho
    have hge := grownCap_ge w (m + 1) old 90
    have hcm : grownCap w (m + 1) old 90 ≤ maxLen := grownCap_le_maxLen w (m + 1) old 90 (by unfold maxLen; omega)
    have hl := hown.1
    refine ⟨by rw [List.length_append, hl, hnl]; omega, .inr ⟨w.heap.size, _, _, rfl, hbase, heap_alloc_new w.drew _, hge, hcm, ?_, ?_⟩⟩
    · simp only [Array.size_append, List.size_toArray, size_zeroCells, hl, hnl, hzs]
      omega
    · simp only [Array.toList_append]
      rw [List.take_append_of_le_length (by simp [hl, hnl]; omega)]
      rw [List.take_of_length_le (by simp [hl, hnl]; omega)]
  have hb : ∀ o, Below w.heap.size w (w.drew.alloc o) := fun o => ((Below.refl _ w).drew).alloc (Nat.le_refl _) o
  rcases hown.2 with ⟨e1, h0⟩ | ⟨g, cap, cur, e1, _, _, hle, _, _, _⟩
  · cases e1
    have hx : xs = [] := List.eq_nil_of_length_eq_zero (by have := hown.1; omega)
    subst hx
    have hr := run_append_nil (P := Tryz.prog) w 86 ty 90 i0 _ Tryz.underlying86 hi hz0 a 1 1 news (by rw [hz1, hnl]) hnews (by omega) (by omega) (by rw [hz2]; omega)
    have hk := key 0 (by omega)
    simp only [Nat.zero_add, List.nil_append, Array.empty_append] at hk ⊢
    exact ⟨_, _, hr, hk, hb _⟩
  · cases e1
    have hr := run_append_grow (P := Tryz.prog) w 86 ty 90 i0 _ Tryz.underlying86 hi hz0 ⟨g, 0, none⟩ m c xs (by rw [hz1]; exact hown.1) (hown.cells (g := g) rfl) a 1 1 news (by rw [hz1, hnl]) hnews (by omega) (by omega)
      (by rw [hz2]; exact growslice_fits (by omega) (by omega))
    exact ⟨_, _, hr, key c (by omega), hb _⟩

/-- The state of a list of sums that is being made longer: v is as it was; the longer one lies in its block, or in a new one. -/
def LongerS (base : Nat) (A : Option Addr) (n c : Nat) (num k : Nat) (wa wi : World) (A2 : Option Addr) (c2 : Nat) : Prop :=
  wi.ownsRow base 90 32 (.slice A2 (n + k) c2) (n + k) (marks (n + k) num) ∧ wi.ownsRow base 90 32 (.slice A n c) n (marks n num) ∧
  But (fun b => (Value.slice A n c).ownBlock = some b) wa wi ∧ ((A2 = A ∧ c2 = c) ∨ ∃ g2, A2 = some ⟨g2, 0, none⟩ ∧ wa.heap.size ≤ g2)

/-- One mark more. -/
theorem run_longerS (base : Nat) (A : Option Addr) (n c num k : Nat) (wa w : World) (A2 : Option Addr) (c2 : Nat) (ty : TypeId) (h : LongerS base A n c num k wa w A2 c2) (hwa : ∀ b, (Value.slice A n c).ownBlock = some b → b < wa.heap.size) (hn : n + k ≤ 2000000000) (hbase : base ≤ wa.heap.size)
    (a : Addr) (hu : At w a (mark32 num)) :
    ∃ A3 c3 w', (Builtin.append_ #[86, 86] ty #[.slice A2 (n + k) c2, .slice (some a) 1 1]).run Tryz.prog w = .ok (.slice A3 (n + (k + 1)) c3) w' ∧ LongerS base A n c num (k + 1) wa w' A3 c3 := by
  obtain ⟨h1, h2, h3, h4⟩ := h
  obtain ⟨i0, hi, hz0, hz1, hz2⟩ := info_parts infoSum
  have hsz := h3.size
  have hml : (bvs (mark32 num)).length = 32 := by rw [bvs_length, mark32_length]
  have hrep : marks (n + k) num ++ bvs (mark32 num) = marks (n + (k + 1)) num := by rw [← Nat.add_assoc, marks_snoc]
  have hnews : ∀ j v, (bvs (mark32 num))[j]? = some v → w.cell? (a.add j) = some v := fun j v hv => by
    rw [bvs_get] at hv
    obtain ⟨y, hy, rfl⟩ := Option.map_eq_some_iff.1 hv
    exact hu j y hy
  by_cases hfit : n + k + 1 ≤ c2
  · rcases h1.2 with ⟨e1, h0⟩ | ⟨g, cap, cur, e1, _⟩
    · injection e1 with e1 e2 e3
      omega
    · cases e1
      obtain ⟨w', hr, r1, r2⟩ := run_append_fits (P := Tryz.prog) w base 86 ty 90 i0 32 Tryz.underlying86 hi hz1 g (n + k) c2 _ h1 a 1 1 (bvs (mark32 num)) (by rw [hml]) hnews (bvs_oneCell _) hfit
      rw [hrep] at r1
      refine ⟨_, _, w', hr, r1, ?_, ?_, ?_⟩
      · rcases h4 with ⟨e2, e3⟩ | ⟨g2, e2, hg2⟩
        · subst e3
          rw [← e2]
          refine sub_rowS (m := n + (k + 1)) (ys := marks (k + 1) num) ?_ (marks_length _ _)
          rw [marks_add] at r1
          exact r1
        · cases e2
          refine h2.kept r2 (.inr ?_)
          intro e5
          have := hwa _ e5
          omega
      · refine h3.grown r2 (fun b e5 hb => ?_)
        cases e5
        rcases h4 with ⟨e2, _⟩ | ⟨g2, e2, hg2⟩
        · rw [← e2]; rfl
        · cases e2; omega
      · rcases h4 with ⟨e2, e3⟩ | ⟨g2, e2, hg2⟩
        · exact .inl ⟨e2, e3⟩
        · exact .inr ⟨g2, e2, hg2⟩
  · obtain ⟨c', w', hr, r1, r2⟩ := run_app_growS w ty base A2 (n + k) c2 _ _ h1 (by omega) (by omega) a hml hnews (by omega)
    rw [hrep] at r1
    exact ⟨_, _, w', hr, r1, own_kept_but h2 (But.of_below (S := fun _ => False) r2) (fun _ _ h => h), h3.trans (But.of_below r2), .inr ⟨_, rfl, hsz⟩⟩

theorem wpList_longerS {ops : Array Oper} {rest : List Oper} {o : Oper} {a : Act} {Q : Exit → Act → World → Prop} (w : World) (hgd : o.guard = none) (s x : Operand)
    (ho : o.op = .call { callee := .builtin .append, args := #[s, x], argTypes := #[86, 86] })
    (base : Nat) (A : Option Addr) (n c num k : Nat) (wa : World) (A2 : Option Addr) (c2 : Nat) (hs : a.eval s = .slice A2 (n + k) c2) (h : LongerS base A n c num k wa w A2 c2)
    (hwa : ∀ b, (Value.slice A n c).ownBlock = some b → b < wa.heap.size) (hn : n + k ≤ 2000000000) (hbase : base ≤ wa.heap.size) (ad : Addr) (hx : a.eval x = .slice (some ad) 1 1) (hu : At w ad (mark32 num))
    (hK : ∀ A3 c3 w', LongerS base A n c num (k + 1) wa w' A3 c3 → wpList Tryz.prog ops Q rest (a.put o.dst (.slice A3 (n + (k + 1)) c3)) w') : wpList Tryz.prog ops Q (o :: rest) a w := by
  refine wpList_plain hgd fun K hK' => ?_
  obtain ⟨A3, c3, w', hr, h2⟩ := run_longerS base A n c num k wa w A2 c2 o.type h hwa hn hbase ad hu
  unfold Oper.wp execOp
  simp only [ho, resolve, invoke, builtin, Sem.run_bind, Sem.run_pure, Result.andThen_ok, List.map_toArray, List.map_cons, List.map_nil, hs, hx, hr]
  exact hK' _ _ (hK A3 c3 w' h2)

theorem LongerS.below {base : Nat} {A : Option Addr} {n c num k : Nat} {wa w w' : World} {A2 : Option Addr} {c2 : Nat} (h : LongerS base A n c num k wa w A2 c2) (hb : Below w.heap.size w w') : LongerS base A n c num k wa w' A2 c2 :=
  ⟨own_on h.1 hb, own_on h.2.1 hb, h.2.2.1.trans (But.of_below hb), h.2.2.2⟩

theorem fill_mark (num : Nat) : Instr.fill (fun i => some (i * 32, 32)) ((Array.range (1 * 32)).map ((Array.replicate 32 (Value.int .u8 0))[· % 32]!)) [(0, sv (mark32 num))] = some (bvs (mark32 num)).toArray := by kernel_rfl

end Go.Proofs.YtfniddnfkciblaaGreatDoor

/-
  The Book of the statements: each list of bytes is made longer, mark by mark.
-/
namespace Go.Proofs.YtfniddnfkciblaaGreatDoor
open Go.RowKit

/-- The beginning of an owned row. -/
theorem sub_row {w : World} {base : Nat} {e : TypeId} {g n m c : Nat} {xs ys : List Value} (h : w.ownsRow base e 1 (.slice (some ⟨g, 0, none⟩) m c) m (xs ++ ys)) (hx : xs.length = n) : w.ownsRow base e 1 (.slice (some ⟨g, 0, none⟩) n c) n xs := by
  rcases h.2 with ⟨e1, _⟩ | ⟨g', cap, cur, e1, hb, hg, hle, hm, hs, ht⟩
  · cases e1
  · cases e1
    have hl := h.1
    rw [List.length_append, hx] at hl
    refine ⟨by omega, .inr ⟨g, c, cur, rfl, hb, hg, by omega, hm, hs, ?_⟩⟩
    have e2 := congrArg (List.take n) ht
    have e3 : List.take n (xs ++ ys) = xs := by
      rw [List.take_append_of_le_length (by omega), List.take_of_length_le (by omega)]
    have e4 : min n (m * 1) = n := by omega
    rw [List.take_take, e4, e3] at e2
    rw [Nat.mul_one]
    exact e2

/-- One byte behind a full row: a new row. -/
theorem run_app_grow (w : World) (ty : TypeId) (base : Nat) (A : Option Addr) (m c : Nat) (xs : List Value) (hown : w.ownsRow base 5 1 (.slice A m c) m xs) (hc : c < m + 1) (hm : m ≤ 2000000000)
    (a : Addr) (u : Value) (hu : w.cell? a = some u) (hbase : base ≤ w.heap.size) :
    ∃ c' w', (Builtin.append_ #[23, 23] ty #[.slice A m c, .slice (some a) 1 1]).run Tryz.prog w = .ok (.slice (some ⟨w.heap.size, 0, none⟩) (m + 1) c') w' ∧
      w'.ownsRow base 5 1 (.slice (some ⟨w.heap.size, 0, none⟩) (m + 1) c') (m + 1) (xs ++ [u]) ∧ Below w.heap.size w w' := by
  obtain ⟨i0, hi, hz0, hz1, hz2⟩ := info_parts infoByte
  have hnews : ∀ j v, [u][j]? = some v → w.cell? (a.add j) = some v := by
    intro j v hv
    cases j with
    | zero => simp at hv; subst hv; simpa [Addr.add] using hu
    | succ j => simp at hv
  have key : ∀ old, old < m + 1 → (w.drew.alloc (.cells (xs.toArray ++ [u].toArray ++ Builtin.zeroCells (Value.int .u8 0).cells (grownCap w (m + 1) old 5 - (m + 1))) 5)).ownsRow base 5 1
      (.slice (some ⟨w.heap.size, 0, none⟩) (m + 1) (grownCap w (m + 1) old 5)) (m + 1) (xs ++ [u]) := by
    intro old ho
    have hge := grownCap_ge w (m + 1) old 5
    have hcm : grownCap w (m + 1) old 5 ≤ maxLen := grownCap_le_maxLen w (m + 1) old 5 (by unfold maxLen; omega)
    have hl := hown.1
    refine ⟨by rw [List.length_append, hl]; rfl, .inr ⟨w.heap.size, _, _, rfl, hbase, heap_alloc_new w.drew _, hge, hcm, ?_, ?_⟩⟩
    · simp only [Array.size_append, List.size_toArray, size_zeroCells, hl, List.length_singleton]
      simp [Value.cells]
      omega
    · simp only [Array.toList_append]
      rw [List.take_append_of_le_length (by simp [hl])]
      rw [List.take_of_length_le (by simp [hl])]
  have hb : ∀ o, Below w.heap.size w (w.drew.alloc o) := fun o => ((Below.refl _ w).drew).alloc (Nat.le_refl _) o
  rcases hown.2 with ⟨e1, h0⟩ | ⟨g, cap, cur, e1, _, _, hle, _, _, _⟩
  · cases e1
    have hx : xs = [] := List.eq_nil_of_length_eq_zero (by have := hown.1; omega)
    subst hx
    have hr := run_append_nil (P := Tryz.prog) w 23 ty 5 i0 _ Tryz.underlying23 hi hz0 a 1 1 [u] (by rw [hz1]; rfl) hnews (by omega) (by omega) (by rw [hz2]; omega)
    have hk := key 0 (by omega)
    simp only [Nat.zero_add, List.nil_append, Array.empty_append] at hk ⊢
    exact ⟨_, _, hr, hk, hb _⟩
  · cases e1
    have hr := run_append_grow (P := Tryz.prog) w 23 ty 5 i0 _ Tryz.underlying23 hi hz0 ⟨g, 0, none⟩ m c xs (by rw [hz1]; exact hown.1) (hown.cells (g := g) rfl) a 1 1 [u] (by rw [hz1]; rfl) hnews (by omega) (by omega)
      (by rw [hz2]; exact growslice_fits (by omega) (by omega))
    exact ⟨_, _, hr, key c (by omega), hb _⟩

/-- The state of a list that is being made longer: v is as it was; the longer one lies in its block, or in a new one. -/
def Longer (base : Nat) (A : Option Addr) (n c : Nat) (num k : Nat) (wa wi : World) (A2 : Option Addr) (c2 : Nat) : Prop :=
  wi.ownsRow base 5 1 (.slice A2 (n + k) c2) (n + k) (List.replicate (n + k) (mk num)) ∧ wi.ownsRow base 5 1 (.slice A n c) n (List.replicate n (mk num)) ∧
  But (fun b => (Value.slice A n c).ownBlock = some b) wa wi ∧ ((A2 = A ∧ c2 = c) ∨ ∃ g2, A2 = some ⟨g2, 0, none⟩ ∧ wa.heap.size ≤ g2)

/-- One mark more. -/
theorem run_longer (base : Nat) (A : Option Addr) (n c num k : Nat) (wa w : World) (A2 : Option Addr) (c2 : Nat) (ty : TypeId) (h : Longer base A n c num k wa w A2 c2) (hwa : ∀ b, (Value.slice A n c).ownBlock = some b → b < wa.heap.size) (hn : n + k ≤ 2000000000) (hbase : base ≤ wa.heap.size)
    (a : Addr) (hu : w.cell? a = some (mk num)) :
    ∃ A3 c3 w', (Builtin.append_ #[23, 23] ty #[.slice A2 (n + k) c2, .slice (some a) 1 1]).run Tryz.prog w = .ok (.slice A3 (n + (k + 1)) c3) w' ∧ Longer base A n c num (k + 1) wa w' A3 c3 := by
  obtain ⟨h1, h2, h3, h4⟩ := h
  obtain ⟨i0, hi, hz0, hz1, hz2⟩ := info_parts infoByte
  have hsz := h3.size
  have hrep : List.replicate (n + k) (mk num) ++ [mk num] = List.replicate (n + (k + 1)) (mk num) := by rw [← Nat.add_assoc, List.replicate_succ']
  by_cases hfit : n + k + 1 ≤ c2
  · rcases h1.2 with ⟨e1, h0⟩ | ⟨g, cap, cur, e1, _⟩
    · injection e1 with e1 e2 e3
      omega
    · cases e1
      obtain ⟨w', hr, r1, r2⟩ := run_append_fits (P := Tryz.prog) w base 23 ty 5 i0 1 Tryz.underlying23 hi hz1 g (n + k) c2 _ h1 a 1 1 [mk num] rfl (by
        intro j v hv
        cases j with
        | zero => simp at hv; subst hv; simpa [Addr.add] using hu
        | succ j => simp at hv) (by simp [mk, Value.oneCell']) hfit
      rw [hrep] at r1
      refine ⟨_, _, w', hr, r1, ?_, ?_, ?_⟩
      · rcases h4 with ⟨e2, e3⟩ | ⟨g2, e2, hg2⟩
        · subst e3
          rw [← e2]
          refine sub_row (m := n + (k + 1)) (ys := List.replicate (k + 1) (mk num)) ?_ (by simp)
          rw [← List.replicate_append_replicate] at r1
          exact r1
        · cases e2
          refine h2.kept r2 (.inr ?_)
          intro e5
          have := hwa _ e5
          omega
      · refine h3.grown r2 (fun b e5 hb => ?_)
        cases e5
        rcases h4 with ⟨e2, _⟩ | ⟨g2, e2, hg2⟩
        · rw [← e2]; rfl
        · cases e2; omega
      · rcases h4 with ⟨e2, e3⟩ | ⟨g2, e2, hg2⟩
        · exact .inl ⟨e2, e3⟩
        · exact .inr ⟨g2, e2, hg2⟩
  · obtain ⟨c', w', hr, r1, r2⟩ := run_app_grow w ty base A2 (n + k) c2 _ h1 (by omega) (by omega) a _ hu (by omega)
    rw [hrep] at r1
    exact ⟨_, _, w', hr, r1, own_kept_but h2 (But.of_below (S := fun _ => False) r2) (fun _ _ h => h), h3.trans (But.of_below r2), .inr ⟨_, rfl, hsz⟩⟩

theorem wpList_longer {ops : Array Oper} {rest : List Oper} {o : Oper} {a : Act} {Q : Exit → Act → World → Prop} (w : World) (hgd : o.guard = none) (s x : Operand)
    (ho : o.op = .call { callee := .builtin .append, args := #[s, x], argTypes := #[23, 23] })
    (base : Nat) (A : Option Addr) (n c num k : Nat) (wa : World) (A2 : Option Addr) (c2 : Nat) (hs : a.eval s = .slice A2 (n + k) c2) (h : Longer base A n c num k wa w A2 c2)
    (hwa : ∀ b, (Value.slice A n c).ownBlock = some b → b < wa.heap.size) (hn : n + k ≤ 2000000000) (hbase : base ≤ wa.heap.size) (ad : Addr) (hx : a.eval x = .slice (some ad) 1 1) (hu : w.cell? ad = some (mk num))
    (hK : ∀ A3 c3 w', Longer base A n c num (k + 1) wa w' A3 c3 → wpList Tryz.prog ops Q rest (a.put o.dst (.slice A3 (n + (k + 1)) c3)) w') : wpList Tryz.prog ops Q (o :: rest) a w := by
  refine wpList_plain hgd fun K hK' => ?_
  obtain ⟨A3, c3, w', hr, h2⟩ := run_longer base A n c num k wa w A2 c2 o.type h hwa hn hbase ad hu
  unfold Oper.wp execOp
  simp only [ho, resolve, invoke, builtin, Sem.run_bind, Sem.run_pure, Result.andThen_ok, List.map_toArray, List.map_cons, List.map_nil, hs, hx, hr]
  exact hK' _ _ (hK A3 c3 w' h2)

end Go.Proofs.YtfniddnfkciblaaGreatDoor
