/-
  macs.filled: a key's block, each byte against a number.
-/
import Derived.Test.YtoojlpbfldnkpaaDoorShaSum
import Derived.Test.YtoojlpbfldnkpaaDoorMacSame
namespace Go.Proofs.YtoojlpbfldnkpaaDoor
open Go.RowKit

/-- A key and noughts behind it, up to 64 bytes, each against m. -/
def fil (xs : List Nat) (m : Nat) : List Nat := (List.range 64).map fun i => xs.getD i 0 ^^^ m
theorem fil_length (xs : List Nat) (m : Nat) : (fil xs m).length = 64 := by simp [fil]
theorem getD_byte {xs : List Nat} (h : ∀ x ∈ xs, x < 256) (i : Nat) : xs.getD i 0 < 256 := by
  rw [List.getD_eq_getElem?_getD]
  cases e : xs[i]? with
  | none => simp
  | some x => exact h x (List.mem_of_getElem? e)
theorem fil_lt {xs : List Nat} {m : Nat} (h : ∀ x ∈ xs, x < 256) (hm : m < 256) : ∀ x ∈ fil xs m, x < 256 := by
  intro x hx
  obtain ⟨i, _, rfl⟩ := List.mem_map.1 hx
  exact xor_byte (getD_byte h i) hm

/-- The first j bytes are done. -/
def Filling (xs : List Nat) (m j : Nat) (ys : List Nat) : Prop := ys.length = 64 ∧ ∀ i, i < 64 → ys.getD i 0 = if i < j then xs.getD i 0 ^^^ m else xs.getD i 0
theorem Filling.start (xs : List Nat) (m : Nat) : Filling xs m 0 ((xs.take 64) ++ zero64.drop (xs.take 64).length) := by
  have hl : (xs.take 64).length ≤ 64 := by rw [List.length_take]; omega
  refine ⟨by rw [List.length_append, List.length_drop]; show _ + (64 - _) = 64; omega, fun i hi => ?_⟩
  rw [if_neg (by omega), List.getD_eq_getElem?_getD, List.getD_eq_getElem?_getD, List.getElem?_append]
  split
  · rename_i h
    rw [List.getElem?_take, if_pos hi]
  · rename_i h
    rw [List.length_take] at h
    rw [List.getElem?_drop, List.length_take, zero64, List.getElem?_replicate]
    rw [List.getElem?_eq_none (show xs.length ≤ i by omega)]
    split <;> rfl
theorem Filling.step {xs ys : List Nat} {m j : Nat} (h : Filling xs m j ys) (hj : j < 64) {x : Nat} (hx : ys.getD j 0 = x) : Filling xs m (j + 1) (ys.set j (x ^^^ m)) := by
  refine ⟨by rw [List.length_set, h.1], fun i hi => ?_⟩
  rw [List.getD_eq_getElem?_getD, List.getElem?_set]
  by_cases e : j = i
  · subst e
    have := h.2 j hj
    rw [if_neg (by omega), hx] at this
    rw [if_pos rfl, if_pos (by rw [h.1]; exact hj), if_pos (by omega), this]
    rfl
  · rw [if_neg e, ← List.getD_eq_getElem?_getD, h.2 i hi]
    by_cases h1 : i < j
    · rw [if_pos h1, if_pos (by omega)]
    · rw [if_neg h1, if_neg (by omega)]
theorem Filling.done {xs ys : List Nat} {m : Nat} (h : Filling xs m 64 ys) : ys = fil xs m := by
  apply List.ext_getElem?
  intro i
  by_cases hi : i < 64
  · have := h.2 i hi
    rw [if_pos hi, List.getD_eq_getElem?_getD, List.getElem?_eq_getElem (by rw [h.1]; exact hi)] at this
    rw [List.getElem?_eq_getElem (by rw [h.1]; exact hi), fil, List.getElem?_map, List.getElem?_range hi]
    simpa using this
  · rw [List.getElem?_eq_none (by rw [h.1]; omega), List.getElem?_eq_none (by rw [fil_length]; omega)]

theorem run_arr_all {T : TypeId} {n : Nat} (hu : Tryd.prog.underlying T = some (.array n 5)) (ad : Addr) (W : World) :
    (Instr.sliceAt T (.pointer (some ad)) none none none).run Tryd.prog W = .ok (.slice (some ad) n n) W := by
  obtain ⟨i0, hi, hz0, hz1, hz2⟩ := info_parts infoByte
  simp [Instr.sliceAt, run_underlying hu, Instr.sureAddr, Instr.sliceBounds, sizeOf, typeInfo, hi, Addr.add]


theorem wpList_load64 {ops : Array Oper} {rest : List Oper} {o : Oper} {a : Act} {w : World} {Q : Exit → Act → World → Prop} (hgd : o.guard = none) (x : Operand) (ho : o.op = .load 58 x)
    (g : Nat) (hx : a.eval x = .pointer (some ⟨g, 0, none⟩)) {T : TypeId} (xs : List Nat) (hl : Hid (xs.length = 64)) (hc : BArr w g T xs)
    (h : wpList Tryd.prog ops Q rest (a.put o.dst (.agg (bvs xs).toArray)) w) : wpList Tryd.prog ops Q (o :: rest) a w :=
  wpList_load_row hgd 58 x ho g hx T (bvs xs).toArray (0, 0) _ hc Tryd.underlying58 rfl (by rw [List.size_toArray, bvs_length, hl.out]; exact size64) h

theorem wpList_store64 {ops : Array Oper} {rest : List Oper} {o : Oper} {a : Act} {w : World} {Q : Exit → Act → World → Prop} (hgd : o.guard = none) (x y : Operand) (ho : o.op = .store 58 x y)
    (g : Nat) (hx : a.eval x = .pointer (some ⟨g, 0, none⟩)) {T : TypeId} (xs ys : List Nat) (hl : Hid (xs.length = 64)) (hl' : Hid (ys.length = 64)) (hc : BArr w g T xs) (hy : a.eval y = .agg (bvs ys).toArray)
    (h : wpList Tryd.prog ops Q rest (a.put o.dst undef) (w.setRow g (bvs ys).toArray)) : wpList Tryd.prog ops Q (o :: rest) a w :=
  wpList_store_row hgd 58 x y ho g (bvs ys).toArray hx hy T (bvs xs).toArray hc (by rw [List.size_toArray, bvs_length, hl'.out]; exact size64) (by rw [List.size_toArray, bvs_length, hl.out, List.size_toArray, bvs_length, hl'.out]) (all_oneCell_toArray (bvs_oneCell ys)) h

theorem zero64_lit : (bvs zero64).toArray = #[.int .u8 0, .int .u8 0, .int .u8 0, .int .u8 0, .int .u8 0, .int .u8 0, .int .u8 0, .int .u8 0, .int .u8 0, .int .u8 0, .int .u8 0, .int .u8 0, .int .u8 0, .int .u8 0, .int .u8 0, .int .u8 0, .int .u8 0, .int .u8 0, .int .u8 0, .int .u8 0, .int .u8 0, .int .u8 0, .int .u8 0, .int .u8 0, .int .u8 0, .int .u8 0, .int .u8 0, .int .u8 0, .int .u8 0, .int .u8 0, .int .u8 0, .int .u8 0, .int .u8 0, .int .u8 0, .int .u8 0, .int .u8 0, .int .u8 0, .int .u8 0, .int .u8 0, .int .u8 0, .int .u8 0, .int .u8 0, .int .u8 0, .int .u8 0, .int .u8 0, .int .u8 0, .int .u8 0, .int .u8 0, .int .u8 0, .int .u8 0, .int .u8 0, .int .u8 0, .int .u8 0, .int .u8 0, .int .u8 0, .int .u8 0, .int .u8 0, .int .u8 0, .int .u8 0, .int .u8 0, .int .u8 0, .int .u8 0, .int .u8 0, .int .u8 0] := rfl

set_option maxRecDepth 100000 in
set_option maxHeartbeats 1000000 in
theorem filled_any (A : Option Addr) (n c m : Nat) (xs : List Nat) (w : World) (hin : In w A n xs) (hx : ∀ x ∈ xs, x < 256) (hm : m < 256) :
    Calls Tryd.prog 63 #[.slice A n c, .int .u8 (m : Int)] w fun e w' => e = .returned (.agg (bvs (fil xs m)).toArray) ∧ Below w.heap.size w w' := by
  have hsl := run_arr_all Tryd.underlying58
  have f1 := BArr.alloc (BArr.new w 58 zero64) (.cells (bvs zero64).toArray 58)
  have f2 := BArr.new (w.alloc (.cells (bvs zero64).toArray 58)) 58 zero64
  have bel : Below w.heap.size w ((w.alloc (.cells (bvs zero64).toArray 58)).alloc (.cells (bvs zero64).toArray 58)) :=
    (below_alloc w _).alloc (by simp) _
  have in1 := (hin.below (below_alloc w (.cells (bvs zero64).toArray 58))).below (below_alloc (w.alloc (.cells (bvs zero64).toArray 58)) (.cells (bvs zero64).toArray 58))
  rw [World.size_alloc] at f2
  rw [zero64_lit] at f1 f2 bel in1
  have F1 := Lib.hid f1
  have F2 := Lib.hid f2
  have BEL := Lib.hid bel
  have HIN := Lib.hid in1
  have HX := Lib.hid (And.intro hx hin.len)
  have HZ := Lib.hid (show zero64.length = 64 from rfl)
  clear f1 f2 bel in1 hx hin
  go_enter Tryd.func63, Tryd.ntmps63
  go_wp2_with (with_reducible refine wpList_copy_splice rfl (.tmp 7) (.tmp 8) 22 22 rfl 5 Tryd.underlying22 sizeByte (some ⟨w.heap.size + 1, 0, none⟩) A 64 64 n c rfl rfl (w.heap.size + 1) 0 (bvs zero64) 58 ?_ (bvs (xs.take 64)) ?_ ?_ ?_ (bvs_oneCell _) (w.heap.size + 1) _ (Below.refl _ _) (Nat.le_refl _) ?_)
  · exact Option.some.inj ((Array.getElem?_eq_getElem _).symm.trans F2.out)
  · rw [bvs_length, List.length_take, HX.out.2]; exact Nat.min_comm _ _
  · intro h0
    rw [bvs_length, List.length_take, HX.out.2] at h0
    obtain ⟨ad, x, e, _⟩ := HIN.out.at_ (show 0 < n by omega)
    refine ⟨ad, e, fun j v hv => ?_⟩
    rw [bvs_get] at hv
    obtain ⟨y, hy, rfl⟩ := Option.map_eq_some_iff.1 hv
    rw [List.getElem?_take] at hy
    split at hy
    · obtain ⟨ad', e', hc⟩ := HIN.out.rd j y hy
      rw [e] at e'
      cases e'
      exact hc
    · cases hy
  · rw [bvs_length, bvs_length, List.length_take, HZ.out]; omega
  intro w2 hw2 hb2
  have r2 : BArr w2 w.heap.size 58 zero64 := (hb2.block _ (by omega)).trans F1.out
  have bel2 : Below w.heap.size w w2 := BEL.out.trans (hb2.mono (by omega))
  rw [bvs_splice] at hw2
  have b2 : BArr w2 (w.heap.size + 1) 58 _ := hw2.out
  rw [List.take_zero, List.nil_append, Nat.zero_add] at b2
  have st := Filling.start xs m
  obtain ⟨ys0, hys0⟩ : ∃ ys, ys = xs.take 64 ++ zero64.drop (xs.take 64).length := ⟨_, rfl⟩
  rw [← hys0] at b2 st
  have HB := Lib.hid (And.intro r2 (And.intro bel2 (And.intro b2 st)))
  clear hw2 hb2 r2 bel2 b2 st hys0 F1 F2 BEL HIN
  go_wp2
  go_loopw [10] (fun i wr => ∃ (j : Nat) (ys : List Nat), j ≤ 64 ∧ i = .int .i64 (j : Int) ∧ Filling xs m j ys ∧ BArr wr w.heap.size 58 zero64 ∧ BArr wr (w.heap.size + 1) 58 ys ∧ Below w.heap.size w wr) (fun i _ => 64 - (intOf i).toNat)
  case atStart => exact ⟨0, ys0, by omega, rfl, HB.out.2.2.2, HB.out.1, HB.out.2.2.1, HB.out.2.1⟩
  case round =>
    clear HB
    obtain ⟨j, ys, hj, rfl, F, r, b, bel⟩ := hrel
    by_cases hlt : j < 64
    · obtain ⟨x, hxj⟩ : ∃ x, ys.getD j 0 = x := ⟨_, rfl⟩
      have hcell := b.cell (i := j) (by rw [F.1]; exact hlt)
      have fz := b.free j
      have bx : x < 256 := by
        have := F.2 j hlt
        rw [if_neg (by omega), hxj] at this
        rw [this]; exact getD_byte HX.out.1 j
      rw [hxj] at hcell
      have q1 := u8_xor_nat x m bx hm
      have F' := Lib.hid (F.step hlt hxj)
      clear F hxj
      go_wp2
      go_roundw
      case rel => exact ⟨j + 1, _, by omega, by go_num, F'.out, r.other _ _ (by show w.heap.size ≠ w.heap.size + 1; omega), b.set j _, bel.setCell (by show w.heap.size ≤ w.heap.size + 1; omega) _⟩
      case measure => simp [intOf]; omega
    · obtain rfl : j = 64 := by omega
      obtain rfl := F.done
      have HL := Lib.hid (fil_length xs m)
      go_wp2_with (first
        | (with_reducible refine wpList_load64 rfl (.tmp 5) rfl (w.heap.size + 1) rfl (fil xs m) HL b ?_)
        | (with_reducible refine wpList_store64 rfl (.tmp 4) (.tmp 20) rfl w.heap.size rfl zero64 (fil xs m) HZ HL r rfl ?_))
      refine bodyPost_ret_by (results_cell_row (p := 4) (ty := 58) (by kernel_rfl) _ _ w.heap.size 58 (bvs (fil xs m)).toArray (0, 0) _ rfl (r.setRow _) Tryd.underlying58 rfl (by rw [List.size_toArray, bvs_length, HL.out]; exact size64)) rfl ?_
      exact ⟨rfl, below_setRow bel (Nat.le_refl _) _⟩

end Go.Proofs.YtoojlpbfldnkpaaDoor
