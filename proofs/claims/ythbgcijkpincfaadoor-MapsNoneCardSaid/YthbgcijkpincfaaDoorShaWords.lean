/-
  shas.wordsOf: a block as sixteen numbers.
-/
import Derived.Test.YthbgcijkpincfaaDoorShaInv
import Derived.Test.YthbgcijkpincfaaDoorLOnly
namespace Go.Proofs.YthbgcijkpincfaaDoor
open Go.RowKit

/-- The i-th number of a block. -/
def word (xs : List Nat) (i : Nat) : Nat := ((xs.getD (4 * i) 0 * 256 + xs.getD (4 * i + 1) 0) * 256 + xs.getD (4 * i + 2) 0) * 256 + xs.getD (4 * i + 3) 0
def words (xs : List Nat) : List Nat := (List.range 16).map (word xs)
def Words (xs : List Nat) (j : Nat) (W : List Nat) : Prop := W.length = 16 ∧ ∀ i, i < 16 → W.getD i 0 = if i < j then word xs i else 0

theorem Words.start (xs : List Nat) : Words xs 0 [0, 0, 0, 0, 0, 0, 0, 0, 0, 0, 0, 0, 0, 0, 0, 0] := by
  have h : ∀ i, i < 16 → List.getD [0, 0, 0, 0, 0, 0, 0, 0, 0, 0, 0, 0, 0, 0, 0, 0] i 0 = 0 := by decide
  exact ⟨rfl, fun i hi => by rw [if_neg (by omega)]; exact h i hi⟩
theorem Words.step {xs W : List Nat} {j : Nat} (h : Words xs j W) (hj : j < 16) {a b c d : Nat} (ha : xs.getD (4 * j) 0 = a) (hb : xs.getD (4 * j + 1) 0 = b) (hc : xs.getD (4 * j + 2) 0 = c) (hd : xs.getD (4 * j + 3) 0 = d) :
    Words xs (j + 1) (W.set j (((a * 256 + b) * 256 + c) * 256 + d)) := by
  refine ⟨by rw [List.length_set]; exact h.1, fun i hi => ?_⟩
  rw [getD_set _ _ _ _ (by rw [h.1]; omega)]
  by_cases e : j = i
  · subst e
    rw [if_pos rfl, if_pos (by omega), word, ha, hb, hc, hd]
  · rw [if_neg e, h.2 i hi]
    by_cases e2 : i < j
    · rw [if_pos e2, if_pos (by omega)]
    · rw [if_neg e2, if_neg (by omega)]
theorem words_length (xs : List Nat) : (words xs).length = 16 := by rw [words, List.length_map, List.length_range]
theorem Words.end_ {xs W : List Nat} (h : Words xs 16 W) : W = words xs := by
  apply List.ext_getElem?
  intro i
  by_cases hi : i < 16
  · have := h.2 i hi
    rw [if_pos hi, List.getD_eq_getElem?_getD, List.getElem?_eq_getElem (by rw [h.1]; omega), Option.getD_some] at this
    rw [List.getElem?_eq_getElem (by rw [h.1]; omega), words, List.getElem?_map, List.getElem?_range hi, this]
    rfl
  · rw [List.getElem?_eq_none (by rw [h.1]; omega), List.getElem?_eq_none (by rw [words_length]; omega)]
theorem getD_lt8 {l : List Nat} (h : ∀ x ∈ l, x < 256) (i : Nat) : l.getD i 0 < 256 := by
  rw [List.getD_eq_getElem?_getD]
  cases e : l[i]? with
  | none => simp
  | some x => exact h x (List.mem_of_getElem? e)
theorem word_lt {xs : List Nat} (h : ∀ x ∈ xs, x < 256) (i : Nat) : word xs i < 4294967296 := by
  have a := getD_lt8 h (4 * i)
  have b := getD_lt8 h (4 * i + 1)
  have c := getD_lt8 h (4 * i + 2)
  have d := getD_lt8 h (4 * i + 3)
  unfold word
  omega
theorem words_lt {xs : List Nat} (h : ∀ x ∈ xs, x < 256) : ∀ x ∈ words xs, x < 4294967296 := by
  intro x hx
  obtain ⟨i, _, rfl⟩ := List.mem_map.1 hx
  exact word_lt h i

def zero16 : List Nat := [0, 0, 0, 0, 0, 0, 0, 0, 0, 0, 0, 0, 0, 0, 0, 0]
theorem zero16_lit : (uvs zero16).toArray = #[.int .u32 0, .int .u32 0, .int .u32 0, .int .u32 0, .int .u32 0, .int .u32 0, .int .u32 0, .int .u32 0, .int .u32 0, .int .u32 0, .int .u32 0, .int .u32 0, .int .u32 0, .int .u32 0, .int .u32 0, .int .u32 0] := rfl

theorem wpList_load16 {ops : Array Oper} {rest : List Oper} {o : Oper} {a : Act} {w : World} {Q : Exit → Act → World → Prop} (hgd : o.guard = none) (x : Operand) (ho : o.op = .load 100 x)
    (g : Nat) (hx : a.eval x = .pointer (some ⟨g, 0, none⟩)) {T : TypeId} (xs : List Nat) (hl : Hid (xs.length = 16)) (hc : Arr w g T xs)
    (h : wpList Tryd.prog ops Q rest (a.put o.dst (.agg (uvs xs).toArray)) w) : wpList Tryd.prog ops Q (o :: rest) a w :=
  wpList_load_row hgd 100 x ho g hx T (uvs xs).toArray (0, 0) _ hc Tryd.underlying100 rfl (by rw [List.size_toArray, uvs_length, hl.out]; exact info16) h

theorem wpList_store16 {ops : Array Oper} {rest : List Oper} {o : Oper} {a : Act} {w : World} {Q : Exit → Act → World → Prop} (hgd : o.guard = none) (x y : Operand) (ho : o.op = .store 100 x y)
    (g : Nat) (hx : a.eval x = .pointer (some ⟨g, 0, none⟩)) {T : TypeId} (xs ys : List Nat) (hl : Hid (xs.length = 16)) (hl' : Hid (ys.length = 16)) (hc : Arr w g T xs) (hy : a.eval y = .agg (uvs ys).toArray)
    (h : wpList Tryd.prog ops Q rest (a.put o.dst undef) (w.setRow g (uvs ys).toArray)) : wpList Tryd.prog ops Q (o :: rest) a w :=
  wpList_store_row hgd 100 x y ho g (uvs ys).toArray hx hy T (uvs xs).toArray hc (by rw [List.size_toArray, uvs_length, hl'.out]; exact info16) (by rw [List.size_toArray, uvs_length, hl.out, List.size_toArray, uvs_length, hl'.out]) (all_oneCell_toArray (uvs_oneCell ys)) h

theorem or4 {a b c d : Nat} (ha : a < 256) (hb : b < 256) (hc : c < 256) (hd : d < 256) :
    bits .or .u32 (bits .or .u32 (bits .or .u32 ((a : Int) * 16777216) ((b : Int) * 65536)) ((c : Int) * 256)) (d : Int) = ((((a * 256 + b) * 256 + c) * 256 + d : Nat) : Int) := by
  have e1 : ((a : Int) * 16777216) = ((a * 16777216 : Nat) : Int) := by omega
  have e2 : ((b : Int) * 65536) = ((b * 65536 : Nat) : Int) := by omega
  have e3 : ((c : Int) * 256) = ((c * 256 : Nat) : Int) := by omega
  rw [e1, e2, e3, u32_or_nat _ _ (by omega) (by omega), nat_join 24 _ _ (by omega) (by omega), u32_or_nat _ _ (by omega) (by omega), nat_join 16 _ _ (by omega) (by omega), u32_or_nat _ _ (by omega) (by omega), nat_join 8 _ _ (by omega) (by omega)]
  omega

set_option maxRecDepth 100000 in
set_option maxHeartbeats 1000000 in
theorem wordsOf_any (xs : List Nat) (w : World) (hx : xs.length = 64) (hb : ∀ x ∈ xs, x < 256) :
    Calls Tryd.prog 61 #[.agg (bvs xs).toArray] w fun e w' => e = .returned (.agg (uvs (words xs)).toArray) ∧ Below w.heap.size w w' := by
  have HX := Lib.hid hx
  have HB := Lib.hid hb
  clear hx hb
  have f1 := BArr.alloc (BArr.alloc (BArr.new w 80 xs) (.cells (uvs zero16).toArray 100)) (.cells (uvs zero16).toArray 100)
  have f2 := Arr.alloc (Arr.new (w.alloc (.cells (bvs xs).toArray 80)) 100 zero16) (.cells (uvs zero16).toArray 100)
  have f3 := Arr.new ((w.alloc (.cells (bvs xs).toArray 80)).alloc (.cells (uvs zero16).toArray 100)) 100 zero16
  have bel : Below w.heap.size w (((w.alloc (.cells (bvs xs).toArray 80)).alloc (.cells (uvs zero16).toArray 100)).alloc (.cells (uvs zero16).toArray 100)) :=
    ((below_alloc w _).alloc (by simp) _).alloc (by simp; omega) _
  rw [World.size_alloc] at f2
  rw [World.size_alloc, World.size_alloc] at f3
  rw [zero16_lit] at f1 f2 f3 bel
  have HZ := Lib.hid (show zero16.length = 16 from rfl)
  have F1 := Lib.hid f1
  have F2 := Lib.hid f2
  have F3 := Lib.hid f3
  have BEL := Lib.hid bel
  clear f1 f2 f3 bel
  go_enter Tryd.func61, Tryd.ntmps61
  go_wp2
  go_loopw [6] (fun i wr => ∃ (j : Nat) (W : List Nat), j ≤ 16 ∧ i = .int .i64 (j : Int) ∧ Words xs j W ∧ BArr wr w.heap.size 80 xs ∧ Arr wr (w.heap.size + 1) 100 zero16 ∧ Arr wr (w.heap.size + 1 + 1) 100 W ∧ Below w.heap.size w wr) (fun i _ => 16 - (intOf i).toNat)
  case atStart => exact ⟨0, zero16, by omega, rfl, Words.start xs, F1.out, F2.out, F3.out, BEL.out⟩
  case round =>
    clear F1 F2 F3 BEL
    obtain ⟨j, W, hj, rfl, hW, b1, a2, a3, bel⟩ := hrel
    by_cases hlt : j < 16
    · have c0 := b1.cell (i := 4 * j) (by rw [HX.out]; omega)
      have c1 := b1.cell (i := 4 * j + 1) (by rw [HX.out]; omega)
      have c2 := b1.cell (i := 4 * j + 2) (by rw [HX.out]; omega)
      have c3 := b1.cell (i := 4 * j + 3) (by rw [HX.out]; omega)
      obtain ⟨x0, h0⟩ : ∃ x : Nat, xs.getD (4 * j) 0 = x := ⟨_, rfl⟩
      obtain ⟨x1, h1⟩ : ∃ x : Nat, xs.getD (4 * j + 1) 0 = x := ⟨_, rfl⟩
      obtain ⟨x2, h2⟩ : ∃ x : Nat, xs.getD (4 * j + 2) 0 = x := ⟨_, rfl⟩
      obtain ⟨x3, h3⟩ : ∃ x : Nat, xs.getD (4 * j + 3) 0 = x := ⟨_, rfl⟩
      rw [h0] at c0
      rw [h1] at c1
      rw [h2] at c2
      rw [h3] at c3
      have y0 : x0 < 256 := h0 ▸ getD_lt8 HB.out _
      have y1 : x1 < 256 := h1 ▸ getD_lt8 HB.out _
      have y2 : x2 < 256 := h2 ▸ getD_lt8 HB.out _
      have y3 : x3 < 256 := h3 ▸ getD_lt8 HB.out _
      have HW := Lib.hid (hW.step hlt h0 h1 h2 h3)
      have fr := a3.free j
      have ce := a3.cell (i := j) (by rw [hW.1]; exact hlt)
      have HA := Lib.hid (And.intro b1 (And.intro a2 (And.intro a3 bel)))
      clear h0 h1 h2 h3 hW b1 a2 a3 bel
      have hjl : (j : Int) < 16 := by omega
      have hsl := run_arr_l Tryd.underlying80 ⟨w.heap.size, 0, none⟩ .i64 (4 * (j : Int)) (4 * j) (by omega) (by omega)
      rw [if_neg (by omega), show (⟨w.heap.size, 0, none⟩ : Addr).add (4 * j) = ⟨w.heap.size, 4 * j, none⟩ from by unfold Addr.add; split <;> simp_all] at hsl
      have h4 : (4 : Int) ≤ ((64 - 4 * j : Nat) : Int) := by omega
      go_wp2
      go_still_tail 24, (by kernel_rfl)
      go_wp2
      go_roundw
      case rel =>
        refine ⟨j + 1, _, by omega, by go_num, HW.out, HA.out.1.other _ _ (by show w.heap.size ≠ w.heap.size + 1 + 1; omega), HA.out.2.1.other _ _ (by show w.heap.size + 1 ≠ w.heap.size + 1 + 1; omega), ?_, (HA.out.2.2.2.setCell (by show w.heap.size ≤ w.heap.size + 1 + 1; omega) _).drew⟩
        rw [or4 y0 y1 y2 y3]
        exact (HA.out.2.2.1.set j _).drew
      case measure => simp [intOf]; omega
    · obtain rfl : j = 16 := by omega
      obtain rfl := hW.end_
      have HL := Lib.hid (words_length xs)
      go_wp2_with (first
        | (with_reducible refine wpList_load16 rfl (.tmp 3) rfl (w.heap.size + 1 + 1) rfl (words xs) HL a3 ?_)
        | (with_reducible refine wpList_store16 rfl (.tmp 2) (.tmp 38) rfl (w.heap.size + 1) rfl zero16 (words xs) HZ HL a2 rfl ?_))
      refine bodyPost_ret_by (results_cell_row (p := 2) (ty := 100) (by kernel_rfl) _ _ (w.heap.size + 1) 100 (uvs (words xs)).toArray (0, 0) _ rfl (a2.setRow _) Tryd.underlying100 rfl (by rw [List.size_toArray, uvs_length, HL.out]; exact info16)) rfl ?_
      exact ⟨rfl, below_setRow bel (by omega) _⟩

end Go.Proofs.YthbgcijkpincfaaDoor
