/-
  The document's Take: what holds at each of its times.
-/
import Derived.Test.YtnaebjdccngeoaaDoorRefAdd
import Derived.Test.YtnaebjdccngeoaaDoorShaWords
namespace Go.Proofs.YtnaebjdccngeoaaDoor
open Go.RowKit

def zero64u : List Nat := List.replicate 64 0
theorem infoE : (Tryd.prog.info? 103).map (·.size) = some 8 := by kernel_rfl
theorem wpList_loadE {ops : Array Oper} {rest : List Oper} {o : Oper} {a : Act} {w : World} {Q : Exit → Act → World → Prop} (hgd : o.guard = none) (x : Operand) (ho : o.op = .load 103 x)
    (g : Nat) (hx : a.eval x = .pointer (some ⟨g, 0, none⟩)) {T : TypeId} (xs : List Nat) (hl : Hid (xs.length = 8)) (hc : Arr w g T xs)
    (h : wpList Tryd.prog ops Q rest (a.put o.dst (.agg (uvs xs).toArray)) w) : wpList Tryd.prog ops Q (o :: rest) a w :=
  wpList_load_row hgd 103 x ho g hx T (uvs xs).toArray (0, 0) _ hc Tryd.underlying103 rfl (by rw [List.size_toArray, uvs_length, hl.out]; exact infoE) h
theorem wpList_storeE {ops : Array Oper} {rest : List Oper} {o : Oper} {a : Act} {w : World} {Q : Exit → Act → World → Prop} (hgd : o.guard = none) (x y : Operand) (ho : o.op = .store 103 x y)
    (g : Nat) (hx : a.eval x = .pointer (some ⟨g, 0, none⟩)) {T : TypeId} (xs ys : List Nat) (hl : Hid (xs.length = 8)) (hl' : Hid (ys.length = 8)) (hc : Arr w g T xs) (hy : a.eval y = .agg (uvs ys).toArray)
    (h : wpList Tryd.prog ops Q rest (a.put o.dst undef) (w.setRow g (uvs ys).toArray)) : wpList Tryd.prog ops Q (o :: rest) a w :=
  wpList_store_row hgd 103 x y ho g (uvs ys).toArray hx hy T (uvs xs).toArray hc (by rw [List.size_toArray, uvs_length, hl'.out]; exact infoE) (by rw [List.size_toArray, uvs_length, hl.out, List.size_toArray, uvs_length, hl'.out]) (all_oneCell_toArray (uvs_oneCell ys)) h

theorem heap3_new (w : World) (a b c : Obj) : (((w.alloc a).alloc b).alloc c).heap[w.heap.size + 1 + 1]? = some c := by
  have := World.alloc_heap_new ((w.alloc a).alloc b) c
  rwa [World.size_alloc, World.size_alloc] at this
theorem heap3_mid (w : World) (a b c : Obj) : (((w.alloc a).alloc b).alloc c).heap[w.heap.size + 1]? = some b := by
  have := World.alloc_heap_new (w.alloc a) b
  rw [World.size_alloc] at this
  rw [Below.heap_alloc _ _ _ (by rw [World.size_alloc, World.size_alloc]; omega)]
  exact this
theorem heap3_old (w : World) (a b c : Obj) : (((w.alloc a).alloc b).alloc c).heap[w.heap.size]? = some a := by
  rw [Below.heap_alloc _ _ _ (by rw [World.size_alloc, World.size_alloc]; omega), Below.heap_alloc _ _ _ (by rw [World.size_alloc]; omega)]
  exact World.alloc_heap_new w a
theorem below3 (w : World) (a b c : Obj) : Below w.heap.size w (((w.alloc a).alloc b).alloc c) := ((below_alloc w _).alloc (by simp) _).alloc (by simp; omega) _

/-- The memory: the eight that came in, the result's place, the 64 of w. -/
structure RT (w : World) (S W : List Nat) (wr : World) : Prop where
  s : Arr wr w.heap.size 103 S
  r : Arr wr (w.heap.size + 1) 103 zero8
  w64 : Arr wr (w.heap.size + 1 + 1) 140 W
  below : Below w.heap.size w wr
theorem RT.setW {w wr : World} {S W : List Nat} (h : RT w S W wr) (i v : Nat) : RT w S (W.set i v) (wr.setCell ⟨w.heap.size + 1 + 1, i, none⟩ (.int .u32 (v : Int))) :=
  ⟨h.s.other _ _ (by show w.heap.size ≠ w.heap.size + 1 + 1; omega), h.r.other _ _ (by show w.heap.size + 1 ≠ w.heap.size + 1 + 1; omega), h.w64.set i v, h.below.setCell (by show w.heap.size ≤ w.heap.size + 1 + 1; omega) _⟩
theorem RT.drew {w wr : World} {S W : List Nat} (h : RT w S W wr) : RT w S W wr.drew := ⟨h.s, h.r, h.w64, h.below.drew⟩
theorem RT.drewN {w wr : World} {S W : List Nat} (h : RT w S W wr) (q : Nat) : RT w S W (wr.drewN q) := ⟨h.s, h.r, h.w64, ⟨h.below.os, h.below.tape, h.below.output, h.below.size, h.below.block⟩⟩

/-- The first t of w are there, the others noughts. -/
structure WP (Z : List Nat) (t : Nat) (W : List Nat) : Prop where
  len : W.length = 64
  old : ∀ i, i < t → W.getD i 0 = Z.getD i 0
  zero : ∀ i, t ≤ i → i < 64 → W.getD i 0 = 0
theorem WP.start (Z : List Nat) : WP Z 0 zero64u := by
  have h : ∀ i, i < 64 → zero64u.getD i 0 = 0 := by decide
  exact ⟨rfl, fun i hi => by omega, fun i _ hi => h i hi⟩
theorem WP.next {Z W : List Nat} {t v : Nat} (h : WP Z t W) (ht : t < 64) (hv : v = Z.getD t 0) : WP Z (t + 1) (W.set t v) := by
  refine ⟨by rw [List.length_set]; exact h.len, fun i hi => ?_, fun i h1 h2 => ?_⟩
  · rw [getD_set _ _ _ _ (by rw [h.len]; exact ht)]
    by_cases e : t = i
    · rw [if_pos e, hv, e]
    · rw [if_neg e, h.old i (by omega)]
  · rw [getD_set _ _ _ _ (by rw [h.len]; exact ht), if_neg (by omega), h.zero i (by omega) h2]
theorem WP.end_ {Z W : List Nat} (h : WP Z 64 W) (hZ : Z.length = 64) : W = Z := by
  apply List.ext_getElem?
  intro i
  by_cases hi : i < 64
  · have := h.old i hi
    rw [List.getD_eq_getElem?_getD, List.getD_eq_getElem?_getD, List.getElem?_eq_getElem (by rw [h.len]; exact hi), List.getElem?_eq_getElem (by omega), Option.getD_some, Option.getD_some] at this
    rw [List.getElem?_eq_getElem (by rw [h.len]; exact hi), List.getElem?_eq_getElem (by omega), this]
  · rw [List.getElem?_eq_none (by rw [h.len]; omega), List.getElem?_eq_none (by omega)]

/-- A number of the block, its first i bytes. -/
def wordP (xs : List Nat) (t : Nat) : Nat → Nat
  | 0 => 0
  | i + 1 => 256 * wordP xs t i + xs.getD (4 * t + i) 0
theorem wordP_lt {xs : List Nat} (h : ∀ x ∈ xs, x < 256) (t i : Nat) : wordP xs t i < 256 ^ i := by
  induction i with
  | zero => show 0 < 1; omega
  | succ i ih =>
    have := getD_lt8 h (4 * t + i)
    rw [wordP, Nat.pow_succ]
    omega
theorem wordP_all (xs : List Nat) (t : Nat) : wordP xs t 4 = word xs t := by
  simp only [wordP, word, Nat.add_zero]
  omega
theorem set_zero {W : List Nat} {t : Nat} (ht : t < W.length) (h : W.getD t 0 = 0) : W.set t 0 = W := by
  apply List.ext_getElem?
  intro i
  by_cases e : t = i
  · subst e
    rw [List.getElem?_set_self ht, List.getElem?_eq_getElem ht]
    rw [List.getD_eq_getElem?_getD, List.getElem?_eq_getElem ht, Option.getD_some] at h
    rw [h]
  · rw [List.getElem?_set_ne e]
theorem words_get (xs : List Nat) (t : Nat) (h : t < 16) : (words xs).getD t 0 = word xs t := by
  rw [words, List.getD_eq_getElem?_getD, List.getElem?_map, List.getElem?_range h]
  rfl

end Go.Proofs.YtnaebjdccngeoaaDoor
