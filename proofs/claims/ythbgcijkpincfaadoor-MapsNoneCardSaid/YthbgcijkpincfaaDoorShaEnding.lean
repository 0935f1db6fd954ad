/-
  shas.ending: what stands behind so many bytes.
-/
import Derived.Test.YthbgcijkpincfaaDoorShaTold
namespace Go.Proofs.YthbgcijkpincfaaDoor
open Go.RowKit

def zero72 : List Nat := List.replicate 72 0
theorem info72 : (Tryd.prog.info? 85).map (fun i => (i.zero, i.size)) = some (some (.agg (bvs zero72).toArray), 72) := by kernel_rfl

/-- How many noughts, and what stands behind n bytes. -/
def noughts (n : Nat) : Nat := (119 - n % 64) % 64
def endL (n : Nat) : List Nat := 128 :: (List.replicate (noughts n) 0 ++ dg (n * 8) 8)

/-- Of the bytes that tell how many bits there were the last i are there. -/
def EndAt (z c i : Nat) (ys : List Nat) : Prop := ys.length = 72 ∧ ∀ k, k < 72 → ys.getD k 0 = if k = 0 then 128 else if z + 9 ≤ k + i ∧ k < z + 9 then c / 256 ^ (z + 8 - k) % 256 else 0

theorem EndAt.start (z c : Nat) : EndAt z c 0 (zero72.set 0 128) := by
  have h : ∀ k, k < 72 → (zero72.set 0 128).getD k 0 = if k = 0 then 128 else 0 := by decide
  refine ⟨rfl, fun k hk => ?_⟩
  rw [h k hk]
  by_cases e : k = 0
  · rw [if_pos e, if_pos e]
  · rw [if_neg e, if_neg e, if_neg (by omega)]
theorem EndAt.step {z c i p : Nat} {ys : List Nat} (h : EndAt z c i ys) (hz : z < 64) (hi : i < 8) (hp : z + 8 - i = p) : EndAt z c (i + 1) (ys.set p (c / 256 ^ i % 256)) := by
  refine ⟨by rw [List.length_set]; exact h.1, fun k hk => ?_⟩
  rw [getD_set _ _ _ _ (by rw [h.1]; omega)]
  by_cases e : p = k
  · subst e
    rw [if_pos rfl, if_neg (by omega), if_pos (by omega), show z + 8 - p = i by omega]
  · rw [if_neg e, h.2 k hk]
    by_cases e0 : k = 0
    · rw [if_pos e0, if_pos e0]
    · rw [if_neg e0, if_neg e0]
      by_cases e2 : z + 9 ≤ k + i ∧ k < z + 9
      · rw [if_pos e2, if_pos (by omega)]
      · rw [if_neg e2, if_neg (by omega)]

theorem EndAt.lt {z c i : Nat} {ys : List Nat} (h : EndAt z c i ys) : ∀ x ∈ ys, x < 256 := by
  intro x hx
  obtain ⟨k, hk, rfl⟩ := List.mem_iff_getElem.1 hx
  have := h.2 k (by rw [← h.1]; exact hk)
  rw [List.getD_eq_getElem?_getD, List.getElem?_eq_getElem hk, Option.getD_some] at this
  rw [this]
  split
  · omega
  · split
    · exact Nat.mod_lt _ (by omega)
    · omega
theorem EndAt.end_ {n z : Nat} {ys : List Nat} (hz : noughts n = z) (h : EndAt z (n * 8) 8 ys) : ys.take (z + 9) = endL n := by
  have z3 : z < 64 := by rw [← hz, noughts]; omega
  apply List.ext_getElem?
  intro k
  by_cases hk : k < z + 9
  · have := h.2 k (by omega)
    have hl : k < ys.length := by rw [h.1]; omega
    rw [List.getD_eq_getElem?_getD, List.getElem?_eq_getElem hl, Option.getD_some] at this
    rw [List.getElem?_take, if_pos hk, List.getElem?_eq_getElem hl, this, endL, hz]
    cases k with
    | zero => rfl
    | succ k =>
      rw [List.getElem?_cons_succ, if_neg (by omega)]
      by_cases e : k < z
      · rw [if_neg (by omega), List.getElem?_append_left (by rw [List.length_replicate]; exact e), List.getElem?_replicate, if_pos e]
      · rw [if_pos (by omega), List.getElem?_append_right (by rw [List.length_replicate]; omega), List.length_replicate, dg_get _ _ _ (by omega), show 8 - 1 - (k - z) = z + 8 - (k + 1) by omega]
  · rw [List.getElem?_take, if_neg hk, List.getElem?_eq_none]
    rw [endL, hz, List.length_cons, List.length_append, List.length_replicate, dg_length]
    omega
theorem size72 : (Tryd.prog.info? 85).map (·.size) = some 72 := by kernel_rfl
theorem wpList_load72 {ops : Array Oper} {rest : List Oper} {o : Oper} {a : Act} {w : World} {Q : Exit → Act → World → Prop} (hgd : o.guard = none) (x : Operand) (ho : o.op = .load 85 x)
    (g : Nat) (hx : a.eval x = .pointer (some ⟨g, 0, none⟩)) {T : TypeId} (xs : List Nat) (hl : Hid (xs.length = 72)) (hc : BArr w g T xs)
    (h : wpList Tryd.prog ops Q rest (a.put o.dst (.agg (bvs xs).toArray)) w) : wpList Tryd.prog ops Q (o :: rest) a w :=
  wpList_load_row hgd 85 x ho g hx T (bvs xs).toArray (0, 0) _ hc Tryd.underlying85 rfl (by rw [List.size_toArray, bvs_length, hl.out]; exact size72) h
theorem wpList_store72 {ops : Array Oper} {rest : List Oper} {o : Oper} {a : Act} {w : World} {Q : Exit → Act → World → Prop} (hgd : o.guard = none) (x y : Operand) (ho : o.op = .store 85 x y)
    (g : Nat) (hx : a.eval x = .pointer (some ⟨g, 0, none⟩)) {T : TypeId} (xs ys : List Nat) (hl : Hid (xs.length = 72)) (hl' : Hid (ys.length = 72)) (hc : BArr w g T xs) (hy : a.eval y = .agg (bvs ys).toArray)
    (h : wpList Tryd.prog ops Q rest (a.put o.dst undef) (w.setRow g (bvs ys).toArray)) : wpList Tryd.prog ops Q (o :: rest) a w :=
  wpList_store_row hgd 85 x y ho g (bvs ys).toArray hx hy T (bvs xs).toArray hc (by rw [List.size_toArray, bvs_length, hl'.out]; exact size72) (by rw [List.size_toArray, bvs_length, hl.out, List.size_toArray, bvs_length, hl'.out]) (all_oneCell_toArray (bvs_oneCell ys)) h

set_option maxRecDepth 100000 in
set_option maxHeartbeats 1000000 in
theorem ending_any (n : Nat) (w : World) (hn : n < 1152921504606846976) :
    Calls Tryd.prog 48 #[.int .u64 (n : Int)] w fun e w' => ∃ ys : List Nat, e = .returned (.tuple #[.agg (bvs ys).toArray, .int .i64 ((noughts n + 9 : Nat) : Int)]) ∧ ys.length = 72 ∧ (∀ x ∈ ys, x < 256) ∧ ys.take (noughts n + 9) = endL n ∧ Below w.heap.size w w' := by
  obtain ⟨hz, _⟩ := zero_of_info info72
  have f1 := BArr.new w 85 zero72
  obtain ⟨C, hC⟩ : ∃ C : Array Value, (bvs zero72).toArray = C := ⟨_, rfl⟩
  rw [hC] at hz
  have c0 : (w.alloc (.cells C 85)).cell? ⟨w.heap.size, 0, none⟩ = some (.int .u8 0) := by rw [← hC]; exact f1.cell (i := 0) (by decide)
  have fr0 : (w.alloc (.cells C 85)).frozen? ⟨w.heap.size, 0, none⟩ = false := by rw [← hC]; exact f1.free 0
  obtain ⟨z, hz2⟩ : ∃ z, noughts n = z := ⟨_, rfl⟩
  have z1 : ((119 : Int) - (n : Int)) % 64 = (z : Int) := by rw [← hz2, noughts]; omega
  have z2 : ((119 : Int) - (n : Int) % 64) % 64 = (z : Int) := by rw [← hz2, noughts]; omega
  have z3 : z < 64 := by rw [← hz2, noughts]; omega
  rw [hz2]
  have HZ2 := Lib.hid hz2
  have hst := EndAt.start z (n * 8)
  have ha0 := f1.set 0 128
  rw [hC, World.setCell_alloc_at _ _ _ _ _ rfl] at ha0
  have HA0 := Lib.hid ha0
  have HC := Lib.hid hC
  clear hz2 f1 ha0 hC
  go_enter Tryd.func48, Tryd.ntmps48
  go_wp2
  clear z1 z2
  go_loopw [18] (fun i wr => ∃ (j : Nat) (ys : List Nat), j ≤ 8 ∧ i = .int .i64 (j : Int) ∧ EndAt z (n * 8) j ys ∧ BArr wr w.heap.size 85 ys ∧ Below w.heap.size w wr) (fun i _ => 8 - (intOf i).toNat)
  case atStart => exact ⟨0, _, by omega, rfl, hst, HA0.out, (below_alloc w _)⟩
  case round =>
    clear hst HA0 c0 fr0
    obtain ⟨j, ys, hj, rfl, E, b, bel⟩ := hrel
    by_cases hlt : j < 8
    · obtain ⟨p, hp⟩ : ∃ p : Nat, z + 8 - j = p := ⟨_, rfl⟩
      have cp := b.cell (i := p) (by rw [E.1]; omega)
      have fp := b.free p
      have p1 : (1 + (z : Int) + 8 - 1 - (j : Int)) = (p : Int) := by omega
      have p2 : (p : Int) < 72 := by omega
      have HE := Lib.hid E
      have HP := Lib.hid hp
      clear E hp
      go_wp2
      go_roundw
      case rel =>
        have ev : ((n : Int) * 8 / 2 ^ (8 * j) % 256) = ((n * 8 / 256 ^ j % 256 : Nat) : Int) := by
          rw [show (n : Int) * 8 = ((n * 8 : Nat) : Int) by omega, hi_nat]
          omega
        rw [ev]
        exact ⟨j + 1, _, by omega, by go_num, HE.out.step z3 hlt HP.out, b.set p _, bel.setCell (by show w.heap.size ≤ w.heap.size; omega) _⟩
      case measure => simp [intOf]; omega
    · obtain rfl : j = 8 := by omega
      have HL := Lib.hid E.1
      have HE := Lib.hid E
      clear E
      go_wp2_with (first
        | (with_reducible refine wpList_load72 rfl (.tmp 2) rfl w.heap.size rfl ys HL b ?_)
        | (with_reducible refine wpList_store72 rfl (.tmp 2) (.tmp 32) rfl w.heap.size rfl ys ys HL HL b rfl ?_))
      have b2 := b.setRow ys
      have hrow := run_loadVar_row (P := Tryd.prog) _ w.heap.size 85 85 (bvs ys).toArray (0, 0) _ b2 Tryd.underlying85 rfl (by rw [List.size_toArray, bvs_length, HL.out]; exact size72)
      refine bodyPost_ret_by (v := .tuple #[.agg (bvs ys).toArray, .int .i64 (1 + (z : Int) + 8)]) (results_cell_tmp (p := 2) (q := 3) (ty := 85) (by kernel_rfl) _ _ ⟨w.heap.size, 0, none⟩ _ rfl hrow) rfl ⟨ys, ?_, HL.out, HE.out.lt, HE.out.end_ HZ2.out, below_setRow bel (Nat.le_refl _) _⟩
      rw [show (1 + (z : Int) + 8) = ((z + 9 : Nat) : Int) by omega]

end Go.Proofs.YthbgcijkpincfaaDoor
