/-
  almonerlaw03.known: the chapter's sum.
-/
import Derived.Test.YtoojlpbfldnkpaaDoorMacOf
import Derived.Test.YtoojlpbfldnkpaaDoorShaNul
import Derived.Lib.SmallJoins
namespace Go.Proofs.YtoojlpbfldnkpaaDoor
open Go.RowKit

def knownSum : List Nat := [0x5b, 0xdc, 0xc1, 0x46, 0xbf, 0x60, 0x75, 0x4e, 0x6a, 0x04, 0x24, 0x26, 0x08, 0x95, 0x75, 0xc7, 0x5a, 0x00, 0x3f, 0x08, 0x9d, 0x27, 0x39, 0x83, 0x9d, 0xec, 0x58, 0xb9, 0x64, 0xec, 0x38, 0x43]
def knownKey : List Nat := [74, 101, 102, 101]
def knownR0 : List Nat := [119, 104, 97, 116, 32, 100, 111, 32, 121, 97, 32, 119, 97, 110, 116]
def knownR1 : List Nat := [32]
def knownR2 : List Nat := [102, 111, 114, 32, 110, 111, 116, 104, 105, 110, 103, 63]
def knownRows : List (List Nat) := [knownR0, knownR1, knownR2]
set_option maxRecDepth 100000 in
theorem mac_known : mac knownKey knownRows.flatten = knownSum := by decide +kernel

theorem in_of_block {w : World} {g : Nat} {T : TypeId} {fr : Nat × Nat} {xs : List Nat} (h : w.heap[g]? = some (.cells (bvs xs).toArray T fr)) : In w (some ⟨g, 0, none⟩) xs.length xs :=
  ⟨rfl, fun j x hx => ⟨_, rfl, by
    rw [show (⟨g, 0, none⟩ : Addr).add j = ⟨g, j, none⟩ from by unfold Addr.add; split <;> simp_all]
    rw [cell_of_row _ g j _ T fr h, List.getElem?_toArray, bvs_get, hx]
    rfl⟩⟩
theorem came_of_block {w : World} {g : Nat} {T : TypeId} {fr : Nat × Nat} {xs : List Nat} (h : w.heap[g]? = some (.cells (bvs xs).toArray T fr)) (hl : ∀ x ∈ xs, x < 256) : Came w (some ⟨g, 0, none⟩) xs.length xs.length xs :=
  ⟨in_of_block h, hl, (fun h => by cases h), Nat.le_refl _⟩

/-- The memory with the literals. -/
def kw (w : World) : World := ((((w.alloc (.cells (bvs knownKey).toArray 5 (4, 5))).alloc (.cells (bvs knownR0).toArray 5 (15, 16))).alloc (.cells (bvs knownR1).toArray 5 (1, 2))).alloc (.cells (bvs knownR2).toArray 5 (12, 13))).alloc
  (.cells #[.slice (some ⟨w.heap.size + 1, 0, none⟩) 15 15, .slice (some ⟨w.heap.size + 1 + 1, 0, none⟩) 1 1, .slice (some ⟨w.heap.size + 1 + 1 + 1, 0, none⟩) 12 12] 22)
theorem kw_below (w : World) : Below w.heap.size w (kw w) :=
  ((((below_alloc w _).alloc (by simp) _).alloc (by simp; omega) _).alloc (by simp; omega) _).alloc (by simp; omega) _
theorem new_at (w : World) (o : Obj) (g : Nat) (h : g = w.heap.size) : (w.alloc o).heap[g]? = some o := by subst h; exact World.alloc_heap_new w o
theorem old_at (w : World) (o o' : Obj) (g : Nat) (h : w.heap[g]? = some o') : (w.alloc o).heap[g]? = some o' := ((heap_alloc_old w o) (Array.getElem?_eq_some_iff.1 h).1).trans h
theorem kw_key (w : World) : Came (kw w) (some ⟨w.heap.size, 0, none⟩) 4 4 knownKey :=
  came_of_block (old_at _ _ _ _ (old_at _ _ _ _ (old_at _ _ _ _ (old_at _ _ _ _ (new_at _ _ _ rfl))))) (by decide)
theorem kw_rows (w : World) : CameRows (kw w) (some ⟨w.heap.size + 1 + 1 + 1 + 1, 0, none⟩) 3 knownRows := by
  have h5 : (kw w).heap[w.heap.size + 1 + 1 + 1 + 1]? = some _ := new_at _ _ _ (by simp)
  have cell : ∀ i, (kw w).cell? ⟨w.heap.size + 1 + 1 + 1 + 1, i, none⟩ = _ := fun i => cell_of_row _ _ i _ _ _ h5
  refine ⟨rfl, fun r xs hx => ?_⟩
  have hr := (List.getElem?_eq_some_iff.1 hx).1
  have add : ∀ i, (⟨w.heap.size + 1 + 1 + 1 + 1, 0, none⟩ : Addr).add i = ⟨w.heap.size + 1 + 1 + 1 + 1, i, none⟩ := fun i => by unfold Addr.add; split <;> simp_all
  match r, hr, hx with
  | 0, _, hx =>
    cases hx
    exact ⟨_, _, 15, 15, rfl, by rw [add]; exact (cell 0).trans rfl, came_of_block (xs := knownR0) (old_at _ _ _ _ (old_at _ _ _ _ (old_at _ _ _ _ (new_at _ _ _ (by simp))))) (by decide), by omega⟩
  | 1, _, hx =>
    cases hx
    exact ⟨_, _, 1, 1, rfl, by rw [add]; exact (cell 1).trans rfl, came_of_block (xs := knownR1) (old_at _ _ _ _ (old_at _ _ _ _ (new_at _ _ _ (by simp)))) (by decide), by omega⟩
  | 2, _, hx =>
    cases hx
    exact ⟨_, _, 12, 12, rfl, by rw [add]; exact (cell 2).trans rfl, came_of_block (xs := knownR2) (old_at _ _ _ _ (new_at _ _ _ (by simp))) (by decide), by omega⟩

/-- A sum that is asked for behind '&&'. -/
theorem wpList_load_sum_w {ops : Array Oper} {rest : List Oper} {o : Oper} {a : Act} {w : World} {Q : Exit → Act → World → Prop} (hw : Region.wanted o (yielded ops a.tmps) = true) (x : Operand) (ho : o.op = .load 54 x)
    (ad : Addr) (hx : a.eval x = .pointer (some ad)) (s : List Nat) (hl : s.length = 32) (hc : At w ad s)
    (h : wpList Tryd.prog ops Q rest (a.put o.dst (sv s)) w) : wpList Tryd.prog ops Q (o :: rest) a w := by
  refine wpList_step fun K hK => ?_
  rw [if_pos hw]
  unfold Oper.wp execOp
  simp only [ho, hx, Instr.loadAt, Instr.sureAddr, Sem.run_bind, Sem.run_pure, Result.andThen_ok, run_load_sum w ad s hl hc]
  exact hK _ _ h

set_option maxRecDepth 100000 in
set_option maxHeartbeats 2000000 in
theorem known_any (w : World) (hk : Knows w) (hs : Starts w) :
    Calls Tryd.prog 25 #[] w fun e w' => e = .returned (.bool true) ∧ Below w.heap.size w w' := by
  have kc := fun (W : World) (C : Array Value) (n c g : Nat) (hg : g = W.heap.size) => Joins.run_convert_bytes_const_at (P := Tryd.prog) W 22 5 C n c g hg Tryd.underlying22 Tryd.underlying5
  have C1 := Lib.hid (macOf_any (some ⟨w.heap.size, 0, none⟩) 4 4 knownKey (some ⟨w.heap.size + 1 + 1 + 1 + 1, 0, none⟩) 3 3 knownRows (kw w) (kw_key w) (kw_rows w) (hk.below (kw_below w)) (hs.below (kw_below w)) (by omega) (by decide) (by omega))
  rw [mac_known] at C1
  go_enter Tryd.func25, Tryd.ntmps25
  go_wp2_with fail
  refine C1.out.mono ?_
  rintro e w1 ⟨rfl, hb1⟩
  clear kc
  go_upto_region 2 with ((with_reducible refine wpList_store_new w1 _ ?_ rfl (.tmp 1) (.tmp 11) rfl rfl knownSum rfl rfl ?_); · rfl)
  obtain ⟨w2, hw2⟩ : ∃ w2, w2 = w1.alloc (.cells (bvs knownSum).toArray 54) := ⟨_, rfl⟩
  obtain ⟨g, hg⟩ : ∃ g, w1.heap.size = g := ⟨_, rfl⟩
  have f2 : BArr w2 g 54 knownSum := by rw [hw2, ← hg]; exact BArr.new w1 _ _
  have hb2 : Below w.heap.size w w2 := by rw [hw2]; exact below_on (below_on (kw_below w) (Nat.le_refl _) hb1) (Nat.le_refl _) (below_alloc w1 _)
  rw [← hw2, hg]
  have H2 := Lib.hid hb2
  clear hw2 hg hb2 hb1 C1
  have c0 := f2.cell (i := 0) (by decide)
  have c1 := f2.cell (i := 1) (by decide)
  have c2 := f2.cell (i := 2) (by decide)
  have c3 := f2.cell (i := 3) (by decide)
  have c28 := f2.cell (i := 28) (by decide)
  have c29 := f2.cell (i := 29) (by decide)
  have c30 := f2.cell (i := 30) (by decide)
  have c31 := f2.cell (i := 31) (by decide)
  rw [show knownSum.getD 0 0 = 91 from rfl] at c0
  rw [show knownSum.getD 1 0 = 220 from rfl] at c1
  rw [show knownSum.getD 2 0 = 193 from rfl] at c2
  rw [show knownSum.getD 3 0 = 70 from rfl] at c3
  rw [show knownSum.getD 28 0 = 100 from rfl] at c28
  rw [show knownSum.getD 29 0 = 236 from rfl] at c29
  rw [show knownSum.getD 30 0 = 56 from rfl] at c30
  rw [show knownSum.getD 31 0 = 67 from rfl] at c31
  have C2 := Lib.hid (same_any knownSum zero32 w2 rfl rfl (by decide) (by decide))
  rw [show decide (knownSum = zero32) = false by decide, ← lit32_zero] at C2
  have hat := Lib.hid f2.at_
  clear f2
  go_wp2_with (refine wpList_load_sum_w (by rfl) (.tmp 1) rfl ⟨g, 0, none⟩ rfl knownSum rfl hat.out ?_)
  refine C2.out.mono ?_
  rintro e w3 ⟨rfl, hb3⟩
  go_wp2
  go_ret
  exact ⟨rfl, below_on H2.out (Nat.le_refl _) hb3⟩

end Go.Proofs.YtoojlpbfldnkpaaDoor
