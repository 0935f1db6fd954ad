/-
  An argument of type Asked: a tenant, a resource, a depth, two sums, and bytes.
-/
import Derived.Test.YtnaebjdccngeoaaDoorLListSum
import Derived.Test.YtnaebjdccngeoaaDoorLRow
import Derived.Test.YtnaebjdccngeoaaDoorVMarked
namespace Go.Proofs.YtnaebjdccngeoaaDoor
open Go.ChangeShapes Go.WideShapes Go.ChangeAt Go.RowKit Go.Deep

theorem cellsAsked : Tryd.prog.cellsOf 43 = 68 := by kernel_rfl
theorem cellsA32 : Tryd.prog.cellsOf 41 = 1 := by kernel_rfl
theorem cellsAint : Tryd.prog.cellsOf 3 = 1 := by kernel_rfl
theorem cellsAbytes : Tryd.prog.cellsOf 23 = 1 := by kernel_rfl

/-- The cells of one that is asked. -/
def askedL (t : Nat) (z d : Int) (a b : List Nat) (A : Option Addr) (n c : Nat) : List Value := [.int .u32 (t : Int), .int .i64 z, .int .i64 d] ++ (bvs a ++ (bvs b ++ [.slice A n c]))

set_option maxRecDepth 100000 in
theorem came_asked {H : Type} {enc : TypeId × Value → H} {W : World} {b0 : Nat} {held : Bool} {r : Reach} {v : Value} {d : DataW H} {ps : List MemPlace}
    (hval : Value.okWide Tryd.prog W r b0 43 v) (hd : DataW.Trod enc Tryd.prog W 0 (fun _ => true) held 43 v d ps) :
    ∃ (t : Nat) (z d : Int) (a b : List Nat) (A : Option Addr) (n c : Nat) (xs : List Nat), v = .agg (askedL t z d a b A n c).toArray ∧ t < 4294967296 ∧ (-9223372036854775808 ≤ z ∧ z ≤ 9223372036854775807) ∧ (-9223372036854775808 ≤ d ∧ d ≤ 9223372036854775807) ∧ a.length = 32 ∧ (∀ x ∈ a, x < 256) ∧ b.length = 32 ∧ (∀ x ∈ b, x < 256) ∧ Came W A n c xs := by
  simp only [Value.okWide, Tryd.underlying43] at hval
  obtain ⟨cs, rfl, hsz, _⟩ := hval
  rw [cellsAsked] at hsz
  obtain ⟨fuel, hf⟩ := hd
  obtain ⟨xs, n, _, _, hl, hlen, hx⟩ := DataW.trod_struct Tryd.underlying43 hf
  match xs, hlen with
  | [y0, y1, y2, y3, y4, y5], _ =>
    obtain ⟨l⟩ := cs
    have hln : l.length = 68 := by simpa using hsz
    have g0 : DataW.trod enc Tryd.prog W 0 (fun _ => true) held n 41 ((l.drop 0).take (Tryd.prog.cellsOf 41)) = some y0 := hx 0 _ rfl
    rw [cellsA32] at g0
    have g1 : DataW.trod enc Tryd.prog W 0 (fun _ => true) held n 3 ((l.drop 1).take (Tryd.prog.cellsOf 3)) = some y1 := hx 1 _ rfl
    rw [cellsAint] at g1
    have g2 : DataW.trod enc Tryd.prog W 0 (fun _ => true) held n 3 ((l.drop 2).take (Tryd.prog.cellsOf 3)) = some y2 := hx 2 _ rfl
    rw [cellsAint] at g2
    have g3 : DataW.trod enc Tryd.prog W 0 (fun _ => true) held n 36 ((l.drop 3).take (Tryd.prog.cellsOf 36)) = some y3 := hx 3 _ rfl
    rw [cellsSum] at g3
    have g4 : DataW.trod enc Tryd.prog W 0 (fun _ => true) held n 36 ((l.drop 35).take (Tryd.prog.cellsOf 36)) = some y4 := hx 4 _ rfl
    rw [cellsSum] at g4
    have g5 : DataW.trod enc Tryd.prog W 0 (fun _ => true) held n 23 ((l.drop 67).take (Tryd.prog.cellsOf 23)) = some y5 := hx 5 _ rfl
    rw [cellsAbytes] at g5
    obtain ⟨z0, e0, _, hw0⟩ := DataW.trod_int Tryd.underlying41 g0
    have hb0 := bounds_u32 hw0
    obtain ⟨q, rfl⟩ := Int.eq_ofNat_of_zero_le hb0.1
    obtain ⟨z1, e1, _, hw1⟩ := DataW.trod_int Tryd.underlying3 g1
    have hb1 := bounds_i64 hw1
    obtain ⟨z2, e2, _, hw2⟩ := DataW.trod_int Tryd.underlying3 g2
    have hb2 := bounds_i64 hw2
    obtain ⟨a, e3, l3, b3⟩ := list_sum g3
    obtain ⟨b, e4, l4, b4⟩ := list_sum g4
    obtain ⟨u, e5⟩ := one_of ((l.drop 67).take 1) (by rw [List.length_take, List.length_drop]; omega)
    rw [e5] at g5
    obtain ⟨A, m, c, ys, rfl, cm⟩ : ∃ A m c ys, u = .slice A m c ∧ Came W A m c ys := by
      rcases open_ints Tryd.underlying23 Tryd.underlying5 (by kernel_rfl) g5 with ⟨hcs, _⟩ | ⟨x, len, cap, zs, hcs, _, hl, hm, hz, _, hcell, hwz⟩
      · simp at hcs
        subst hcs
        exact ⟨none, 0, 0, [], rfl, In.none_ _ _, (by intro x hx; cases hx), fun _ => rfl, Nat.le_refl _⟩
      · simp at hcs
        subst hcs
        obtain ⟨ys, hys⟩ := came_of (w := W) (a := some x) (len := len) (cap := cap) (zs := zs) (.inr ⟨_, rfl, hl, by simpa using hz, hcell, hwz⟩)
        exact ⟨_, _, _, ys, rfl, hys⟩
    refine ⟨q, z1, z2, a, b, A, m, c, ys, ?_, by omega, ⟨by omega, by omega⟩, ⟨by omega, by omega⟩, l3, b3, l4, b4, cm⟩
    have el : l = (l.drop 0).take 1 ++ ((l.drop 1).take 1 ++ ((l.drop 2).take 1 ++ ((l.drop 3).take 32 ++ ((l.drop 35).take 32 ++ (l.drop 67).take 1)))) := by
      rw [List.drop_zero]
      conv => lhs; rw [← List.take_append_drop 1 l, ← List.take_append_drop 1 (l.drop 1), ← List.take_append_drop 1 ((l.drop 1).drop 1), ← List.take_append_drop 32 (((l.drop 1).drop 1).drop 1), ← List.take_append_drop 32 ((((l.drop 1).drop 1).drop 1).drop 32)]
      rw [List.drop_drop, List.drop_drop, List.drop_drop, List.drop_drop]
      rw [show List.take 1 (List.drop 67 l) = List.drop (1 + 1 + 1 + 32 + 32) l from List.take_of_length_le (by rw [List.length_drop]; omega)]
    rw [e0, e1, e2, e3, e4, e5] at el
    unfold askedL
    rw [el]
    rfl

/-- The variable that such a one lies in. -/
structure AskedAt (w : World) (g : Nat) (t : Nat) (z d : Int) (a b : List Nat) (A : Option Addr) (n c : Nat) : Prop where
  tenant : w.cell? ⟨g, 0, none⟩ = some (.int .u32 (t : Int))
  resource : w.cell? ⟨g, 1, none⟩ = some (.int .i64 z)
  depth : w.cell? ⟨g, 2, none⟩ = some (.int .i64 d)
  l : At w ⟨g, 3, none⟩ a
  r : At w ⟨g, 35, none⟩ b
  v : w.cell? ⟨g, 67, none⟩ = some (.slice A n c)
theorem AskedAt.below {w w' : World} {g t n c : Nat} {z d : Int} {A : Option Addr} {a b : List Nat} (h : AskedAt w g t z d a b A n c) (hb : Below w.heap.size w w') : AskedAt w' g t z d a b A n c :=
  ⟨(hb.cell (World.block_lt_of_cell? w _ h.tenant)).trans h.tenant, (hb.cell (World.block_lt_of_cell? w _ h.resource)).trans h.resource, (hb.cell (World.block_lt_of_cell? w _ h.depth)).trans h.depth, h.l.below hb, h.r.below hb, (hb.cell (World.block_lt_of_cell? w _ h.v)).trans h.v⟩
theorem asked_new (w : World) {t n c : Nat} {z d : Int} {A : Option Addr} {a b : List Nat} (hl : a.length = 32) (hl' : b.length = 32) :
    AskedAt (w.alloc (.cells (askedL t z d a b A n c).toArray 43)) w.heap.size t z d a b A n c := by
  have hc : ∀ i, (w.alloc (.cells (askedL t z d a b A n c).toArray 43)).cell? ⟨w.heap.size, i, none⟩ = (askedL t z d a b A n c)[i]? := fun i => by
    rw [cell_of_row _ w.heap.size i _ _ (0, 0) (World.alloc_heap_new w _), List.getElem?_toArray]
  have ha1 : (bvs a).length = 32 := by rw [bvs_length, hl]
  have hb1 : (bvs b).length = 32 := by rw [bvs_length, hl']
  have ha : ∀ o j : Nat, (⟨w.heap.size, o, none⟩ : Addr).add j = ⟨w.heap.size, o + j, none⟩ := fun o j => by unfold Addr.add; split <;> simp_all
  refine ⟨by rw [hc]; rfl, by rw [hc]; rfl, by rw [hc]; rfl, fun j x hx => ?_, fun j x hx => ?_, ?_⟩
  · rw [ha, hc]
    unfold askedL
    rw [List.getElem?_append_right (by simp), show 3 + j - [Value.int .u32 (t : Int), .int .i64 z, .int .i64 d].length = j by simp, List.getElem?_append_left (by rw [ha1, ← hl]; exact (List.getElem?_eq_some_iff.1 hx).1), bvs_get, hx]
    rfl
  · rw [ha, hc]
    unfold askedL
    rw [List.getElem?_append_right (by simp; omega), show 35 + j - [Value.int .u32 (t : Int), .int .i64 z, .int .i64 d].length = 32 + j by simp; omega, List.getElem?_append_right (by omega), ha1, show 32 + j - 32 = j by omega, List.getElem?_append_left (by rw [hb1, ← hl']; exact (List.getElem?_eq_some_iff.1 hx).1), bvs_get, hx]
    rfl
  · rw [hc]
    unfold askedL
    rw [List.getElem?_append_right (by simp), List.getElem?_append_right (by rw [ha1]; simp), List.getElem?_append_right (by rw [ha1, hb1]; simp), ha1, hb1]
    rfl

end Go.Proofs.YtnaebjdccngeoaaDoor
