/-
  An argument of type Said: a leaf's sum, a place, a size, a path, and a root.
-/
import Derived.Test.YtppfdpnplemfkaaDoorLRowS
import Derived.Test.YtppfdpnplemfkaaDoorLArrArg
import Derived.Test.YtppfdpnplemfkaaDoorWCheck
import Derived.ProofKit
import Derived.OpenShut
namespace Go.Proofs.YtppfdpnplemfkaaDoor
open Go.ChangeShapes Go.WideShapes Go.ChangeAt Go.RowKit Go.Deep

theorem list_sum {H : Type} {enc : TypeId × Value → H} {w : World} {base : Nat} {sp : Nat → Bool} {held : Bool} {fuel : Nat} {cs : List Value} {x : DataW H × List MemPlace}
    (h : DataW.trod enc Tryd.prog w base sp held fuel 24 cs = some x) : ∃ xs, cs = bvs xs ∧ xs.length = 32 ∧ ∀ x ∈ xs, x < 256 := by
  obtain ⟨hl, hx⟩ := cells_sum h
  refine ⟨cs.map byteOf, ?_, by rw [List.length_map, hl], fun x hxm => ?_⟩
  · apply List.ext_getElem?
    intro i
    rw [bvs_get, List.getElem?_map]
    by_cases hi : i < 32
    · obtain ⟨z, _, hz⟩ := hx i hi
      rw [hz]; rfl
    · rw [List.getElem?_eq_none (by omega)]; rfl
  · obtain ⟨v, hv, rfl⟩ := List.mem_map.1 hxm
    obtain ⟨i, hi⟩ := List.mem_iff_getElem?.1 hv
    obtain ⟨z, hz, hz2⟩ := hx i (by rw [← hl]; exact (List.getElem?_eq_some_iff.1 hi).1)
    rw [hi] at hz2
    cases hz2
    exact hz

theorem cellsSaid : Tryd.prog.cellsOf 34 = 67 := by kernel_rfl
theorem cellsS64 : Tryd.prog.cellsOf 31 = 1 := by kernel_rfl
theorem cellsSpath : Tryd.prog.cellsOf 22 = 1 := by kernel_rfl

theorem one_of (l : List Value) (h : l.length = 1) : ∃ a, l = [a] := by
  match l, h with
  | [a], _ => exact ⟨a, rfl⟩

/-- The cells of one that is said. -/
def saidL (leaf : List Nat) (at_ size : Nat) (A : Option Addr) (n c : Nat) (root : List Nat) : List Value := bvs leaf ++ ([.int .u64 (at_ : Int), .int .u64 (size : Int), .slice A n c] ++ bvs root)

theorem u64_one {H : Type} {enc : TypeId × Value → H} {W : World} {base fuel : Nat} {sp : Nat → Bool} {held : Bool} {l : List Value} {x : DataW H × List MemPlace} (h : DataW.trod enc Tryd.prog W base sp held fuel 31 l = some x) :
    ∃ q : Nat, l = [.int .u64 (q : Int)] ∧ q < 18446744073709551616 := by
  obtain ⟨z, ez, _, hw⟩ := DataW.trod_int Tryd.underlying31 h
  have hb := bounds_u64 hw
  obtain ⟨q, rfl⟩ := Int.eq_ofNat_of_zero_le hb.1
  exact ⟨q, ez, by omega⟩

set_option maxRecDepth 100000 in
theorem came_said {H : Type} {enc : TypeId × Value → H} {W : World} {b0 : Nat} {held : Bool} {r : Reach} {v : Value} {d : DataW H} {ps : List MemPlace}
    (hval : Value.okWide Tryd.prog W r b0 34 v) (hd : DataW.Trod enc Tryd.prog W 0 (fun _ => true) held 34 v d ps) :
    ∃ (leaf : List Nat) (at_ size : Nat) (A : Option Addr) (n c : Nat) (ys root : List Nat), v = .agg (saidL leaf at_ size A n c root).toArray ∧ leaf.length = 32 ∧ (∀ x ∈ leaf, x < 256) ∧ at_ < 18446744073709551616 ∧ size < 18446744073709551616 ∧ CameS W A n c ys ∧ root.length = 32 ∧ ∀ x ∈ root, x < 256 := by
  simp only [Value.okWide, Tryd.underlying34] at hval
  obtain ⟨cs, rfl, hsz, _⟩ := hval
  rw [cellsSaid] at hsz
  obtain ⟨fuel, hf⟩ := hd
  obtain ⟨xs, n, _, _, hl, hlen, hx⟩ := DataW.trod_struct Tryd.underlying34 hf
  match xs, hlen with
  | [y0, y1, y2, y3, y4], _ =>
    obtain ⟨l⟩ := cs
    have hln : l.length = 67 := by simpa using hsz
    have h0 := hx 0 _ rfl
    have h1 := hx 1 _ rfl
    have h2 := hx 2 _ rfl
    have h3 := hx 3 _ rfl
    have h4 := hx 4 _ rfl
    have g0 : DataW.trod enc Tryd.prog W 0 (fun _ => true) held n 24 ((l.drop 0).take (Tryd.prog.cellsOf 24)) = some y0 := h0
    rw [cellsSum] at g0
    have g1 : DataW.trod enc Tryd.prog W 0 (fun _ => true) held n 31 ((l.drop 32).take (Tryd.prog.cellsOf 31)) = some y1 := h1
    rw [cellsS64] at g1
    have g2 : DataW.trod enc Tryd.prog W 0 (fun _ => true) held n 31 ((l.drop 33).take (Tryd.prog.cellsOf 31)) = some y2 := h2
    rw [cellsS64] at g2
    have g3 : DataW.trod enc Tryd.prog W 0 (fun _ => true) held n 22 ((l.drop 34).take (Tryd.prog.cellsOf 22)) = some y3 := h3
    rw [cellsSpath] at g3
    have g4 : DataW.trod enc Tryd.prog W 0 (fun _ => true) held n 24 ((l.drop 35).take (Tryd.prog.cellsOf 24)) = some y4 := h4
    rw [cellsSum] at g4
    obtain ⟨leaf, e0, l0, b0⟩ := list_sum g0
    obtain ⟨root, e4, l4, b4⟩ := list_sum g4
    obtain ⟨q1, e1, lt1⟩ := u64_one g1
    obtain ⟨q2, e2, lt2⟩ := u64_one g2
    obtain ⟨u, e3⟩ := one_of ((l.drop 34).take 1) (by rw [List.length_take, List.length_drop]; omega)
    rw [e3] at g3
    obtain ⟨A, m, c, ys, rfl, cm⟩ : ∃ A m c ys, u = .slice A m c ∧ CameS W A m c ys := by
      rcases Go.Deep.open_slice Tryd.underlying22 g3 with ⟨h0, _⟩ | ⟨ad, l, c, m, n, D, Pl, h0, _⟩
      · simp at h0
        subst h0
        exact ⟨none, 0, 0, [], rfl, InS.none_ _ _, (by intro x hx; cases hx), fun _ => rfl, Nat.le_refl _⟩
      · simp at h0
        subst h0
        obtain ⟨ys, hys⟩ := cameS_of g3
        exact ⟨_, _, _, ys, rfl, hys⟩
    refine ⟨leaf, q1, q2, A, m, c, ys, root, ?_, l0, b0, lt1, lt2, cm, l4, b4⟩
    have el : l = (l.drop 0).take 32 ++ ((l.drop 32).take 1 ++ ((l.drop 33).take 1 ++ ((l.drop 34).take 1 ++ (l.drop 35).take 32))) := by
      rw [List.drop_zero]
      conv => lhs; rw [← List.take_append_drop 32 l, ← List.take_append_drop 1 (l.drop 32), ← List.take_append_drop 1 ((l.drop 32).drop 1), ← List.take_append_drop 1 (((l.drop 32).drop 1).drop 1)]
      rw [List.drop_drop, List.drop_drop, List.drop_drop]
      rw [show List.take 32 (List.drop 35 l) = List.drop (32 + 1 + 1 + 1) l from List.take_of_length_le (by rw [List.length_drop]; omega)]
    rw [e0, e1, e2, e3, e4] at el
    unfold saidL
    rw [el]
    rfl

/-- The variable that such a one lies in. -/
structure SaidAt (w : World) (b : Nat) (leaf : List Nat) (at_ size : Nat) (A : Option Addr) (n c : Nat) (root : List Nat) : Prop where
  leaf : At w ⟨b, 0, none⟩ leaf
  at_ : w.cell? ⟨b, 32, none⟩ = some (.int .u64 (at_ : Int))
  size : w.cell? ⟨b, 33, none⟩ = some (.int .u64 (size : Int))
  path : w.cell? ⟨b, 34, none⟩ = some (.slice A n c)
  root : At w ⟨b, 35, none⟩ root
theorem SaidAt.below {w w' : World} {b at_ size n c : Nat} {A : Option Addr} {leaf root : List Nat} (h : SaidAt w b leaf at_ size A n c root) (hb : Below w.heap.size w w') : SaidAt w' b leaf at_ size A n c root :=
  ⟨h.leaf.below hb, (hb.cell (World.block_lt_of_cell? w _ h.at_)).trans h.at_, (hb.cell (World.block_lt_of_cell? w _ h.size)).trans h.size, (hb.cell (World.block_lt_of_cell? w _ h.path)).trans h.path, h.root.below hb⟩
theorem said_new (w : World) {at_ size n c : Nat} {A : Option Addr} {leaf root : List Nat} (hl : leaf.length = 32) :
    SaidAt (w.alloc (.cells (saidL leaf at_ size A n c root).toArray 34)) w.heap.size leaf at_ size A n c root := by
  have hc : ∀ i, (w.alloc (.cells (saidL leaf at_ size A n c root).toArray 34)).cell? ⟨w.heap.size, i, none⟩ = (saidL leaf at_ size A n c root)[i]? := fun i => by
    rw [cell_of_row _ w.heap.size i _ _ (0, 0) (World.alloc_heap_new w _), List.getElem?_toArray]
  have hb : (bvs leaf).length = 32 := by rw [bvs_length, hl]
  have ha : ∀ o j : Nat, (⟨w.heap.size, o, none⟩ : Addr).add j = ⟨w.heap.size, o + j, none⟩ := fun o j => by unfold Addr.add; split <;> simp_all
  refine ⟨fun j x hx => ?_, ?_, ?_, ?_, fun j x hx => ?_⟩
  · rw [ha, hc, Nat.zero_add]
    unfold saidL
    rw [List.getElem?_append_left (by rw [hb, ← hl]; exact (List.getElem?_eq_some_iff.1 hx).1), bvs_get, hx]
    rfl
  · rw [hc]; unfold saidL; rw [List.getElem?_append_right (by omega), hb]; rfl
  · rw [hc]; unfold saidL; rw [List.getElem?_append_right (by omega), hb]; rfl
  · rw [hc]; unfold saidL; rw [List.getElem?_append_right (by omega), hb]; rfl
  · rw [ha, hc]
    unfold saidL
    rw [List.getElem?_append_right (by omega), hb, List.getElem?_append_right (by simp; omega), show 35 + j - 32 - [Value.int .u64 (at_ : Int), .int .u64 (size : Int), .slice A n c].length = j by simp; omega, bvs_get, hx]
    rfl

end Go.Proofs.YtppfdpnplemfkaaDoor
