/-
  alive: the chapter's examples: true.
-/
import Derived.Test.YtfgjkddfomddlaaNumsZeros
namespace Go.Proofs.Ytfgjkddfomddlaa
open Go.RowKit

theorem In.new (W : World) (xs : List Nat) : In (W.alloc (.cells (bvs xs).toArray 5)) (some ⟨W.heap.size, 0, none⟩) xs.length xs :=
  ⟨rfl, fun j x hx => ⟨_, rfl, by
    rw [show (⟨W.heap.size, 0, none⟩ : Addr).add j = ⟨W.heap.size, j, none⟩ from by unfold Addr.add; split <;> simp_all]
    rw [cell_of_row _ W.heap.size j _ 5 (0, 0) (World.alloc_heap_new W _), List.getElem?_toArray, bvs_get, hx]
    rfl⟩⟩

theorem below_alloc (w : World) (o : Obj) : Below w.heap.size w (w.alloc o) := (Below.refl _ w).alloc (Nat.le_refl _) o
theorem below_on {B : Nat} {a b c : World} (h : Below B a b) (hB : B ≤ a.heap.size) (k : Below b.heap.size b c) : Below B a c := h.trans (k.mono (Nat.le_trans hB h.size))

theorem acc {B : Nat} {a b c : World} {o : Obj} (h : Below B a b) (hB : B ≤ a.heap.size) (k : Below (b.alloc o).heap.size (b.alloc o) c) : Below B a c :=
  below_on (below_on h hB (below_alloc b o)) hB k

/-- What a call that leaves the world alone leaves, said less sharply: so that the world behind it is a name. -/
theorem loose {f : FuncId} {args : Array Value} {w : World} {v : Value} (h : Calls Try.prog f args w fun e w' => e = .returned v ∧ w = w') :
    Calls Try.prog f args w fun e w' => e = .returned v ∧ Below w.heap.size w w' := h.mono fun _ _ ⟨h1, h2⟩ => ⟨h1, h2 ▸ Below.refl _ _⟩
theorem loose3 {f : FuncId} {args : Array Value} {w : World} (h : Calls Try.prog f args w (Short3 w)) :
    Calls Try.prog f args w fun e w' => e = .returned (.tuple #[.slice none 0 0, .int .i64 0, .int .i64 5]) ∧ Below w.heap.size w w' := h.mono fun _ _ ⟨h1, h2⟩ => ⟨h1, h2 ▸ Below.refl _ _⟩
theorem looseN {f : FuncId} {args : Array Value} {w : World} {v : Value} (h : Calls Try.prog f args w fun e w' => e = .returned v ∧ ∃ q, w' = w.drewN q) :
    Calls Try.prog f args w fun e w' => e = .returned v ∧ Below w.heap.size w w' := h.mono fun _ _ ⟨h1, _, h2⟩ => ⟨h1, h2 ▸ ⟨rfl, rfl, rfl, Nat.le_refl _, fun _ _ => rfl⟩⟩

set_option maxRecDepth 100000 in
set_option maxHeartbeats 2000000 in
theorem alive_any (w : World) : Calls Try.prog 8 #[] w fun e w' => e = .returned (.bool true) ∧ Below w.heap.size w w' := by
  have R := Nat.le_refl w.heap.size
  go_enter Try.func8, Try.ntmps8
  go_wp2_with fail
  refine (loose (get_ok _ 4 4 3 [0, 2, 1, 9] _ (by exact In.new w [0, 2, 1, 9]) (by decide) (by omega) (by omega) (by omega))).mono ?_
  rintro e w1 ⟨rfl, hb⟩
  have H := below_on (below_alloc w _) R hb
  clear hb
  rw [show val (List.take 3 [0, 2, 1, 9]) = 513 from rfl]
  go_wp2_with fail
  refine (loose (get_short _ 2 2 3 _ (by omega) (by omega))).mono ?_
  rintro e w2 ⟨rfl, hb⟩
  replace H := acc H R hb
  clear hb
  go_wp2_with fail
  refine (loose (get_ok _ 0 0 0 [] _ (In.none_ _ _) (by decide) (by omega) (by omega) (by omega))).mono ?_
  rintro e w3 ⟨rfl, hb⟩
  replace H := below_on H R hb
  clear hb
  rw [show val (List.take 0 []) = 0 from rfl]
  go_wp2_with fail
  refine (loose (get_arg _ 1 1 10 _ (by omega))).mono ?_
  rintro e w4 ⟨rfl, hb⟩
  replace H := acc H R hb
  clear hb
  go_wp2_with fail
  refine (getBytes_ok _ 6 6 1 [0, 0, 0, 1, 6, 5] _ (by exact In.new w4 [0, 0, 0, 1, 6, 5]) (by decide) (by omega) (by omega) rfl (by omega) (by omega)).mono ?_
  rintro e w5 ⟨A5, c5, rfl, ho, hb⟩
  have i5 : In w5 A5 1 [6] := In.of_own ho
  clear ho
  replace H := acc H R hb
  clear hb
  go_wp2_with fail
  refine (loose3 (getBytes_short4 _ 3 3 _ (by omega))).mono ?_
  rintro e w6 ⟨rfl, hb⟩
  have i6 := (i5.below (below_alloc _ _)).below hb
  replace H := acc H R hb
  clear hb i5
  go_wp2_with fail
  refine (getSums_ok _ 3 3 0 [0, 0, 3] _ (by exact In.new w6 [0, 0, 3]) (by decide) (by omega) (by omega) rfl (by omega) (by omega) (by omega)).mono ?_
  rintro e w7 ⟨A7, c7, rfl, ho, hb⟩
  clear ho
  have i7 := (i6.below (below_alloc _ _)).below hb
  replace H := acc H R hb
  clear hb i6
  go_wp2_with (at_builtin; refine wpList_zeros _ rfl (.tmp 59) (.const (.int .i64 63)) rfl ⟨w7.heap.size, 0, none⟩ 2 2 63 [0, 2] rfl rfl (by exact In.new w7 [0, 2]) (by omega) (by omega) (by omega) ?_; intro A8 c8 w8 i8 hc8 hb8)
  refine (loose3 (getSums_short A8 (2 + 63) c8 2 ([0, 2] ++ List.replicate 63 0) _ i8 (by decide) (by omega) (by omega) rfl (by omega) (by omega) (by omega))).mono ?_
  rintro e w9 ⟨rfl, hb⟩
  have i9 := ((i7.below (below_alloc _ _)).below hb8).below hb
  replace H := below_on (acc H R hb8) R hb
  clear hb hb8 i7 i8 hc8
  go_wp2_with fail
  refine (looseN (sameBytes_yes A5 _ 1 c5 1 [6] _ (i9.below (below_alloc _ _)) (by exact In.new w9 [6]) (by omega))).mono ?_
  rintro e w10 ⟨rfl, hb⟩
  replace H := acc H R hb
  clear hb i9
  go_wp2_with fail
  refine (put_any _ 1 1 [7] 513 3 3 rfl _ (by exact In.new w10 [7]) (by omega)).mono ?_
  rintro e w11 ⟨A11, c11, rfl, ho, hb⟩
  have i11 : In w11 A11 4 [7, 0, 2, 1] := In.of_own ho
  clear ho
  replace H := acc H R hb
  clear hb
  go_wp2_with fail
  refine (looseN (sameBytes_yes A11 _ 4 c11 4 [7, 0, 2, 1] _ (i11.below (below_alloc _ _)) (by exact In.new w11 [7, 0, 2, 1]) (by omega))).mono ?_
  rintro e w12 ⟨rfl, hb⟩
  replace H := acc H R hb
  clear hb i11
  go_wp2_with fail
  refine (put_any _ 0 0 [] 513 1 1 rfl _ (In.none_ _ _) (by omega)).mono ?_
  rintro e w13 ⟨A13, c13, rfl, ho, hb⟩
  have i13 : In w13 A13 1 [1] := In.of_own ho
  clear ho
  replace H := below_on H R hb
  clear hb
  go_wp2_with fail
  refine (looseN (sameBytes_yes A13 _ 1 c13 1 [1] _ (i13.below (below_alloc _ _)) (by exact In.new w13 [1]) (by omega))).mono ?_
  rintro e w14 ⟨rfl, hb⟩
  replace H := acc H R hb
  clear hb i13
  go_wp2_with fail
  refine (put_any _ 1 1 [4] 1 (-2) 0 rfl _ (by exact In.new w14 [4]) (by omega)).mono ?_
  rintro e w15 ⟨A15, c15, rfl, ho, hb⟩
  have i15 : In w15 A15 1 [4] := In.of_own ho
  clear ho
  replace H := acc H R hb
  clear hb
  go_wp2_with fail
  refine (looseN (sameBytes_yes A15 _ 1 c15 1 [4] _ (i15.below (below_alloc _ _)) (by exact In.new w15 [4]) (by omega))).mono ?_
  rintro e w16 ⟨rfl, hb⟩
  replace H := acc H R hb
  clear hb i15
  go_wp2_with fail
  have i65 := In.new (w16.alloc (.cells (bvs [8]).toArray 5)) [6, 5]
  rw [World.size_alloc] at i65
  refine (putBytes_any _ _ 1 1 2 2 [8] [6, 5] _ ((In.new w16 [8]).below (below_alloc _ _)) (by exact i65) (fun h => by cases h) (by omega) (by omega)).mono ?_
  rintro e w17 ⟨A17, c17, rfl, ho, hb⟩
  have i17 : In w17 A17 7 [8, 0, 0, 0, 2, 6, 5] := In.of_own ho
  clear ho i65
  replace H := acc (below_on H R (below_alloc _ _)) R hb
  clear hb
  go_wp2_with fail
  refine (looseN (sameBytes_yes A17 _ 7 c17 7 [8, 0, 0, 0, 2, 6, 5] _ (i17.below (below_alloc _ _)) (by exact In.new w17 [8, 0, 0, 0, 2, 6, 5]) (by omega))).mono ?_
  rintro e w18 ⟨rfl, hb⟩
  replace H := acc H R hb
  clear hb i17
  go_wp2_with fail
  go_ret
  exact ⟨rfl, H⟩

end Go.Proofs.Ytfgjkddfomddlaa
