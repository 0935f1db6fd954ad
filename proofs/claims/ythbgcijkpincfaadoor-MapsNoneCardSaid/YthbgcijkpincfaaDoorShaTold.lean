/-
  shas.told: the eight numbers as bytes.
-/
import Derived.Test.YthbgcijkpincfaaDoorShaWords
import Derived.Test.YthbgcijkpincfaaDoorLSum
namespace Go.Proofs.YthbgcijkpincfaaDoor
open Go.RowKit

theorem run_part_u32 (w : World) (cs : Array Value) (i x : Nat) (h : cs[i]? = some (uv x)) : (part 78 cs i).run Tryd.prog w = .ok (uv x) w := by
  have hagg : (isAgg 78).run Tryd.prog w = .ok false w := by
    unfold isAgg
    rw [Sem.run_bind, run_underlying Tryd.underlying78 w]
    rfl
  simp [part, Sem.run_bind, hagg, h]
theorem infoU32 : (Tryd.prog.info? 78).map (fun i => (i.zero, i.size, i.bytes)) = some (some (.int .u32 0), 1, 4) := by kernel_rfl
/-- An element of an array by value. -/
theorem run_index8 (S : List Nat) (hS : S.length = 8) (j : Nat) (hj : j < 8) (w : World) :
    (Instr.index 79 (.agg (uvs S).toArray) (.int .i64 (j : Int))).run Tryd.prog w = .ok (.int .u32 ((S.getD j 0 : Nat) : Int)) w := by
  obtain ⟨i0, hi, hz0, hz1, hz2⟩ := info_parts infoU32
  have hp := run_part_u32 w (uvs S).toArray j (S.getD j 0) (by rw [List.getElem?_toArray, uvs_get, List.getD_eq_getElem?_getD, List.getElem?_eq_getElem (by omega)]; rfl)
  have h1 : (0 : Int) ≤ (j : Int) ∧ (j : Int) < ((8 : Nat) : Int) := by omega
  simp [Instr.index, asIntOf, run_underlying Tryd.underlying79, Sem.run_bind, sizeOf, typeInfo, hi, hz1, hp, hj, uv]

/-- The bytes of numbers of 32 bits, the highest of each first. -/
def toldL (S : List Nat) : List Nat := (S.map fun n => dg n 4).flatten
theorem toldL_snoc (S : List Nat) (n : Nat) : toldL (S ++ [n]) = toldL S ++ dg n 4 := by simp [toldL]
theorem toldL_length (S : List Nat) : (toldL S).length = 4 * S.length := by
  induction S with
  | nil => rfl
  | cons n S ih => rw [toldL, List.map_cons, List.flatten_cons, List.length_append, dg_length]; unfold toldL at ih; rw [ih, List.length_cons]; omega
theorem toldL_lt (S : List Nat) : ∀ x ∈ toldL S, x < 256 := by
  intro x hx
  obtain ⟨l, hl, hx⟩ := List.mem_flatten.1 hx
  obtain ⟨n, _, rfl⟩ := List.mem_map.1 hl
  exact dg_lt n 4 x hx

theorem dg4_lit (n : Nat) (h : n < 4294967296) : [Value.int .u8 ((n : Int) / 16777216), .int .u8 ((n : Int) / 65536 % 256), .int .u8 ((n : Int) / 256 % 256), .int .u8 ((n : Int) % 256)] = bvs (dg n 4) := by
  have e : dg n 4 = [n / 16777216 % 256, n / 65536 % 256, n / 256 % 256, n / 1 % 256] := rfl
  have e1 : (n : Int) / 16777216 = ((n / 16777216 % 256 : Nat) : Int) := by omega
  have e2 : (n : Int) / 65536 % 256 = ((n / 65536 % 256 : Nat) : Int) := by omega
  have e3 : (n : Int) / 256 % 256 = ((n / 256 % 256 : Nat) : Int) := by omega
  have e4 : (n : Int) % 256 = ((n / 1 % 256 : Nat) : Int) := by omega
  rw [e, e1, e2, e3, e4]
  rfl
set_option maxRecDepth 100000 in
set_option maxHeartbeats 1000000 in
theorem told_any (S : List Nat) (w : World) (hS : S.length = 8) (hl : ∀ x ∈ S, x < 4294967296) :
    Calls Tryd.prog 49 #[.agg (uvs S).toArray] w fun e w' => e = .returned (sv (toldL S)) ∧ Below w.heap.size w w' := by
  have HS := Lib.hid hS
  have HL := Lib.hid hl
  clear hS hl
  have HZ := Lib.hid (show zero32.length = 32 from rfl)
  have f1 := Arr.alloc (Arr.alloc (Arr.new w 79 S) (.cells (bvs zero32).toArray 23)) (.cells (bvs zero32).toArray 23)
  have e0 : (bvs zero32).toArray = #[.int .u8 0, .int .u8 0, .int .u8 0, .int .u8 0, .int .u8 0, .int .u8 0, .int .u8 0, .int .u8 0, .int .u8 0, .int .u8 0, .int .u8 0, .int .u8 0, .int .u8 0, .int .u8 0, .int .u8 0, .int .u8 0, .int .u8 0, .int .u8 0, .int .u8 0, .int .u8 0, .int .u8 0, .int .u8 0, .int .u8 0, .int .u8 0, .int .u8 0, .int .u8 0, .int .u8 0, .int .u8 0, .int .u8 0, .int .u8 0, .int .u8 0, .int .u8 0] := rfl
  have f2 := BArr.alloc (BArr.new (w.alloc (.cells (uvs S).toArray 79)) 23 zero32) (.cells (bvs zero32).toArray 23)
  have f3 := BArr.new ((w.alloc (.cells (uvs S).toArray 79)).alloc (.cells (bvs zero32).toArray 23)) 23 zero32
  have bel : Below w.heap.size w (((w.alloc (.cells (uvs S).toArray 79)).alloc (.cells (bvs zero32).toArray 23)).alloc (.cells (bvs zero32).toArray 23)) :=
    ((below_alloc w _).alloc (by simp) _).alloc (by simp; omega) _
  rw [World.size_alloc] at f2
  rw [World.size_alloc, World.size_alloc] at f3
  rw [e0] at f1 f2 f3 bel
  clear e0
  have F2 := Lib.hid f2
  have F3 := Lib.hid f3
  have BEL := Lib.hid bel
  clear f2 f3 bel
  go_enter Tryd.func49, Tryd.ntmps49
  go_wp2_with (with_reducible refine wpList_load8 rfl (.tmp 1) rfl w.heap.size rfl S HS f1 ?_)
  go_loopw [7] (fun i wr => ∃ (j : Nat) (ys : List Nat), j ≤ 8 ∧ i = .int .i64 (j : Int) ∧ ys.length = 32 ∧ ys.take (4 * j) = toldL (S.take j) ∧ BArr wr (w.heap.size + 1) 23 zero32 ∧ BArr wr (w.heap.size + 1 + 1) 23 ys ∧ Below w.heap.size w wr) (fun i _ => 8 - (intOf i).toNat)
  case atStart => exact ⟨0, zero32, by omega, rfl, rfl, rfl, F2.out, F3.out, BEL.out⟩
  case round =>
    clear f1 F2 F3 BEL
    obtain ⟨j, ys, hj, rfl, hy, ht, r, b, bel⟩ := hrel
    by_cases hlt : j < 8
    · have hix := run_index8 S HS.out j hlt
      obtain ⟨n, hn⟩ : ∃ n : Nat, S.getD j 0 = n := ⟨_, rfl⟩
      rw [hn] at hix
      have HN := Lib.hid hn
      have n1 : n < 4294967296 := hn ▸ getD_lt HL.out j
      clear hn
      have hsl := run_arr_l Tryd.underlying23 ⟨w.heap.size + 1 + 1, 0, none⟩ .i64 (4 * (j : Int)) (4 * j) (by omega) (by omega)
      rw [if_neg (by omega), show (⟨w.heap.size + 1 + 1, 0, none⟩ : Addr).add (4 * j) = ⟨w.heap.size + 1 + 1, 4 * j, none⟩ from by unfold Addr.add; split <;> simp_all] at hsl
      have HT := Lib.hid ht
      have HY := Lib.hid hy
      clear ht hy
      go_wp2_with (with_reducible refine wpList_copy_splice rfl (.tmp 13) (.tmp 25) 24 24 rfl 5 Tryd.underlying24 sizeByte (some ⟨w.heap.size + 1 + 1, 4 * j, none⟩) (some ⟨wr.heap.size, 0, none⟩) (32 - 4 * j) (32 - 4 * j) 4 4 rfl rfl (w.heap.size + 1 + 1) (4 * j) (bvs ys) 23 ?_ (bvs (dg n 4)) ?_ ?_ ?_ (bvs_oneCell _) (w.heap.size + 1 + 1) _ (Below.refl _ _) (Nat.le_refl _) ?_)
      · exact b.alloc _
      · rw [bvs_length, dg_length]; exact (Nat.min_eq_left (by omega)).symm
      · intro _ k v hv
        rw [← dg4_lit n n1] at *
        exact hv
      · rw [bvs_length, bvs_length, dg_length, HY.out]; omega
      · intro w2 hw2 hb2
        have r2 : BArr w2 (w.heap.size + 1) 23 zero32 := (hb2.block _ (by omega)).trans (r.alloc _)
        have bel2 : Below w.heap.size w w2 := (bel.alloc bel.size _).trans (hb2.mono (by omega))
        rw [bvs_splice] at hw2
        have b2 : BArr w2 (w.heap.size + 1 + 1) 23 _ := hw2.out
        clear hw2 hb2
        have y2 : (ys.take (4 * j) ++ dg n 4 ++ ys.drop (4 * j + 4)).length = 32 := by
          rw [List.length_append, List.length_append, List.length_take, List.length_drop, dg_length, HY.out]; omega
        have t2 : (ys.take (4 * j) ++ dg n 4 ++ ys.drop (4 * j + 4)).take (4 * (j + 1)) = toldL (S.take (j + 1)) := by
          have e : S.take (j + 1) = S.take j ++ [n] := take_snoc_of (by
            have := HN.out
            rw [List.getD_eq_getElem?_getD, List.getElem?_eq_getElem (by rw [HS.out]; exact hlt), Option.getD_some] at this
            rw [List.getElem?_eq_getElem (by rw [HS.out]; exact hlt), this])
          rw [e, toldL_snoc, HT.out, List.take_left']
          rw [List.length_append, dg_length, toldL_length, List.length_take, HS.out]; omega
        have Y2 := Lib.hid y2
        have T2 := Lib.hid t2
        clear y2 t2
        go_wp2
        go_roundw
        case rel => exact ⟨j + 1, _, by omega, by go_num, Y2.out, T2.out, r2, b2, bel2⟩
        case measure => simp [intOf]; omega
    · obtain rfl : j = 8 := by omega
      rw [List.take_of_length_le (by omega), List.take_of_length_le (by rw [HS.out]; omega)] at ht
      subst ht
      have hat := b.at_
      have hl : (toldL S).length = 32 := by rw [toldL_length, HS.out]
      go_wp2_with (first
        | (with_reducible refine wpList_load_sum rfl (.tmp 3) rfl ⟨w.heap.size + 1 + 1, 0, none⟩ rfl (toldL S) hl hat ?_)
        | (with_reducible refine wpList_store_sum rfl (.tmp 2) (.tmp 28) rfl (w.heap.size + 1) rfl zero32 (toldL S) HZ hl r rfl ?_))
      refine bodyPost_ret_by (results_cell_row (p := 2) (ty := 23) (by kernel_rfl) _ _ (w.heap.size + 1) 23 (bvs (toldL S)).toArray (0, 0) _ rfl (r.setRow _) Tryd.underlying23 rfl (by rw [List.size_toArray, bvs_length, hl]; exact sizeSum)) rfl ?_
      exact ⟨rfl, below_setRow bel (by omega) _⟩

end Go.Proofs.YthbgcijkpincfaaDoor
