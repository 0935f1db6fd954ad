/-
  The document's Sum, Begin.
-/
import Derived.Test.YtnaebjdccngeoaaDoorRefInv
import Derived.Test.YtnaebjdccngeoaaDoorShaTold
import Derived.Test.YtnaebjdccngeoaaDoorShaNew
namespace Go.Proofs.YtnaebjdccngeoaaDoor
open Go.RowKit

theorem dg4_get (n r : Nat) (h : r < 4) : (dg n 4).getD r 0 = n / 256 ^ (3 - r) % 256 := by
  rw [List.getD_eq_getElem?_getD, dg_get n 4 r h]
  rfl
theorem toldL_get (S : List Nat) : ∀ i, i < 4 * S.length → (toldL S).getD i 0 = S.getD (i / 4) 0 / 256 ^ (3 - i % 4) % 256 := by
  induction S with
  | nil => intro i h; simp at h
  | cons n S ih =>
    intro i hi
    rw [List.length_cons] at hi
    rw [toldL, List.map_cons, List.flatten_cons, List.getD_eq_getElem?_getD]
    by_cases h : i < 4
    · rw [List.getElem?_append_left (by rw [dg_length]; exact h), ← List.getD_eq_getElem?_getD, dg4_get n i h, show i / 4 = 0 by omega, show i % 4 = i by omega]
      rfl
    · have e := ih (i - 4) (by omega)
      rw [toldL, List.getD_eq_getElem?_getD] at e
      rw [List.getElem?_append_right (by rw [dg_length]; omega), dg_length, e, show (i - 4) % 4 = i % 4 by omega, show i / 4 = (i - 4) / 4 + 1 by omega]
      rfl
/-- The first j bytes are those that should be. -/
def SumP (S : List Nat) (j : Nat) (ys : List Nat) : Prop := ys.length = 32 ∧ ∀ i, i < j → ys.getD i 0 = (toldL S).getD i 0
theorem SumP.next {S ys : List Nat} {j v : Nat} (h : SumP S j ys) (hj : j < 32) (hv : v = (toldL S).getD j 0) : SumP S (j + 1) (ys.set j v) := by
  refine ⟨by rw [List.length_set]; exact h.1, fun i hi => ?_⟩
  rw [getD_set _ _ _ _ (by rw [h.1]; exact hj)]
  by_cases e : j = i
  · rw [if_pos e, hv, e]
  · rw [if_neg e, h.2 i (by omega)]
theorem SumP.end_ {S ys : List Nat} (h : SumP S 32 ys) (hS : S.length = 8) : ys = toldL S := by
  have hl := toldL_length S
  rw [hS] at hl
  apply List.ext_getElem?
  intro i
  by_cases hi : i < 32
  · have := h.2 i hi
    rw [List.getD_eq_getElem?_getD, List.getD_eq_getElem?_getD, List.getElem?_eq_getElem (by rw [h.1]; exact hi), List.getElem?_eq_getElem (by omega), Option.getD_some, Option.getD_some] at this
    rw [List.getElem?_eq_getElem (by rw [h.1]; exact hi), List.getElem?_eq_getElem (by omega), this]
  · rw [List.getElem?_eq_none (by rw [h.1]; omega), List.getElem?_eq_none (by omega)]
theorem list8 {S : List Nat} (hS : S.length = 8) : S = [S.getD 0 0, S.getD 1 0, S.getD 2 0, S.getD 3 0, S.getD 4 0, S.getD 5 0, S.getD 6 0, S.getD 7 0] := by
  match S, hS with
  | [s0, s1, s2, s3, s4, s5, s6, s7], _ => rfl

set_option maxRecDepth 100000 in
set_option maxHeartbeats 2000000 in
theorem refSum_any (S : List Nat) (w : World) (hS : S.length = 8) (hl : ∀ x ∈ S, x < 4294967296) :
    Calls Tryd.prog 79 #[.agg (uvs S).toArray] w fun e w' => e = .returned (sv (toldL S)) ∧ Below w.heap.size w w' := by
  have HS := Lib.hid hS
  have HL := Lib.hid hl
  have HZ := Lib.hid (show zero32.length = 32 from rfl)
  have h8 := list8 hS
  have f0 := Arr.alloc (Arr.new w 103 S) (.cells #[.int .u8 0, .int .u8 0, .int .u8 0, .int .u8 0, .int .u8 0, .int .u8 0, .int .u8 0, .int .u8 0, .int .u8 0, .int .u8 0, .int .u8 0, .int .u8 0, .int .u8 0, .int .u8 0, .int .u8 0, .int .u8 0, .int .u8 0, .int .u8 0, .int .u8 0, .int .u8 0, .int .u8 0, .int .u8 0, .int .u8 0, .int .u8 0, .int .u8 0, .int .u8 0, .int .u8 0, .int .u8 0, .int .u8 0, .int .u8 0, .int .u8 0, .int .u8 0] 36)
  have c0 := f0.cell (i := 0) (by omega)
  have c1 := f0.cell (i := 1) (by omega)
  have c2 := f0.cell (i := 2) (by omega)
  have c3 := f0.cell (i := 3) (by omega)
  have c4 := f0.cell (i := 4) (by omega)
  have c5 := f0.cell (i := 5) (by omega)
  have c6 := f0.cell (i := 6) (by omega)
  have c7 := f0.cell (i := 7) (by omega)
  obtain ⟨v0, hv0⟩ : ∃ v, S.getD 0 0 = v := ⟨_, rfl⟩
  rw [hv0] at c0 h8
  clear hv0
  obtain ⟨v1, hv1⟩ : ∃ v, S.getD 1 0 = v := ⟨_, rfl⟩
  rw [hv1] at c1 h8
  clear hv1
  obtain ⟨v2, hv2⟩ : ∃ v, S.getD 2 0 = v := ⟨_, rfl⟩
  rw [hv2] at c2 h8
  clear hv2
  obtain ⟨v3, hv3⟩ : ∃ v, S.getD 3 0 = v := ⟨_, rfl⟩
  rw [hv3] at c3 h8
  clear hv3
  obtain ⟨v4, hv4⟩ : ∃ v, S.getD 4 0 = v := ⟨_, rfl⟩
  rw [hv4] at c4 h8
  clear hv4
  obtain ⟨v5, hv5⟩ : ∃ v, S.getD 5 0 = v := ⟨_, rfl⟩
  rw [hv5] at c5 h8
  clear hv5
  obtain ⟨v6, hv6⟩ : ∃ v, S.getD 6 0 = v := ⟨_, rfl⟩
  rw [hv6] at c6 h8
  clear hv6
  obtain ⟨v7, hv7⟩ : ∃ v, S.getD 7 0 = v := ⟨_, rfl⟩
  rw [hv7] at c7 h8
  clear hv7
  have HV := Lib.hid h8
  clear hS hl h8 f0
  go_enter Tryd.func79, Tryd.ntmps79
  go_wp2
  go_loopw [5] (fun i wr => ∃ (j : Nat) (ys : List Nat), j ≤ 32 ∧ i = .int .i64 (j : Int) ∧ SumP S j ys ∧ Arr wr (w.heap.size + 1 + 1) 41 S ∧ BArr wr (w.heap.size + 1) 36 zero32 ∧ BArr wr (w.heap.size + 1 + 1 + 1) 36 ys ∧ Below w.heap.size w wr) (fun i _ => 32 - (intOf i).toNat)
  case atStart =>
    have g2 := Arr.alloc (Arr.new ((w.alloc (.cells (uvs S).toArray 103)).alloc (.cells #[.int .u8 0, .int .u8 0, .int .u8 0, .int .u8 0, .int .u8 0, .int .u8 0, .int .u8 0, .int .u8 0, .int .u8 0, .int .u8 0, .int .u8 0, .int .u8 0, .int .u8 0, .int .u8 0, .int .u8 0, .int .u8 0, .int .u8 0, .int .u8 0, .int .u8 0, .int .u8 0, .int .u8 0, .int .u8 0, .int .u8 0, .int .u8 0, .int .u8 0, .int .u8 0, .int .u8 0, .int .u8 0, .int .u8 0, .int .u8 0, .int .u8 0, .int .u8 0] 36)) 41 [v0, v1, v2, v3, v4, v5, v6, v7]) (.cells #[.int .u8 0, .int .u8 0, .int .u8 0, .int .u8 0, .int .u8 0, .int .u8 0, .int .u8 0, .int .u8 0, .int .u8 0, .int .u8 0, .int .u8 0, .int .u8 0, .int .u8 0, .int .u8 0, .int .u8 0, .int .u8 0, .int .u8 0, .int .u8 0, .int .u8 0, .int .u8 0, .int .u8 0, .int .u8 0, .int .u8 0, .int .u8 0, .int .u8 0, .int .u8 0, .int .u8 0, .int .u8 0, .int .u8 0, .int .u8 0, .int .u8 0, .int .u8 0] 36)
    have g1 := BArr.alloc (BArr.alloc (BArr.new (w.alloc (.cells (uvs S).toArray 103)) 36 zero32) (.cells (uvs [v0, v1, v2, v3, v4, v5, v6, v7]).toArray 41)) (.cells #[.int .u8 0, .int .u8 0, .int .u8 0, .int .u8 0, .int .u8 0, .int .u8 0, .int .u8 0, .int .u8 0, .int .u8 0, .int .u8 0, .int .u8 0, .int .u8 0, .int .u8 0, .int .u8 0, .int .u8 0, .int .u8 0, .int .u8 0, .int .u8 0, .int .u8 0, .int .u8 0, .int .u8 0, .int .u8 0, .int .u8 0, .int .u8 0, .int .u8 0, .int .u8 0, .int .u8 0, .int .u8 0, .int .u8 0, .int .u8 0, .int .u8 0, .int .u8 0] 36)
    have g3 := BArr.new (((w.alloc (.cells (uvs S).toArray 103)).alloc (.cells #[.int .u8 0, .int .u8 0, .int .u8 0, .int .u8 0, .int .u8 0, .int .u8 0, .int .u8 0, .int .u8 0, .int .u8 0, .int .u8 0, .int .u8 0, .int .u8 0, .int .u8 0, .int .u8 0, .int .u8 0, .int .u8 0, .int .u8 0, .int .u8 0, .int .u8 0, .int .u8 0, .int .u8 0, .int .u8 0, .int .u8 0, .int .u8 0, .int .u8 0, .int .u8 0, .int .u8 0, .int .u8 0, .int .u8 0, .int .u8 0, .int .u8 0, .int .u8 0] 36)).alloc (.cells (uvs [v0, v1, v2, v3, v4, v5, v6, v7]).toArray 41)) 36 zero32
    rw [World.size_alloc] at g1
    rw [World.size_alloc, World.size_alloc] at g2
    rw [World.size_alloc, World.size_alloc, World.size_alloc] at g3
    refine ⟨0, zero32, by omega, rfl, ⟨rfl, fun i hi => by omega⟩, ?_, g1, g3, ((below3 w _ _ _).alloc (by simp; omega) _)⟩
    exact Eq.trans (show _ = _ from g2) (by rw [← HV.out])
  case round =>
    obtain ⟨j, ys, hj, rfl, P, a2, b1, b3, bel⟩ := hrel
    by_cases hlt : j < 32
    · obtain ⟨k, hk⟩ : ∃ k, j / 4 = k := ⟨_, rfl⟩
      obtain ⟨r, hr⟩ : ∃ r, j % 4 = r := ⟨_, rfl⟩
      obtain ⟨q, hq⟩ : ∃ q, 24 - 8 * r = q := ⟨_, rfl⟩
      have ck := a2.cell (i := k) (by rw [HS.out]; omega)
      obtain ⟨n, hn⟩ : ∃ n, S.getD k 0 = n := ⟨_, rfl⟩
      rw [hn] at ck
      have nb : n < 4294967296 := hn ▸ getD_lt HL.out k
      have cj := b3.cell (i := j) (by rw [P.1]; exact hlt)
      have fj := b3.free j
      have i1 : (j : Int) / 4 = (k : Int) := by omega
      have i2 : (j : Int) % 4 = (r : Int) := by omega
      have i3 : (24 : Int) - 8 * (r : Int) = (q : Int) := by omega
      have k8 : (k : Int) < 8 := by omega
      have r4 : r < 4 := by omega
      have q24 : q ≤ 24 := by omega
      have hv : n / 2 ^ q % 256 = (toldL S).getD j 0 := by
        rw [toldL_get S j (by rw [HS.out]; omega), hk, hr, hn, show (256 : Nat) = 2 ^ 8 from rfl, ← Nat.pow_mul, show 8 * (3 - r) = q by omega]
      have HP := Lib.hid (And.intro (P.next hlt hv) (And.intro a2 (And.intro b1 (And.intro b3 bel))))
      clear hv P a2 b1 b3 bel hk hr hq hn
      go_wp2
      go_roundw
      case rel =>
        have ev : ((n : Int) / 2 ^ q % 256) = ((n / 2 ^ q % 256 : Nat) : Int) := by simp
        rw [ev]
        exact ⟨j + 1, _, by omega, by go_num, HP.out.1, HP.out.2.1.other _ _ (by show w.heap.size + 1 + 1 ≠ w.heap.size + 1 + 1 + 1; omega), HP.out.2.2.1.other _ _ (by show w.heap.size + 1 ≠ w.heap.size + 1 + 1 + 1; omega), HP.out.2.2.2.1.set j _, HP.out.2.2.2.2.setCell (by show w.heap.size ≤ w.heap.size + 1 + 1 + 1; omega) _⟩
      case measure => simp [intOf]; omega
    · obtain rfl : j = 32 := by omega
      obtain rfl := P.end_ HS.out
      have hat := b3.at_
      have hl32 : (toldL S).length = 32 := by rw [toldL_length, HS.out]
      clear P
      go_wp2_with (first
        | (with_reducible refine wpList_load_sum rfl (.tmp 4) rfl ⟨w.heap.size + 1 + 1 + 1, 0, none⟩ rfl (toldL S) hl32 hat ?_)
        | (with_reducible refine wpList_store_sum rfl (.tmp 2) (.tmp 41) rfl (w.heap.size + 1) rfl zero32 (toldL S) HZ hl32 b1 rfl ?_))
      refine bodyPost_ret_by (results_cell_row (p := 2) (ty := 36) (by kernel_rfl) _ _ (w.heap.size + 1) 36 (bvs (toldL S)).toArray (0, 0) _ rfl (b1.setRow _) Tryd.underlying36 rfl (by rw [List.size_toArray, bvs_length, hl32]; exact sizeSum)) rfl ?_
      exact ⟨rfl, below_setRow bel (by omega) _⟩

set_option maxRecDepth 100000 in
set_option maxHeartbeats 1000000 in
theorem refBegin_any (w : World) :
    Calls Tryd.prog 77 #[] w fun e w' => e = .returned (.agg (uvs h0).toArray) ∧ Below w.heap.size w w' := by
  have n1 := Arr.new w 103 zero8
  rw [zero8_lit] at n1
  have HZ8 := Lib.hid (show zero8.length = 8 from rfl)
  have H0 := Lib.hid h0_length
  go_enter Tryd.func77, Tryd.ntmps77
  go_wp2_with (with_reducible refine wpList_storeE rfl (.tmp 0) (.tmp 1) rfl w.heap.size rfl zero8 h0 HZ8 H0 n1 ?_ ?_)
  · rfl
  · refine bodyPost_ret_by (results_cell_row (p := 0) (ty := 103) (by kernel_rfl) _ _ w.heap.size 103 (uvs h0).toArray (0, 0) _ rfl (n1.setRow h0) Tryd.underlying103 rfl infoE) rfl ?_
    exact ⟨rfl, below_setRow (below_alloc w _) (Nat.le_refl _) _⟩

end Go.Proofs.YtnaebjdccngeoaaDoor
