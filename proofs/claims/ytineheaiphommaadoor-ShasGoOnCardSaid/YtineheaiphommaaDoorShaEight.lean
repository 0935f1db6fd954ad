/-
  The law's eight: the numbers of a sum.
-/
import Derived.Test.YtineheaiphommaaDoorRefSum
namespace Go.Proofs.YtineheaiphommaaDoor
open Go.RowKit

/-- The i first bytes of the sum of S have been read. -/
def EightP (S : List Nat) (i : Nat) (L : List Nat) : Prop := L.length = 8 ∧ ∀ k, k < 8 → L.getD k 0 = S.getD k 0 / 256 ^ (4 - min 4 (i - 4 * k))
theorem EightP.start {S : List Nat} (hS : ∀ x ∈ S, x < 4294967296) : EightP S 0 zero8 := by
  have h : ∀ k, k < 8 → zero8.getD k 0 = 0 := by decide
  refine ⟨rfl, fun k hk => ?_⟩
  have := getD_lt hS k
  have h4 : (256 : Nat) ^ 4 = 4294967296 := by decide
  rw [h k hk, show 4 - min 4 (0 - 4 * k) = 4 by omega, Nat.div_eq_of_lt (by omega)]
theorem EightP.next {S L : List Nat} {i k r : Nat} (h : EightP S i L) (hi : i < 32) (hk : i / 4 = k) (hr : i % 4 = r) {l y : Nat} (hl : L.getD k 0 = l) (hy : y = S.getD k 0 / 256 ^ (3 - r) % 256) : EightP S (i + 1) (L.set k (256 * l + y)) := by
  refine ⟨by rw [List.length_set]; exact h.1, fun j hj => ?_⟩
  rw [getD_set _ _ _ _ (by rw [h.1]; omega)]
  by_cases e : k = j
  · subst e
    have e1 := h.2 k hj
    rw [hl, show 4 - min 4 (i - 4 * k) = (3 - r) + 1 by omega, Nat.pow_succ, ← Nat.div_div_eq_div_mul] at e1
    rw [if_pos rfl, show 4 - min 4 (i + 1 - 4 * k) = 3 - r by omega, e1, hy]
    omega
  · rw [if_neg e, h.2 j hj]
    congr 2
    omega
theorem EightP.end_ {S L : List Nat} (h : EightP S 32 L) (hS : S.length = 8) : L = S := by
  apply List.ext_getElem?
  intro i
  by_cases hi : i < 8
  · have := h.2 i hi
    rw [show 4 - min 4 (32 - 4 * i) = 0 by omega, Nat.pow_zero, Nat.div_one, List.getD_eq_getElem?_getD, List.getD_eq_getElem?_getD, List.getElem?_eq_getElem (by rw [h.1]; exact hi), List.getElem?_eq_getElem (by omega), Option.getD_some, Option.getD_some] at this
    rw [List.getElem?_eq_getElem (by rw [h.1]; exact hi), List.getElem?_eq_getElem (by omega), this]
  · rw [List.getElem?_eq_none (by rw [h.1]; omega), List.getElem?_eq_none (by omega)]
theorem EightP.lt {S L : List Nat} {i : Nat} (h : EightP S i L) (hS : ∀ x ∈ S, x < 4294967296) {k r : Nat} (hi : i < 32) (hk : i / 4 = k) (hr : i % 4 = r) {l : Nat} (hl : L.getD k 0 = l) : l < 16777216 := by
  have e1 := h.2 k (by omega)
  rw [hl, show 4 - min 4 (i - 4 * k) = 4 - r by omega] at e1
  have b := getD_lt hS k
  have c : S.getD k 0 / 256 ^ (4 - r) ≤ S.getD k 0 / 256 := by
    rw [show 4 - r = (3 - r) + 1 by omega, Nat.pow_succ, Nat.mul_comm, ← Nat.div_div_eq_div_mul]
    exact Nat.div_le_self _ _
  omega

set_option maxRecDepth 100000 in
set_option maxHeartbeats 1000000 in
theorem eight_any (S : List Nat) (w : World) (hS : S.length = 8) (hl : ∀ x ∈ S, x < 4294967296) :
    Calls Tryd.prog 29 #[sv (toldL S)] w fun e w' => e = .returned (.agg (uvs S).toArray) ∧ Below w.heap.size w w' := by
  have HS := Lib.hid hS
  have HL := Lib.hid hl
  have HZ8 := Lib.hid (show zero8.length = 8 from rfl)
  have hT : (toldL S).length = 32 := by rw [toldL_length, hS]
  have hg := toldL_get S
  have hTl := toldL_lt S
  rw [hS] at hg
  obtain ⟨T, hTe⟩ : ∃ T, toldL S = T := ⟨_, rfl⟩
  rw [hTe] at hT hg hTl ⊢
  have HT := Lib.hid (And.intro hT (And.intro hg hTl))
  clear hS hl hT hg hTl hTe
  unfold sv
  go_enter Tryd.func29, Tryd.ntmps29
  go_wp2
  go_loopw [4] (fun i wr => ∃ (j : Nat) (L : List Nat), j ≤ 32 ∧ i = .int .i64 (j : Int) ∧ EightP S j L ∧ BArr wr w.heap.size 51 T ∧ Arr wr (w.heap.size + 1) 68 zero8 ∧ Arr wr (w.heap.size + 1 + 1) 62 L ∧ Below w.heap.size w wr) (fun i _ => 32 - (intOf i).toNat)
  case atStart => exact ⟨0, zero8, by omega, rfl, EightP.start HL.out, heap3_old w _ _ _, heap3_mid w _ _ _, heap3_new w _ _ _, below3 w _ _ _⟩
  case round =>
    obtain ⟨j, L, hj, rfl, P, bT, a1, a2, bel⟩ := hrel
    by_cases hlt : j < 32
    · obtain ⟨k, hk⟩ : ∃ k, j / 4 = k := ⟨_, rfl⟩
      obtain ⟨r, hr⟩ : ∃ r, j % 4 = r := ⟨_, rfl⟩
      obtain ⟨l, hl⟩ : ∃ l, L.getD k 0 = l := ⟨_, rfl⟩
      obtain ⟨y, hy⟩ : ∃ y, T.getD j 0 = y := ⟨_, rfl⟩
      have lb := P.lt HL.out hlt hk hr hl
      have yb : y < 256 := hy ▸ getD_lt8 HT.out.2.2 j
      have hy2 : y = S.getD k 0 / 256 ^ (3 - r) % 256 := by rw [← hy, HT.out.2.1 j (by omega), hk, hr]
      have ck := a2.cell (i := k) (by rw [P.1]; omega)
      rw [hl] at ck
      have cy := bT.cell (i := j) (by rw [HT.out.1]; exact hlt)
      rw [hy] at cy
      have fk := a2.free k
      have i1 : (j : Int) / 4 = (k : Int) := by omega
      have i1' : (j : Int).tdiv 4 = (k : Int) := by rw [Int.tdiv_eq_ediv_of_nonneg (by omega)]; omega
      have kw : IntKind.i64.wrap (k : Int) = (k : Int) := IntWalk.i64_in _ (by omega)
      have k8 : (k : Int) < 8 := by omega
      have j32 : (j : Int) < 32 := by omega
      have HP := Lib.hid (And.intro (P.next hlt hk hr hl hy2) (And.intro bT (And.intro a1 (And.intro a2 bel))))
      clear P bT a1 a2 bel hk hr hl hy hy2
      go_wp2
      go_still_tail 13, (by kernel_rfl)
      go_wp2
      go_roundw
      case rel =>
        have ev : (256 * (l : Int) + (y : Int)) = ((256 * l + y : Nat) : Int) := by omega
        rw [ev]
        exact ⟨j + 1, _, by omega, by go_num, HP.out.1, HP.out.2.1.other _ _ (by show w.heap.size ≠ w.heap.size + 1 + 1; omega), HP.out.2.2.1.other _ _ (by show w.heap.size + 1 ≠ w.heap.size + 1 + 1; omega), HP.out.2.2.2.1.set k _, (HP.out.2.2.2.2.setCell (by show w.heap.size ≤ w.heap.size + 1 + 1; omega) _).drew⟩
      case measure => simp [intOf]; omega
    · obtain rfl : j = 32 := by omega
      obtain rfl := P.end_ HS.out
      have h8 := list8 HS.out
      have c0 := a2.cell (i := 0) (by rw [HS.out]; omega)
      have c1 := a2.cell (i := 1) (by rw [HS.out]; omega)
      have c2 := a2.cell (i := 2) (by rw [HS.out]; omega)
      have c3 := a2.cell (i := 3) (by rw [HS.out]; omega)
      have c4 := a2.cell (i := 4) (by rw [HS.out]; omega)
      have c5 := a2.cell (i := 5) (by rw [HS.out]; omega)
      have c6 := a2.cell (i := 6) (by rw [HS.out]; omega)
      have c7 := a2.cell (i := 7) (by rw [HS.out]; omega)
      obtain ⟨v0, hv0⟩ : ∃ v, L.getD 0 0 = v := ⟨_, rfl⟩
      rw [hv0] at c0 h8
      clear hv0
      obtain ⟨v1, hv1⟩ : ∃ v, L.getD 1 0 = v := ⟨_, rfl⟩
      rw [hv1] at c1 h8
      clear hv1
      obtain ⟨v2, hv2⟩ : ∃ v, L.getD 2 0 = v := ⟨_, rfl⟩
      rw [hv2] at c2 h8
      clear hv2
      obtain ⟨v3, hv3⟩ : ∃ v, L.getD 3 0 = v := ⟨_, rfl⟩
      rw [hv3] at c3 h8
      clear hv3
      obtain ⟨v4, hv4⟩ : ∃ v, L.getD 4 0 = v := ⟨_, rfl⟩
      rw [hv4] at c4 h8
      clear hv4
      obtain ⟨v5, hv5⟩ : ∃ v, L.getD 5 0 = v := ⟨_, rfl⟩
      rw [hv5] at c5 h8
      clear hv5
      obtain ⟨v6, hv6⟩ : ∃ v, L.getD 6 0 = v := ⟨_, rfl⟩
      rw [hv6] at c6 h8
      clear hv6
      obtain ⟨v7, hv7⟩ : ∃ v, L.getD 7 0 = v := ⟨_, rfl⟩
      rw [hv7] at c7 h8
      clear hv7
      have HV := Lib.hid h8
      clear h8 P
      go_wp2_with (with_reducible refine wpList_storeE rfl (.tmp 2) (.tmp 38) rfl (w.heap.size + 1) rfl zero8 L HZ8 HS a1 ?_ ?_)
      · show Value.agg (uvs [v0, v1, v2, v3, v4, v5, v6, v7]).toArray = _
        rw [← HV.out]
      · refine bodyPost_ret_by (results_cell_row (p := 2) (ty := 68) (by kernel_rfl) _ _ (w.heap.size + 1) 68 (uvs L).toArray (0, 0) _ rfl (a1.setRow L) Tryd.underlying68 rfl (by rw [List.size_toArray, uvs_length, HS.out]; exact infoE)) rfl ?_
        exact ⟨rfl, below_setRow bel (by omega) _⟩

end Go.Proofs.YtineheaiphommaaDoor
