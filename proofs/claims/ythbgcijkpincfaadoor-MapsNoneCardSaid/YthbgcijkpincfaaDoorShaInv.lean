/-
  shas.taken: what holds at each of its times.
-/
import Derived.Test.YthbgcijkpincfaaDoorShaArr
namespace Go.Proofs.YthbgcijkpincfaaDoor
open Go.RowKit

theorem tm8 {z : Int} {i : Nat} (h : 0 ≤ z ∧ z % 8 = (i : Int)) : z.tmod 8 = (i : Int) := by rw [Int.tmod_eq_emod_of_nonneg h.1]; exact h.2
theorem tm16 {z : Int} {i : Nat} (h : 0 ≤ z ∧ z % 16 = (i : Int)) : z.tmod 16 = (i : Int) := by rw [Int.tmod_eq_emod_of_nonneg h.1]; exact h.2
theorem u64_id {z : Int} (h : 0 ≤ z ∧ z < 18446744073709551616) : IntKind.u64.wrap z = z := by rw [IntKind.wrap_u64]; omega

theorem idx8 {wr : World} {g : Nat} {T : TypeId} {N : List Nat} (h : Arr wr g T N) (hN : N.length = 8) (A k : Nat) (hA : A ≤ 64) (hk : k < 8) (z : Int) (hz : z = (k : Int)) :
    ∃ i v : Nat, Hid ((A + k) % 8 = i ∧ N.getD i 0 = v) ∧ (i : Int) < 8 ∧ ((A : Int) + z).tmod 8 = (i : Int) ∧ IntKind.u64.wrap ((A : Int) + z) = (A : Int) + z ∧ wr.cell? ⟨g, i, none⟩ = some (.int .u32 (v : Int)) := by
  subst hz
  have hi : (A + k) % 8 < 8 := Nat.mod_lt _ (by omega)
  exact ⟨(A + k) % 8, _, ⟨rfl, rfl⟩, by omega, tm8 (by omega), u64_id (by omega), h.cell (by omega)⟩

theorem ch_eq {e f g : Nat} (he : e < 4294967296) (hf : f < 4294967296) (hg : g < 4294967296) :
    bits .or .u32 (bits .and .u32 (e : Int) (f : Int)) (bits .and .u32 (bits .xor .u32 (if IntKind.u32.signed = true then -1 else IntKind.u32.max) (e : Int)) (g : Int)) = ((ch e f g : Nat) : Int) := by
  have e1 : (if IntKind.u32.signed = true then -1 else IntKind.u32.max) = ((4294967295 : Nat) : Int) := by decide
  have x1 : 4294967295 ^^^ e < 4294967296 := xor_lt32 (by omega) he
  rw [e1, u32_xor_nat _ _ (by omega) he, u32_and_nat _ _ he hf, u32_and_nat _ _ x1 hg, u32_or_nat _ _ (and_lt32 he) (and_lt32 x1), ch]
theorem maj_eq {a b c : Nat} (ha : a < 4294967296) (hb : b < 4294967296) (hc : c < 4294967296) :
    bits .or .u32 (bits .or .u32 (bits .and .u32 (a : Int) (b : Int)) (bits .and .u32 (a : Int) (c : Int))) (bits .and .u32 (b : Int) (c : Int)) = ((maj a b c : Nat) : Int) := by
  rw [u32_and_nat _ _ ha hb, u32_and_nat _ _ ha hc, u32_and_nat _ _ hb hc, u32_or_nat _ _ (and_lt32 ha) (and_lt32 ha), u32_or_nat _ _ (or_lt32 (and_lt32 ha) (and_lt32 ha)) (and_lt32 hb), maj]

theorem idx16 {wr : World} {g : Nat} {T : TypeId} {W : List Nat} (h : Arr wr g T W) (hW : W.length = 16) (t k : Nat) (ht : t ≤ 64) (hk : k < 16) (z : Int) (hz : z = (k : Int)) :
    ∃ i v : Nat, Hid ((t + k) % 16 = i ∧ W.getD i 0 = v) ∧ (i : Int) < 16 ∧ ((t : Int) + z).tmod 16 = (i : Int) ∧ IntKind.u64.wrap ((t : Int) + z) = (t : Int) + z ∧ wr.cell? ⟨g, i, none⟩ = some (.int .u32 (v : Int)) := by
  subst hz
  have hi : (t + k) % 16 < 16 := Nat.mod_lt _ (by omega)
  exact ⟨(t + k) % 16, _, ⟨rfl, rfl⟩, by omega, tm16 (by omega), u64_id (by omega), h.cell (by omega)⟩

/-- What is added each time stands where it should. -/
def Knows (w : World) : Prop := ∀ i, i < 64 → w.cell? ⟨2, i, none⟩ = some (.int .u32 ((kAdd.getD i 0 : Nat) : Int))

/-- What the memory is at time t: the eight as they were, sixteen of w, the eight numbers, the result's place. -/
structure TakenAt (w : World) (S W N : List Nat) (wr : World) : Prop where
  s : Arr wr w.heap.size 79 S
  w16 : Arr wr (w.heap.size + 1) 100 W
  r8 : Arr wr (w.heap.size + 1 + 1) 79 zero8
  n8 : Arr wr (w.heap.size + 1 + 1 + 1) 79 N
  below : Below w.heap.size w wr

section
variable {w wr : World} {S W N : List Nat}
theorem TakenAt.setW (h : TakenAt w S W N wr) (i v : Nat) : TakenAt w S (W.set i v) N (wr.setCell ⟨w.heap.size + 1, i, none⟩ (.int .u32 (v : Int))) :=
  ⟨h.s.other _ _ (by show w.heap.size ≠ w.heap.size + 1; omega), h.w16.set i v, h.r8.other _ _ (by show w.heap.size + 1 + 1 ≠ w.heap.size + 1; omega), h.n8.other _ _ (by show w.heap.size + 1 + 1 + 1 ≠ w.heap.size + 1; omega), h.below.setCell (by show w.heap.size ≤ w.heap.size + 1; omega) _⟩
theorem TakenAt.setN (h : TakenAt w S W N wr) (i v : Nat) : TakenAt w S W (N.set i v) (wr.setCell ⟨w.heap.size + 1 + 1 + 1, i, none⟩ (.int .u32 (v : Int))) :=
  ⟨h.s.other _ _ (by show w.heap.size ≠ w.heap.size + 1 + 1 + 1; omega), h.w16.other _ _ (by show w.heap.size + 1 ≠ w.heap.size + 1 + 1 + 1; omega), h.r8.other _ _ (by show w.heap.size + 1 + 1 ≠ w.heap.size + 1 + 1 + 1; omega), h.n8.set i v, h.below.setCell (by show w.heap.size ≤ w.heap.size + 1 + 1 + 1; omega) _⟩
theorem TakenAt.drewN (h : TakenAt w S W N wr) (q : Nat) : TakenAt w S W N (wr.drewN q) := ⟨h.s, h.w16, h.r8, h.n8, ⟨h.below.os, h.below.tape, h.below.output, h.below.size, h.below.block⟩⟩
theorem TakenAt.drew (h : TakenAt w S W N wr) : TakenAt w S W N wr.drew := ⟨h.s, h.w16, h.r8, h.n8, h.below.drew⟩
end

/-- The memory, and what the lists in it are, at time t. -/
structure TakeInv (w : World) (S B : List Nat) (t : Nat) (W N : List Nat) (u : Nat) (wr : World) : Prop where
  lw : W.length = 16
  ln : N.length = 8
  win : Win (sched B 48) u W
  ring : Ring (64 - t) (rounds (sched B 48) S t) N
  at_ : TakenAt w S W N wr

/-- One w more. -/
theorem TakeInv.more {w wr : World} {S B W N : List Nat} {t : Nat} (h : TakeInv w S B t W N t wr) (hB : B.length = 16) (h16 : 16 ≤ t) (ht : t < 64) {j0 j9 j1 j14 v0 v9 v1 v14 : Nat}
    (H0 : t % 16 = j0 ∧ W.getD j0 0 = v0) (H9 : (t + 9) % 16 = j9 ∧ W.getD j9 0 = v9) (H1 : (t + 1) % 16 = j1 ∧ W.getD j1 0 = v1) (H14 : (t + 14) % 16 = j14 ∧ W.getD j14 0 = v14) (z : Int)
    (hz : z = ((v0 : Int) + ((v9 : Int) + (far v1 : Nat) + (near v14 : Nat))) % 4294967296) :
    TakeInv w S B t (W.set j0 ((v0 + v9 + far v1 + near v14) % 4294967296)) N (t + 1) (wr.setCell ⟨w.heap.size + 1, j0, none⟩ (.int .u32 z)) := by
  have e : z = (((v0 + v9 + far v1 + near v14) % 4294967296 : Nat) : Int) := by rw [hz]; omega
  subst e
  obtain ⟨rfl, g0⟩ := H0
  obtain ⟨rfl, g9⟩ := H9
  obtain ⟨rfl, g1⟩ := H1
  obtain ⟨rfl, g14⟩ := H14
  have q0 := h.win (t - 16) (by omega) (by omega)
  have q9 := h.win (t - 7) (by omega) (by omega)
  have q1 := h.win (t - 15) (by omega) (by omega)
  have q14 := h.win (t - 2) (by omega) (by omega)
  rw [show (t - 16) % 16 = t % 16 by omega, g0] at q0
  rw [show (t - 7) % 16 = (t + 9) % 16 by omega, g9] at q9
  rw [show (t - 15) % 16 = (t + 1) % 16 by omega, g1] at q1
  rw [show (t - 2) % 16 = (t + 14) % 16 by omega, g14] at q14
  refine ⟨by rw [List.length_set]; exact h.lw, h.ln, h.win.late h16 h.lw _ ?_, h.ring, h.at_.setW _ _⟩
  rw [sched_next B hB 48 t h16 (by omega), ← q0, ← q9, ← q1, ← q14]

/-- One time more. -/
theorem TakeInv.next {w wr : World} {S B W N : List Nat} {t A : Nat} (h : TakeInv w S B t W N (t + 1) wr) (hS : ∀ x ∈ S, x < 4294967296) (hA : 64 - t = A) (ht : t < 64) {kt wt j0 i0 i1 i2 i3 i4 i5 i6 i7 v0 v1 v2 v3 v4 v5 v6 v7 : Nat}
    (hk : kAdd.getD t 0 = kt) (hj : t % 16 = j0) (hw : W.getD j0 0 = wt) (H0 : (A + 0) % 8 = i0 ∧ N.getD i0 0 = v0) (H1 : (A + 1) % 8 = i1 ∧ N.getD i1 0 = v1) (H2 : (A + 2) % 8 = i2 ∧ N.getD i2 0 = v2) (H3 : (A + 3) % 8 = i3 ∧ N.getD i3 0 = v3)
    (H4 : (A + 4) % 8 = i4 ∧ N.getD i4 0 = v4) (H5 : (A + 5) % 8 = i5 ∧ N.getD i5 0 = v5) (H6 : (A + 6) % 8 = i6 ∧ N.getD i6 0 = v6) (H7 : (A + 7) % 8 = i7 ∧ N.getD i7 0 = v7) (x y : Int)
    (hx : x = ((v3 : Int) + ((v7 : Int) + kt + wt + (mixE v4 : Nat) + bits .or .u32 (bits .and .u32 (v4 : Int) (v5 : Int)) (bits .and .u32 (bits .xor .u32 (if IntKind.u32.signed = true then -1 else IntKind.u32.max) (v4 : Int)) (v6 : Int)))) % 4294967296)
    (hy : y = ((v7 : Int) + kt + wt + (mixE v4 : Nat) + bits .or .u32 (bits .and .u32 (v4 : Int) (v5 : Int)) (bits .and .u32 (bits .xor .u32 (if IntKind.u32.signed = true then -1 else IntKind.u32.max) (v4 : Int)) (v6 : Int)) +
      ((mixA v0 : Nat) + bits .or .u32 (bits .or .u32 (bits .and .u32 (v0 : Int) (v1 : Int)) (bits .and .u32 (v0 : Int) (v2 : Int))) (bits .and .u32 (v1 : Int) (v2 : Int)))) % 4294967296) (q : Nat) :
    ∃ N', TakeInv w S B (t + 1) W N' (t + 1) (((wr.drewN q).setCell ⟨w.heap.size + 1 + 1 + 1, i3, none⟩ (.int .u32 x)).setCell ⟨w.heap.size + 1 + 1 + 1, i7, none⟩ (.int .u32 y)) := by
  obtain ⟨R, hR⟩ : ∃ R, rounds (sched B 48) S t = R := ⟨_, rfl⟩
  have lt := rounds_lt (sched B 48) S hS t
  have rg := h.ring
  rw [hR] at lt rg
  rw [hA] at rg
  have g : ∀ i, i < 8 → N.getD ((A + i) % 8) 0 = R.getD i 0 := rg
  obtain ⟨rfl, r0⟩ := H0; obtain ⟨rfl, r1⟩ := H1; obtain ⟨rfl, r2⟩ := H2; obtain ⟨rfl, r3⟩ := H3
  obtain ⟨rfl, r4⟩ := H4; obtain ⟨rfl, r5⟩ := H5; obtain ⟨rfl, r6⟩ := H6; obtain ⟨rfl, r7⟩ := H7
  rw [g 0 (by omega)] at r0; rw [g 1 (by omega)] at r1; rw [g 2 (by omega)] at r2; rw [g 3 (by omega)] at r3
  rw [g 4 (by omega)] at r4; rw [g 5 (by omega)] at r5; rw [g 6 (by omega)] at r6; rw [g 7 (by omega)] at r7
  have y0 : v0 < 4294967296 := r0 ▸ getD_lt lt 0
  have y1 : v1 < 4294967296 := r1 ▸ getD_lt lt 1
  have y2 : v2 < 4294967296 := r2 ▸ getD_lt lt 2
  have y4 : v4 < 4294967296 := r4 ▸ getD_lt lt 4
  have y5 : v5 < 4294967296 := r5 ▸ getD_lt lt 5
  have y6 : v6 < 4294967296 := r6 ▸ getD_lt lt 6
  rw [ch_eq y4 y5 y6] at hx hy
  rw [maj_eq y0 y1 y2] at hy
  have ex : x = (((v3 + (v7 + kt + wt + mixE v4 + ch v4 v5 v6) % 4294967296) % 4294967296 : Nat) : Int) := by rw [hx]; omega
  have ey : y = ((((v7 + kt + wt + mixE v4 + ch v4 v5 v6) % 4294967296 + (mixA v0 + maj v0 v1 v2) % 4294967296) % 4294967296 : Nat) : Int) := by rw [hy]; omega
  have hwt : (sched B 48).getD t 0 = wt := by rw [← hw, ← hj]; exact (h.win t (by omega) (by omega)).symm
  subst ex ey
  obtain ⟨A', rfl⟩ : ∃ A', A = A' + 1 := ⟨A - 1, by omega⟩
  refine ⟨_, h.lw, ?_, h.win, ?_, ((h.at_.drewN q).setN _ _).setN _ _⟩
  · rw [List.length_set, List.length_set]; exact h.ln
  · have st := rg.step h.ln ((v3 + (v7 + kt + wt + mixE v4 + ch v4 v5 v6) % 4294967296) % 4294967296) (((v7 + kt + wt + mixE v4 + ch v4 v5 v6) % 4294967296 + (mixA v0 + maj v0 v1 v2) % 4294967296) % 4294967296)
    rw [show 64 - (t + 1) = A' by omega, rounds, hR, rnd, rndP, rndQ, hk, hwt, r0, r1, r2, r3, r4, r5, r6, r7]
    rw [r0, r1, r2, r4, r5, r6] at st
    exact st

theorem TakeInv.drew {w wr : World} {S B W N : List Nat} {t u : Nat} (h : TakeInv w S B t W N u wr) : TakeInv w S B t W N u wr.drew := ⟨h.lw, h.ln, h.win, h.ring, h.at_.drew⟩
theorem TakeInv.lt1 {w wr : World} {S B W N : List Nat} {t : Nat} (h : TakeInv w S B t W N t wr) (hB : ∀ x ∈ B, x < 4294967296) (h16 : 16 ≤ t) {j v : Nat} (H : (t + 1) % 16 = j ∧ W.getD j 0 = v) : v < 4294967296 := by
  have q := h.win (t - 15) (by omega) (by omega)
  rw [show (t - 15) % 16 = (t + 1) % 16 by omega, H.1, H.2] at q
  rw [q]
  exact getD_lt (sched_lt B hB 48) _
theorem TakeInv.lt14 {w wr : World} {S B W N : List Nat} {t : Nat} (h : TakeInv w S B t W N t wr) (hB : ∀ x ∈ B, x < 4294967296) (h16 : 16 ≤ t) {j v : Nat} (H : (t + 14) % 16 = j ∧ W.getD j 0 = v) : v < 4294967296 := by
  have q := h.win (t - 2) (by omega) (by omega)
  rw [show (t - 2) % 16 = (t + 14) % 16 by omega, H.1, H.2] at q
  rw [q]
  exact getD_lt (sched_lt B hB 48) _
theorem TakeInv.ltN {w wr : World} {S B W N : List Nat} {t u A k : Nat} (h : TakeInv w S B t W N u wr) (hS : ∀ x ∈ S, x < 4294967296) (hA : 64 - t = A) (hk : k < 8) {j v : Nat} (H : (A + k) % 8 = j ∧ N.getD j 0 = v) : v < 4294967296 := by
  have q := h.ring k hk
  rw [hA, H.1, H.2] at q
  rw [q]
  exact getD_lt (rounds_lt _ S hS t) _

/-- What each was is added to it, of the first j. -/
def Sum8 (R S : List Nat) (j : Nat) (N : List Nat) : Prop := N.length = 8 ∧ ∀ i, i < 8 → N.getD i 0 = if i < j then (R.getD i 0 + S.getD i 0) % 4294967296 else R.getD i 0
theorem Sum8.step {R S N : List Nat} {j : Nat} (h : Sum8 R S j N) (hj : j < 8) {a b : Nat} (ha : N.getD j 0 = a) (hb : S.getD j 0 = b) : Sum8 R S (j + 1) (N.set j ((a + b) % 4294967296)) := by
  refine ⟨by rw [List.length_set]; exact h.1, fun i hi => ?_⟩
  rw [getD_set _ _ _ _ (by rw [h.1]; omega)]
  by_cases e : j = i
  · subst e
    have := h.2 j hj
    rw [if_neg (by omega), ha] at this
    rw [if_pos rfl, if_pos (by omega), this, hb]
  · rw [if_neg e, h.2 i hi]
    by_cases e2 : i < j
    · rw [if_pos e2, if_pos (by omega)]
    · rw [if_neg e2, if_neg (by omega)]
theorem Sum8.end_ {S B N : List Nat} (hS : S.length = 8) (h : Sum8 (rounds (sched B 48) S 64) S 8 N) : N = take16 S B := by
  have hl := rounds_length (sched B 48) S hS 64
  rw [take16]
  generalize rounds (sched B 48) S 64 = R at h hl ⊢
  apply List.ext_getElem?
  intro i
  by_cases hi : i < 8
  · have := h.2 i hi
    rw [if_pos hi, List.getD_eq_getElem?_getD, List.getD_eq_getElem?_getD, List.getD_eq_getElem?_getD, List.getElem?_eq_getElem (by rw [h.1]; omega), List.getElem?_eq_getElem (by omega), List.getElem?_eq_getElem (by omega), Option.getD_some, Option.getD_some, Option.getD_some] at this
    rw [List.getElem?_eq_getElem (by rw [h.1]; omega), List.getElem?_zipWith, List.getElem?_eq_getElem (by omega), List.getElem?_eq_getElem (by omega), this]
  · rw [List.getElem?_eq_none (by rw [h.1]; omega), List.getElem?_eq_none (by rw [List.length_zipWith]; omega)]

end Go.Proofs.YthbgcijkpincfaaDoor
