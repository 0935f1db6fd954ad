/-
  The document's own disk (almonerref05): Read.
-/
import Derived.Test.YtcdlocbonjgcgaaDoorPRep
namespace Go.Proofs.YtcdlocbonjgcgaaDoor
open Go.RowKit

theorem wait_len {w : World} {F : Nat → Prop} {E : List (List Value)} {ws : List (Nat × List Nat)} (hl : E.length = ws.length) (h : ∀ (i : Nat) (x : Nat × List Nat) (e : List Value), ws[i]? = some x → E[i]? = some e → ∃ v, e = [.int .i64 (x.1 : Int), v] ∧ RSec w F v x.2) : ∀ e ∈ E, e.length = 2 := by
  intro e he
  obtain ⟨i, hi⟩ := List.mem_iff_getElem?.1 he
  have hil := (List.getElem?_eq_some_iff.1 hi).1
  obtain ⟨v, rfl, _⟩ := h i _ e (List.getElem?_eq_getElem (by omega)) hi
  rfl

set_option maxRecDepth 100000 in
set_option maxHeartbeats 2000000 in
theorem rread_any {w : World} {g : Nat} {F : Nat → Prop} {s : St} {k : Nat} {xs : List Nat} (hx : s.read[k]? = some xs) (h : RDisk w g F s) :
    Calls Tryd.prog 9 #[.pointer (some ⟨g, 0, none⟩), .int .i64 (k : Int)] w fun e w' => ∃ A c, e = .returned (.tuple #[.slice A 64 c, .int .i64 0]) ∧ In w' A 64 xs ∧ Below w.heap.size w w' := by
  obtain ⟨ok, _, ⟨sv, lv, h⟩, hl⟩ := h
  have hk : k < s.sure.length := by have := (List.getElem?_eq_some_iff.1 hx).1; rwa [s.read_length] at this
  have hki : (k : Int) < (s.sure.length : Int) := by omega
  have hm := ok.le
  obtain ⟨vals, hrow, hsec⟩ := h.sure
  obtain ⟨E, hrowL, hEl, hEs⟩ := h.l
  obtain ⟨A, c, rfl, hnc, hA, hcm⟩ := row_form hrow
  obtain ⟨AL, cL, rfl, hncL, hAL, hcmL⟩ := row_form hrowL
  obtain ⟨B, rfl⟩ := hA (by omega)
  obtain ⟨n, hn⟩ : ∃ n, s.waits.length = n := ⟨_, rfl⟩
  rw [hn] at hrowL hncL hAL h hEl
  have hE2 : ∀ e ∈ E, e.length = 2 := wait_len (by omega) hEs
  have c0 := h.c0
  have c1 := h.c1
  have hv : ∃ v0, vals[k]? = some v0 := ⟨_, List.getElem?_eq_getElem (by rw [hrow.1]; omega)⟩
  obtain ⟨v0, hv0⟩ := hv
  have cv : w.cell? ⟨B, k, none⟩ = some v0 := (hrow.cellAt k (by omega)).trans hv0
  have H := Lib.hid (And.intro h (And.intro ok (And.intro hsec (And.intro hrowL (And.intro hEl (And.intro hEs (And.intro hn (And.intro hx (And.intro hncL (And.intro hAL (And.intro hv0 (And.intro hl (And.intro hnc hE2)))))))))))))
  have hnm : n ≤ 9223372036854775807 := Nat.le_trans hncL hcmL
  clear h ok hsec hrowL hEl hEs hn hx hncL hAL hv0 hl hrow hnc hcmL hcm
  go_enter Tryd.func9, Tryd.ntmps9
  go_wp2
  go_loopw [6, 7] (fun b i wr => wr = w ∧ ∃ j : Nat, j ≤ n ∧ i = .int .i64 (j : Int) ∧ ∃ ys, (settle s.sure (s.waits.take j))[k]? = some ys ∧ Hid (RSec w F b ys)) (fun _ i _ => n - (intOf i).toNat)
  case atStart => exact ⟨rfl, 0, Nat.zero_le _, rfl, s.sure[k], List.getElem?_eq_getElem hk, Lib.hid (H.out.2.2.1 k v0 _ H.out.2.2.2.2.2.2.2.2.2.2.1 (List.getElem?_eq_getElem hk))⟩
  case round =>
    obtain ⟨rfl, j, hj, rfl, ys, hys, hb⟩ := hrel
    by_cases hlt : j < n
    · obtain ⟨gl, rfl⟩ := H.out.2.2.2.2.2.2.2.2.2.1 (by omega)
      obtain ⟨x, hx⟩ : ∃ x, s.waits[j]? = some x := ⟨_, List.getElem?_eq_getElem (by rw [H.out.2.2.2.2.2.2.1]; exact hlt)⟩
      obtain ⟨e, he⟩ : ∃ e, E[j]? = some e := ⟨_, List.getElem?_eq_getElem (by rw [H.out.2.2.2.2.1]; exact hlt)⟩
      obtain ⟨v, hev, hsv⟩ := H.out.2.2.2.2.2.1 j x e hx he
      have hlen2 := H.out.2.2.2.2.2.2.2.2.2.2.2.2.2
      have d0 : wr.cell? ⟨gl, j * 2, none⟩ = some (.int .i64 (x.1 : Int)) := by
        have := chunk_get hlen2 he (j := 0) (by omega)
        rw [(H.out.2.2.2.1.cellAt (j * 2) (by omega))]
        rw [hev] at this
        exact this
      have d1 : wr.cell? ⟨gl, j * 2 + 1, none⟩ = some v := by
        have := chunk_get hlen2 he (j := 1) (by omega)
        rw [(H.out.2.2.2.1.cellAt (j * 2 + 1) (by omega))]
        rw [hev] at this
        exact this
      have hji : (j : Int) < (n : Int) := by omega
      have HX := Lib.hid (And.intro hx hsv)
      have HY := Lib.hid hys
      clear hx he hev hsv hlen2 hys
      by_cases hkx : x.1 = k
      · have q : ((x.1 : Int) == (k : Int)) = true := by simp; omega
        go_wp2
        go_roundw
        case rel =>
          refine ⟨trivial, j + 1, by omega, by go_num, x.2, ?_, Lib.hid HX.out.2⟩
          rw [settle_take HX.out.1, hkx]
          exact List.getElem?_set_self (by rw [settle_length]; exact hk)
        case measure => simp [intOf]; omega
      · have q : ((x.1 : Int) == (k : Int)) = false := by simp; omega
        have q2 : ¬ ((x.1 : Int) = (k : Int)) := by omega
        go_wp2
        go_roundw
        case rel =>
          refine ⟨trivial, j + 1, by omega, by go_num, ys, ?_, hb⟩
          rw [settle_take HX.out.1, List.getElem?_set_ne hkx]
          exact HY.out
        case measure => simp [intOf]; omega
    · obtain rfl : j = n := by omega
      have hji : decide ((j : Int) < (j : Int)) = false := by simp
      have exs : ys = xs := by
        rw [List.take_of_length_le (by rw [H.out.2.2.2.2.2.2.1]; exact Nat.le_refl _)] at hys
        have h2 := H.out.2.2.2.2.2.2.2.1
        unfold St.read at h2
        rw [h2] at hys
        cases hys
        rfl
      subst exs
      obtain ⟨Bb, cb, rfl, hin, hcb, _⟩ := hb.out
      have hw0 : wr.ownsRow wr.heap.size 5 1 (.slice none 0 0) 0 (bvs []) := ⟨rfl, .inl ⟨rfl, rfl⟩⟩
      have HI := Lib.hid hin
      clear hys hb hin
      go_wp2_with (refine wpList_app wr rfl _ _ rfl wr.heap.size none 0 0 [] rfl hw0 (some ⟨Bb, 0, none⟩) 64 cb ys rfl HI.out (fun h => by cases h) (by omega) (Nat.le_refl _) ?_; intro A' c' w' hown hbel)
      go_ret2
      rw [List.nil_append, Nat.zero_add] at hown
      exact ⟨A', c', rfl, In.of_own hown, hbel⟩

set_option maxRecDepth 100000 in
set_option maxHeartbeats 1000000 in
theorem rread_bad {w : World} {g : Nat} {F : Nat → Prop} {s : St} (z : Int) (hz : ¬ (0 ≤ z ∧ z < (s.sure.length : Int))) (h : RDisk w g F s) :
    Calls Tryd.prog 9 #[.pointer (some ⟨g, 0, none⟩), .int .i64 z] w fun e w' => e = .returned (.tuple #[.slice none 0 0, .int .i64 1]) ∧ w = w' := by
  obtain ⟨_, _, ⟨sv, lv, h⟩, _⟩ := h
  obtain ⟨⟨A, c, rfl⟩, _⟩ := h.lens
  have c0 := h.c0
  clear h
  by_cases h1 : z < 0
  · have q : decide (z < 0) = true := by simpa using h1
    go_enter Tryd.func9, Tryd.ntmps9
    go_wp2
    go_ret2
    exact ⟨rfl, rfl⟩
  · have h2 : (s.sure.length : Int) ≤ z := by omega
    have q : decide (z < 0) = false := by simpa using h1
    go_enter Tryd.func9, Tryd.ntmps9
    go_wp2
    go_ret2
    exact ⟨rfl, rfl⟩

end Go.Proofs.YtcdlocbonjgcgaaDoor
