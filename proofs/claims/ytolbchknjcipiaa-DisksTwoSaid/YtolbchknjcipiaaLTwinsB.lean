/-
  TwinByteLists: copies in memory of their own, a mark behind each, and behind all.
-/
import Derived.Test.YtolbchknjcipiaaLTwinB
import Derived.Test.YtolbchknjcipiaaLTot
namespace Go.Proofs.Ytolbchknjcipiaa
open Go.RowKit

/-- The slices of copies of rows that lie in the blocks bl. -/
structure Vals (bl : List Nat) (rows : List (List Nat)) (vals : List Value) : Prop where
  len : vals.length = bl.length
  at_ : ∀ (i b : Nat) (xs : List Nat), bl[i]? = some b → rows[i]? = some xs → vals[i]? = some (Value.slice (some ⟨b, 0, none⟩) xs.length (xs.length + 1))
  one : ∀ v ∈ vals, v.oneCell' = true
theorem Vals.snoc {bl : List Nat} {rows : List (List Nat)} {vals : List Value} {b : Nat} {xs : List Nat} (h : Vals bl rows vals) (hx : rows[bl.length]? = some xs) : Vals (bl ++ [b]) rows (vals ++ [Value.slice (some ⟨b, 0, none⟩) xs.length (xs.length + 1)]) := by
  refine ⟨by rw [List.length_append, List.length_append, h.len]; rfl, fun i b' xs' hb hx' => ?_, fun v hv => ?_⟩
  · rw [List.getElem?_append] at hb ⊢
    by_cases hi : i < bl.length
    · rw [if_pos hi] at hb
      rw [if_pos (by rw [h.len]; exact hi)]
      exact h.at_ i b' xs' hb hx'
    · rw [if_neg hi] at hb
      rw [if_neg (by rw [h.len]; exact hi)]
      have h0 : i - bl.length = 0 := by have := (List.getElem?_eq_some_iff.1 hb).1; simp at this; omega
      have hi2 : i = bl.length := by omega
      rw [h0] at hb
      rw [h.len, h0]
      simp at hb
      subst hi2
      rw [hx] at hx'
      cases hx'
      rw [← hb]
      rfl
  · rcases List.mem_append.1 hv with h1 | h1
    · exact h.one v h1
    · simp at h1; subst h1; rfl

/-- Copies of rows lie in the blocks bl, which are behind g. -/
def Copies (w : World) (g : Nat) (bl : List Nat) (rows : List (List Nat)) : Prop := ∀ (i b : Nat) (xs : List Nat), bl[i]? = some b → rows[i]? = some xs → g < b ∧ Twin w b xs.length xs
theorem Copies.keep {w w' : World} {g : Nat} {bl : List Nat} {rows : List (List Nat)} (h : Copies w g bl rows) (hk : ∀ k, k < w.heap.size → k ≠ g → w'.heap[k]? = w.heap[k]?) : Copies w' g bl rows := fun i b xs hb hx =>
  have h1 := h i b xs hb hx
  ⟨h1.1, h1.2.1, (hk b h1.2.lt (Nat.ne_of_gt h1.1)).trans h1.2.2⟩
theorem Copies.snoc {w : World} {g b : Nat} {bl : List Nat} {rows : List (List Nat)} {xs : List Nat} (h : Copies w g bl rows) (hx : rows[bl.length]? = some xs) (hb : g < b) (ht : Twin w b xs.length xs) : Copies w g (bl ++ [b]) rows := fun i b' xs' hb' hx' => by
  rw [List.getElem?_append] at hb'
  by_cases hi : i < bl.length
  · rw [if_pos hi] at hb'
    exact h i b' xs' hb' hx'
  · rw [if_neg hi] at hb'
    have h0 : i - bl.length = 0 := by have := (List.getElem?_eq_some_iff.1 hb').1; simp at this; omega
    have hi2 : i = bl.length := by omega
    rw [h0] at hb'
    simp at hb'
    subst hi2
    rw [hx] at hx'
    cases hx'
    subst hb'
    exact ⟨hb, ht⟩

/-- '.slice g n (n + 1)' holds copies of rows, and behind them a slice of the mark. -/
structure Twins (w : World) (g : Nat) (rows : List (List Nat)) : Prop where
  some_ : ∃ (bl : List Nat) (vals : List Value) (h : Nat), bl.length = rows.length ∧ Vals bl rows vals ∧ Copies w g bl rows ∧ w.heap[g]? = some (.cells (vals ++ [Value.slice (some ⟨h, 0, none⟩) 1 1]).toArray 22 (0, 0)) ∧ w.cell? ⟨h, 0, none⟩ = some (.int .u8 77) ∧ bl.Nodup
theorem Twins.below {w w' : World} {g : Nat} {rows : List (List Nat)} (h : Twins w g rows) (hb : Below w.heap.size w w') : Twins w' g rows := by
  obtain ⟨bl, vals, k, h1, h2, h3, h4, h5, h6⟩ := h.some_
  exact ⟨bl, vals, k, h1, h2, h3.keep fun k hk _ => hb.block k hk, (hb.block g (Array.getElem?_eq_some_iff.1 h4).1).trans h4, (hb.cell (World.block_lt_of_cell? w _ h5)).trans h5, h6⟩
theorem Twins.row {w : World} {g : Nat} {rows : List (List Nat)} (h : Twins w g rows) {i : Nat} {xs : List Nat} (hx : rows[i]? = some xs) : ∃ b, w.cell? ⟨g, i, none⟩ = some (.slice (some ⟨b, 0, none⟩) xs.length (xs.length + 1)) ∧ Twin w b xs.length xs := by
  obtain ⟨bl, vals, k, h1, h2, h3, h4, h5, _⟩ := h.some_
  have hi := (List.getElem?_eq_some_iff.1 hx).1
  have hb : bl[i]? = some bl[i] := List.getElem?_eq_getElem (by omega)
  refine ⟨bl[i], ?_, (h3 i _ xs hb hx).2⟩
  rw [cell_of_row _ g i _ _ (0, 0) h4, List.getElem?_toArray, List.getElem?_append_left (by rw [h2.len]; omega)]
  exact h2.at_ i _ xs hb hx
theorem Twins.last {w : World} {g : Nat} {rows : List (List Nat)} (h : Twins w g rows) : ∃ k, w.cell? ⟨g, rows.length, none⟩ = some (.slice (some ⟨k, 0, none⟩) 1 1) ∧ w.cell? ⟨k, 0, none⟩ = some (.int .u8 77) := by
  obtain ⟨bl, vals, k, h1, h2, h3, h4, h5, _⟩ := h.some_
  refine ⟨k, ?_, h5⟩
  rw [cell_of_row _ g _ _ _ (0, 0) h4, List.getElem?_toArray, List.getElem?_append_right (by rw [h2.len]; omega), h2.len, h1, Nat.sub_self]
  rfl
theorem Twins.rows {w : World} {g : Nat} {rows : List (List Nat)} (h : Twins w g rows) (hl : ∀ xs ∈ rows, (∀ x ∈ xs, x < 256) ∧ xs.length ≤ 140737488355328) : CameRows w (some ⟨g, 0, none⟩) rows.length rows :=
  ⟨rfl, fun r xs hx => by
    obtain ⟨b, hc, ht⟩ := h.row hx
    have := hl xs (List.mem_of_getElem? hx)
    refine ⟨_, _, _, _, rfl, ?_, ⟨ht.in_, this.1, (fun h => by cases h), Nat.le_succ _⟩, this.2⟩
    rw [show (⟨g, 0, none⟩ : Addr).add r = ⟨g, r, none⟩ from by unfold Addr.add; split <;> simp_all]
    exact hc⟩

theorem infoSlice : (Try.prog.info? 22).map (fun i => (i.zero, i.size, i.bytes)) = some (some (.slice none 0 0), 1, 24) := by kernel_rfl

set_option maxRecDepth 100000 in
set_option maxHeartbeats 2000000 in
theorem twinLists_any (Ao : Option Addr) (no co : Nat) (rows : List (List Nat)) (w : World) (hr : CameRows w Ao no rows) (hno : no ≤ 1000) (ht : tot rows ≤ 1000000) :
    Calls Try.prog 25 #[.slice Ao no co] w fun e w' => e = .returned (.slice (some ⟨w.heap.size, 0, none⟩) no (no + 1)) ∧ Twins w' w.heap.size rows ∧ Below w.heap.size w w' := by
  obtain ⟨i0, hi, hz0, hz1, hz2⟩ := info_parts infoSlice
  have hm : no + 1 ≤ maxLen := by unfold maxLen; omega
  go_enter Try.func25, Try.ntmps25
  go_wp2_with (at_make; refine wpList_make_own _ rfl _ _ 44 rfl w.heap.size 22 i0 _ 1 Try.underlying44 hi hz0 hz1 _ _ _ (no + 1) rfl rfl (by omega) (by rw [hz2]; omega) hm (Nat.le_refl _) ?_; intro w1 hown1 hgrow1)
  have hb1 : Below w.heap.size w w1 := (Below.refl _ w).grown hgrow1 (Nat.le_refl _) (fun k hk => by cases hk)
  have hs1 : w.heap.size < w1.heap.size := by
    rcases hown1.2 with ⟨e, _⟩ | ⟨g, cap, cur, e, _, hg, _⟩
    · cases e
    · cases e; exact (Array.getElem?_eq_some_iff.1 hg).1
  go_loopw [3, 4] (fun t i wr => ∃ (bl : List Nat) (vals : List Value), bl.length ≤ no ∧ i = .int .i64 (bl.length : Int) ∧ t = .slice (some ⟨w.heap.size, 0, none⟩) bl.length (no + 1) ∧
      wr.ownsRow w.heap.size 22 1 (.slice (some ⟨w.heap.size, 0, none⟩) bl.length (no + 1)) bl.length vals ∧ Vals bl rows vals ∧ Copies wr w.heap.size bl rows ∧ Below w.heap.size w wr ∧ w.heap.size < wr.heap.size ∧ bl.Nodup) (fun _ i _ => no - (intOf i).toNat)
  case atStart => exact ⟨[], [], Nat.zero_le _, rfl, rfl, hown1, ⟨rfl, fun _ _ _ h => by simp at h, fun _ h => by simp at h⟩, (fun _ _ _ h => by simp at h), hb1, hs1, List.nodup_nil⟩
  case round =>
    obtain ⟨bl, vals, hj, rfl, rfl, hown, hv, hc, hbw, hsz, hnd⟩ := hrel
    have HND := Lib.hid hnd
    clear hnd
    obtain ⟨j, hjl⟩ : ∃ j, bl.length = j := ⟨_, rfl⟩
    rw [hjl] at hj hown ⊢
    by_cases hlt : j < no
    · obtain ⟨xs, hxs⟩ : ∃ xs, rows[j]? = some xs := ⟨_, List.getElem?_eq_getElem (by rw [hr.len]; exact hlt)⟩
      obtain ⟨ad, A, n, c, rfl, hcell0, hcame, hnn⟩ := hr.row j xs hxs
      have hcell : wr.cell? (ad.add j) = some (.slice A n c) := (hbw.cell (World.block_lt_of_cell? w _ hcell0)).trans hcell0
      have hnl := hcame.in_.len
      have hn1 : n ≤ 1000000 := by
        have := tot_take rows (j + 1)
        rw [rows_snoc hxs, tot_snoc, hnl] at this
        omega
      have C := Lib.hid (twinBytes_any A n c xs wr (hcame.in_.below hbw) (by omega))
      have HX := Lib.hid (And.intro hxs (And.intro hnl hjl))
      have hnd2 : (bl ++ [wr.heap.size]).Nodup := by
        rw [List.nodup_append]
        refine ⟨HND.out, by simp, fun a ha b hb => ?_⟩
        rw [List.mem_singleton] at hb
        obtain ⟨i, hi⟩ := List.mem_iff_getElem?.1 ha
        have hil := (List.getElem?_eq_some_iff.1 hi).1
        have hlt2 := (hc i a (rows[i]'(by rw [hr.len]; omega)) hi (List.getElem?_eq_getElem _)).2.lt
        omega
      have HND2 := Lib.hid hnd2
      have HO := Lib.hid (And.intro hown (And.intro hv (And.intro hc hbw)))
      have hji : (j : Int) < (no : Int) := by omega
      clear hxs hcell0 hcame hnl hjl hown hv hc hbw hown1 hb1 hgrow1 hs1 hnd2
      go_wp2_with fail
      refine C.out.mono ?_
      rintro e w2 ⟨rfl, ht2, hb2⟩
      have own2 : w2.ownsRow w.heap.size 22 1 (.slice (some ⟨w.heap.size, 0, none⟩) j (no + 1)) j vals := HO.out.1.kept (row := none) ⟨hb2.os, hb2.tape, hb2.output, hb2.size, fun k hk _ => hb2.block k hk⟩ (.inr (by simp [Value.ownBlock]))
      have H2 := Lib.hid (And.intro own2 (And.intro ht2 hb2))
      have hs2 := hb2.size
      clear own2 ht2 hb2 C hcell
      go_wp2_with (at_builtin; refine wpList_append_fits _ rfl _ _ 44 rfl w.heap.size 22 i0 1 Try.underlying44 hi hz1 w.heap.size j (no + 1) _ rfl (H2.out.1.alloc _) ⟨w2.heap.size, 0, none⟩ 1 1 [.slice (some ⟨wr.heap.size, 0, none⟩) n (n + 1)] rfl rfl (cell_one_new _ _ _) (by simp [Value.oneCell']) (by omega) ?_; intro w3 hown3 hgrow3)
      have hk3 : ∀ k, k < w2.heap.size → k ≠ w.heap.size → w3.heap[k]? = w2.heap[k]? := fun k hk hne => (hgrow3.block k (by simp; omega) (by simpa [Value.ownBlock] using hne)).trans (heap_alloc_old w2 _ hk)
      have hs3 : w2.heap.size ≤ w3.heap.size := by have := hgrow3.size; simp at this; omega
      have b3 : Below w.heap.size w w3 := ((below_on HO.out.2.2.2 (Nat.le_refl _) H2.out.2.2).alloc (by omega) _).grown hgrow3 (by simp; omega) (fun k hk => by cases hk; exact Nat.le_refl _)
      have c3 : Copies w3 w.heap.size (bl ++ [wr.heap.size]) rows := by
        refine Copies.snoc (xs := xs) (HO.out.2.2.1.keep fun k hk hne => (hk3 k (by omega) hne).trans (H2.out.2.2.block k hk)) (by rw [HX.out.2.2]; exact HX.out.1) (by omega) ?_
        rw [HX.out.2.1]
        exact ⟨HX.out.2.1, (hk3 _ (by have := H2.out.2.1.lt; omega) (by omega)).trans H2.out.2.1.2⟩
      have v3 := HO.out.2.1.snoc (b := wr.heap.size) (by rw [HX.out.2.2]; exact HX.out.1)
      rw [HX.out.2.1] at v3
      have H3 := Lib.hid (And.intro hown3 (And.intro v3 (And.intro c3 b3)))
      clear hown3 v3 c3 b3 hk3 hgrow3
      go_roundw
      case rel =>
        have hl1 : (bl ++ [wr.heap.size]).length = j + 1 := by rw [List.length_append, HX.out.2.2]; rfl
        exact ⟨bl ++ [wr.heap.size], _, by rw [hl1]; omega, by rw [hl1]; go_num, by rw [hl1], by rw [hl1]; exact H3.out.1, H3.out.2.1, H3.out.2.2.1, H3.out.2.2.2, by omega, HND2.out⟩
      case measure => simp [intOf]; omega
    · obtain rfl : j = no := by omega
      have hji : decide ((j : Int) < (j : Int)) = false := by simp
      have HX := Lib.hid hjl
      have HO := Lib.hid (And.intro hown (And.intro hv (And.intro hc hbw)))
      clear hjl hown hv hc hbw hown1 hb1 hgrow1 hs1
      go_wp2_with (at_builtin; refine wpList_append_fits _ rfl _ _ 44 rfl w.heap.size 22 i0 1 Try.underlying44 hi hz1 w.heap.size j (j + 1) _ rfl ((HO.out.1.alloc _).alloc _) ⟨wr.heap.size + 1, 0, none⟩ 1 1 [.slice (some ⟨wr.heap.size, 0, none⟩) 1 1] rfl rfl (by have := cell_one_new (wr.alloc (.cells #[.int .u8 77] 5)) (.slice (some ⟨wr.heap.size, 0, none⟩) 1 1) 22; rw [World.size_alloc] at this; exact this) (by simp [Value.oneCell']) (by omega) ?_; intro w3 hown3 hgrow3)
      have hk3 : ∀ k, k < wr.heap.size + 2 → k ≠ w.heap.size → w3.heap[k]? = ((wr.alloc (.cells #[.int .u8 77] 5)).alloc (.cells #[.slice (some ⟨wr.heap.size, 0, none⟩) 1 1] 22)).heap[k]? := fun k hk hne => hgrow3.block k (by simp; omega) (by simpa [Value.ownBlock] using hne)
      have b3 : Below w.heap.size w w3 := ((HO.out.2.2.2.alloc (by omega) _).alloc (by simp; omega) _).grown hgrow3 (by simp; omega) (fun k hk => by cases hk; exact Nat.le_refl _)
      have h0 : (wr.alloc (.cells #[.int .u8 77] 5)).heap[wr.heap.size]? = some (.cells #[.int .u8 77] 5 (0, 0)) := World.alloc_heap_new wr _
      have h1 : w3.heap[wr.heap.size]? = some (.cells #[.int .u8 77] 5 (0, 0)) := (hk3 _ (by omega) (by omega)).trans ((heap_alloc_old _ _ (by rw [World.size_alloc]; omega)).trans h0)
      have hrl := hr.len
      go_ret
      refine ⟨rfl, ⟨bl, vals, wr.heap.size, by rw [HX.out, hrl], HO.out.2.1, HO.out.2.2.1.keep fun k hk hne => (hk3 k (by omega) hne).trans ((heap_alloc_old _ _ (by rw [World.size_alloc]; omega)).trans (heap_alloc_old _ _ hk)), ?_, (cell_of_row _ _ 0 _ _ (0, 0) h1).trans rfl, HND.out⟩, b3⟩
      rcases hown3.2 with ⟨e1, _⟩ | ⟨g, cap, cur, e1, _, hg, _, _, hs, ht⟩
      · cases e1
      · cases e1
        rw [hg]
        rw [List.take_of_length_le (by rw [Array.length_toList, hs]; exact Nat.le_refl _)] at ht
        rw [← ht]

end Go.Proofs.Ytolbchknjcipiaa
