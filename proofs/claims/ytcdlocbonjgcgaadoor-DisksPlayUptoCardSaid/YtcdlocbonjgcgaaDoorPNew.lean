/-
  The document's own disk (almonerref05): New.
-/
import Derived.Test.YtcdlocbonjgcgaaDoorPSync
namespace Go.Proofs.YtcdlocbonjgcgaaDoor
open Go.RowKit

set_option maxRecDepth 100000 in
set_option maxHeartbeats 1000000 in
theorem rnew_no (w : World) (z : Int) (h : ¬ (1 ≤ z ∧ z ≤ 4096)) :
    Calls Tryd.prog 6 #[.int .i64 z] w fun e w' => e = .returned (.tuple #[.pointer none, .int .i64 1]) ∧ w = w' := by
  by_cases h1 : z < 1
  · have h2 : decide (z < 1) = true := by simp; omega
    go_enter Tryd.func6, Tryd.ntmps6
    go_wp2
    go_ret2
    exact ⟨rfl, rfl⟩
  · have h2 : decide (z < 1) = false := by simp; omega
    have h3 : decide (4096 < z) = true := by simp; omega
    have h4 : 4096 < z := by omega
    go_enter Tryd.func6, Tryd.ntmps6
    go_wp2
    go_ret2
    exact ⟨rfl, rfl⟩

/-- A disk of the document's in new memory. -/
def RMade (w : World) (s : St) (g : Nat) (w' : World) : Prop := RDisk w' g (fun x => w.heap.size ≤ x ∧ x < w'.heap.size) s ∧ Below w.heap.size w w'

theorem infoBs2 : (Tryd.prog.info? 42).map (fun i => (i.zero, i.size, i.bytes)) = some (some (.slice none 0 0), 1, 24) := by kernel_rfl

/-- A slice of 64 bytes that is block b. -/
def sl (b : Nat) : Value := .slice (some ⟨b, 0, none⟩) 64 64

/-- j sectors are laid down, each in a block of its own. -/
structure NewAt (w wr : World) (j : Nat) (sv : Value) (bl : List Nat) : Prop where
  head : wr.heap[w.heap.size]? = some (.cells #[sv, .slice none 0 0, .int .i64 (-1), .bool false] 65 (0, 0))
  row : wr.ownsRow w.heap.size 42 1 sv j (bl.map sl)
  secs : ∀ (i b : Nat), bl[i]? = some b → BArr wr b 5 (List.replicate 64 0) ∧ w.heap.size ≤ b
  apart : ∀ (i k b : Nat), bl[i]? = some b → bl[k]? = some b → i = k
  below : Below w.heap.size w wr

theorem NewAt.drew {w wr : World} {j : Nat} {sv : Value} {bl : List Nat} (h : NewAt w wr j sv bl) : NewAt w wr.drew j sv bl :=
  ⟨h.head, own_block h.row (fun _ _ => rfl), fun i b hb => h.secs i b hb, h.apart, ⟨h.below.os, h.below.tape, h.below.output, h.below.size, h.below.block⟩⟩
theorem NewAt.ne {w wr : World} {j : Nat} {sv : Value} {bl : List Nat} (h : NewAt w wr j sv bl) : sv.ownBlock ≠ some w.heap.size := fun e => by
  obtain ⟨cur, hc⟩ := own_type h.row e
  exact block_ne h.head hc rt1 rfl
theorem NewAt.step {w wr w3 : World} {j gg cap : Nat} {sv : Value} {bl : List Nat} {o : Obj} (h : NewAt w wr j sv bl)
    (hg : ((wr.alloc (.cells nought64.toArray 5)).alloc o).grownBy w3 sv.ownBlock)
    (hown : w3.ownsRow w.heap.size 42 1 (.slice (some ⟨gg, 0, none⟩) (j + 1) cap) (j + 1) (bl.map sl ++ [.slice (some ⟨wr.heap.size, 0, none⟩) 64 64])) :
    NewAt w (w3.setCell ⟨w.heap.size, 0, none⟩ (.slice (some ⟨gg, 0, none⟩) (j + 1) cap)) (j + 1) (.slice (some ⟨gg, 0, none⟩) (j + 1) cap) (bl ++ [wr.heap.size]) := by
  have gl : w.heap.size < wr.heap.size := (Array.getElem?_eq_some_iff.1 h.head).1
  have hold : ∀ x, x < wr.heap.size → sv.ownBlock ≠ some x → w3.heap[x]? = wr.heap[x]? := fun x hx hne =>
    (hg.block x (by simp; omega) (fun e => hne e.symm)).trans ((heap_alloc_old _ o (by simp; omega)).trans (heap_alloc_old wr _ hx))
  have hnew : w3.heap[wr.heap.size]? = some (.cells nought64.toArray 5 (0, 0)) :=
    (hg.block _ (by simp; omega) (fun e => by have := own_lt h.row e.symm; omega)).trans ((heap_alloc_old _ o (by simp)).trans (World.alloc_heap_new wr _))
  have hg3 := (hold _ gl h.ne).trans h.head
  have h4 : ∀ x, x ≠ w.heap.size → (w3.setCell ⟨w.heap.size, 0, none⟩ (.slice (some ⟨gg, 0, none⟩) (j + 1) cap)).heap[x]? = w3.heap[x]? := fun x hx => heap_setCell_other w3 ⟨w.heap.size, 0, none⟩ x _ hx
  have gne : gg ≠ w.heap.size := fun e => by
    obtain ⟨cur, hc⟩ := own_type hown rfl
    rw [e] at hc
    exact block_ne hg3 hc rt1 rfl
  have hmem : ∀ (i b : Nat), bl[i]? = some b → b < wr.heap.size := fun i b hb => (h.secs i b hb).1.lt
  have hsnoc : ∀ (i b : Nat), (bl ++ [wr.heap.size])[i]? = some b → (i < bl.length ∧ bl[i]? = some b) ∨ (i = bl.length ∧ b = wr.heap.size) := fun i b hb => by
    by_cases hi : i < bl.length
    · rw [List.getElem?_append_left hi] at hb
      exact .inl ⟨hi, hb⟩
    · rw [List.getElem?_append_right (by omega)] at hb
      have h0 : i - bl.length = 0 := by have := (List.getElem?_eq_some_iff.1 hb).1; simp at this; omega
      rw [h0] at hb
      cases hb
      exact .inr ⟨by omega, rfl⟩
  refine ⟨heap_setCell_same w3 w.heap.size 0 _ _ _ hg3, ?_, fun i b hv => ?_, fun i k b hi hk => ?_, ?_⟩
  · rw [List.map_append]
    exact own_block hown (fun b e => by cases e; exact h4 _ gne)
  · rcases hsnoc i b hv with ⟨_, hb⟩ | ⟨_, rfl⟩
    · obtain ⟨hB, hle⟩ := h.secs i b hb
      refine ⟨?_, hle⟩
      have hb : b ≠ w.heap.size := (block_ne h.head hB rt3).symm
      exact ((h4 b hb).trans (hold b hB.lt (fun e => by
        obtain ⟨cur', hc'⟩ := own_type h.row e
        exact block_ne hc' hB rt5 rfl))).trans hB
    · exact ⟨(h4 _ (by omega)).trans hnew, by omega⟩
  · rcases hsnoc i b hi with ⟨_, h5⟩ | ⟨e5, h5⟩
    · rcases hsnoc k b hk with ⟨_, h6⟩ | ⟨e6, h6⟩
      · exact h.apart i k b h5 h6
      · have := hmem i b h5; omega
    · rcases hsnoc k b hk with ⟨_, h6⟩ | ⟨e6, h6⟩
      · have := hmem k b h6; omega
      · omega
  · have b1 : Below w.heap.size w ((wr.alloc (.cells nought64.toArray 5)).alloc o) := (h.below.alloc (by omega) _).alloc (by simp; omega) o
    have b2 := b1.grown hg (by simp; omega) (fun b hb => (h.row.lt b hb).1)
    exact ⟨b2.os, b2.tape, b2.output, by rw [World.size_setCell]; exact b2.size, fun x hx => (h4 x (by omega)).trans (b2.block x hx)⟩

theorem RSec.narrow {w : World} {F F' : Nat → Prop} {v : Value} {xs : List Nat} (h : RSec w F v xs) (hF : ∀ x, F x → x < w.heap.size → F' x) : RSec w F' v xs := by
  obtain ⟨B, c, e, hin, hc, hb, cur, hcur⟩ := h
  exact ⟨B, c, e, hin, hc, hF B hb (Array.getElem?_eq_some_iff.1 hcur).1, cur, hcur⟩
theorem NewAt.made {w wr : World} {n : Nat} {sv : Value} {bl : List Nat} (h : NewAt w wr n sv bl) (h0 : 0 < n) (h1 : n ≤ 4096) : RMade w (fresh (zeros n)) w.heap.size wr := by
  have gl : w.heap.size < wr.heap.size := (Array.getElem?_eq_some_iff.1 h.head).1
  refine ⟨⟨fresh_ok (zeros_sec n) (by rw [zeros_length]; exact h0) (by rw [zeros_length]; exact h1), (fun e => by cases e), ⟨sv, .slice none 0 0, ⟨h.head, ⟨bl.map sl, ?_, fun i v xs hi hx => ?_⟩, ⟨[], ⟨rfl, .inl ⟨rfl, rfl⟩⟩, rfl, fun i x e hi => by cases hi⟩, ⟨Nat.le_refl _, gl⟩, fun b e => ⟨(h.row.lt b e).1, own_lt h.row e⟩, fun b e => by cases e⟩⟩, fun x hx => hx.2⟩, h.below⟩
  · show wr.ownsRow 0 _ 1 sv (zeros n).length (bl.map sl)
    rw [zeros_length]
    exact own_base h.row
  · have hx' : (zeros n)[i]? = some xs := hx
    have : xs = List.replicate 64 0 := List.eq_of_mem_replicate (List.mem_of_getElem? hx')
    rw [this]
    rw [List.getElem?_map] at hi
    obtain ⟨b, hb, rfl⟩ := Option.map_eq_some_iff.1 hi
    obtain ⟨hB, hle⟩ := h.secs i b hb
    exact bsec hB (by simp) ⟨hle, hB.lt⟩

set_option maxRecDepth 100000 in
set_option maxHeartbeats 2000000 in
theorem rnew_at (w : World) (n : Nat) (h0 : 0 < n) (h1 : n ≤ 4096) :
    Calls Tryd.prog 6 #[.int .i64 (n : Int)] w fun e w' => e = .returned (.tuple #[.pointer (some ⟨w.heap.size, 0, none⟩), .int .i64 0]) ∧ ∃ sv bl, NewAt w w' n sv bl := by
  have h2 : decide ((n : Int) < 1) = false := by simp; omega
  have h3 : decide (4096 < (n : Int)) = false := by simp; omega
  have H0 := Lib.hid (And.intro h0 h1)
  clear h0 h1
  go_enter Tryd.func6, Tryd.ntmps6
  go_wp2
  go_loopw [5] (fun i wr => ∃ (j : Nat) (sv : Value) (bl : List Nat), j ≤ n ∧ i = .int .i64 (j : Int) ∧ Hid (NewAt w wr j sv bl)) (fun i _ => n - (intOf i).toNat)
  case atStart => exact ⟨0, .slice none 0 0, [], Nat.zero_le _, rfl, Lib.hid ⟨World.alloc_heap_new w _, ⟨rfl, .inl ⟨rfl, rfl⟩⟩, (fun i b h => by simp at h), (fun i k b h => by simp at h), below_alloc w _⟩⟩
  case round =>
    obtain ⟨j, sv, bl, hj, rfl, hrel⟩ := hrel
    have c0 : wr.cell? ⟨w.heap.size, 0, none⟩ = some sv := by rw [cell_of_row _ _ 0 _ _ (0, 0) hrel.out.head]; rfl
    by_cases hlt : j < n
    · have hji : (j : Int) < (n : Int) := by omega
      obtain ⟨i0, hi, hz0, hz1, hz2⟩ := info_parts infoBs2
      have hmk : ∀ W, (Instr.makeSlice 42 (.int .i64 64) (.int .i64 64)).run Tryd.prog W = .ok (.slice (some ⟨W.heap.size, 0, none⟩) 64 64) (W.alloc (.cells nought64.toArray 5)) := fun W => by
        have := make_bytes 64 64 (Nat.le_refl _) (by omega) W
        rw [nought64_made] at this
        exact this
      have hn := H0.out.2
      obtain ⟨A, c, rfl, _⟩ := row_form hrel.out.row
      have hrd := hrel.out.drew
      have hds : wr.drew.heap.size = wr.heap.size := rfl
      have c0a : (wr.alloc (.cells nought64.toArray 5)).cell? ⟨w.heap.size, 0, none⟩ = some (.slice A j c) := (World.cell?_of_block (heap_alloc_old wr _ (Array.getElem?_eq_some_iff.1 hrel.out.head).1)).trans c0
      have c0b : ((wr.alloc (.cells nought64.toArray 5)).alloc (.cells #[.slice (some ⟨wr.heap.size, 0, none⟩) 64 64] 42)).cell? ⟨w.heap.size, 0, none⟩ = some (.slice A j c) := (World.cell?_of_block (heap_alloc_old _ _ (by have := (Array.getElem?_eq_some_iff.1 hrel.out.head).1; simp; omega))).trans c0a
      have hcl : ∀ o w3, ((wr.drew.alloc (.cells nought64.toArray 5)).alloc o).grownBy w3 (Value.slice A j c).ownBlock → w3.cell? ⟨w.heap.size, 0, none⟩ = some (.slice A j c) ∧ w3.frozen? ⟨w.heap.size, 0, none⟩ = false := fun o w3 hg => by
        have gl : w.heap.size < wr.drew.heap.size := (Array.getElem?_eq_some_iff.1 hrd.head).1
        have hb : w3.heap[w.heap.size]? = wr.drew.heap[w.heap.size]? := (hg.block _ (by rw [World.size_alloc, World.size_alloc]; omega) (fun e => hrd.ne e.symm)).trans ((heap_alloc_old _ o (by rw [World.size_alloc]; omega)).trans (heap_alloc_old wr.drew _ gl))
        exact ⟨(World.cell?_of_block hb).trans c0, frozen_of_row _ _ 0 _ _ (hb.trans hrd.head)⟩
      have hownA : ∀ o, ((wr.drew.alloc (.cells nought64.toArray 5)).alloc o).ownsRow w.heap.size 42 1 (.slice A j c) j (bl.map sl) := fun o =>
        own_block hrd.row (fun b hb => by
          have := own_lt hrd.row hb
          exact (heap_alloc_old _ o (by rw [World.size_alloc]; omega)).trans (heap_alloc_old wr.drew _ this))
      have hbs : w.heap.size ≤ wr.drew.heap.size := hrd.below.size
      have HC := Lib.hid (And.intro hcl (And.intro hownA hrd))
      clear hcl hownA hrd
      go_wp2
      go_region_law ((refine step_append_lies _ (by rfl) _ _ _ (by rfl) w.heap.size 42 i0 _ 1 24 Tryd.underlying62 hi hz0 hz1 hz2 (by rfl) (by decide) _ j (bl.map sl) (by rfl) (HC.out.2.1 _) ⟨wr.drew.heap.size + 1, 0, none⟩ 1 1 [.slice (some ⟨wr.drew.heap.size, 0, none⟩) 64 64] (by simp [Act.eval]) (by rfl) (World.news_of_block (cs := #[.slice (some ⟨wr.drew.heap.size, 0, none⟩) 64 64]) (t := 42) (fr := (0, 0)) (by have := World.alloc_heap_new (wr.drew.alloc (.cells nought64.toArray 5)) (.cells #[.slice (some ⟨wr.drew.heap.size, 0, none⟩) 64 64] 42); rw [World.size_alloc] at this; exact this)) (by simp [Value.oneCell']) (by decide) (by unfold maxLen; omega) (by omega) (by show w.heap.size ≤ ((wr.drew.alloc _).alloc _).heap.size; rw [World.size_alloc, World.size_alloc]; omega) _ rfl ?_; intro gg cap w3 hown hgrow hat hlt2; obtain ⟨c3, f3⟩ := HC.out.1 _ w3 hgrow))
      all_goals
        have HN := Lib.hid (HC.out.2.2.step hgrow hown)
        clear hown hgrow hat
        go_wp2
        go_roundw
        case rel => exact ⟨j + 1, _, _, by omega, by go_num, HN⟩
        case measure => simp [intOf]; omega
    · obtain rfl : j = n := by omega
      have hji : decide ((j : Int) < (j : Int)) = false := by simp
      go_wp2
      go_ret2
      exact ⟨rfl, sv, bl, hrel.out⟩

theorem rnew_yes (w : World) (n : Nat) (h0 : 0 < n) (h1 : n ≤ 4096) :
    Calls Tryd.prog 6 #[.int .i64 (n : Int)] w fun e w' => ∃ g, e = .returned (.tuple #[.pointer (some ⟨g, 0, none⟩), .int .i64 0]) ∧ RMade w (fresh (zeros n)) g w' := by
  refine (rnew_at w n h0 h1).mono ?_
  rintro e w' ⟨rfl, sv, bl, h⟩
  exact ⟨_, rfl, h.made h0 h1⟩

end Go.Proofs.YtcdlocbonjgcgaaDoor
