/-
  The document's own disk (almonerref05): Write that is not let be; sync, Sync.
-/
import Derived.Test.YtcdlocbonjgcgaaDoorPWrite
namespace Go.Proofs.YtcdlocbonjgcgaaDoor
open Go.RowKit

set_option maxRecDepth 100000 in
set_option maxHeartbeats 1000000 in
theorem rwrite_bad {w : World} {g : Nat} {F : Nat → Prop} {s : St} (z : Int) (A : Option Addr) (n c : Nat) (hz : ¬ (0 ≤ z ∧ z < (s.sure.length : Int) ∧ n ≤ 64)) (h : RDisk w g F s) :
    Calls Tryd.prog 23 #[.pointer (some ⟨g, 0, none⟩), .int .i64 z, .slice A n c] w fun e w' => e = .returned (.int .i64 1) ∧ w = w' := by
  obtain ⟨_, _, ⟨sv, lv, h⟩, _⟩ := h
  obtain ⟨⟨A0, c0', rfl⟩, _⟩ := h.lens
  have c0 := h.c0
  clear h
  by_cases h1 : z < 0
  · have q : decide (z < 0) = true := by simpa using h1
    clear hz
    go_enter Tryd.func23, Tryd.ntmps23
    go_wp2
    go_ret
    exact ⟨rfl, rfl⟩
  · have q : decide (z < 0) = false := by simpa using h1
    by_cases h2 : (s.sure.length : Int) ≤ z
    · clear hz
      go_enter Tryd.func23, Tryd.ntmps23
      go_wp2
      go_ret
      exact ⟨rfl, rfl⟩
    · have h3 : 64 < n := by omega
      have h4 : (64 : Int) < (n : Int) := by omega
      have q2 : decide ((s.sure.length : Int) ≤ z) = false := by simpa using h2
      clear hz
      go_enter Tryd.func23, Tryd.ntmps23
      go_wp2
      go_ret
      exact ⟨rfl, rfl⟩

set_option maxRecDepth 100000 in
set_option maxHeartbeats 1000000 in
theorem rwrite_blow {w : World} {g : Nat} {F : Nat → Prop} {s : St} {k : Nat} (hk : k < s.sure.length) (A : Option Addr) (n c : Nat) (hn : n ≤ 64) (hl0 : s.lets = 0) (h : RDisk w g F s) :
    Calls Tryd.prog 23 #[.pointer (some ⟨g, 0, none⟩), .int .i64 (k : Int), .slice A n c] w fun e w' => e = .returned (.int .i64 9) ∧ RActed w g F s.burnt w' := by
  obtain ⟨ok, bl, ⟨sv, lv, h⟩, hl⟩ := h
  have hki : (k : Int) < (s.sure.length : Int) := by omega
  have hm := may_at ok bl h hl
  obtain ⟨⟨A0, c0', rfl⟩, A1, c1', rfl⟩ := h.lens
  have c0 := h.c0
  have hni : decide (64 < (n : Int)) = false := by simp; omega
  rw [show decide (s.lets ≠ 0) = false by simpa using hl0] at hm
  have H := Lib.hid (And.intro ok (And.intro bl hl))
  clear ok bl h hl hl0
  go_enter Tryd.func23, Tryd.ntmps23
  go_wp2_with fail
  refine hm.mono ?_
  rintro e w1 ⟨rfl, h1, hg1, hs1⟩
  go_wp2
  go_ret
  exact ⟨rfl, racted_head H.out.1.burnt H.out.2.1.burnt h1 H.out.2.2 hg1⟩

/-- The sectors, as rows in block B. -/
def Pages (w : World) (F : Nat → Prop) (B m c : Nat) (R : List (List Nat)) : Prop :=
  ∃ vals, w.ownsRow 0 42 1 (.slice (some ⟨B, 0, none⟩) m c) m vals ∧ ∀ (i : Nat) (v : Value) (xs : List Nat), vals[i]? = some v → R[i]? = some xs → RSec w F v xs
theorem Pages.cellAt {w : World} {F : Nat → Prop} {B m c k : Nat} {R : List (List Nat)} (h : Pages w F B m c R) (hk : k < m) : (∃ u, w.cell? ⟨B, k, none⟩ = some u) ∧ w.frozen? ⟨B, k, none⟩ = false := by
  obtain ⟨vals, h, _⟩ := h
  rcases h.2 with ⟨e, _⟩ | ⟨g', cap', cur, e, hb, hg, hle, hm, hs, htk⟩
  · cases e
  · cases e
    exact ⟨⟨cur[k]'(by omega), by rw [cell_of_row _ B k _ _ (0, 0) hg]; exact Array.getElem?_eq_getElem (by omega)⟩, frozen_of_row _ B k _ _ hg⟩
theorem Pages.set {w : World} {F : Nat → Prop} {B m c k : Nat} {R : List (List Nat)} (h : Pages w F B m c R) {v : Value} {xs : List Nat} (hv : RSec w F v xs) : Pages (w.setCell ⟨B, k, none⟩ v) F B m c (R.set k xs) := by
  obtain ⟨vals, h1, h2⟩ := h
  have hb : ∀ b cur, F b → w.heap[b]? = some (.cells cur 5 (0, 0)) → (w.setCell ⟨B, k, none⟩ v).heap[b]? = w.heap[b]? := fun b cur _ hc => by
    obtain ⟨cur', hc'⟩ := own_type h1 rfl
    exact heap_setCell_other w ⟨B, k, none⟩ b v (block_ne hc' hc rt5).symm
  refine ⟨vals.set k v, ?_, fun i u ys hi hy => ?_⟩
  · rcases h1.2 with ⟨e, _⟩ | ⟨g', cap', cur, e, hb, hg, hle, hm, hs, htk⟩
    · cases e
    · cases e
      refine ⟨by rw [List.length_set]; exact h1.1, .inr ⟨B, c, cur.setIfInBounds k v, rfl, hb, heap_setCell_same w B k cur _ v hg, hle, hm, by simp [hs], ?_⟩⟩
      rw [Array.toList_setIfInBounds, List.take_set, htk]
  · by_cases e : i = k
    · subst e
      have l1 := (List.getElem?_eq_some_iff.1 hi).1
      have l2 := (List.getElem?_eq_some_iff.1 hy).1
      rw [List.length_set] at l1 l2
      rw [List.getElem?_set_self l1] at hi
      rw [List.getElem?_set_self l2] at hy
      cases hi
      cases hy
      exact hv.block hb
    · rw [List.getElem?_set_ne (fun h => e h.symm)] at hi hy
      exact (h2 i u ys hi hy).block hb
theorem Pages.drew {w : World} {F : Nat → Prop} {B m c : Nat} {R : List (List Nat)} (h : Pages w F B m c R) : Pages w.drew F B m c R := by
  obtain ⟨vals, h1, h2⟩ := h
  exact ⟨vals, own_block h1 (fun _ _ => rfl), fun i v xs hi hx => (h2 i v xs hi hx).block (fun _ _ _ _ => rfl)⟩
theorem RSec.drew {w : World} {F : Nat → Prop} {v : Value} {xs : List Nat} (h : RSec w F v xs) : RSec w.drew F v xs := h.block (fun _ _ _ _ => rfl)
theorem rsync_rest {w wr : World} {g B m n c : Nat} {F : Nat → Prop} {lv : Value} {s : St} (h : RAt w F g (.slice (some ⟨B, 0, none⟩) m c) lv s) (hn : s.waits.length = n) (hm : s.sure.length = m)
    (hp : Pages wr F B m c (settle s.sure (s.waits.take n))) (hb : But (fun y => y = B) w wr) (hs : wr.heap.size = w.heap.size) :
    RAt (wr.setCell ⟨g, 1, none⟩ (.slice none 0 0)) F g (.slice (some ⟨B, 0, none⟩) m c) (.slice none 0 0) s.settled ∧ But F w (wr.setCell ⟨g, 1, none⟩ (.slice none 0 0)) ∧ (wr.setCell ⟨g, 1, none⟩ (.slice none 0 0)).heap.size = w.heap.size := by
  have hgB : g ≠ B := h.gs rfl
  rw [List.take_of_length_le (by omega)] at hp
  obtain ⟨vals, h1, h2⟩ := hp
  have hgr : wr.heap[g]? = w.heap[g]? := hb.block g (Array.getElem?_eq_some_iff.1 h.head).1 hgB
  have h6 : ∀ x, x ≠ g → (wr.setCell ⟨g, 1, none⟩ (.slice none 0 0)).heap[x]? = wr.heap[x]? := fun x hx => heap_setCell_other wr ⟨g, 1, none⟩ x _ hx
  refine ⟨⟨heap_setCell_same wr g 1 _ _ (.slice none 0 0) (hgr.trans h.head), ⟨vals, ?_, fun i v xs hi hx => ?_⟩, ⟨[], ⟨rfl, .inl ⟨rfl, rfl⟩⟩, rfl, fun i x e hi => by cases hi⟩, h.fg, h.fs, fun b e => by cases e⟩, ?_, by simp [World.setCell, hs]⟩
  · rw [show s.settled.sure.length = m from (s.read_length).trans hm]
    exact own_block h1 (fun b e => by cases e; exact h6 _ hgB.symm)
  · refine (h2 i v xs hi hx).block (fun b cur _ hc => h6 b ?_)
    have := hgr.trans h.head
    exact (block_ne this hc rt3).symm
  · exact (hb.mono (fun x _ hx => by rw [hx]; exact h.fs B rfl)).set 1 _ (fun _ => h.fg)

set_option maxRecDepth 100000 in
set_option maxHeartbeats 2000000 in
theorem rsync_at {w : World} {g : Nat} {F : Nat → Prop} {sv lv : Value} {s : St} (ok : s.Ok) (h : RAt w F g sv lv s) (hl : ∀ x, F x → x < w.heap.size) :
    Calls Tryd.prog 37 #[.pointer (some ⟨g, 0, none⟩)] w fun e w' => e = .returned (.tuple #[]) ∧ RAt w' F g sv (.slice none 0 0) s.settled ∧ But F w w' ∧ w'.heap.size = w.heap.size := by
  obtain ⟨vals, hrow, hsec⟩ := h.sure
  obtain ⟨E, hrowL, hEl, hEs⟩ := h.l
  obtain ⟨A, c, rfl, hnc, hA, hcm⟩ := row_form hrow
  obtain ⟨AL, cL, rfl, hncL, hAL, hcmL⟩ := row_form hrowL
  have hp := ok.pos
  obtain ⟨B, rfl⟩ := hA (by omega)
  obtain ⟨n, hn⟩ : ∃ n, s.waits.length = n := ⟨_, rfl⟩
  obtain ⟨m, hm⟩ : ∃ m, s.sure.length = m := ⟨_, rfl⟩
  rw [hn] at hrowL hncL hAL h hEl
  rw [hm] at hrow hnc h ⊢
  have hE2 : ∀ e ∈ E, e.length = 2 := wait_len (by omega) hEs
  have c1 := h.c1
  have f1 := h.fz 1
  have hnm : n ≤ 9223372036854775807 := Nat.le_trans hncL hcmL
  have hgB : g ≠ B := h.gs rfl
  have H := Lib.hid (And.intro h (And.intro ok (And.intro hsec (And.intro hrowL (And.intro hEl (And.intro hEs (And.intro hn (And.intro hm (And.intro hncL (And.intro hAL (And.intro hl (And.intro hE2 (And.intro hrow hgB)))))))))))))
  clear h ok hsec hrowL hEl hEs hn hm hncL hAL hl hE2 hrow hnc hcmL hcm hA hp hgB
  go_enter Tryd.func37, Tryd.ntmps37
  go_wp2
  go_loopw [2] (fun i wr => ∃ j : Nat, j ≤ n ∧ i = .int .i64 (j : Int) ∧ Hid (Pages wr F B m c (settle s.sure (s.waits.take j)) ∧ But (fun x => x = B) w wr ∧ wr.heap.size = w.heap.size)) (fun i _ => n - (intOf i).toNat)
  case atStart => exact ⟨0, Nat.zero_le _, rfl, Lib.hid ⟨⟨vals, H.out.2.2.2.2.2.2.2.2.2.2.2.2.1, H.out.2.2.1⟩, But.refl _ w, rfl⟩⟩
  case round =>
    obtain ⟨j, hj, rfl, hrel⟩ := hrel
    by_cases hlt : j < n
    · obtain ⟨gl, rfl⟩ := H.out.2.2.2.2.2.2.2.2.2.1 (by omega)
      obtain ⟨x, hx⟩ : ∃ x, s.waits[j]? = some x := ⟨_, List.getElem?_eq_getElem (by rw [H.out.2.2.2.2.2.2.1]; exact hlt)⟩
      obtain ⟨e, he⟩ : ∃ e, E[j]? = some e := ⟨_, List.getElem?_eq_getElem (by rw [H.out.2.2.2.2.1]; exact hlt)⟩
      obtain ⟨v, hev, hsv⟩ := H.out.2.2.2.2.2.1 j x e hx he
      obtain ⟨Bv, cv, rfl⟩ : ∃ Bv cv, v = .slice (some ⟨Bv, 0, none⟩) 64 cv := by obtain ⟨Bv, cv, e, _⟩ := hsv; exact ⟨Bv, cv, e⟩
      have hlen2 := H.out.2.2.2.2.2.2.2.2.2.2.2.1
      have hrowL := H.out.2.2.2.1
      have hglB : gl ≠ B := fun e => by
        obtain ⟨cur, hc⟩ := own_type hrowL rfl
        obtain ⟨cur', hc'⟩ := own_type H.out.2.2.2.2.2.2.2.2.2.2.2.2.1 rfl
        exact block_ne hc' hc rt4 e.symm
      have hgw : ∀ y, y < w.heap.size → y ≠ B → wr.heap[y]? = w.heap[y]? := fun y hy hne => hrel.out.2.1.block y hy hne
      have hglh := hgw gl (own_lt hrowL rfl) hglB
      have hgh := hgw g (Array.getElem?_eq_some_iff.1 H.out.1.head).1 H.out.2.2.2.2.2.2.2.2.2.2.2.2.2
      have c0 : wr.cell? ⟨g, 0, none⟩ = some (.slice (some ⟨B, 0, none⟩) m c) := (World.cell?_of_block hgh).trans H.out.1.c0
      have c1' : wr.cell? ⟨g, 1, none⟩ = some (.slice (some ⟨gl, 0, none⟩) n cL) := (World.cell?_of_block hgh).trans c1
      have d0 : wr.cell? ⟨gl, j * 2, none⟩ = some (.int .i64 (x.1 : Int)) := by
        have := chunk_get hlen2 he (j := 0) (by omega)
        rw [World.cell?_of_block hglh, (hrowL.cellAt (j * 2) (by omega))]
        rw [hev] at this
        exact this
      have d1 : wr.cell? ⟨gl, j * 2 + 1, none⟩ = some (.slice (some ⟨Bv, 0, none⟩) 64 cv) := by
        have := chunk_get hlen2 he (j := 1) (by omega)
        rw [World.cell?_of_block hglh, (hrowL.cellAt (j * 2 + 1) (by omega))]
        rw [hev] at this
        exact this
      have hk : x.1 < m := by rw [← H.out.2.2.2.2.2.2.2.1]; exact (H.out.2.1.wsec x (List.mem_of_getElem? hx)).1
      have hki : (x.1 : Int) < (m : Int) := by omega
      obtain ⟨⟨u0, q0⟩, q1⟩ := hrel.out.1.cellAt hk
      have hji : (j : Int) < (n : Int) := by omega
      have hsw : RSec wr F (.slice (some ⟨Bv, 0, none⟩) 64 cv) x.2 := hsv.block (fun b cur hF hc => hgw b (H.out.2.2.2.2.2.2.2.2.2.2.1 b hF) (fun e => by
        obtain ⟨cur', hc'⟩ := own_type H.out.2.2.2.2.2.2.2.2.2.2.2.2.1 rfl
        exact block_ne hc' hc rt5 e.symm))
      have HX := Lib.hid (And.intro hx hsw)
      clear hx he hev hsv hlen2 hrowL hglB hgw hglh hgh hsw c1 f1
      go_wp2
      go_still_tail 21, (by kernel_rfl)
      have hP : Pages (wr.drew.setCell ⟨B, x.1, none⟩ (.slice (some ⟨Bv, 0, none⟩) 64 cv)) F B m c (settle s.sure (s.waits.take (j + 1))) := by
        rw [settle_take HX.out.1]
        exact Pages.set (w := wr.drew) hrel.out.1.drew HX.out.2.drew
      have hbut : But (fun y => y = B) w (wr.drew.setCell ⟨B, x.1, none⟩ (.slice (some ⟨Bv, 0, none⟩) 64 cv)) := hrel.out.2.1.drew.set x.1 _ (fun _ => rfl)
      have hsz : (wr.drew.setCell ⟨B, x.1, none⟩ (.slice (some ⟨Bv, 0, none⟩) 64 cv)).heap.size = w.heap.size := by rw [← hrel.out.2.2]; exact (show (wr.drew.setCell _ _).heap.size = wr.heap.size by simp [World.setCell])
      have HN := Lib.hid (And.intro hP (And.intro hbut hsz))
      clear hP hbut hsz
      go_wp2
      go_roundw
      case rel => exact ⟨j + 1, by omega, by go_num, HN⟩
      case measure => simp [intOf]; omega
    · obtain rfl : j = n := by omega
      have hji : decide ((j : Int) < (j : Int)) = false := by simp
      have hgr : wr.heap[g]? = w.heap[g]? := hrel.out.2.1.block g (Array.getElem?_eq_some_iff.1 H.out.1.head).1 H.out.2.2.2.2.2.2.2.2.2.2.2.2.2
      have c1' : wr.cell? ⟨g, 1, none⟩ = some (.slice AL j cL) := (World.cell?_of_block hgr).trans c1
      have f1' : wr.frozen? ⟨g, 1, none⟩ = false := (World.frozen?_of_block hgr).trans f1
      clear c1 f1
      go_wp2
      go_end0
      refine ⟨rfl, rsync_rest H.out.1 H.out.2.2.2.2.2.2.1 H.out.2.2.2.2.2.2.2.1 hrel.out.1 hrel.out.2.1 hrel.out.2.2⟩

theorem Blows.settled {s : St} (h : Blows s) : Blows s.settled := h

set_option maxRecDepth 100000 in
set_option maxHeartbeats 1000000 in
theorem rsync_any {w : World} {g : Nat} {F : Nat → Prop} {s : St} (hl0 : s.lets ≠ 0) (h : RDisk w g F s) :
    Calls Tryd.prog 13 #[.pointer (some ⟨g, 0, none⟩)] w fun e w' => e = .returned (.int .i64 0) ∧ RActed w g F s.burnt.settled w' := by
  obtain ⟨ok, bl, ⟨sv, lv, h⟩, hl⟩ := h
  have hm := may_at ok bl h hl
  rw [show decide (s.lets ≠ 0) = true by simpa using hl0] at hm
  have H := Lib.hid (And.intro ok (And.intro bl (And.intro h hl)))
  clear ok bl h hl hl0
  go_enter Tryd.func13, Tryd.ntmps13
  go_wp2_with fail
  refine hm.mono ?_
  rintro e w1 ⟨rfl, h1, hg1, hs1⟩
  have hl1 : ∀ x, F x → x < w1.heap.size := fun x hx => by have := H.out.2.2.2 x hx; omega
  have C := rsync_at H.out.1.burnt h1 hl1
  have HG := Lib.hid (And.intro hg1 hs1)
  clear hm hg1 hs1 hl1
  go_wp2_with fail
  refine C.mono ?_
  rintro e w2 ⟨rfl, h2, hb2, hs2⟩
  clear C
  go_wp2
  go_ret
  refine ⟨rfl, F, ⟨H.out.1.burnt.settled, H.out.2.1.burnt.settled, ⟨sv, _, h2⟩, fun x hx => ?_⟩, ?_, fun x hx => .inl hx⟩
  · have := H.out.2.2.2 x hx
    have := HG.out.2
    omega
  · exact ((But.refl F w).grown HG.out.1 (fun k e _ => by cases e; exact H.out.2.2.1.fg)).trans hb2

set_option maxRecDepth 100000 in
set_option maxHeartbeats 1000000 in
theorem rsync_blow {w : World} {g : Nat} {F : Nat → Prop} {s : St} (hl0 : s.lets = 0) (h : RDisk w g F s) :
    Calls Tryd.prog 13 #[.pointer (some ⟨g, 0, none⟩)] w fun e w' => e = .returned (.int .i64 9) ∧ RActed w g F s.burnt w' := by
  obtain ⟨ok, bl, ⟨sv, lv, h⟩, hl⟩ := h
  have hm := may_at ok bl h hl
  rw [show decide (s.lets ≠ 0) = false by simpa using hl0] at hm
  have H := Lib.hid (And.intro ok (And.intro bl hl))
  clear ok bl h hl hl0
  go_enter Tryd.func13, Tryd.ntmps13
  go_wp2_with fail
  refine hm.mono ?_
  rintro e w1 ⟨rfl, h1, hg1, hs1⟩
  go_wp2
  go_ret
  exact ⟨rfl, racted_head H.out.1.burnt H.out.2.1.burnt h1 H.out.2.2 hg1⟩

end Go.Proofs.YtcdlocbonjgcgaaDoor
