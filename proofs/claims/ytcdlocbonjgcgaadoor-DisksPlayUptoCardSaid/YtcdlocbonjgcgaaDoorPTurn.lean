/-
  The document's own disk (almonerref05): Turn.
-/
import Derived.Test.YtcdlocbonjgcgaaDoorPSync
namespace Go.Proofs.YtcdlocbonjgcgaaDoor
open Go.RowKit

theorem fresh_row {w : World} {base c : Nat} {A : Option Addr} {xs : List Nat} (h : w.ownsRow base 5 1 (.slice A (0 + 64) c) (0 + 64) (bvs ([] ++ xs))) (hl : xs.length = 64) :
    ∃ Bs, A = some ⟨Bs, 0, none⟩ ∧ base ≤ Bs ∧ 64 ≤ c ∧ (∃ cur, w.heap[Bs]? = some (.cells cur 5 (0, 0))) ∧ ∀ k, k < 64 → w.cell? ⟨Bs, k, none⟩ = some (.int .u8 ((xs.getD k 0 : Nat) : Int)) ∧ w.frozen? ⟨Bs, k, none⟩ = false := by
  rw [List.nil_append, Nat.zero_add] at h
  have h' := h
  rcases h'.2 with ⟨_, e⟩ | ⟨Bs, cap, cur, e, hb, hg, hc, _⟩
  · cases e
  · cases e
    refine ⟨Bs, rfl, hb, hc, ⟨cur, hg⟩, fun k hk => ⟨?_, frozen_of_row _ Bs k _ _ hg⟩⟩
    rw [h.cellAt k (by omega), bvs_get, List.getElem?_eq_getElem (by omega), List.getD_eq_getElem?_getD, List.getElem?_eq_getElem (by omega)]
    rfl

theorem own_setQ {w : World} {base g n cap size k : Nat} {e : TypeId} {xs : List Value} (u : Value) (h : w.ownsRow base e size (.slice (some ⟨g, 0, none⟩) n cap) n xs) : (w.setCell ⟨g, k, none⟩ u).ownsRow base e size (.slice (some ⟨g, 0, none⟩) n cap) n (xs.set k u) := by
  rcases h.2 with ⟨e, _⟩ | ⟨g', cap', cur, e, hb, hg, hle, hm, hs, htk⟩
  · cases e
  · cases e
    refine ⟨by rw [List.length_set]; exact h.1, .inr ⟨g, cap, cur.setIfInBounds k u, rfl, hb, heap_setCell_same w g k cur _ u hg, hle, hm, by simp [hs], ?_⟩⟩
    rw [Array.toList_setIfInBounds, List.take_set, htk]

theorem Pages.below {w w' : World} {F : Nat → Prop} {B m c : Nat} {R : List (List Nat)} (h : Pages w F B m c R) (hF : ∀ x, F x → x < w.heap.size) (hb : ∀ x, x < w.heap.size → w'.heap[x]? = w.heap[x]?) : Pages w' F B m c R := by
  obtain ⟨vals, h1, h2⟩ := h
  exact ⟨vals, own_block h1 (fun b e => hb b (own_lt h1 e)), fun i v xs hi hx => (h2 i v xs hi hx).block (fun b _ hf _ => hb b (hF b hf))⟩
theorem Pages.mono {w : World} {F F' : Nat → Prop} {B m c : Nat} {R : List (List Nat)} (h : Pages w F B m c R) (hF : ∀ x, F x → F' x) : Pages w F' B m c R := by
  obtain ⟨vals, h1, h2⟩ := h
  exact ⟨vals, h1, fun i v xs hi hx => (h2 i v xs hi hx).mono hF⟩

theorem rturn_rest {w w1 w2 : World} {g B Bs m c c' n k y x : Nat} {F : Nat → Prop} {s : St} {xs : List Nat} (ok : s.Ok) (bl : Blows s) (hl : ∀ x, F x → x < w.heap.size)
    (h1 : RAt w1 F g (.slice (some ⟨B, 0, none⟩) m c) (.slice none 0 0) s.settled) (hb1 : But F w w1) (hs1 : w1.heap.size = w.heap.size)
    (hown : w2.ownsRow w1.heap.size 5 1 (.slice (some ⟨Bs, 0, none⟩) (0 + 64) c') (0 + 64) (bvs ([] ++ xs))) (hbel : Below w1.heap.size w1 w2) (hBs : w1.heap.size ≤ Bs) (hcc : 64 ≤ c')
    (hn : n < s.sure.length) (hm : s.sure.length = m) (hx : s.read[n]? = some xs) (hxx : xs.getD k 0 = x) (hy : y < 256) :
    RActed w g F (s.turned n k y) ((w2.setCell ⟨Bs, k, none⟩ (.int .u8 ((x ^^^ y : Nat) : Int))).setCell ⟨B, n, none⟩ (.slice (some ⟨Bs, 0, none⟩) 64 c')) := by
  have hsz : ∀ v, ((w2.setCell ⟨Bs, k, none⟩ (.int .u8 ((x ^^^ y : Nat) : Int))).setCell ⟨B, n, none⟩ v).heap.size = w2.heap.size := fun v => by simp
  rw [List.nil_append, Nat.zero_add] at hown
  have h3 : ∀ z, z < w1.heap.size → (w2.setCell ⟨Bs, k, none⟩ (.int .u8 ((x ^^^ y : Nat) : Int))).heap[z]? = w1.heap[z]? := fun z hz => (heap_setCell_other w2 ⟨Bs, k, none⟩ z _ (by show z ≠ Bs; omega)).trans (hbel.block z hz)
  have hlt1 : ∀ x, F x → x < w1.heap.size := fun x hx => by have := hl x hx; omega
  have hBl : Bs < w2.heap.size := own_lt hown rfl
  have hFB : F B := h1.fs B rfl
  have hgl : g < w1.heap.size := hlt1 g h1.fg
  have hgB : g ≠ B := h1.gs rfl
  have hF' : ∀ x, F x → (F x ∨ (w.heap.size ≤ x ∧ x < w2.heap.size)) := fun x hx => .inl hx
  have hP1 : Pages w1 F B m c s.read := by
    obtain ⟨vals, e1, e2⟩ := h1.sure
    rw [show s.settled.sure.length = m from (s.read_length).trans hm] at e1
    exact ⟨vals, e1, e2⟩
  have hP3 := (hP1.below hlt1 h3).mono hF'
  have ho3 := own_setQ (k := k) (.int .u8 ((x ^^^ y : Nat) : Int)) hown
  have hbv : (bvs xs).set k (.int .u8 ((x ^^^ y : Nat) : Int)) = bvs (turnAt xs k y) := by rw [turnAt, hxx, ← bvs_set]; rfl
  rw [hbv] at ho3
  have hV : RSec (w2.setCell ⟨Bs, k, none⟩ (.int .u8 ((x ^^^ y : Nat) : Int))) (fun x => F x ∨ (w.heap.size ≤ x ∧ x < w2.heap.size)) (.slice (some ⟨Bs, 0, none⟩) 64 c') (turnAt xs k y) := by
    obtain ⟨cur, hc⟩ := own_type ho3 rfl
    exact ⟨Bs, c', rfl, In.of_own ho3, hcc, .inr ⟨by omega, hBl⟩, cur, hc⟩
  have hP4 := Pages.set (k := n) hP3 hV
  have e0 : (s.turned n k y).sure = s.read.set n (turnAt xs k y) := by
    show s.read.set n (turnAt (s.read.getD n []) k y) = _
    rw [List.getD_eq_getElem?_getD, hx]
    rfl
  have h4 : ∀ z, z ≠ B → ((w2.setCell ⟨Bs, k, none⟩ (.int .u8 ((x ^^^ y : Nat) : Int))).setCell ⟨B, n, none⟩ (.slice (some ⟨Bs, 0, none⟩) 64 c')).heap[z]? = (w2.setCell ⟨Bs, k, none⟩ (.int .u8 ((x ^^^ y : Nat) : Int))).heap[z]? := fun z hz => heap_setCell_other _ ⟨B, n, none⟩ z _ hz
  refine ⟨fun x => F x ∨ (w.heap.size ≤ x ∧ x < w2.heap.size), ⟨ok.turned hn hy, bl, ⟨_, .slice none 0 0, ⟨((h4 g hgB).trans (h3 g hgl)).trans h1.head, ?_, ⟨[], ⟨rfl, .inl ⟨rfl, rfl⟩⟩, rfl, fun i x e hi => by cases hi⟩, .inl h1.fg, fun b e => .inl (h1.fs b e), fun b e => by cases e⟩⟩, fun x hx => ?_⟩, ?_, fun x hx => ?_⟩
  · obtain ⟨vals, e1, e2⟩ := hP4
    refine ⟨vals, ?_, ?_⟩
    · rw [e0, List.length_set, s.read_length, hm]
      exact e1
    · rw [e0]
      exact e2
  · rw [hsz]
    have := hbel.size
    rcases hx with hx | hx
    · have := hlt1 x hx; omega
    · exact hx.2
  · exact ((hb1.trans (But.of_below hbel)).set (b := Bs) k _ (fun h => by omega)).set n _ (fun _ => hFB)
  · rcases hx with hx | hx
    · exact .inl hx
    · exact .inr hx.1

set_option maxRecDepth 100000 in
set_option maxHeartbeats 2000000 in
theorem rturn_any {w : World} {g : Nat} {F : Nat → Prop} {s : St} {n k y : Nat} {xs : List Nat} (hx : s.read[n]? = some xs) (hk : k < 64) (hy : y < 256) (hbl : s.blown = false) (h : RDisk w g F s) :
    Calls Tryd.prog 21 #[.pointer (some ⟨g, 0, none⟩), .int .i64 (n : Int), .int .i64 (k : Int), .int .u8 (y : Int)] w fun e w' => e = .returned (.int .i64 0) ∧ RActed w g F (s.turned n k y) w' := by
  obtain ⟨ok, bl, ⟨sv, lv, h⟩, hl⟩ := h
  have hn : n < s.sure.length := by have := (List.getElem?_eq_some_iff.1 hx).1; rwa [s.read_length] at this
  have hni : (n : Int) < (s.sure.length : Int) := by omega
  have hki : (k : Int) < 64 := by omega
  obtain ⟨⟨A, c, rfl⟩, AL, cL, rfl⟩ := h.lens
  have c0 := h.c0
  have c3 := h.c3
  rw [hbl] at c3
  have C := rsync_at ok h hl
  have H := Lib.hid (And.intro ok (And.intro bl (And.intro h (And.intro hl (And.intro hx (And.intro hk (And.intro hy hbl)))))))
  clear ok bl h hl hx hk hy hbl
  go_enter Tryd.func21, Tryd.ntmps21
  go_wp2_with fail
  refine C.mono ?_
  rintro e w1 ⟨rfl, h1, hb1, hs1⟩
  clear C
  have hlen : s.settled.sure.length = s.sure.length := s.read_length
  obtain ⟨vals, hrow, hsec⟩ := h1.sure
  rw [hlen] at hrow
  obtain ⟨B, rfl⟩ : ∃ B, A = some ⟨B, 0, none⟩ := by
    obtain ⟨_, _, e, _, hA, _⟩ := row_form hrow
    injection e with e1 e2 e3
    obtain ⟨g', hg'⟩ := hA (by omega)
    exact ⟨g', by rw [e1, hg']⟩
  obtain ⟨v0, hv0⟩ : ∃ v0, vals[n]? = some v0 := ⟨_, List.getElem?_eq_getElem (by rw [hrow.1]; omega)⟩
  have hs0 := hsec n v0 xs hv0 H.out.2.2.2.2.1
  obtain ⟨Bv, cv, rfl⟩ : ∃ Bv cv, v0 = .slice (some ⟨Bv, 0, none⟩) 64 cv := by obtain ⟨Bv, cv, e, _⟩ := hs0; exact ⟨Bv, cv, e⟩
  have c0' := h1.c0
  have cv0 : w1.cell? ⟨B, n, none⟩ = some (.slice (some ⟨Bv, 0, none⟩) 64 cv) := (hrow.cellAt n (by omega)).trans hv0
  have hin : In w1 (some ⟨Bv, 0, none⟩) 64 xs := by obtain ⟨_, _, e, h, _⟩ := hs0; cases e; exact h
  have hw0 : w1.ownsRow w1.heap.size 5 1 (.slice none 0 0) 0 (bvs []) := ⟨rfl, .inl ⟨rfl, rfl⟩⟩
  have hxs : Sec xs := H.out.1.read xs (List.mem_of_getElem? H.out.2.2.2.2.1)
  obtain ⟨x, hxx⟩ : ∃ x, xs.getD k 0 = x := ⟨_, rfl⟩
  have hxb : x < 256 := by
    rw [← hxx, List.getD_eq_getElem?_getD, List.getElem?_eq_getElem (by rw [hxs.1]; exact H.out.2.2.2.2.2.1)]
    exact hxs.2 _ (List.getElem_mem _)
  have q1 := u8_xor_nat x y hxb H.out.2.2.2.2.2.2.1
  have hF : ∀ (w2 : World) (Bs : Nat), Below w1.heap.size w1 w2 → w1.heap.size ≤ Bs → (w2.setCell ⟨Bs, k, none⟩ (.int .u8 ((x ^^^ y : Nat) : Int))).cell? ⟨g, 0, none⟩ = some (.slice (some ⟨B, 0, none⟩) s.sure.length c) ∧
      (w2.setCell ⟨Bs, k, none⟩ (.int .u8 ((x ^^^ y : Nat) : Int))).cell? ⟨B, n, none⟩ = some (.slice (some ⟨Bv, 0, none⟩) 64 cv) ∧ (w2.setCell ⟨Bs, k, none⟩ (.int .u8 ((x ^^^ y : Nat) : Int))).frozen? ⟨B, n, none⟩ = false := fun w2 Bs hb hB => by
    have hh : ∀ z, z < w1.heap.size → (w2.setCell ⟨Bs, k, none⟩ (.int .u8 ((x ^^^ y : Nat) : Int))).heap[z]? = w1.heap[z]? := fun z hz => (heap_setCell_other w2 ⟨Bs, k, none⟩ z _ (by show z ≠ Bs; omega)).trans (hb.block z hz)
    have gl : g < w1.heap.size := (Array.getElem?_eq_some_iff.1 h1.head).1
    have Bl : B < w1.heap.size := own_lt hrow rfl
    refine ⟨(World.cell?_of_block (hh g gl)).trans (h1.c0), (World.cell?_of_block (hh B Bl)).trans cv0, (World.frozen?_of_block (hh B Bl)).trans ?_⟩
    obtain ⟨cur, hc⟩ := own_type hrow rfl
    exact frozen_of_row _ B n _ _ hc
  have HF := Lib.hid hF
  have HX := Lib.hid (And.intro hxs hxx)
  have H1 := Lib.hid (And.intro h1 (And.intro hb1 (And.intro hs1 (And.intro hin (And.intro hrow hsec)))))
  clear h1 hb1 hs1 hin hrow hsec hs0 hlen hF hxs hxx hxb
  go_wp2_with (refine wpList_app w1 rfl _ _ rfl w1.heap.size none 0 0 [] rfl hw0 (some ⟨Bv, 0, none⟩) 64 cv xs rfl H1.out.2.2.2.1 (fun h => by cases h) (by omega) (Nat.le_refl _) ?_; intro A' c' w2 hown hbel; obtain ⟨Bs, rfl, hBs, hcc, hty, hcells⟩ := fresh_row hown HX.out.1.1; obtain ⟨cx, fx⟩ := hcells k H.out.2.2.2.2.2.1; rw [HX.out.2] at cx; obtain ⟨c0s, cvs, fvs⟩ := HF.out w2 Bs hbel hBs; clear hcells)
  go_ret
  exact ⟨rfl, rturn_rest H.out.1 H.out.2.1 H.out.2.2.2.1 H1.out.1 H1.out.2.1 H1.out.2.2.1 hown hbel hBs hcc hn rfl H.out.2.2.2.2.1 HX.out.2 H.out.2.2.2.2.2.2.1⟩

end Go.Proofs.YtcdlocbonjgcgaaDoor
