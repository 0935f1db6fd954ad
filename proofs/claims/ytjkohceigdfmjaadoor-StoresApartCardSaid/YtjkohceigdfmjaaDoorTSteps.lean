/-
  Calls of the disk, one behind the other: call, and Sync.
-/
import Derived.Test.YtjkohceigdfmjaaDoorTOthers
namespace Go.Proofs.YtjkohceigdfmjaaDoor
open Go.RowKit

/-- A disk and a store on it, apart. -/
structure Held_ (w : World) (gd sb from_ many : Nat) (m : Sm) (F G : Nat → Prop) : Prop where
  d : Disk w gd F m.st
  s : Sto w sb gd from_ many G m.l m.down
  ap : ∀ x, F x → ¬ G x
  fits : from_ + many ≤ m.st.sure.length
/-- What a call on both leaves. -/
def Went (w : World) (gd sb from_ many : Nat) (F G : Nat → Prop) (m' : Sm) (w' : World) : Prop :=
  ∃ F' G', Held_ w' gd sb from_ many m' F' G' ∧ But (fun x => F x ∨ G x) w w' ∧ (∀ x, F' x → F x ∨ w.heap.size ≤ x) ∧ ∀ x, G' x → G x ∨ w.heap.size ≤ x

section
variable {w w' : World} {gd sb from_ many : Nat} {m m' : Sm} {F G : Nat → Prop}
theorem Held_.below (h : Held_ w gd sb from_ many m F G) (hb : Below w.heap.size w w') : Held_ w' gd sb from_ many m F G := ⟨h.d.below hb, h.s.below hb, h.ap, h.fits⟩
theorem went_refl (h : Held_ w gd sb from_ many m F G) (hb : Below w.heap.size w w') : Went w gd sb from_ many F G m w' := ⟨F, G, h.below hb, But.of_below hb, fun _ hx => .inl hx, fun _ hx => .inl hx⟩
theorem Went.after {w1 : World} (h1 : Below w.heap.size w w1) (h : Went w1 gd sb from_ many F G m' w') : Went w gd sb from_ many F G m' w' := by
  obtain ⟨F', G', hh, hb, hf, hg⟩ := h
  exact ⟨F', G', hh, (But.of_below h1).trans hb, fun x hx => (hf x hx).imp id (fun e => Nat.le_trans h1.size e), fun x hx => (hg x hx).imp id (fun e => Nat.le_trans h1.size e)⟩
theorem Went.more {w2 : World} (h : Went w gd sb from_ many F G m' w') (h2 : Below w'.heap.size w' w2) : Went w gd sb from_ many F G m' w2 := by
  obtain ⟨F', G', hh, hb, hf, hg⟩ := h
  exact ⟨F', G', hh.below h2, hb.trans (But.of_below h2), hf, hg⟩
end
theorem setDown {w : World} {g gd from_ many : Nat} {G : Nat → Prop} {l : List (List Nat)} {down : Bool} (h : Sto w g gd from_ many G l down) (z : Bool) : Sto (w.setCell ⟨g, 5, none⟩ (.bool z)) g gd from_ many G l z := by
  obtain ⟨⟨v, vals, h⟩, hl⟩ := h
  have hb : ∀ x, x ≠ g → (w.setCell ⟨g, 5, none⟩ (.bool z)).heap[x]? = w.heap[x]? := fun x hx => Below.heap_setCell _ _ _ _ hx
  have hs : (w.setCell ⟨g, 5, none⟩ (.bool z)).heap.size = w.heap.size := by simp [World.setCell]
  refine ⟨⟨v, vals, ?_, own_block h.row (fun x hx => hb x (fun e => ?_)), h.len, fun i u b hu hb2 => ⟨own_block (h.recs i u b hu hb2).1 (fun x hx => hb x (fun e => ?_)), (h.recs i u b hu hb2).2⟩, h.gg, h.gv, h.ok, h.fits⟩, fun x hx => by rw [hs]; exact hl x hx⟩
  · exact heap_setCell_same w g 5 _ _ (.bool z) h.head
  · obtain ⟨cur, hc⟩ := own_type h.row hx
    exact block_ne h.head hc tne_hv e.symm
  · obtain ⟨cur, hc⟩ := own_type (h.recs i u b hu hb2).1 hx
    exact block_ne h.head hc tne_hr e.symm

/-- Between two calls of the disk. -/
def Amid (w : World) (gd : Nat) (F : Nat → Prop) (s : St) (W : World) : Prop := But F w W ∧ ∃ F', Disk W gd F' s ∧ ∀ x, F' x → F x ∨ w.heap.size ≤ x
theorem Amid.act {w W W' : World} {gd : Nat} {F F' : Nat → Prop} {s' : St} (hb : But F w W) (hf : ∀ x, F' x → F x ∨ w.heap.size ≤ x) (h : Acted W gd F' s' W') : Amid w gd F s' W' := by
  obtain ⟨F2, hd, hb2, hf2⟩ := h
  refine ⟨hb.next hb2 (fun x hx e => (hf x e).elim id (fun k => by omega)), F2, hd, fun x hx => ?_⟩
  rcases hf2 x hx with k | k
  · exact hf x k
  · exact .inr (Nat.le_trans hb.size k)

theorem call_steps {w : World} {gd sb from_ many C n cap : Nat} {F G : Nat → Prop} {st : St} {l : List (List Nat)} (h : Held_ w gd sb from_ many ⟨st, l, false⟩ F G) (steps : List (St → Int × St)) (cs : List (FuncId × Array Value)) (hn : cs.length = n) (hn2 : steps.length = n) (hn4 : n ≤ 4)
    (hr : ∀ (j : Nat) (f : FuncId) (bd : Array Value), cs[j]? = some (f, bd) → ∀ (zs : Array Value) (W : World), (callFunc f zs).run Tryd.prog W = .ok (.enter f zs) W)
    (hc : ∀ (j : Nat) (f : FuncId) (bd : Array Value), cs[j]? = some (f, bd) → w.cell? ⟨C, j, none⟩ = some (.func (.func f) bd #[])) (hC : ¬ F C)
    (hq : ∀ f ∈ steps, ∀ s : St, (f s).2.sure.length = s.sure.length ∧ (f s).2.waits.length ≤ s.waits.length + 5)
    (hs : ∀ (j : Nat) (f : FuncId) (bd : Array Value) (g : St → Int × St), cs[j]? = some (f, bd) → steps[j]? = some g → ∀ (W : World) (F' : Nat → Prop) (s : St), But F w W → Disk W gd F' s → (∀ x, F' x → F x ∨ w.heap.size ≤ x) → s.sure.length = st.sure.length → s.waits.length ≤ st.waits.length + 5 * j →
      Calls Tryd.prog f bd W fun e W' => e = .returned (.int .i64 (g s).1) ∧ Acted W gd F' (g s).2 W') :
    Calls Tryd.prog 31 #[.pointer (some ⟨sb, 0, none⟩), .slice (some ⟨C, 0, none⟩) n cap] w fun e W' => e = .returned (.int .i64 (runs steps st).1) ∧ Went w gd sb from_ many F G ⟨(runs steps st).2, l, decide ((runs steps st).1 ≠ 0)⟩ W' := by
  have hsG : ∀ W : World, But F w W → Sto W sb gd from_ many G l false := fun W hb => h.s.but hb (fun x hg hf => h.ap x hf hg)
  have hlen : ∀ j, (runs (steps.take j) st).2.sure.length = st.sure.length ∧ (runs (steps.take j) st).2.waits.length ≤ st.waits.length + 5 * j := by
    have go : ∀ (fs : List (St → Int × St)) (s : St), (∀ f ∈ fs, f ∈ steps) → (runs fs s).2.sure.length = s.sure.length ∧ (runs fs s).2.waits.length ≤ s.waits.length + 5 * fs.length := by
      intro fs
      induction fs with
      | nil => intro s _; exact ⟨rfl, Nat.le_refl _⟩
      | cons f fs ih =>
        intro s hfs
        have h1 := hq f (hfs f (by simp)) s
        rw [runs]
        split
        · have h2 := ih (f s).2 (fun g hg => hfs g (by simp [hg]))
          rw [List.length_cons]
          exact ⟨h2.1.trans h1.1, by omega⟩
        · rw [List.length_cons]
          exact ⟨h1.1, by omega⟩
    intro j
    have h1 := go (steps.take j) st (fun f hf => List.mem_of_mem_take hf)
    rw [List.length_take] at h1
    exact ⟨h1.1, by omega⟩
  refine (call_go (w := w) (g := sb) (C := C) (n := n) (cap := cap) cs hn hn4 (fun j W => Amid w gd F (runs (steps.take j) st).2 W ∧ (runs (steps.take j) st).1 = 0)
    (fun c W => Amid w gd F (runs steps st).2 W ∧ (runs steps st).1 = c) hr (fun j W f bd hP hj => ?_) (fun j W f bd hj hP => ?_) ?_ ⟨⟨But.refl _ _, F, h.d, fun _ hx => .inl hx⟩, rfl⟩ (fun c W hX => ?_)).mono ?_
  · have h1 := hc j f bd hj
    exact (World.cell?_of_block (hP.1.1.block _ (World.block_lt_of_cell? w _ h1) hC)).trans h1
  · obtain ⟨⟨hb, F', hd, hf⟩, h0⟩ := hP
    have hjn := (List.getElem?_eq_some_iff.1 hj).1
    obtain ⟨g, hg⟩ : ∃ g, steps[j]? = some g := ⟨_, List.getElem?_eq_getElem (by omega)⟩
    have hst := runs_step h0 hg
    refine (hs j f bd g hj hg W F' _ hb hd hf (hlen j).1 (hlen j).2).mono ?_
    rintro e W' ⟨rfl, ha⟩
    by_cases hz : (g (runs (steps.take j) st).2).1 = 0
    · left
      rw [hst]
      exact ⟨by rw [hz], Amid.act hb hf ha, hz⟩
    · right
      have hfl : runs steps st = g (runs (steps.take j) st).2 := by rw [runs_fall (j := j + 1) (by rw [hst]; exact hz), hst]
      rw [hfl]
      exact ⟨_, hz, rfl, Amid.act hb hf ha, rfl⟩
  · obtain ⟨⟨v, vals, hh⟩, _⟩ := h.s
    exact hh.c5
  · obtain ⟨⟨v, vals, hh⟩, _⟩ := hsG W hX.1.1
    exact ⟨hh.c5, hh.fz 5⟩
  · have fits : ∀ W : World, from_ + many ≤ (runs steps st).2.sure.length := fun _ => by
      have h1 := (hlen n).1
      rw [List.take_of_length_le (by omega)] at h1
      rw [h1]; exact h.fits
    rintro e W' (⟨rfl, hP⟩ | ⟨c, W1, hc0, rfl, ⟨hX, hcc⟩, rfl⟩)
    · rw [List.take_of_length_le (by omega)] at hP
      obtain ⟨⟨hb, F', hd, hf⟩, h0⟩ := hP
      refine ⟨by rw [h0], F', G, ⟨hd, ?_, fun x hx hg => ?_, fits W'⟩, hb.mono (fun x _ e => .inl e), hf, fun x hx => .inl hx⟩
      · have e1 : decide ((runs steps st).1 ≠ 0) = false := by simp [h0]
        show Sto W' sb gd from_ many G l (decide ((runs steps st).1 ≠ 0))
        rw [e1]
        exact hsG W' hb
      · rcases hf x hx with k | k
        · exact h.ap x k hg
        · have := h.s.2 x hg; omega
    · obtain ⟨hb, F', hd, hf⟩ := hX
      have hap : ∀ x, F' x → ¬ G x := fun x hx hg => by
        rcases hf x hx with k | k
        · exact h.ap x k hg
        · have := h.s.2 x hg; omega
      have bt : But (fun x => x = sb) W1 (W1.setCell ⟨sb, 5, none⟩ (.bool true)) := (But.refl _ W1).set 5 _ (fun _ => rfl)
      refine ⟨by rw [hcc], F', G, ⟨hd.but bt (fun x hx e => hap x hx (e ▸ h.s.mem)), ?_, hap, fits W1⟩, (hb.mono (fun x _ e => .inl e) : But (fun x => F x ∨ G x) w W1).next bt (fun x _ e => .inr (e ▸ h.s.mem)), hf, fun x hx => .inl hx⟩
      have e1 : decide ((runs steps st).1 ≠ 0) = true := by rw [hcc]; simpa using hc0
      show Sto _ sb gd from_ many G l (decide ((runs steps st).1 ≠ 0))
      rw [e1]
      exact setDown (hsG W1 hb) true

theorem stepS_q (s : St) : (stepS s).2.sure.length = s.sure.length ∧ (stepS s).2.waits.length ≤ s.waits.length + 5 := by
  unfold stepS St.sn
  split
  · exact ⟨by show s.burnt.sure.length = _; rw [s.burnt_sure], by show s.burnt.waits.length ≤ _; rw [s.burnt_waits]; omega⟩
  · exact ⟨by show s.burnt.read.length = _; rw [s.burnt_read, s.read_length], by show ([] : List (Nat × List Nat)).length ≤ _; simp⟩
theorem stepW_q (k : Nat) (x : List Nat) (s : St) : (stepW k x s).2.sure.length = s.sure.length ∧ (stepW k x s).2.waits.length ≤ s.waits.length + 5 :=
  ⟨by show (s.wn k x).sure.length = _; rw [s.wn_sure], by have := s.wn_waits k x; show (s.wn k x).waits.length ≤ _; omega⟩
theorem stepO_q (k : Nat) (L : List (List Nat)) (hL : L.length ≤ 5) (s : St) : (stepO k L s).2.sure.length = s.sure.length ∧ (stepO k L s).2.waits.length ≤ s.waits.length + 5 :=
  ⟨by show (s.puts k L).2.sure.length = _; rw [s.puts_sure], by have := s.puts_waits k L; show (s.puts k L).2.waits.length ≤ _; omega⟩

set_option maxRecDepth 100000 in
theorem ssync_any {w : World} {gd sb from_ many : Nat} {F G : Nat → Prop} {m : Sm} (h : Held_ w gd sb from_ many m F G) :
    Calls Tryd.prog 12 #[.pointer (some ⟨sb, 0, none⟩)] w fun e w' => e = .returned (.int .i64 m.sync.1) ∧ Went w gd sb from_ many F G m.sync.2 w' := by
  obtain ⟨⟨v, vals, hh⟩, hG⟩ := h.s
  have C := there_sto hh
  have c0 := hh.c0
  have hb := below_alloc w (.cells #[.func (.func 36) #[.pointer (some ⟨gd, 0, none⟩)] #[]] 36)
  have hcell : (w.alloc (.cells #[.func (.func 36) #[.pointer (some ⟨gd, 0, none⟩)] #[]] 36)).cell? ⟨w.heap.size, 0, none⟩ = some (.func (.func 36) #[.pointer (some ⟨gd, 0, none⟩)] #[]) := by
    rw [cell_of_row _ _ 0 _ _ (0, 0) (World.alloc_heap_new w _)]; rfl
  by_cases hd : m.down = true
  · have hw1 := (hh.blocks (w' := w.alloc (.cells #[.func (.func 36) #[.pointer (some ⟨gd, 0, none⟩)] #[]] 36)) (fun x hx => heap_alloc_old w _ x (hG x hx))).c5
    rw [hd] at hw1
    have HW := Lib.hid (went_refl h hb)
    have CD := fun u => call_down (u := u) hw1
    have e1 : m.sync = (9, m) := by unfold Sm.sync; rw [if_pos hd]
    rw [e1]
    clear h hh hG hd hw1 hb hcell e1
    go_enter Tryd.func12, Tryd.ntmps12
    go_wp2_with fail
    refine C.mono ?_
    rintro e w1 ⟨rfl, rfl⟩
    go_wp2_with fail
    refine (CD _).mono ?_
    rintro e w1 ⟨rfl, rfl⟩
    go_wp2
    go_ret
    exact ⟨rfl, HW.out⟩
  · have hd0 : m.down = false := by simpa using hd
    have h1 : Held_ w gd sb from_ many ⟨m.st, m.l, false⟩ F G := by
      have := h
      obtain ⟨st, l, down⟩ := m
      cases hd0
      exact h
    have hF := h.d.2.2
    have CS := call_steps (C := w.heap.size) (n := 1) (cap := 1) (h1.below hb) [stepS] [(36, #[.pointer (some ⟨gd, 0, none⟩)])] rfl rfl (by decide)
      (fun j f bd hj zs W => by
        have hj1 := (List.getElem?_eq_some_iff.1 hj).1
        obtain rfl : j = 0 := by simp at hj1; exact hj1
        cases hj
        show (callFunc 36 zs).run Tryd.prog W = .ok (.enter 36 zs) W
        kernel_rfl)
      (fun j f bd hj => by
        have hj1 := (List.getElem?_eq_some_iff.1 hj).1
        obtain rfl : j = 0 := by simp at hj1; exact hj1
        cases hj
        exact hcell)
      (fun e => by have := hF _ e; omega)
      (fun f hf s => by rw [List.mem_singleton.1 hf]; exact stepS_q s)
      (fun j f bd g hj hg W F' s _ hd _ _ _ => by
        have hj1 := (List.getElem?_eq_some_iff.1 hj).1
        obtain rfl : j = 0 := by simp at hj1; exact hj1
        cases hj
        cases hg
        exact sync_gen hd)
    have e1 : m.sync = (m.st.sc, ⟨m.st.sn, m.l, decide (m.st.sc ≠ 0)⟩) := by unfold Sm.sync; rw [if_neg hd]
    have e2 : runs [stepS] m.st = (m.st.sc, m.st.sn) := by
      have h := runs_step (fs := [stepS]) (s := m.st) (j := 0) (f := stepS) rfl rfl
      exact h
    rw [e2] at CS
    rw [e1]
    have HC := Lib.hid (And.intro CS hb)
    clear CS h h1 hh hG hd hd0 hb hcell hF e1 e2
    go_enter Tryd.func12, Tryd.ntmps12
    go_wp2_with fail
    refine C.mono ?_
    rintro e w1 ⟨rfl, rfl⟩
    go_wp2_with fail
    refine HC.out.1.mono ?_
    rintro e w1 ⟨rfl, hw⟩
    go_wp2
    go_ret
    exact ⟨rfl, hw.after HC.out.2⟩

end Go.Proofs.YtjkohceigdfmjaaDoor
