/-
  A store: what it is, and where it lies; what reads it, and keep.
-/
import Derived.Test.YthbgcijkpincfaaGreatDoorTPure
import Derived.Test.YthbgcijkpincfaaGreatDoorLRows
import Derived.Deep.AppendLies
import Derived.Laws.EntriesVeiled
namespace Go.Proofs.YthbgcijkpincfaaGreatDoor
open Go.RowKit

/-- Block g is a store of the records l, on the disk gd, in many sectors from from_ on. -/
structure StoAt (w : World) (g gd from_ many : Nat) (v : Value) (vals : List Value) (G : Nat → Prop) (l : List (List Nat)) (down : Bool) : Prop where
  head : w.heap[g]? = some (.cells #[.pointer (some ⟨gd, 0, none⟩), .int .i64 (from_ : Int), .int .i64 (many : Int), v, .int .i64 (usedL l : Int), .bool down] 121 (0, 0))
  row : w.ownsRow 0 50 1 v l.length vals
  len : vals.length = l.length
  recs : ∀ (i : Nat) (u : Value) (b : List Nat), vals[i]? = some u → l[i]? = some b → w.ownsRow 0 5 1 u b.length (bvs b) ∧ ∀ x, u.ownBlock = some x → G x
  gg : G g
  gv : ∀ x, v.ownBlock = some x → G x
  ok : ∀ b ∈ l, b.length ≤ 256 ∧ ∀ x ∈ b, x < 256
  fits : usedL l ≤ many
def Sto (w : World) (g gd from_ many : Nat) (G : Nat → Prop) (l : List (List Nat)) (down : Bool) : Prop := (∃ v vals, StoAt w g gd from_ many v vals G l down) ∧ ∀ x, G x → x < w.heap.size

theorem tne_hv : 121 ≠ 50 := by decide
theorem tne_hr : 121 ≠ 5 := by decide
theorem tne_vr : 50 ≠ 5 := by decide
theorem infoBs : (Tryz.prog.info? 50).map (fun i => (i.zero, i.size, i.bytes)) = some (some (.slice none 0 0), 1, 24) := by kernel_rfl

section
variable {w w' : World} {g gd from_ many : Nat} {v : Value} {vals : List Value} {G : Nat → Prop} {l : List (List Nat)} {down : Bool}
theorem StoAt.c0 (h : StoAt w g gd from_ many v vals G l down) : w.cell? ⟨g, 0, none⟩ = some (.pointer (some ⟨gd, 0, none⟩)) := by rw [cell_of_row _ g 0 _ _ (0, 0) h.head]; rfl
theorem StoAt.c1 (h : StoAt w g gd from_ many v vals G l down) : w.cell? ⟨g, 1, none⟩ = some (.int .i64 (from_ : Int)) := by rw [cell_of_row _ g 1 _ _ (0, 0) h.head]; rfl
theorem StoAt.c2 (h : StoAt w g gd from_ many v vals G l down) : w.cell? ⟨g, 2, none⟩ = some (.int .i64 (many : Int)) := by rw [cell_of_row _ g 2 _ _ (0, 0) h.head]; rfl
theorem StoAt.c3 (h : StoAt w g gd from_ many v vals G l down) : w.cell? ⟨g, 3, none⟩ = some v := by rw [cell_of_row _ g 3 _ _ (0, 0) h.head]; rfl
theorem StoAt.c4 (h : StoAt w g gd from_ many v vals G l down) : w.cell? ⟨g, 4, none⟩ = some (.int .i64 (usedL l : Int)) := by rw [cell_of_row _ g 4 _ _ (0, 0) h.head]; rfl
theorem StoAt.c5 (h : StoAt w g gd from_ many v vals G l down) : w.cell? ⟨g, 5, none⟩ = some (.bool down) := by rw [cell_of_row _ g 5 _ _ (0, 0) h.head]; rfl
theorem StoAt.fz (h : StoAt w g gd from_ many v vals G l down) (i : Nat) : w.frozen? ⟨g, i, none⟩ = false := frozen_of_row _ g i _ _ h.head
theorem StoAt.lt (h : StoAt w g gd from_ many v vals G l down) : g < w.heap.size := (Array.getElem?_eq_some_iff.1 h.head).1
theorem StoAt.blocks (h : StoAt w g gd from_ many v vals G l down) (hb : ∀ x, G x → w'.heap[x]? = w.heap[x]?) : StoAt w' g gd from_ many v vals G l down :=
  ⟨(hb g h.gg).trans h.head, own_block h.row (fun x hx => hb x (h.gv x hx)), h.len, fun i u b hu hb2 => ⟨own_block (h.recs i u b hu hb2).1 (fun x hx => hb x ((h.recs i u b hu hb2).2 x hx)), (h.recs i u b hu hb2).2⟩, h.gg, h.gv, h.ok, h.fits⟩
theorem Sto.lt (h : Sto w g gd from_ many G l down) : g < w.heap.size := by obtain ⟨⟨v, vals, h⟩, _⟩ := h; exact h.lt
theorem Sto.mem (h : Sto w g gd from_ many G l down) : G g := by obtain ⟨⟨v, vals, h⟩, _⟩ := h; exact h.gg
theorem Sto.ok (h : Sto w g gd from_ many G l down) : ∀ b ∈ l, b.length ≤ 256 ∧ ∀ x ∈ b, x < 256 := by obtain ⟨⟨v, vals, h⟩, _⟩ := h; exact h.ok
theorem Sto.fits (h : Sto w g gd from_ many G l down) : usedL l ≤ many := by obtain ⟨⟨v, vals, h⟩, _⟩ := h; exact h.fits
theorem Sto.but {S : Nat → Prop} (h : Sto w g gd from_ many G l down) (hb : But S w w') (hd : ∀ x, G x → ¬ S x) : Sto w' g gd from_ many G l down := by
  obtain ⟨⟨v, vals, h⟩, hl⟩ := h
  exact ⟨⟨v, vals, h.blocks (fun x hx => hb.block x (hl x hx) (hd x hx))⟩, fun x hx => Nat.lt_of_lt_of_le (hl x hx) hb.size⟩
theorem Sto.below (h : Sto w g gd from_ many G l down) (hb : Below w.heap.size w w') : Sto w' g gd from_ many G l down := h.but (S := fun _ => False) (But.of_below hb) (fun _ _ hf => hf)
end

section
variable {w : World} {g gd from_ many : Nat} {v : Value} {vals : List Value} {G : Nat → Prop} {l : List (List Nat)} {down : Bool}
set_option maxRecDepth 100000 in
theorem there_sto (h : StoAt w g gd from_ many v vals G l down) :
    Calls Tryz.prog 78 #[.pointer (some ⟨g, 0, none⟩)] w fun e w' => e = .returned (.bool true) ∧ w = w' := by
  have c0 := h.c0
  clear h
  go_enter Tryz.func78, Tryz.ntmps78
  go_wp2
  go_ret
  exact ⟨by simp, rfl⟩

set_option maxRecDepth 100000 in
theorem next_sto (h : StoAt w g gd from_ many v vals G l down) (hl : l.length ≤ 1000000) :
    Calls Tryz.prog 89 #[.pointer (some ⟨g, 0, none⟩)] w fun e w' => e = .returned (.int .u64 ((l.length + 1 : Nat) : Int)) ∧ w = w' := by
  have c3 := h.c3
  obtain ⟨A, c, rfl, hnc, _⟩ := row_form h.row
  obtain ⟨n, hn⟩ : ∃ n, l.length = n := ⟨_, rfl⟩
  rw [hn] at c3 hl ⊢
  clear h hn hnc
  go_enter Tryz.func89, Tryz.ntmps89
  go_wp2
  go_ret
  refine ⟨?_, rfl⟩
  go_num

set_option maxRecDepth 100000 in
theorem slen_sto (h : StoAt w g gd from_ many v vals G l down) :
    Calls Tryz.prog 27 #[.pointer (some ⟨g, 0, none⟩)] w fun e w' => e = .returned (.int .i64 (l.length : Int)) ∧ w = w' := by
  have C := there_sto h
  have c3 := h.c3
  obtain ⟨A, c, rfl, hnc, _⟩ := row_form h.row
  clear h hnc
  go_enter Tryz.func27, Tryz.ntmps27
  go_wp2_with fail
  refine C.mono ?_
  rintro e w1 ⟨rfl, rfl⟩
  go_wp2
  go_ret
  exact ⟨rfl, rfl⟩

set_option maxRecDepth 100000 in
theorem left_sto (h : StoAt w g gd from_ many v vals G l down) (hm : many ≤ 1000000) :
    Calls Tryz.prog 29 #[.pointer (some ⟨g, 0, none⟩)] w fun e w' => e = .returned (.int .i64 ((many - usedL l : Nat) : Int)) ∧ Below w.heap.size w w' := by
  have C := there_sto h
  have c2 := h.c2
  have c4 := h.c4
  have hf := h.fits
  obtain ⟨u, hu⟩ : ∃ u, usedL l = u := ⟨_, rfl⟩
  rw [hu] at c4 hf ⊢
  clear h hu
  go_enter Tryz.func29, Tryz.ntmps29
  go_wp2_with fail
  refine C.mono ?_
  rintro e w1 ⟨rfl, rfl⟩
  go_wp2_with fail
  go_region
  go_wp2
  go_ret
  refine ⟨?_, (Below.refl _ w).drew⟩
  go_num
end

/-- keep: one record more. -/
theorem StoAt.keeps {w w2 w3 : World} {g gd from_ many : Nat} {v v' u : Value} {vals : List Value} {G : Nat → Prop} {l : List (List Nat)} {down : Bool} {b : List Nat} (h : StoAt w g gd from_ many v vals G l down)
    (hu : w.ownsRow 0 5 1 u b.length (bvs b)) (hb : b.length ≤ 256 ∧ ∀ x ∈ b, x < 256) (hf : usedL l + secs b.length ≤ many)
    (hown : w2.ownsRow 0 50 1 v' (l.length + 1) (vals ++ [u])) (hgr : ∀ x, x < w.heap.size → v.ownBlock ≠ some x → w2.heap[x]? = w.heap[x]?) (hv : ∀ x, v'.ownBlock = some x → v.ownBlock = some x ∨ w.heap.size ≤ x)
    (hw3 : w3 = (w2.setCell ⟨g, 3, none⟩ v').setCell ⟨g, 4, none⟩ (.int .i64 ((usedL l + secs b.length : Nat) : Int))) :
    StoAt w3 g gd from_ many v' (vals ++ [u]) (fun x => G x ∨ v'.ownBlock = some x ∨ u.ownBlock = some x) (l ++ [b]) down := by
  have hgl := h.lt
  have hne : ∀ x, v.ownBlock = some x → x ≠ g := fun x hx e => by
    obtain ⟨cur, hc⟩ := own_type h.row hx
    exact block_ne h.head hc tne_hv e.symm
  have hh2 : w2.heap[g]? = w.heap[g]? := hgr g hgl (fun e => hne g e rfl)
  have h3 : ∀ x, x ≠ g → w3.heap[x]? = w2.heap[x]? := fun x hx => by rw [hw3, Below.heap_setCell _ _ _ _ hx, Below.heap_setCell _ _ _ _ hx]
  have hv' : ∀ x, v'.ownBlock = some x → x ≠ g := fun x hx e => by
    rcases hv x hx with k | k
    · exact hne x k e
    · omega
  have keepR : ∀ (t : Value) (c : List Nat), w.ownsRow 0 5 1 t c.length (bvs c) → w3.ownsRow 0 5 1 t c.length (bvs c) := fun t c ht => own_block ht (fun x hx => by
    obtain ⟨cur, hc⟩ := own_type ht hx
    have n1 : x ≠ g := fun e => block_ne h.head hc tne_hr e.symm
    rw [h3 x n1]
    refine hgr x (own_lt ht hx) (fun e => ?_)
    obtain ⟨cur2, hc2⟩ := own_type h.row e
    exact block_ne hc2 hc tne_vr rfl)
  refine ⟨?_, ?_, by rw [List.length_append, List.length_append, h.len]; rfl, ?_, .inl h.gg, fun x hx => .inr (.inl hx), ?_, by rw [usedL_snoc]; exact hf⟩
  · have e1 := heap_setCell_same w2 g 3 _ _ v' (hh2.trans h.head)
    have e2 := heap_setCell_same _ g 4 _ _ (.int .i64 ((usedL l + secs b.length : Nat) : Int)) e1
    rw [hw3, usedL_snoc]
    exact e2
  · rw [List.length_append]
    exact own_block hown (fun x hx => h3 x (hv' x hx))
  · intro i t c ht hc
    by_cases hi : i < vals.length
    · rw [List.getElem?_append_left hi] at ht
      rw [List.getElem?_append_left (by rw [← h.len]; exact hi)] at hc
      have := h.recs i t c ht hc
      exact ⟨keepR t c this.1, fun x hx => .inl (this.2 x hx)⟩
    · have e0 : i = vals.length := by have := (List.getElem?_eq_some_iff.1 ht).1; simp at this; omega
      subst e0
      rw [List.getElem?_append_right (Nat.le_refl _)] at ht
      rw [h.len, List.getElem?_append_right (Nat.le_refl _)] at hc
      simp at ht hc
      subst ht hc
      exact ⟨keepR _ _ hu, fun x hx => .inr (.inr hx)⟩
  · intro c hc
    rcases List.mem_append.1 hc with hc | hc
    · exact h.ok c hc
    · rw [List.mem_singleton.1 hc]; exact hb

set_option maxRecDepth 100000 in
set_option maxHeartbeats 1000000 in
theorem keep_sto {w : World} {g gd from_ many : Nat} {G : Nat → Prop} {l : List (List Nat)} {down : Bool} {u : Value} {b : List Nat} (h : Sto w g gd from_ many G l down) (hu : w.ownsRow 0 5 1 u b.length (bvs b)) (hb : b.length ≤ 256 ∧ ∀ x ∈ b, x < 256)
    (hf : usedL l + secs b.length ≤ many) (hm : many ≤ 1000000) :
    Calls Tryz.prog 91 #[.pointer (some ⟨g, 0, none⟩), u, .int .i64 ((secs b.length : Nat) : Int)] w fun e w' => e = .returned (.tuple #[]) ∧ But G w w' ∧
      ∃ G', Sto w' g gd from_ many G' (l ++ [b]) down ∧ ∀ x, G' x → G x ∨ u.ownBlock = some x ∨ w.heap.size ≤ x := by
  obtain ⟨⟨v, vals, h⟩, hl⟩ := h
  obtain ⟨i0, hi, hz0, hz1, hz2⟩ := info_parts infoBs
  have hln : l.length ≤ 1000000 := by have := len_le_used l; have := h.fits; omega
  have c3 := h.c3
  have c4 := h.c4
  have f3 := h.fz 3
  have f4 := h.fz 4
  have hrow := h.row
  have hgl := h.lt
  obtain ⟨A, c, rfl, hnc, _⟩ := row_form h.row
  obtain ⟨k, hk⟩ : ∃ k, secs b.length = k := ⟨_, rfl⟩
  obtain ⟨n, hn⟩ : ∃ n, usedL l = n := ⟨_, rfl⟩
  obtain ⟨Bu, nu, cu, hue⟩ : ∃ Bu nu cu, u = .slice Bu nu cu := by obtain ⟨Bu, cu, e, _⟩ := row_form hu; exact ⟨_, _, _, e⟩
  have hun := hu
  rw [hue] at hun ⊢
  have hk1 : n + k ≤ 1000000 := by rw [← hn, ← hk]; omega
  have H := Lib.hid (And.intro h (And.intro hl (And.intro hun (And.intro hb (And.intro hf (And.intro hk hn))))))
  rw [hn] at c4
  rw [hk]
  clear h hl hu hun hb hf hk hn hnc hm
  go_enter Tryz.func91, Tryz.ntmps91
  go_wp2_with (
    at_builtin
    refine wpList_append_lies _ rfl _ _ 69 rfl 0 50 i0 _ 1 24 Tryz.underlying69 hi hz0 hz1 hz2 (by rfl) (by decide) (.slice A l.length c) l.length vals rfl (own_block hrow (fun b hb => heap_alloc_old w _ (own_lt hrow hb))) ⟨w.heap.size, 0, none⟩ 1 1 [.slice Bu nu cu] rfl rfl (World.news_of_block (cs := #[.slice Bu nu cu]) (t := 50) (fr := (0, 0)) (World.alloc_heap_new w _)) (by simp [Value.oneCell']) (by decide) (by unfold maxLen; omega) (by omega) (by simp) _ rfl ?_
    intro gg cap w2 hown hgrow hat hlt2
    have hgrw : ∀ x, x < w.heap.size → (Value.slice A l.length c).ownBlock ≠ some x → w2.heap[x]? = w.heap[x]? := fun x hx hne =>
      (hgrow.block x (by simp; omega) (fun e => hne e.symm)).trans (heap_alloc_old w _ hx)
    have hgne : (Value.slice A l.length c).ownBlock ≠ some g := fun e => by
      obtain ⟨cur, hc⟩ := own_type H.out.1.row e
      exact block_ne H.out.1.head hc tne_hv rfl
    have hat2 : ∀ x, (Value.slice (some ⟨gg, 0, none⟩) (l.length + 1) cap).ownBlock = some x → (Value.slice A l.length c).ownBlock = some x ∨ w.heap.size ≤ x := fun x hx => by
      have e : x = gg := by cases hx; rfl
      rcases hat with k | k
      · exact .inl (by rw [e]; exact k)
      · right; rw [e, k]; simp
    have hk2 := fun w3 e => H.out.1.keeps (w2 := w2) (w3 := w3) H.out.2.2.1 H.out.2.2.2.1 H.out.2.2.2.2.1 hown hgrw hat2 e
    rw [H.out.2.2.2.2.2.1, H.out.2.2.2.2.2.2] at hk2
    have bt : But G w w2 := ((But.refl G w).alloc (.cells #[.slice Bu nu cu] 50)).grown hgrow (fun x e _ => H.out.1.gv x e)
    have hsz := bt.size
    have hh2 : w2.heap[g]? = w.heap[g]? := hgrw g hgl hgne
    have d4 : w2.cell? ⟨g, 4, none⟩ = some (.int .i64 (n : Int)) := (World.cell?_of_block hh2).trans c4
    have e3 : w2.frozen? ⟨g, 3, none⟩ = false := frozen_of_row _ g 3 _ _ (hh2.trans H.out.1.head)
    have e4 : w2.frozen? ⟨g, 4, none⟩ = false := frozen_of_row _ g 4 _ _ (hh2.trans H.out.1.head)
    have d3 : w2.cell? ⟨g, 3, none⟩ = some (.slice A l.length c) := (World.cell?_of_block hh2).trans c3
    have HK := Lib.hid (And.intro hk2 (And.intro bt (And.intro hat2 hlt2)))
    have HX := Lib.hid (And.intro trivial hsz)
    clear hk2 bt hat2 hat hgrw hgne hown hgrow hh2 c3 c4 f3 f4 hlt2 hsz hue)
  go_end0
  have hsto := HK.out.1 _ rfl
  have hG := H.out.2.1
  refine ⟨rfl, ((HK.out.2.1.set 3 _ (fun _ => H.out.1.gg)).set 4 _ (fun _ => H.out.1.gg)), _, ⟨⟨_, _, hsto⟩, fun x hx => ?_⟩, fun x hx => ?_⟩
  · have hsz : ((w2.setCell ⟨g, 3, none⟩ (Value.slice (some ⟨gg, 0, none⟩) (l.length + 1) cap)).setCell ⟨g, 4, none⟩ (.int .i64 ((n : Int) + (k : Int)))).heap.size = w2.heap.size := by simp [World.setCell]
    rw [hsz]
    have h2 := HX.out.2
    rcases hx with k1 | k1 | k1
    · have := hG x k1; omega
    · cases k1; exact HK.out.2.2.2
    · have := own_lt H.out.2.2.1 k1; omega
  · rcases hx with k1 | k1 | k1
    · exact .inl k1
    · rcases HK.out.2.2.1 x k1 with k2 | k2
      · exact .inl (H.out.1.gv x k2)
      · exact .inr (.inr k2)
    · exact .inr (.inl k1)

end Go.Proofs.YthbgcijkpincfaaGreatDoor
