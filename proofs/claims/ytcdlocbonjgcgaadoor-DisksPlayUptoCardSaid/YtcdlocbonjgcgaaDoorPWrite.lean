/-
  The document's own disk (almonerref05): Write.
-/
import Derived.Test.YtcdlocbonjgcgaaDoorPRead
namespace Go.Proofs.YtcdlocbonjgcgaaDoor
open Go.RowKit

/-- Nought bytes, and what is laid over them. -/
def nought64 : List Value := bvs (List.replicate 64 0)
theorem nought64_made : madeCells #[.int .u8 0] 64 = nought64.toArray := by kernel_rfl
theorem nought64_length : nought64.length = 64 := by rfl
theorem pad_splice (xs : List Nat) : splice nought64 0 (bvs xs) = bvs (pad xs) := by
  rw [splice, pad, bvs_append, bvs_length, Nat.zero_add, List.take_zero, List.nil_append]
  have hz : nought64 = List.replicate 64 (bv 0) := List.map_replicate ..
  have hz2 : bvs (List.replicate (64 - xs.length) 0) = List.replicate (64 - xs.length) (bv 0) := List.map_replicate ..
  rw [hz, hz2, List.drop_replicate]

theorem infoWait : (Tryd.prog.info? 73).map (fun i => (i.zero, i.size, i.bytes)) = some (some (.agg #[.int .i64 0, .slice none 0 0]), 2, 32) := by kernel_rfl

theorem bsec {w : World} {F : Nat → Prop} {B : Nat} {xs : List Nat} (h : w.heap[B]? = some (.cells (bvs xs).toArray 5 (0, 0))) (hl : xs.length = 64) (hF : F B) : RSec w F (.slice (some ⟨B, 0, none⟩) 64 64) xs :=
  ⟨B, 64, rfl, ⟨hl, fun j x hx => ⟨_, rfl, BArr.at_ (T := 5) h j x hx⟩⟩, Nat.le_refl _, hF, _, h⟩

theorem rwrite_rest {w w1 w2 w3 : World} {g : Nat} {F : Nat → Prop} {s : St} {k n c1 : Nat} {xs : List Nat} {A1 : Option Addr} {sv : Value} (ok : s.Ok) (bl : Blows s) (hl : ∀ x, F x → x < w.heap.size)
    (h1 : RAt w1 F g sv (.slice A1 n c1) s.burnt) (hg1 : w.grownBy w1 (some g)) (hs1 : w1.heap.size = w.heap.size)
    (hB : w2.heap[w1.heap.size]? = some (.cells (bvs (pad xs)).toArray 5 (0, 0))) (hb2 : Below w1.heap.size w1 w2) {E : List (List Value)}
    (hn : s.waits.length = n) (e1 : w1.ownsRow 0 73 2 (.slice A1 n c1) n E.flatten) (e2 : E.length = n)
    (e3 : ∀ (i : Nat) (x : Nat × List Nat) (e : List Value), s.waits[i]? = some x → E[i]? = some e → ∃ v, e = [.int .i64 (x.1 : Int), v] ∧ RSec w1 F v x.2)
    (hk : k < s.sure.length) (hx64 : xs.length ≤ 64) (hxb : ∀ x ∈ xs, x < 256) {gg cap : Nat}
    (hown : w3.ownsRow 0 73 2 (.slice (some ⟨gg, 0, none⟩) (n + 1) cap) (n + 1) (E.flatten ++ [.int .i64 (k : Int), .slice (some ⟨w1.heap.size, 0, none⟩) 64 64]))
    (hgrow : (w2.alloc (.cells #[.int .i64 (k : Int), .slice (some ⟨w1.heap.size, 0, none⟩) 64 64] 73)).grownBy w3 (Value.slice A1 n c1).ownBlock)
    (hat : (Value.slice A1 n c1).ownBlock = some gg ∨ w1.heap.size < gg) :
    RActed w g F (s.wrote k xs) (w3.setCell ⟨g, 1, none⟩ (.slice (some ⟨gg, 0, none⟩) (n + 1) cap)) := by
  obtain ⟨lv, hlv⟩ : ∃ lv, Value.slice A1 n c1 = lv := ⟨_, rfl⟩
  rw [hlv] at h1 e1 hgrow hat
  have hB2 := (Array.getElem?_eq_some_iff.1 hB).1
  have s3 := hgrow.size
  rw [World.size_alloc] at s3
  have gl : g < w1.heap.size := (Array.getElem?_eq_some_iff.1 h1.head).1
  have ggl : gg < w3.heap.size := own_lt hown rfl
  obtain ⟨V, hV⟩ : ∃ V, V = Value.slice (some ⟨gg, 0, none⟩) (n + 1) cap := ⟨_, rfl⟩
  rw [← hV] at hown ⊢
  have s6 : (w3.setCell ⟨g, 1, none⟩ V).heap.size = w3.heap.size := by simp [World.setCell]
  have h6 : ∀ x, x ≠ g → (w3.setCell ⟨g, 1, none⟩ V).heap[x]? = w3.heap[x]? := fun x hx => heap_setCell_other w3 ⟨g, 1, none⟩ x V hx
  have hold3 : ∀ x, x < w2.heap.size → lv.ownBlock ≠ some x → w3.heap[x]? = w2.heap[x]? := fun x hx hne =>
    (hgrow.block x (by rw [World.size_alloc]; omega) (fun e => hne e.symm)).trans (heap_alloc_old w2 _ hx)
  have hold : ∀ x, x < w1.heap.size → lv.ownBlock ≠ some x → x ≠ g → (w3.setCell ⟨g, 1, none⟩ V).heap[x]? = w1.heap[x]? := fun x hx hne hg =>
    (h6 x hg).trans ((hold3 x (by omega) hne).trans (hb2.block x hx))
  have hg3 : w3.heap[g]? = w1.heap[g]? := (hold3 g (by omega) (fun e => h1.gl e rfl)).trans (hb2.block g gl)
  have hlt1 : ∀ x, F x → x < w1.heap.size := fun x hx => by have := hl x hx; omega
  have hbyte : ∀ b cur, F b → w1.heap[b]? = some (.cells cur 5 (0, 0)) → (w3.setCell ⟨g, 1, none⟩ V).heap[b]? = w1.heap[b]? := fun b cur hF hc =>
    hold b (hlt1 b hF) (fun e => by obtain ⟨cur', hc'⟩ := own_type e1 e; exact block_ne hc' hc rt6 rfl) (block_ne h1.head hc rt3).symm
  have hnewB : (w3.setCell ⟨g, 1, none⟩ V).heap[w1.heap.size]? = some (.cells (bvs (pad xs)).toArray 5 (0, 0)) :=
    (h6 _ (by omega)).trans ((hold3 _ hB2 (fun e => by have := hlt1 _ (h1.fl _ e); omega)).trans hB)
  have gne : gg ≠ g := by
    rcases hat with e | e
    · exact (h1.gl e).symm
    · omega
  have hF' : ∀ x, F x → (F x ∨ (w.heap.size ≤ x ∧ x < (w3.setCell ⟨g, 1, none⟩ V).heap.size)) := fun x hx => .inl hx
  have hRA : RAt (w3.setCell ⟨g, 1, none⟩ V) (fun x => F x ∨ (w.heap.size ≤ x ∧ x < (w3.setCell ⟨g, 1, none⟩ V).heap.size)) g sv V (s.wrote k xs) := by
    refine ⟨heap_setCell_same w3 g 1 _ _ V (hg3.trans h1.head), ?_, ?_, .inl h1.fg, fun b e => .inl (h1.fs b e), fun b e => ?_⟩
    · refine (h1.sure.block (fun b e => ?_) hbyte).mono hF'
      refine hold b (hlt1 b (h1.fs b e)) (fun e' => ?_) (h1.gs e).symm
      obtain ⟨vals, hr, _⟩ := h1.sure
      obtain ⟨cur, hc⟩ := own_type hr e
      obtain ⟨cur', hc'⟩ := own_type e1 e'
      exact block_ne hc hc' rt4 rfl
    · refine ⟨E ++ [[.int .i64 (k : Int), .slice (some ⟨w1.heap.size, 0, none⟩) 64 64]], ?_, ?_, ?_⟩
      · have : (s.wrote k xs).waits.length = n + 1 := by show (s.waits ++ [(k, pad xs)]).length = _; rw [List.length_append, hn]; rfl
        rw [this, List.flatten_append]
        exact own_block hown (fun b hb => by rw [hV] at hb; cases hb; exact h6 _ gne)
      · show _ = (s.waits ++ [(k, pad xs)]).length
        rw [List.length_append, List.length_append, e2, hn]
        rfl
      · intro i x e hi he
        have hi' : (s.waits ++ [(k, pad xs)])[i]? = some x := hi
        by_cases hlt : i < n
        · rw [List.getElem?_append_left (by omega)] at hi' he
          obtain ⟨v, ev, hs⟩ := e3 i x e hi' he
          exact ⟨v, ev, (hs.block hbyte).mono hF'⟩
        · rw [List.getElem?_append_right (by omega)] at hi' he
          have hi0 : i - E.length = 0 := by have := (List.getElem?_eq_some_iff.1 he).1; simp at this; omega
          have hi1 : i - s.waits.length = 0 := by omega
          rw [hi0] at he
          rw [hi1] at hi'
          cases he
          cases hi'
          exact ⟨_, rfl, bsec hnewB (pad_length hx64) (.inr ⟨by omega, by rw [s6]; omega⟩)⟩
    · rw [hV] at e
      cases e
      rcases hat with e | e
      · exact .inl (h1.fl _ e)
      · exact .inr ⟨by show w.heap.size ≤ gg; omega, by rw [s6]; exact ggl⟩
  refine ⟨_, ⟨ok.wrote hk hx64 hxb, bl.burnt, ⟨sv, V, hRA⟩, fun x hx => ?_⟩, ?_, fun x hx => ?_⟩
  · rcases hx with hx | hx
    · have := hlt1 x hx; rw [s6]; omega
    · exact hx.2
  · have b1 : But F w w1 := (But.refl F w).grown hg1 (fun y e _ => by cases e; exact h1.fg)
    have b2 : But F w w2 := b1.trans (But.of_below hb2)
    exact (((b2.alloc _).grown hgrow (fun y e _ => h1.fl y e))).set 1 V (fun _ => h1.fg)
  · rcases hx with hx | hx
    · exact .inl hx
    · exact .inr hx.1

set_option maxRecDepth 100000 in
set_option maxHeartbeats 2000000 in
theorem rwrite_any {w : World} {g : Nat} {F : Nat → Prop} {s : St} {k n c : Nat} {A : Option Addr} {xs : List Nat} (hk : k < s.sure.length) (hn : n ≤ 64) (hin : In w A n xs) (hb : ∀ x ∈ xs, x < 256) (hA : 0 < n → ∀ ad, A = some ad → ¬ F ad.block) (hl0 : s.lets ≠ 0) (hw : s.waits.length ≤ 1000000) (h : RDisk w g F s) :
    Calls Tryd.prog 23 #[.pointer (some ⟨g, 0, none⟩), .int .i64 (k : Int), .slice A n c] w fun e w' => e = .returned (.int .i64 0) ∧ RActed w g F (s.wrote k xs) w' := by
  obtain ⟨ok, bl, ⟨sv, lv, h⟩, hl⟩ := h
  have hki : (k : Int) < (s.sure.length : Int) := by omega
  have hm := may_at ok bl h hl
  obtain ⟨⟨A0, c0', rfl⟩, A1, c1', rfl⟩ := h.lens
  have c0 := h.c0
  have hni : decide (64 < (n : Int)) = false := by simp; omega
  rw [show decide (s.lets ≠ 0) = true by simpa using hl0] at hm
  have H := Lib.hid (And.intro ok (And.intro bl (And.intro h (And.intro hl (And.intro hin (And.intro (fun h0 ad e e2 => hA h0 ad e (e2 ▸ h.fg) : 0 < n → ∀ ad, A = some ad → ad.block ≠ g) (And.intro hk (And.intro hn hb))))))))
  clear ok bl h hl hl0 hin hA hk hn hb
  go_enter Tryd.func23, Tryd.ntmps23
  go_wp2_with fail
  refine hm.mono ?_
  rintro e w1 ⟨rfl, h1, hg1, hs1⟩
  have H1 := Lib.hid (And.intro h1 (And.intro hg1 hs1))
  clear h1 hg1 hs1 hm c0
  have hmk : (Instr.makeSlice 42 (.int .i64 64) (.int .i64 64)).run Tryd.prog w1 = .ok (.slice (some ⟨w1.heap.size, 0, none⟩) 64 64) (w1.alloc (.cells (madeCells #[.int .u8 0] 64) 5)) := make_bytes 64 64 (Nat.le_refl _) (by omega) w1
  rw [nought64_made] at hmk
  have hcp : ∀ (ops : Array Oper) (rest : List Oper) (o : Oper) (a : Act) (Q : Exit → Act → World → Prop) (d src : Operand), o.guard = none → o.op = .call { callee := .builtin .copy, args := #[d, src], argTypes := #[42, 42] } →
      a.eval d = .slice (some ⟨w1.heap.size, 0, none⟩) 64 64 → a.eval src = .slice A n c →
      (∀ w', Hid (w'.heap[w1.heap.size]? = some (.cells (bvs (pad xs)).toArray 5 (0, 0)) ∧ Below w1.heap.size w1 w') → wpList Tryd.prog ops Q rest (a.put o.dst (.int .i64 (n : Int))) w') →
      wpList Tryd.prog ops Q (o :: rest) a (w1.alloc (Obj.cells nought64.toArray 5)) := fun ops rest o a Q d src hgd ho hd hs hK => by
    have hin2 := ((H.out.2.2.2.2.1.far H.out.2.2.2.2.2.1 H1.out.2.1).below (below_alloc w1 (Obj.cells nought64.toArray 5)))
    have hxn : (bvs xs).length = n := by rw [bvs_length, H.out.2.2.2.2.1.len]
    refine wpList_copy_splice hgd d src 42 42 ho 5 Tryd.underlying42 sizeByte _ A 64 64 n c hd hs w1.heap.size 0 nought64 5 (World.alloc_heap_new w1 _) (bvs xs) (by rw [hxn]; exact (Nat.min_eq_left H.out.2.2.2.2.2.2.2.1).symm) (fun h0 => ⟨rfl, hin2.src h0⟩) (by rw [hxn, nought64_length]; have := H.out.2.2.2.2.2.2.2.1; omega) (bvs_oneCell xs) w1.heap.size w1 (below_alloc w1 _) (Nat.le_refl _) ?_
    intro w' h1 h2
    rw [hxn]
    rw [pad_splice] at h1
    exact hK w' (Lib.hid ⟨h1, h2⟩)
  have HCP := Lib.hid hcp
  clear hcp
  have hc2 : ∀ w2, Hid (w2.heap[w1.heap.size]? = some (.cells (bvs (pad xs)).toArray 5 (0, 0)) ∧ Below w1.heap.size w1 w2) → w2.cell? ⟨g, 1, none⟩ = some (.slice A1 s.waits.length c1') ∧ w2.frozen? ⟨g, 1, none⟩ = false := fun w2 H2 => by
    have hg : w2.heap[g]? = w1.heap[g]? := H2.out.2.block g (Array.getElem?_eq_some_iff.1 H1.out.1.head).1
    exact ⟨(World.cell?_of_block hg).trans H1.out.1.c1, (World.frozen?_of_block hg).trans (H1.out.1.fz 1)⟩
  have HC2 := Lib.hid hc2
  clear hc2
  obtain ⟨i0, hi, hz0, hz1, hz2⟩ := info_parts infoWait
  obtain ⟨E, e1, e2, e3⟩ := H1.out.1.l
  rw [St.burnt_waits] at e1 e2 e3
  obtain ⟨m, hm⟩ : ∃ m, s.waits.length = m := ⟨_, rfl⟩
  rw [hm] at e1 e2 HC2 H1 H hw
  have hown2 : ∀ w2, Hid (w2.heap[w1.heap.size]? = some (.cells (bvs (pad xs)).toArray 5 (0, 0)) ∧ Below w1.heap.size w1 w2) → ∀ o, (w2.alloc o).ownsRow 0 73 2 (.slice A1 m c1') m E.flatten := fun w2 H2 o =>
    own_block e1 (fun b hb => by
      have := own_lt e1 hb
      exact (heap_alloc_old w2 o (by have := H2.out.2.size; omega)).trans (H2.out.2.block b this))
  have hcl : ∀ w2, Hid (w2.heap[w1.heap.size]? = some (.cells (bvs (pad xs)).toArray 5 (0, 0)) ∧ Below w1.heap.size w1 w2) → ∀ o w3, (w2.alloc o).grownBy w3 (Value.slice A1 m c1').ownBlock → w3.cell? ⟨g, 1, none⟩ = some (.slice A1 m c1') ∧ w3.frozen? ⟨g, 1, none⟩ = false := fun w2 H2 o w3 hg => by
    have gl : g < w1.heap.size := (Array.getElem?_eq_some_iff.1 H1.out.1.head).1
    have h2 := H2.out.2.size
    have hb : w3.heap[g]? = w1.heap[g]? := (hg.block g (by rw [World.size_alloc]; omega) (fun e => H1.out.1.gl e.symm rfl)).trans ((heap_alloc_old w2 o (by omega)).trans (H2.out.2.block g gl))
    exact ⟨(World.cell?_of_block hb).trans H1.out.1.c1, (World.frozen?_of_block hb).trans (H1.out.1.fz 1)⟩
  have HD := Lib.hid (And.intro hown2 (And.intro hcl (And.intro e1 (And.intro e2 (And.intro e3 hm)))))
  clear hown2 hcl e1 e2 e3 hm
  go_wp2_with (first
    | (with_reducible refine HCP.out _ _ _ _ _ _ _ rfl rfl rfl rfl ?_; intro w2 H2; obtain ⟨c1, f1⟩ := HC2.out w2 H2)
    | (at_builtin; refine wpList_append_lies _ rfl _ _ 63 rfl 0 73 i0 _ 2 32 Tryd.underlying63 hi hz0 hz1 hz2 (by rfl) (by decide) _ m E.flatten rfl (HD.out.1 w2 H2 _) ⟨w2.heap.size, 0, none⟩ 1 1 [.int .i64 (k : Int), .slice (some ⟨w1.heap.size, 0, none⟩) 64 64] rfl rfl (World.news_of_block (cs := #[.int .i64 (k : Int), .slice (some ⟨w1.heap.size, 0, none⟩) 64 64]) (t := 73) (fr := (0, 0)) (World.alloc_heap_new w2 _)) (by simp [Value.oneCell']) (by decide) (by unfold maxLen; omega) (by omega) (Nat.zero_le _) _ rfl ?_; intro gg cap w3 hown hgrow hat hlt2; obtain ⟨c3, f3⟩ := HD.out.2.1 w2 H2 _ w3 hgrow))
  go_ret
  refine ⟨rfl, rwrite_rest H.out.1 H.out.2.1 H.out.2.2.2.1 H1.out.1 H1.out.2.1 H1.out.2.2 H2.out.1 H2.out.2 HD.out.2.2.2.2.2 HD.out.2.2.1 HD.out.2.2.2.1 HD.out.2.2.2.2.1 H.out.2.2.2.2.2.2.1 (by rw [H.out.2.2.2.2.1.len]; exact H.out.2.2.2.2.2.2.2.1) H.out.2.2.2.2.2.2.2.2 hown hgrow (hat.imp id (fun e => ?_))⟩
  have := H2.out.2.size
  have := (Array.getElem?_eq_some_iff.1 H2.out.1).1
  rw [e, World.size_alloc]
  omega

end Go.Proofs.YtcdlocbonjgcgaaDoor
