/-
  disks: Write.
-/
import Derived.Test.YthbgcijkpincfaaGreatDoorDRead
import Derived.Test.YthbgcijkpincfaaGreatDoorDOne
import Derived.Deep.RegionLaw
namespace Go.Proofs.YthbgcijkpincfaaGreatDoor
open Go.RowKit

/-- What a write comes to. -/
def St.wrote (s : St) (k : Nat) (xs : List Nat) : St := { s.burnt with waits := s.waits ++ [(k, pad xs)] }
theorem St.wrote_read (s : St) (k : Nat) (xs : List Nat) : (s.wrote k xs).read = s.read.set k (pad xs) := by
  show settle s.burnt.sure (s.waits ++ [(k, pad xs)]) = _
  rw [settle_snoc, St.burnt_sure]; rfl
theorem St.wrote_sure (s : St) (k : Nat) (xs : List Nat) : (s.wrote k xs).sure = s.sure := s.burnt_sure
theorem St.Ok.wrote {s : St} (h : s.Ok) {k : Nat} (hk : k < s.sure.length) {xs : List Nat} (hx : xs.length ≤ 64) (hb : ∀ x ∈ xs, x < 256) : (s.wrote k xs).Ok := by
  have hB := h.burnt
  refine ⟨hB.pos, hB.le, hB.sec, fun x hxm => ?_, hB.lo, hB.hi⟩
  rw [St.wrote_sure]
  rcases List.mem_append.1 hxm with h1 | h1
  · exact h.wsec x h1
  · rw [List.mem_singleton.1 h1]
    exact ⟨hk, pad_length hx, pad_lt hb⟩

def nought : List Nat := List.replicate 64 0
def zeroWrite : List Value := .int .i64 0 :: bvs nought
/-- A write of noughts. -/
def toWrite (k : Int) : List Value := .int .i64 k :: bvs nought
theorem toWrite_length (k : Int) : (toWrite k).toArray.size = 65 := rfl
theorem toWrite_one (k : Int) : (toWrite k).toArray.all (·.oneCell') = true := all_oneCell_toArray (fun v hv => by
  rcases List.mem_cons.1 hv with rfl | h
  · rfl
  · exact bvs_oneCell _ v h)
theorem zeroWrite_run (w : World) : (zeroValue 141).run Tryz.prog w = .ok (.agg zeroWrite.toArray) w :=
  (zero_of_info (P := Tryz.prog) (t := 141) (v := .agg zeroWrite.toArray) (n := 65) (by kernel_rfl)).1 w

/-- 'write{goal: goal{to: n}}'. -/
theorem wpList_build_write {ops : Array Oper} {rest : List Oper} {o : Oper} {a : Act} {Q : Exit → Act → World → Prop} {w : World} (hgd : o.guard = none) (x : Operand) (k : Int) (ho : o.op = .build 141 #[(0, x)]) (hx : a.eval x = .agg #[.int .i64 k])
    (h : wpList Tryz.prog ops Q rest (a.put o.dst (.agg (toWrite k).toArray)) w) : wpList Tryz.prog ops Q (o :: rest) a w := by
  refine wpList_plain hgd fun K hK => ?_
  have hrun : (execOp a.eval o).run Tryz.prog w = .ok (.value (.agg (toWrite k).toArray)) w := by
    unfold execOp
    have hz := zeroWrite_run w
    simp [ho, Instr.build, hx, hz]
    rfl
  unfold Oper.wp
  rw [hrun]
  exact hK _ _ h

theorem pad_whole (k : Nat) (xs : List Nat) : splice (toWrite (k : Int)) 1 (bvs xs) = wcell (k, pad xs) := by
  have hz : bvs nought = List.replicate 64 (bv 0) := List.map_replicate ..
  rw [splice, toWrite, wcell, pad, bvs_append, bvs_length, Nat.add_comm 1, List.drop_succ_cons, hz, List.drop_replicate]
  have hz2 : bvs (List.replicate (64 - xs.length) 0) = List.replicate (64 - xs.length) (bv 0) := List.map_replicate ..
  rw [hz2]
  rfl

theorem In.far {w w1 : World} {A : Option Addr} {n g : Nat} {xs : List Nat} (h : In w A n xs) (hA : 0 < n → ∀ ad, A = some ad → ad.block ≠ g) (hg : w.grownBy w1 (some g)) : In w1 A n xs := by
  refine ⟨h.len, fun j x hx => ?_⟩
  obtain ⟨ad, e, hc⟩ := h.rd j x hx
  have hj := (List.getElem?_eq_some_iff.1 hx).1
  rw [h.len] at hj
  refine ⟨ad, e, ?_⟩
  rw [hg.cell_far (ad.add j) (World.block_lt_of_cell? w _ hc) (fun e2 => hA (by omega) ad e (by injection e2 with e3; rw [← e3, block_add]))]
  exact hc

/-- The bytes of a slice, as they are copied. -/
theorem In.src {w : World} {A : Option Addr} {n : Nat} {xs : List Nat} (h : In w A n xs) (h0 : 0 < (bvs xs).length) : ∃ ad, A = some ad ∧ ∀ j v, (bvs xs)[j]? = some v → w.cell? (ad.add j) = some v := by
  rw [bvs_length, h.len] at h0
  obtain ⟨ad, x, rfl, _⟩ := h.at_ h0
  refine ⟨ad, rfl, fun j v hv => ?_⟩
  rw [bvs_get] at hv
  obtain ⟨y, hy, rfl⟩ := Option.map_eq_some_iff.1 hv
  obtain ⟨ad', e, hc⟩ := h.rd j y hy
  cases e
  exact hc

theorem write_rest {w w1 : World} {g a b ca cb : Nat} {v : Value} {F : Nat → Prop} {s : St} (ok : s.Ok) (hf : ∀ x, Foot g a b v x → F x) (hF : ∀ x, F x → x < w.heap.size) (hg1 : w.grownBy w1 (some g)) (hs1 : w1.heap.size = w.heap.size)
    (h1 : DiskAt w1 g a b ca cb v s.burnt) {k : Nat} (hk : k < s.sure.length) {xs : List Nat} (hn : xs.length ≤ 64) (hb : ∀ x ∈ xs, x < 256) {w4 w5 : World}
    (hw4 : Below w1.heap.size w1 w4) (hr : SecAt (w4.setCells b (k * 64) (bvs (pad xs))) b cb (s.read.set k (pad xs))) {gg cap : Nat}
    (hown : w5.ownsRow 0 141 65 (.slice (some ⟨gg, 0, none⟩) (s.waits.length + 1) cap) (s.waits.length + 1) ((wcells s.waits).flatten ++ wcell (k, pad xs)))
    (hgrow : (w4.setCells b (k * 64) (bvs (pad xs))).grownBy w5 v.ownBlock) (hat : v.ownBlock = some gg ∨ w1.heap.size ≤ gg) :
    Acted w g F (s.wrote k xs) (w5.setCell ⟨g, 2, none⟩ (.slice (some ⟨gg, 0, none⟩) (s.waits.length + 1) cap)) := by
  have sz4 : (w4.setCells b (k * 64) (bvs (pad xs))).heap.size = w4.heap.size := setCells_size _ _ _ _
  have s14 := hw4.size
  have s5 := hgrow.size
  rw [sz4] at s5
  have gl := h1.lt
  have al := h1.sure.lt
  have bl := h1.rd.lt
  have hW : ∀ x, x < w1.heap.size → x ≠ b → v.ownBlock ≠ some x → w5.heap[x]? = w1.heap[x]? := fun x hx hxb hxv =>
    (hgrow.block x (by rw [sz4]; omega) (fun e => hxv e.symm)).trans (((setCells_grown b (bvs (pad xs)) w4 (k * 64)).block x (by omega) (fun e => hxb (by injection e))).trans (hw4.block x hx))
  have hB : w5.heap[b]? = (w4.setCells b (k * 64) (bvs (pad xs))).heap[b]? := hgrow.block b (by rw [sz4]; omega) (fun e => h1.bv e.symm rfl)
  have hG := hW g gl h1.gb (fun e => h1.gv e rfl)
  have hA := hW a al h1.ne (fun e => h1.av e rfl)
  have ggl : gg < w5.heap.size := own_lt hown rfl
  have gne : gg ≠ g := by
    rcases hat with e | e
    · exact fun h => h1.gv e h.symm
    · omega
  obtain ⟨V, hV⟩ : ∃ V, V = Value.slice (some ⟨gg, 0, none⟩) (s.waits.length + 1) cap := ⟨_, rfl⟩
  rw [← hV] at hown ⊢
  have h6 : ∀ x, x ≠ g → (w5.setCell ⟨g, 2, none⟩ V).heap[x]? = w5.heap[x]? := fun x hx => heap_setCell_other w5 ⟨g, 2, none⟩ x V hx
  have s6 : (w5.setCell ⟨g, 2, none⟩ V).heap.size = w5.heap.size := by simp [World.setCell]
  have head5 := hG.trans h1.head
  have hD : DiskAt (w5.setCell ⟨g, 2, none⟩ V) g a b ca cb V (s.wrote k xs) := by
    refine ⟨heap_setCell_same w5 g 2 _ _ V head5, h1.sure.block ((h6 a h1.ga.symm).trans hA), ?_, ?_, h1.ne⟩
    · rw [St.wrote_read]
      exact hr.block ((h6 b h1.gb.symm).trans hB)
    · have e1 : (s.wrote k xs).waits = s.waits ++ [(k, pad xs)] := rfl
      have e2 : (wcells (s.waits ++ [(k, pad xs)])).flatten = (wcells s.waits).flatten ++ wcell (k, pad xs) := by simp [wcells]
      rw [e1, e2, List.length_append]
      exact own_block hown (fun x hx => by rw [hV] at hx; cases hx; exact h6 _ gne)
  have hOk := ok.wrote hk hn hb
  refine ⟨fun x => F x ∨ (w.heap.size ≤ x ∧ x < (w5.setCell ⟨g, 2, none⟩ V).heap.size), ⟨hOk, ⟨a, b, ca, cb, V, hD, fun x hx => ?_⟩, fun x hx => ?_⟩, ?_, fun x hx => ?_⟩
  · rcases hx with rfl | rfl | rfl | hx
    · exact .inl (hf _ (.inl rfl))
    · exact .inl (hf _ (.inr (.inl rfl)))
    · exact .inl (hf _ (.inr (.inr (.inl rfl))))
    · rw [hV] at hx
      cases hx
      rcases hat with e | e
      · exact .inl (hf _ (.inr (.inr (.inr e))))
      · exact .inr ⟨by show w.heap.size ≤ gg; omega, by rw [s6]; exact ggl⟩
  · rcases hx with hx | hx
    · have := hF x hx; rw [s6]; omega
    · exact hx.2
  · have b1 : But F w w1 := (But.refl F w).grown hg1 (fun y e _ => by cases e; exact hf _ (.inl rfl))
    have b2 : But F w w4 := b1.trans (But.of_below hw4)
    have b3 := b2.grown (setCells_grown b (bvs (pad xs)) w4 (k * 64)) (fun y e _ => by cases e; exact hf _ (.inr (.inr (.inl rfl))))
    have b4 := b3.grown hgrow (fun y e _ => hf _ (.inr (.inr (.inr e))))
    exact b4.set 2 V (fun _ => hf _ (.inl rfl))
  · rcases hx with hx | hx
    · exact .inl hx
    · exact .inr hx.1

set_option maxRecDepth 100000 in
set_option maxHeartbeats 2000000 in
theorem write_any {w : World} {g : Nat} {F : Nat → Prop} {s : St} {k : Nat} (hk : k < s.sure.length) (A : Option Addr) (n c : Nat) (xs : List Nat) (hin : In w A n xs) (hA : 0 < n → ∀ ad, A = some ad → ad.block ≠ g) (hb : ∀ x ∈ xs, x < 256) (hn : n ≤ 64) (hl : s.lets ≠ 0) (hw : s.waits.length ≤ 1000000000)
    (h : Disk w g F s) :
    Calls Tryz.prog 20 #[.pointer (some ⟨g, 0, none⟩), .int .i64 (k : Int), .slice A n c] w fun e w' => e = .returned (.int .i64 0) ∧ Acted w g F (s.wrote k xs) w' := by
  have hd := isThere_yes h
  have hh := has_any (k : Int) h
  have e1 : decide ((0 : Int) ≤ (k : Int) ∧ (k : Int) < (s.sure.length : Int)) = true := by simp; omega
  rw [e1] at hh
  obtain ⟨ok, ⟨a, b, ca, cb, v, h, hf⟩, hF⟩ := h
  have hlb := letBe_at ok h
  rw [show decide (s.lets ≠ 0) = true by simpa using hl] at hlb
  have hni : decide (64 < (n : Int)) = false := by simp; omega
  have hki : (k : Int) < (s.sure.length : Int) := by omega
  have H0 := Lib.hid (And.intro hin (And.intro hb (And.intro hn (And.intro ok (And.intro h (And.intro hf (And.intro hF hA)))))))
  clear hin hb ok h hf hF e1 hl hA
  go_enter Tryz.func20, Tryz.ntmps20
  go_wp2_with fail
  refine hd.mono ?_
  rintro e w1 ⟨rfl, rfl⟩
  go_wp2_with fail
  refine hh.mono ?_
  rintro e w1 ⟨rfl, rfl⟩
  go_wp2_with fail
  refine hlb.mono ?_
  rintro e w1 ⟨rfl, h1, hg1, hs1⟩
  clear hd hh hlb
  have H1 := Lib.hid (And.intro h1 (And.intro hg1 hs1))
  clear h1 hg1 hs1
  have z1 := zeroWrite_run w1
  have HZ := Lib.hid (And.intro (show (Tryz.prog.info? 141).map (·.size) = some (toWrite (k : Int)).toArray.size from sizeWrite) (show zeroWrite.toArray.size = (toWrite (k : Int)).toArray.size from rfl))
  have hcp : ∀ (ops : Array Oper) (rest : List Oper) (o : Oper) (a : Act) (Q : Exit → Act → World → Prop), o.guard = none → o.op = .call { callee := .builtin .copy, args := #[.tmp 30, .tmp 31], argTypes := #[50, 50] } →
      a.eval (.tmp 30) = .slice (some ⟨w1.heap.size, 1, none⟩) 64 64 → a.eval (.tmp 31) = .slice A n c →
      (∀ w', Hid (w'.heap[w1.heap.size]? = some (.cells (wcell (k, pad xs)).toArray 141 (0, 0)) ∧ Below w1.heap.size w1 w') → wpList Tryz.prog ops Q rest (a.put o.dst (.int .i64 (n : Int))) w') →
      wpList Tryz.prog ops Q (o :: rest) a (w1.alloc (Obj.cells (toWrite (k : Int)).toArray 141)) := fun ops rest o a Q hgd ho hd hs hK => by
    have hin2 := ((H0.out.1.far H0.out.2.2.2.2.2.2.2 H1.out.2.1).below (below_alloc w1 (Obj.cells (toWrite (k : Int)).toArray 141)))
    have hxn : (bvs xs).length = n := by rw [bvs_length, H0.out.1.len]
    refine wpList_copy_splice hgd (.tmp 30) (.tmp 31) 50 50 ho 5 Tryz.underlying50 sizeByte _ A 64 64 n c hd hs w1.heap.size 1 (toWrite (k : Int)) 141 (World.alloc_heap_new w1 _) (bvs xs) (by rw [hxn]; exact (Nat.min_eq_left H0.out.2.2.1).symm) (fun h0 => ⟨rfl, hin2.src h0⟩) (by rw [hxn]; have := toWrite_length (k : Int); rw [List.size_toArray] at this; omega) (bvs_oneCell xs) w1.heap.size w1 (below_alloc w1 _) (Nat.le_refl _) ?_
    intro w' h1 h2
    rw [hxn]
    rw [pad_whole] at h1
    exact hK w' (Lib.hid ⟨h1, h2⟩)
  have HCP := Lib.hid hcp
  clear hcp
  go_wp2_with (first
    | (with_reducible refine HCP.out _ _ _ _ _ rfl rfl rfl rfl ?_; intro w2 H2)
    | (with_reducible refine wpList_build_write rfl _ (k : Int) rfl rfl ?_)
    | (with_reducible refine wpList_store_fresh rfl w1 141 _ (toWrite (k : Int)).toArray _ _ rfl rfl rfl HZ.out.1 HZ.out.2 (toWrite_one _) ?_))
  clear z1 HZ HCP
  obtain ⟨B, hB⟩ : ∃ B, w1.heap.size = B := ⟨_, rfl⟩
  rw [hB] at H2 ⊢
  have D2 : DiskAt w2 g a b ca cb v s.burnt := H1.out.1.blocks (fun x hx => H2.out.2.block x (by have := H1.out.1.foot hx; omega))
  have c1 := D2.c1
  have c2 := D2.c2
  have f2 := D2.fz 2
  rw [St.burnt_sure] at c1
  have cB : w2.cell? ⟨B, 0, none⟩ = some (.int .i64 (k : Int)) := by rw [cell_of_row _ B 0 _ _ (0, 0) H2.out.1]; rfl
  have rB : w2.drew.rangeAt B 1 (bvs (pad xs)) := fun j u hu => by
    rw [World.cell?_drew, cell_of_row _ B (1 + j) _ _ (0, 0) H2.out.1, Nat.add_comm 1 j, List.getElem?_toArray, wcell, List.getElem?_cons_succ]
    exact hu
  have pl : (pad xs).length = 64 := pad_length (by rw [H0.out.1.len]; exact hn)
  have tB := (D2.rd.there (k := k) (by rw [St.burnt_read, s.read_length]; exact hk))
  have rd2 : SecAt w2 b cb s.read := by have := D2.rd; rwa [St.burnt_read] at this
  have HB := Lib.hid (And.intro rB (And.intro pl (And.intro tB (And.intro D2 (And.intro hB rd2)))))
  clear rB pl tB D2 hB rd2
  go_wp2
  refine wp_region_still_tail 10 (by kernel_rfl) (by kernel_rfl) ?_
  simp only [List.take_succ_cons, List.take_zero, List.drop_succ_cons, List.drop_zero]
  iterate 8 still_step
  refine wpStill_step (fun K hK => ?_)
  refine still_load_mid rfl 137 (.tmp 40) rfl B 1 rfl (bvs (pad xs)) _ HB.out.1 Tryz.underlying137 rfl (by rw [bvs_length, HB.out.2.1]; exact sizeSector) (hK _ ?_)
  clear hK K
  still_step
  refine wpStill_nil ?_
  change wpList _ _ _ _ _ w2.drew
  refine wpList_store_mid rfl 137 (.tmp 42) (.tmp 41) rfl b (k * 64) (bvs (pad xs)).toArray rfl rfl (by rw [List.size_toArray, bvs_length, HB.out.2.1]; exact HB.out.2.2.1) (by rw [List.size_toArray, bvs_length, HB.out.2.1]; exact sizeSector) (all_oneCell_toArray (bvs_oneCell _)) ?_
  change wpList _ _ _ _ _ (w2.drew.setCells b (k * 64) (bvs (pad xs)))
  have bB : b < B := by have := H1.out.1.rd.lt; have := HB.out.2.2.2.2.1; omega
  have gB : g < B := by have := H1.out.1.lt; have := HB.out.2.2.2.2.1; omega
  have GR := setCells_grown b (bvs (pad xs)) w2.drew (k * 64)
  have bl : B < w2.heap.size := (Array.getElem?_eq_some_iff.1 H2.out.1).1
  obtain ⟨W4, hW4⟩ : ∃ W4, w2.drew.setCells b (k * 64) (bvs (pad xs)) = W4 := ⟨_, rfl⟩
  rw [hW4] at GR ⊢
  have hB4 : W4.heap[B]? = some (.cells (wcell (k, pad xs)).toArray 141 (0, 0)) := (GR.block B bl (fun e => by injection e with e; omega)).trans H2.out.1
  have hg4 : W4.heap[g]? = w2.heap[g]? := GR.block g (Nat.lt_trans gB bl) (fun e => HB.out.2.2.2.1.gb (by injection e))
  have c4 : W4.cell? ⟨g, 2, none⟩ = some v := (World.cell?_of_block hg4).trans c2
  have f4 : W4.frozen? ⟨g, 2, none⟩ = false := (World.frozen?_of_block hg4).trans f2
  have row4 : W4.ownsRow 0 141 65 v s.waits.length (wcells s.waits).flatten := by
    have hr := HB.out.2.2.2.1.row
    rw [St.burnt_waits] at hr
    exact own_block hr (fun x hx => GR.block x (by have := own_lt hr hx; exact this) (fun e => HB.out.2.2.2.1.bv hx (by injection e with e; exact e.symm)))
  have sz4 : W4.heap.size = w2.heap.size := by rw [← hW4]; exact setCells_size _ _ _ _
  have hS : W4.drew.rangeAt B 0 (wcell (k, pad xs)) := fun j u hu => by
    rw [World.cell?_drew, Nat.zero_add, cell_of_row _ B j _ _ (0, 0) hB4, List.getElem?_toArray]
    exact hu
  have hwl : (wcell (k, pad xs)).length = 65 := by rw [wcell, List.length_cons, bvs_length, HB.out.2.1]
  have HW := Lib.hid (And.intro hB4 (And.intro row4 (And.intro sz4 (And.intro hW4 (And.intro GR (And.intro hg4 hwl))))))
  clear hB4 row4 sz4 hW4 GR c1 c2 f2 cB hg4 hwl
  go_wp2_with fail
  refine wp_region_held (S := fun W => W.rangeAt B 0 (wcell (k, pad xs))) (by kernel_rfl) ?_
  change wpAnyH _ _ _ _ _ _ _ _ W4.drew
  refine' wpAnyH_take (i := 0) (oi := _) (v := _) ?hi0 (by kernel_rfl) ?hf0 ?hr0 ?hQ0 ?hy0 hS ?rest0
  case hi0 => (simp only [List.getElem?_toArray, List.getElem?_cons_zero]; rfl)
  case hf0 => kernel_rfl
  case hr0 => kernel_rfl
  case hQ0 => exact fun _ _ _ h => h
  case hy0 => refine Or.inl ⟨by rfl, ?_⟩; intro W hSw; go_simp; try with_reducible rfl
  simp only [Act.put, List.setIfInBounds_toArray, List.set_cons_zero, List.set_cons_succ]
  refine' wpAnyH_take (i := 1) (oi := _) (v := _) ?hi1 (by kernel_rfl) ?hf1 ?hr1 ?hQ1 ?hy1 hS ?rest1
  case hi1 => (simp only [List.getElem?_toArray, List.getElem?_cons_zero, List.getElem?_cons_succ]; rfl)
  case hf1 => kernel_rfl
  case hr1 => kernel_rfl
  case hQ1 => exact fun _ _ _ h => h
  case hy1 => refine Or.inl ⟨by rfl, ?_⟩; intro W hSw; go_simp; try with_reducible rfl
  simp only [Act.put, List.setIfInBounds_toArray, List.set_cons_zero, List.set_cons_succ]
  refine' wpAnyH_take (i := 2) (oi := _) (v := _) ?hi2 (by kernel_rfl) ?hf2 ?hr2 ?hQ2 ?hy2 hS ?rest2
  case hi2 => (simp only [List.getElem?_toArray, List.getElem?_cons_zero, List.getElem?_cons_succ]; rfl)
  case hf2 => kernel_rfl
  case hr2 => kernel_rfl
  case hQ2 => exact fun _ _ _ h => h
  case hy2 => refine Or.inl ⟨by rfl, ?_⟩; intro W hSw; go_simp; try with_reducible rfl
  simp only [Act.put, List.setIfInBounds_toArray, List.set_cons_zero, List.set_cons_succ]
  refine' wpAnyH_take (i := 3) (oi := _) (v := _) ?hi3 (by kernel_rfl) ?hf3 ?hr3 ?hQ3 ?hy3 hS ?rest3
  case hi3 => (simp only [List.getElem?_toArray, List.getElem?_cons_zero, List.getElem?_cons_succ]; rfl)
  case hf3 => kernel_rfl
  case hr3 => kernel_rfl
  case hQ3 => exact fun _ _ _ h => h
  case hy3 => refine Or.inl ⟨by rfl, ?_⟩; intro W hSw; go_simp; try with_reducible rfl
  simp only [Act.put, List.setIfInBounds_toArray, List.set_cons_zero, List.set_cons_succ]
  refine' wpAnyH_take (i := 5) (oi := _) (v := _) ?hi5 (by kernel_rfl) ?hf5 ?hr5 ?hQ5 ?hy5 hS ?rest5
  case hi5 => (simp only [List.getElem?_toArray, List.getElem?_cons_zero, List.getElem?_cons_succ]; rfl)
  case hf5 => kernel_rfl
  case hr5 => kernel_rfl
  case hQ5 => exact fun _ _ _ h => h
  case hy5 => refine yieldsIf_load_mid ?_ 141 (.tmp 7) ?_ B 0 ?_ (wcell (k, pad xs)) _ (fun _ h => h) Tryz.underlying141 rfl (by rw [HW.out.2.2.2.2.2.2]; exact sizeWrite) <;> rfl
  simp only [Act.put, List.setIfInBounds_toArray, List.set_cons_zero, List.set_cons_succ]
  obtain ⟨i0, hi, hz0, hz1, hz2⟩ := info_parts infoWrite
  have hSa : (W4.drew.alloc (Obj.cells (wcell (k, pad xs)).toArray 141)).rangeAt B 0 (wcell (k, pad xs)) := World.rangeAt_alloc hS _
  have hrow5 : (W4.drew.alloc (Obj.cells (wcell (k, pad xs)).toArray 141)).ownsRow 0 141 65 v s.waits.length (wcells s.waits).flatten := own_block HW.out.2.1 (fun x hx => heap_alloc_old W4.drew _ (own_lt HW.out.2.1 hx))
  have hnews5 := World.news_of_block (w := W4.drew.alloc (Obj.cells (wcell (k, pad xs)).toArray 141)) (World.alloc_heap_new W4.drew _)
  have szA : (W4.drew.alloc (Obj.cells (wcell (k, pad xs)).toArray 141)).heap.size = W4.heap.size + 1 := by simp
  have hB5 : B < (W4.drew.alloc (Obj.cells (wcell (k, pad xs)).toArray 141)).heap.size := by have := HW.out.2.2.1; omega
  have hg5 : g < (W4.drew.alloc (Obj.cells (wcell (k, pad xs)).toArray 141)).heap.size := by omega
  have hBv : v.ownBlock ≠ some B := fun e => by have := own_lt H0.out.2.2.2.2.1.row e; have := HB.out.2.2.2.2.1; have := H1.out.2.2; omega
  have hgv : v.ownBlock ≠ some g := fun e => HB.out.2.2.2.1.gv e rfl
  have ca5 : (W4.drew.alloc (Obj.cells (wcell (k, pad xs)).toArray 141)).cell? ⟨g, 2, none⟩ = some v := by
    have : g < W4.drew.heap.size := by show g < W4.heap.size; have := HW.out.2.2.1; omega
    rw [World.cell?_alloc_lt _ _ _ this]; exact c4
  have fa5 : (W4.drew.alloc (Obj.cells (wcell (k, pad xs)).toArray 141)).frozen? ⟨g, 2, none⟩ = false := by
    have : g < W4.drew.heap.size := by show g < W4.heap.size; have := HW.out.2.2.1; omega
    rw [World.frozen?_alloc_past _ _ _ this]; exact f4
  have hend : ∀ (gg cap : Nat) (w5 : World), w5.ownsRow 0 141 65 (.slice (some ⟨gg, 0, none⟩) (s.waits.length + 1) cap) (s.waits.length + 1) ((wcells s.waits).flatten ++ wcell (k, pad xs)) →
      (W4.drew.alloc (Obj.cells (wcell (k, pad xs)).toArray 141)).grownBy w5 v.ownBlock → (v.ownBlock = some gg ∨ gg = (W4.drew.alloc (Obj.cells (wcell (k, pad xs)).toArray 141)).heap.size) →
      Acted w g F (s.wrote k xs) (w5.setCell ⟨g, 2, none⟩ (.slice (some ⟨gg, 0, none⟩) (s.waits.length + 1) cap)) := fun gg cap w5 hown hgrow hat => by
    have hR : SecAt (w2.drew.setCells b (k * 64) (bvs (pad xs))) b cb (s.read.set k (pad xs)) :=
      SecAt.set (w := w2.drew) (HB.out.2.2.2.2.2.block rfl) H0.out.2.2.2.1.read (by rw [s.read_length]; exact hk) HB.out.2.1
    have hGW : (w2.drew.setCells b (k * 64) (bvs (pad xs))).grownBy w5 v.ownBlock := by
      rw [HW.out.2.2.2.1]
      refine ⟨hgrow.os, hgrow.tape, hgrow.output, by have := hgrow.size; omega, fun x hx hne => (hgrow.block x (by omega) hne).trans (heap_alloc_old W4.drew _ hx)⟩
    exact write_rest H0.out.2.2.2.1 H0.out.2.2.2.2.2.1 H0.out.2.2.2.2.2.2.1 H1.out.2.1 H1.out.2.2 H1.out.1 hk (by rw [H0.out.1.len]; exact hn) H0.out.2.1 (w4 := w2.drew) (by rw [HB.out.2.2.2.2.1]; exact H2.out.2.drew) hR hown hGW
      (hat.imp id (fun e => by have := HW.out.2.2.1; have := HB.out.2.2.2.2.1; omega))
  have cb5 : (W4.alloc (Obj.cells (wcell (k, pad xs)).toArray 141)).cell? ⟨g, 2, none⟩ = some v := ca5
  have HEnd := Lib.hid hend
  clear hend
  refine wpAnyH_ready (rs := [4, 6]) (by kernel_rfl) (by simp) ?_
  refine' AllReadyH.cons (o := _) ?hiA (fun K hK => ?_) (AllReadyH.cons (o := _) ?hiB (fun K hK => ?_) AllReadyH.nil)
  case hiA => (simp only [List.getElem?_toArray, List.getElem?_cons_zero, List.getElem?_cons_succ]; rfl)
  case hiB => (simp only [List.getElem?_toArray, List.getElem?_cons_zero, List.getElem?_cons_succ]; rfl)
  · skip
    go_simp
    refine hK.out _ _ hS (fun _ => ?_)
    clear hK K
    refine wpAnyH_ready (rs := [6]) (by kernel_rfl) (by simp) ?_
    refine' AllReadyH.cons (o := _) ?hiA6 (fun K hK => ?_) AllReadyH.nil
    case hiA6 => (simp only [List.getElem?_toArray, List.getElem?_cons_zero, List.getElem?_cons_succ]; rfl)
    rw [if_pos (by rfl)]
    refine wp_one 132 141 (.tmp 48) rfl i0 _ 65 (wcell (k, pad xs)) rfl Tryz.underlying132 hi hz0 hz1 (by decide) (by decide) HW.out.2.2.2.2.2.2 ?_
    refine hK.out _ _ hSa (fun _ => ?_)
    clear hK K
    simp only [Act.put, List.setIfInBounds_toArray, List.set_cons_zero, List.set_cons_succ]
    refine wpAnyH_ready (rs := [7]) (by kernel_rfl) (by simp) ?_
    refine' AllReadyH.cons (o := _) ?hiA7 (fun K hK => ?_) AllReadyH.nil
    case hiA7 => (simp only [List.getElem?_toArray, List.getElem?_cons_zero, List.getElem?_cons_succ]; rfl)
    refine step_append_lies _ (by rfl) _ _ _ (by rfl) 0 141 i0 _ 65 72 Tryz.underlying132 hi hz0 hz1 hz2 (by rfl) (by decide) v s.waits.length (wcells s.waits).flatten (by rfl) hrow5 ⟨W4.heap.size, 0, none⟩ 1 1 (wcell (k, pad xs)) (by rfl) (by rw [HW.out.2.2.2.2.2.2]) hnews5 (wcell_one _) (by decide) (by unfold maxLen; omega) (by omega) (Nat.zero_le _) _ rfl ?_
    intro gg cap w5 hown hgrow hat hlt
    have hS5 : w5.rangeAt B 0 (wcell (k, pad xs)) := fun j u hu => (hgrow.cell_far _ hB5 (fun e => hBv e.symm)).trans (hSa j u hu)
    have c5 : w5.cell? ⟨g, 2, none⟩ = some v := (hgrow.cell_far _ hg5 (fun e => hgv e.symm)).trans ca5
    have f5 : w5.frozen? ⟨g, 2, none⟩ = false := (hgrow.frozen_far _ hg5 (fun e => hgv e.symm)).trans fa5
    refine hK.out _ _ hS5 (fun _ => ?_)
    clear hK K
    simp only [Act.put, List.setIfInBounds_toArray, List.set_cons_zero, List.set_cons_succ]
    refine' wpAnyH_take (i := 8) (oi := _) (v := _) ?hiA8 (by kernel_rfl) ?hfA8 ?hrA8 ?hQA8 ?hyA8 hS5 ?restA8
    case hiA8 => (simp only [List.getElem?_toArray, List.getElem?_cons_zero, List.getElem?_cons_succ]; rfl)
    case hfA8 => kernel_rfl
    case hrA8 => kernel_rfl
    case hQA8 => exact fun _ _ _ h => h
    case hyA8 => refine Or.inl ⟨by rfl, ?_⟩; intro W hSw; go_simp; try with_reducible rfl
    simp only [Act.put, List.setIfInBounds_toArray, List.set_cons_zero, List.set_cons_succ]
    refine' wpAnyH_take (i := 9) (oi := _) (v := _) ?hiA9 (by kernel_rfl) ?hfA9 ?hrA9 ?hQA9 ?hyA9 hS5 ?restA9
    case hiA9 => (simp only [List.getElem?_toArray, List.getElem?_cons_zero, List.getElem?_cons_succ]; rfl)
    case hfA9 => kernel_rfl
    case hrA9 => kernel_rfl
    case hQA9 => exact fun _ _ _ h => h
    case hyA9 => refine Or.inl ⟨by rfl, ?_⟩; intro W hSw; go_simp; try with_reducible rfl
    simp only [Act.put, List.setIfInBounds_toArray, List.set_cons_zero, List.set_cons_succ]
    refine wpAnyH_ready (rs := [10]) (by kernel_rfl) (by simp) ?_
    refine' AllReadyH.cons (o := _) ?hiA10 (fun K hK => ?_) AllReadyH.nil
    case hiA10 => (simp only [List.getElem?_toArray, List.getElem?_cons_zero, List.getElem?_cons_succ]; rfl)
    go_simp
    refine hK.out _ _ (fun j u hu => ?_) (fun _ => ?_)
    · rw [World.cell?_setCell_other _ _ _ _ (fun e => by injection e with e; omega)]
      exact hS5 j u hu
    clear hK K
    refine wpAnyH_done (by kernel_rfl) ?_ _
    go_wp2
    go_ret
    exact ⟨rfl, HEnd.out _ _ _ hown hgrow hat⟩
  · skip
    rw [if_pos (by rfl)]
    refine wp_one 132 141 (.tmp 48) rfl i0 _ 65 (wcell (k, pad xs)) rfl Tryz.underlying132 hi hz0 hz1 (by decide) (by decide) HW.out.2.2.2.2.2.2 ?_
    refine hK.out _ _ hSa (fun _ => ?_)
    clear hK K
    simp only [Act.put, List.setIfInBounds_toArray, List.set_cons_zero, List.set_cons_succ]
    refine wpAnyH_ready (rs := [4]) (by kernel_rfl) (by simp) ?_
    refine' AllReadyH.cons (o := _) ?hiB4 (fun K hK => ?_) AllReadyH.nil
    case hiB4 => (simp only [List.getElem?_toArray, List.getElem?_cons_zero, List.getElem?_cons_succ]; rfl)
    go_simp
    refine hK.out _ (W4.drew.alloc (Obj.cells (wcell (k, pad xs)).toArray 141)) hSa (fun _ => ?_)
    clear hK K
    refine wpAnyH_ready (rs := [7]) (by kernel_rfl) (by simp) ?_
    refine' AllReadyH.cons (o := _) ?hiB7 (fun K hK => ?_) AllReadyH.nil
    case hiB7 => (simp only [List.getElem?_toArray, List.getElem?_cons_zero, List.getElem?_cons_succ]; rfl)
    refine step_append_lies _ (by rfl) _ _ _ (by rfl) 0 141 i0 _ 65 72 Tryz.underlying132 hi hz0 hz1 hz2 (by rfl) (by decide) v s.waits.length (wcells s.waits).flatten (by rfl) hrow5 ⟨W4.heap.size, 0, none⟩ 1 1 (wcell (k, pad xs)) (by rfl) (by rw [HW.out.2.2.2.2.2.2]) hnews5 (wcell_one _) (by decide) (by unfold maxLen; omega) (by omega) (Nat.zero_le _) _ rfl ?_
    intro gg cap w5 hown hgrow hat hlt
    have hS5 : w5.rangeAt B 0 (wcell (k, pad xs)) := fun j u hu => (hgrow.cell_far _ hB5 (fun e => hBv e.symm)).trans (hSa j u hu)
    have c5 : w5.cell? ⟨g, 2, none⟩ = some v := (hgrow.cell_far _ hg5 (fun e => hgv e.symm)).trans ca5
    have f5 : w5.frozen? ⟨g, 2, none⟩ = false := (hgrow.frozen_far _ hg5 (fun e => hgv e.symm)).trans fa5
    refine hK.out _ _ hS5 (fun _ => ?_)
    clear hK K
    simp only [Act.put, List.setIfInBounds_toArray, List.set_cons_zero, List.set_cons_succ]
    refine' wpAnyH_take (i := 8) (oi := _) (v := _) ?hiB8 (by kernel_rfl) ?hfB8 ?hrB8 ?hQB8 ?hyB8 hS5 ?restB8
    case hiB8 => (simp only [List.getElem?_toArray, List.getElem?_cons_zero, List.getElem?_cons_succ]; rfl)
    case hfB8 => kernel_rfl
    case hrB8 => kernel_rfl
    case hQB8 => exact fun _ _ _ h => h
    case hyB8 => refine Or.inl ⟨by rfl, ?_⟩; intro W hSw; go_simp; try with_reducible rfl
    simp only [Act.put, List.setIfInBounds_toArray, List.set_cons_zero, List.set_cons_succ]
    refine' wpAnyH_take (i := 9) (oi := _) (v := _) ?hiB9 (by kernel_rfl) ?hfB9 ?hrB9 ?hQB9 ?hyB9 hS5 ?restB9
    case hiB9 => (simp only [List.getElem?_toArray, List.getElem?_cons_zero, List.getElem?_cons_succ]; rfl)
    case hfB9 => kernel_rfl
    case hrB9 => kernel_rfl
    case hQB9 => exact fun _ _ _ h => h
    case hyB9 => refine Or.inl ⟨by rfl, ?_⟩; intro W hSw; go_simp; try with_reducible rfl
    simp only [Act.put, List.setIfInBounds_toArray, List.set_cons_zero, List.set_cons_succ]
    refine wpAnyH_ready (rs := [10]) (by kernel_rfl) (by simp) ?_
    refine' AllReadyH.cons (o := _) ?hiB10 (fun K hK => ?_) AllReadyH.nil
    case hiB10 => (simp only [List.getElem?_toArray, List.getElem?_cons_zero, List.getElem?_cons_succ]; rfl)
    go_simp
    refine hK.out _ _ (fun j u hu => ?_) (fun _ => ?_)
    · rw [World.cell?_setCell_other _ _ _ _ (fun e => by injection e with e; omega)]
      exact hS5 j u hu
    clear hK K
    refine wpAnyH_done (by kernel_rfl) ?_ _
    go_wp2
    go_ret
    exact ⟨rfl, HEnd.out _ _ _ hown hgrow hat⟩

end Go.Proofs.YthbgcijkpincfaaGreatDoor
