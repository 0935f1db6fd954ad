/-
  fronts.Add: one sum more.
-/
import Derived.Test.YtllohbgejjbagaaDoorGTog
import Derived.Test.YtllohbgejjbagaaDoorGConcat
import Derived.Deep.CutRange
import Derived.Deep.RegionLaw
import Derived.StillTailTactics
namespace Go.Proofs.YtllohbgejjbagaaDoor
open Go.RowKit

/-- The beginning of a list of sums that may be nil. -/
theorem run_take_sumsO {A : Option Addr} {n c k : Nat} (hk : k ≤ n) (hc : n ≤ c) (hn : A = none → c = 0) (W : World) :
    (Instr.slice 37 (.slice A n c) none (some (.int .i64 (k : Int))) none).run Tryd.prog W = .ok (.slice A k c) W := by
  cases A with
  | some ad => exact run_take_sums hk hc W
  | none =>
    obtain rfl := hn rfl
    obtain rfl : n = 0 := by omega
    obtain rfl : k = 0 := by omega
    obtain ⟨i0, hi, hz0, hz1, hz2⟩ := info_parts infoSum
    have he : Tryd.prog.elem 37 = 34 := by kernel_rfl
    rw [run_slice_h W 37 none 0 0 (by rw [he]; exact Tryd.underlying37) .i64 ((0 : Nat) : Int) (by omega) (by omega), he]
    simp [sizeOf, typeInfo, hi, hz1, sliced]

/-- The end, the beginning of a list, in every world. -/
theorem yields_low {ops : Array Oper} {S : World → Prop} {o : Oper} {a : Act} (hw : Region.wanted o (yielded ops a.tmps) = true) (x y : Operand) (ho : o.op = .slice 37 x (some y) none none) {A : Option Addr} {n c : Nat} {lo r : Value} (hx : a.eval x = .slice A n c) (hy : a.eval y = lo)
    (hr : ∀ W : World, (Instr.slice 37 (.slice A n c) (some lo) none none).run Tryd.prog W = .ok r W) : YieldsIf Tryd.prog ops S o r a := by
  refine Or.inl ⟨hw, fun w hS => ?_⟩
  unfold execOp
  simp only [ho, hx, hy, Instr.sliceAt, run_underlying Tryd.underlying37, Option.map_some, Option.map_none, Sem.run_bind, Sem.run_pure, Result.andThen_ok, hr]
theorem yields_high {ops : Array Oper} {S : World → Prop} {o : Oper} {a : Act} (hw : Region.wanted o (yielded ops a.tmps) = true) (x y : Operand) (ho : o.op = .slice 37 x none (some y) none) {A : Option Addr} {n c : Nat} {lo r : Value} (hx : a.eval x = .slice A n c) (hy : a.eval y = lo)
    (hr : ∀ W : World, (Instr.slice 37 (.slice A n c) none (some lo) none).run Tryd.prog W = .ok r W) : YieldsIf Tryd.prog ops S o r a := by
  refine Or.inl ⟨hw, fun w hS => ?_⟩
  unfold execOp
  simp only [ho, hx, hy, Instr.sliceAt, run_underlying Tryd.underlying37, Option.map_some, Option.map_none, Sem.run_bind, Sem.run_pure, Result.andThen_ok, hr]

theorem one_flat' (X : List Nat) : [X].flatten = X := by simp

/-- A sum that is loaded, in a region that leaves the world alone. -/
theorem still_load_sum {ops : Array Oper} {o : Oper} {a : Act} {w : World} {K : Act → Prop} {E : Prop} (hgd : o.guard = none) (x : Operand) (ho : o.op = .load 34 x)
    (ad : Addr) (hx : a.eval x = .pointer (some ad)) (s : List Nat) (hl : s.length = 32) (hc : At w ad s) (h : K (a.put o.dst (sv s))) :
    if Region.wanted o (yielded ops a.tmps) = true then o.still Tryd.prog a w K else E := by
  have hw : Region.wanted o (yielded ops a.tmps) = true := by simp [Region.wanted, hgd]
  rw [if_pos hw]
  have hr : (execOp a.eval o).run Tryd.prog w = .ok (.value (sv s)) w := by
    unfold execOp
    simp only [ho, hx, Instr.loadAt, Instr.sureAddr, Sem.run_bind, Sem.run_pure, Result.andThen_ok, run_load_sum w ad s hl hc]
  unfold Oper.still
  rw [hr, Oper.stillUpon_value]
  exact h

theorem wp_load_sum {o : Oper} {a : Act} {w : World} {K : Act → World → Prop} {Q : Exit → Act → World → Prop} (x : Operand) (ho : o.op = .load 34 x)
    (ad : Addr) (hx : a.eval x = .pointer (some ad)) (s : List Nat) (hl : s.length = 32) (hc : At w ad s) (h : K (a.put o.dst (sv s)) w) : o.wp Tryd.prog a w K Q := by
  unfold Oper.wp execOp
  simp only [ho, hx, Instr.loadAt, Instr.sureAddr, Sem.run_bind, Sem.run_pure, Result.andThen_ok, run_load_sum w ad s hl hc]
  exact h

theorem size_setCell_ (w : World) (a : Addr) (v : Value) : (w.setCell a v).heap.size = w.heap.size := by simp [World.setCell]

/-- What stands in a new block of a pair of slices. -/
theorem cell_pair (W : World) (u v : Value) (t : TypeId) : (W.alloc (.cells #[u, v] t)).cell? ⟨W.heap.size, 0, none⟩ = some u ∧ (W.alloc (.cells #[u, v] t)).cell? ⟨W.heap.size, 1, none⟩ = some v :=
  ⟨(cell_of_row _ _ 0 _ _ (0, 0) (World.alloc_heap_new W _)).trans rfl, (cell_of_row _ _ 1 _ _ (0, 0) (World.alloc_heap_new W _)).trans rfl⟩

/-- A front, cell by cell: the trees are told apart from the size. -/
structure RowAt (w : World) (g : Nat) (n : Nat) (A : Option Addr) (m c : Nat) : Prop where
  row : w.heap[g]? = some (.cells #[.bool true, .int .u64 (n : Int), .slice A m c] 85 (0, 0))
theorem RowAt.size {w : World} {g n m c : Nat} {A : Option Addr} (h : RowAt w g n A m c) : w.cell? ⟨g, 1, none⟩ = some (.int .u64 (n : Int)) := (cell_of_row _ g 1 _ _ (0, 0) h.row).trans rfl
theorem RowAt.free {w : World} {g n m c : Nat} {A : Option Addr} (h : RowAt w g n A m c) (i : Nat) : w.frozen? ⟨g, i, none⟩ = false := frozen_of_row w g i _ _ h.row
theorem RowAt.cell2 {w : World} {g n m c : Nat} {A : Option Addr} (h : RowAt w g n A m c) : w.cell? ⟨g, 2, none⟩ = some (.slice A m c) := (cell_of_row _ g 2 _ _ (0, 0) h.row).trans rfl
theorem RowAt.setList {w : World} {g n m c m' c' : Nat} {A A' : Option Addr} (h : RowAt w g n A m c) : RowAt (w.setCell ⟨g, 2, none⟩ (.slice A' m' c')) g n A' m' c' := ⟨heap_setCell_same w g 2 _ _ _ h.row⟩
theorem RowAt.setSize {w : World} {g n m c n' : Nat} {A : Option Addr} (h : RowAt w g n A m c) : RowAt (w.setCell ⟨g, 1, none⟩ (.int .u64 (n' : Int))) g n' A m c := ⟨heap_setCell_same w g 1 _ _ _ h.row⟩
theorem RowAt.below {w w' : World} {g n m c : Nat} {A : Option Addr} (h : RowAt w g n A m c) (hb : Below w.heap.size w w') : RowAt w' g n A m c := ⟨(hb.block _ (Array.getElem?_eq_some_iff.1 h.row).1).trans h.row⟩

set_option maxRecDepth 100000 in
set_option maxHeartbeats 4000000 in
theorem add_front_at {w : World} {g : Nat} {f : Nat → List Nat} {n : Nat} (h : Front w g f n) (hf : Sums32 f (n + 1)) (hn : n < 999999) (hk : Knows w) (hs : Starts w) :
    Calls Tryd.prog 34 #[.pointer (some ⟨g, 0, none⟩), sv (f n)] w fun e w' => e = .returned (.int .i64 0) ∧ (∃ A' c', FrontAt w' g f (n + 1) A' c' ∧ ∀ ad, A' = some ad → w.heap.size ≤ ad.block ∧ ad.block < w'.heap.size) ∧ But (fun b => b = g) w w' := by
  obtain ⟨A, c, h⟩ := h
  obtain ⟨k, hkn⟩ := ones_some n
  obtain ⟨pre, l, hpl, hll, hnx⟩ := fr_more f 0 hkn
  rw [Nat.zero_add] at hnx
  have h32 := (hf.mono (Nat.le_succ n)).fr32
  have hlt := (hf.mono (Nat.le_succ n)).frlt
  have hm := fr_length f n 0
  rw [hpl] at h32 hlt hm
  obtain ⟨s, hsn⟩ : ∃ s, f n = s := ⟨_, rfl⟩
  have hs32 : s.length = 32 := by rw [← hsn]; exact hf.len n (by omega)
  have hslt : ∀ x ∈ s, x < 256 := by rw [← hsn]; exact hf.lt n (by omega)
  rw [hsn] at hnx ⊢
  obtain ⟨q, hq⟩ : ∃ q, pre.length = q := ⟨_, rfl⟩
  obtain ⟨m, hmp⟩ : ∃ m, pop n = m := ⟨_, rfl⟩
  have hmq : m = q + k := by rw [← hmp, ← hm, List.length_append, hq, hll]
  have hmn := pop_le n
  have htr := h.trees
  have hcap := h.cap
  have hlist := h.list
  have hrow : RowAt w g n A m c := ⟨by rw [← hmp]; exact h.row⟩
  rw [hmp] at htr hcap hlist hmn
  rw [hpl] at htr
  have hdrop : (pre ++ l).flatten.drop (32 * q) = l.flatten := by rw [flat_drop h32, ← hq, List.drop_left]
  have htake : (pre ++ l).flatten.take (32 * q) = pre.flatten := by rw [flat_take h32, ← hq, List.take_left]
  obtain ⟨B, hB, hBe⟩ := cut_nameS (A := A) (n := m) (c := c) (k := q) (by omega)
  have hTk := fun W => run_take_sumsO (A := A) (n := m) (c := c) (k := q) (by omega) hcap h.nil W
  have i1 : InS w A q pre.flatten := by rw [← htake]; exact htr.take (by omega)
  have i2 : InS w B k l.flatten := by
    have := htr.cut (k := q) (c := c) (by omega) hcap
    rw [← hBe, hdrop, show m - q = k by omega] at this
    exact this
  have C0 := Lib.hid h.made
  have HL := Lib.hid (And.intro i1 (And.intro i2 (And.intro h.nil (And.intro hnx (And.intro hsn (And.intro hq hll))))))
  have H32 := Lib.hid (And.intro h32 hlt)
  have HS := Lib.hid (And.intro hs32 hslt)
  have HR := Lib.hid hrow
  have hglt := h.lt
  have HM := Lib.hid (merged_at hkn)
  have HN := Lib.hid (And.intro hmq (And.intro hmn hmp))
  have HC := Lib.hid (And.intro h.row h.off)
  have l32 : l.flatten.length = l.flatten.length := rfl
  obtain ⟨w1, hw1⟩ : ∃ w1, w1 = w.alloc (.cells (bvs s).toArray 34) := ⟨_, rfl⟩
  have b1 : Below w.heap.size w w1 := by rw [hw1]; exact below_alloc _ _
  have a1 : BArr w1 w.heap.size 34 s := by rw [hw1]; exact BArr.new _ _ _
  have HW := Lib.hid hw1
  have H1 := Lib.hid (And.intro b1 (And.intro a1 (HR.out.below b1)))
  have CT := Lib.hid (there_yes (w := w1) (g := g) ((b1.cell (World.block_lt_of_cell? w _ C0.out)).trans C0.out))
  have c2 := H1.out.2.2.cell2
  have c1 := H1.out.2.2.size
  have hle : m - q = k := by omega
  rw [hle] at hB
  have HB := Lib.hid hB
  have HTk := Lib.hid hTk
  clear hB hTk
  have hkb : k ≤ 1000000 := by omega
  have hqb : q + 1 ≤ 1000000 := by omega
  have hwq : IntKind.i64.wrap (q : Int) = (q : Int) := by rw [IntKind.wrap_i64]; omega
  have hik : ((m : Int) - (k : Int)) = (q : Int) := by omega
  clear h hpl hll hnx h32 hlt hm hsn hs32 hslt hq hmp hmq hmn htr hcap hlist hrow hdrop htake hBe i1 i2 hw1 b1 a1 hkn l32 C0
  unfold sv
  go_enter Tryd.func34, Tryd.ntmps34
  go_wp2_with fail
  rw [← HW.out]
  refine CT.out.mono ?_
  rintro e w' ⟨rfl, e1⟩
  obtain rfl := e1.symm
  clear e1
  go_upto_region 3 with fail
  go_still_tail 11, (by kernel_rfl)
  still_call (still_left ((HM.out w1.drew (by omega)).mono fun e w' h => ⟨h.1, h.2.symm⟩))
  repeat still_step
  refine wpStill_nil ?_
  change wpList _ _ _ _ _ w1.drew
  go_upto_region 4 with fail
  obtain ⟨w2, hw2⟩ : ∃ w2, w2 = w1.drew := ⟨_, rfl⟩
  have b2 : Below w1.heap.size w1 w2 := by rw [hw2]; exact (Below.refl _ _).drew
  rw [← hw2]
  have H2 := Lib.hid (And.intro (below_on H1.out.1 (Nat.le_refl _) b2) (And.intro (H1.out.2.1.below b2) (H1.out.2.2.below b2)))
  have c2' := H2.out.2.2.cell2
  clear hw2 b2
  have hRl : (tog l s).length = 32 := tog_of (P := fun l => l.length = 32) sha_length l s HS.out.1
  have hRb : ∀ x ∈ tog l s, x < 256 := tog_of (P := fun l => ∀ x ∈ l, x < 256) sha_lt l s HS.out.2
  obtain ⟨R, hR⟩ : ∃ R, tog l s = R := ⟨_, rfl⟩
  rw [hR] at hRl hRb
  have HRR := Lib.hid (And.intro hR hRb)
  clear hR hRb
  go_cut [6] from 21 to 28 (fun s6 wx => ∃ p, s6 = .pointer (some ⟨p, 0, none⟩) ∧ w2.heap.size ≤ p ∧ BArr wx p 34 R ∧ Below w2.heap.size w2 wx)
  case first =>
    have CG := Lib.hid (fun (W : World) (hW : Below w2.heap.size w2 W) => together_any B k (c - q) l s W (HL.out.2.1.below (below_on H2.out.1 (Nat.le_refl _) hW)) HL.out.2.2.2.2.2.2 (fun x hx => H32.out.1 x (List.mem_append_right _ hx)) (fun x hx => H32.out.2 x (List.mem_append_right _ hx)) HS.out.1 HS.out.2 hkb (hk.below (below_on H2.out.1 (Nat.le_refl _) hW)) (hs.below (below_on H2.out.1 (Nat.le_refl _) hW)))
    have HC2 := Lib.hid (fun (W : World) (hW : Below w2.heap.size w2 W) => (H2.out.2.2.below hW).cell2)
    rw [HRR.out.1] at CG
    unfold sv at CG
    have hst : ∀ (W : World) (p : Nat), BArr W p 34 zero32 → (storeCells ⟨p, 0, none⟩ (bvs R)).run Tryd.prog W = .ok () (W.setRow p (bvs R).toArray) := fun W p hW => by
      have := run_storeCells_from (P := Tryd.prog) p 34 (bvs R) 0 _ W hW (by rw [bvs_length, hRl]; rfl) (bvs_oneCell R)
      simpa using this
    have hbR : (bvs R).length = 32 := by rw [bvs_length, hRl]
    have HE0 := Lib.hid (show #[.int .u8 0, .int .u8 0, .int .u8 0, .int .u8 0, .int .u8 0, .int .u8 0, .int .u8 0, .int .u8 0, .int .u8 0, .int .u8 0, .int .u8 0, .int .u8 0, .int .u8 0, .int .u8 0, .int .u8 0, .int .u8 0, .int .u8 0, .int .u8 0, .int .u8 0, .int .u8 0, .int .u8 0, .int .u8 0, .int .u8 0, .int .u8 0, .int .u8 0, .int .u8 0, .int .u8 0, .int .u8 0, .int .u8 0, .int .u8 0, .int .u8 0, .int .u8 0] = (bvs zero32).toArray from rfl)
    refine wp_region_held_drew (S := fun W => Below w2.heap.size w2 W) (by kernel_rfl) ((Below.refl _ _).drew) (fun hS0 => ?_)
    change wpAnyH _ _ _ _ _ _ _ _ w2.drew
    refine' wpAnyH_take (i := 0) (oi := _) (v := _) ?hia0 (by kernel_rfl) ?hfa0 ?hra0 ?hQa0 ?hya0 hS0 ?resta0
    case hia0 => (simp only [List.getElem?_toArray, List.getElem?_cons_zero]; rfl)
    case hfa0 => kernel_rfl
    case hra0 => kernel_rfl
    case hQa0 => exact fun _ _ _ h => h
    case hya0 => refine Or.inl ⟨by rfl, ?_⟩; intro W hSw; go_simp; try with_reducible rfl
    try simp only [Act.put, List.setIfInBounds_toArray, List.set_cons_zero, List.set_cons_succ]
    refine' wpAnyH_take (i := 1) (oi := _) (v := _) ?hia1 (by kernel_rfl) ?hfa1 ?hra1 ?hQa1 ?hya1 hS0 ?resta1
    case hia1 => (simp only [List.getElem?_toArray, List.getElem?_cons_zero, List.getElem?_cons_succ]; rfl)
    case hfa1 => kernel_rfl
    case hra1 => kernel_rfl
    case hQa1 => exact fun _ _ _ h => h
    case hya1 => refine Or.inl ⟨by rfl, ?_⟩; intro W hSw; go_simp; try with_reducible rfl
    try simp only [Act.put, List.setIfInBounds_toArray, List.set_cons_zero, List.set_cons_succ]
    refine' wpAnyH_take (i := 2) (oi := _) (v := _) ?hia2 (by kernel_rfl) ?hfa2 ?hra2 ?hQa2 ?hya2 hS0 ?resta2
    case hia2 => (simp only [List.getElem?_toArray, List.getElem?_cons_zero, List.getElem?_cons_succ]; rfl)
    case hfa2 => kernel_rfl
    case hra2 => kernel_rfl
    case hQa2 => exact fun _ _ _ h => h
    case hya2 => refine Or.inl ⟨by rfl, ?_⟩; intro W hSw; go_simp; try with_reducible rfl
    try simp only [Act.put, List.setIfInBounds_toArray, List.set_cons_zero, List.set_cons_succ]
    refine' wpAnyH_take (i := 3) (oi := _) (v := .slice A m c) ?hia3 (by kernel_rfl) ?hfa3 ?hra3 ?hQa3 ?hya3 hS0 ?resta3
    case hia3 => (simp only [List.getElem?_toArray, List.getElem?_cons_zero, List.getElem?_cons_succ]; rfl)
    case hfa3 => kernel_rfl
    case hra3 => kernel_rfl
    case hQa3 => exact fun _ _ _ h => h
    case hya3 => refine Or.inl ⟨by rfl, ?_⟩; intro W hSw; have hcc := HC2.out W hSw; go_simp; try with_reducible rfl
    try simp only [Act.put, List.setIfInBounds_toArray, List.set_cons_zero, List.set_cons_succ]
    refine' wpAnyH_take (i := 4) (oi := _) (v := _) ?hia4 (by kernel_rfl) ?hfa4 ?hra4 ?hQa4 ?hya4 hS0 ?resta4
    case hia4 => (simp only [List.getElem?_toArray, List.getElem?_cons_zero, List.getElem?_cons_succ]; rfl)
    case hfa4 => kernel_rfl
    case hra4 => kernel_rfl
    case hQa4 => exact fun _ _ _ h => h
    case hya4 => refine Or.inl ⟨by rfl, ?_⟩; intro W hSw; go_simp; try with_reducible rfl
    try simp only [Act.put, List.setIfInBounds_toArray, List.set_cons_zero, List.set_cons_succ]
    refine' wpAnyH_take (i := 5) (oi := _) (v := .slice B k (c - q)) ?hia5 (by kernel_rfl) ?hfa5 ?hra5 ?hQa5 ?hya5 hS0 ?resta5
    case hia5 => (simp only [List.getElem?_toArray, List.getElem?_cons_zero, List.getElem?_cons_succ]; rfl)
    case hfa5 => kernel_rfl
    case hra5 => kernel_rfl
    case hQa5 => exact fun _ _ _ h => h
    case hya5 => refine yields_low (by rfl) _ _ rfl rfl rfl ?_; exact HB.out
    try simp only [Act.put, List.setIfInBounds_toArray, List.set_cons_zero, List.set_cons_succ]
    refine' wpAnyH_take (i := 6) (oi := _) (v := sv s) ?hia6 (by kernel_rfl) ?hfa6 ?hra6 ?hQa6 ?hya6 hS0 ?resta6
    case hia6 => (simp only [List.getElem?_toArray, List.getElem?_cons_zero, List.getElem?_cons_succ]; rfl)
    case hfa6 => kernel_rfl
    case hra6 => kernel_rfl
    case hQa6 => exact fun _ _ _ h => h
    case hya6 => refine yields_sum ?_ (.tmp 3) rfl ⟨w.heap.size, 0, none⟩ rfl s HS.out.1 (fun W hSw => (H2.out.2.1.below hSw).at_); rfl
    try simp only [Act.put, List.setIfInBounds_toArray, List.set_cons_zero, List.set_cons_succ]
    refine wpAnyH_ready (rs := [7, 8]) (by kernel_rfl) (by simp) ?_
    refine' AllReadyH.cons (o := _) ?hix7 (fun K hK => ?_) (AllReadyH.cons (o := _) ?hix8 (fun K hK => ?_) AllReadyH.nil)
    case hix7 => (simp only [List.getElem?_toArray, List.getElem?_cons_zero, List.getElem?_cons_succ]; rfl)
    case hix8 => (simp only [List.getElem?_toArray, List.getElem?_cons_zero, List.getElem?_cons_succ]; rfl)
    · skip
      go_simp
      go_at_call 47
      refine (CG.out _ hS0).mono ?_
      rintro e W1 ⟨rfl, hb1⟩
      have hB1 := below_on hS0 (Nat.le_refl _) hb1
      refine hK.out _ _ hB1 (fun _ => ?_)
      clear hK K
      try simp only [Act.put, List.setIfInBounds_toArray, List.set_cons_zero, List.set_cons_succ]
      refine wpAnyH_ready (rs := [8]) (by kernel_rfl) (by simp) ?_
      refine' AllReadyH.cons (o := _) ?hib8 (fun K hK => ?_) AllReadyH.nil
      case hib8 => (simp only [List.getElem?_toArray, List.getElem?_cons_zero, List.getElem?_cons_succ]; rfl)
      go_simp
      have hB2 := Below.alloc hB1 (Below.size hB1) (.cells (bvs zero32).toArray 34)
      have hZ := BArr.new W1 34 zero32
      rw [← HE0.out] at hB2 hZ
      refine hK.out _ _ hB2 (fun _ => ?_)
      clear hK K
      try simp only [Act.put, List.setIfInBounds_toArray, List.set_cons_zero, List.set_cons_succ]
      have hZ3 : BArr _ (W1.heap.size) 34 zero32 := hZ
      refine wpAnyH_ready (rs := [9]) (by kernel_rfl) (by simp) ?_
      refine' AllReadyH.cons (o := _) ?hib9 (fun K hK => ?_) AllReadyH.nil
      case hib9 => (simp only [List.getElem?_toArray, List.getElem?_cons_zero, List.getElem?_cons_succ]; rfl)
      go_simp
      refine hK.out _ _ (below_setRow hB2 (hB1.size) _) (fun _ => ?_)
      clear hK K
      refine wpAnyH_done (by kernel_rfl) ?_ _
      go_wp2_with fail
      go_meet
      case rel => exact ⟨W1.heap.size, rfl, hB1.size, hZ3.setRow R, below_setRow hB2 (hB1.size) _⟩
    · skip
      go_simp
      have hB2 := Below.alloc hS0 (Below.size hS0) (.cells (bvs zero32).toArray 34)
      have hZ := BArr.new w2.drew 34 zero32
      rw [← HE0.out] at hB2 hZ
      refine hK.out _ _ hB2 (fun _ => ?_)
      clear hK K
      try simp only [Act.put, List.setIfInBounds_toArray, List.set_cons_zero, List.set_cons_succ]
      refine wpAnyH_ready (rs := [7]) (by kernel_rfl) (by simp) ?_
      refine' AllReadyH.cons (o := _) ?hic7 (fun K hK => ?_) AllReadyH.nil
      case hic7 => (simp only [List.getElem?_toArray, List.getElem?_cons_zero, List.getElem?_cons_succ]; rfl)
      go_simp
      go_at_call 47
      refine (CG.out _ hB2).mono ?_
      rintro e W1 ⟨rfl, hb1⟩
      have hB1 := below_on hB2 (Nat.le_refl _) hb1
      refine hK.out _ _ hB1 (fun _ => ?_)
      clear hK K
      try simp only [Act.put, List.setIfInBounds_toArray, List.set_cons_zero, List.set_cons_succ]
      have hZ3 : BArr _ (w2.heap.size) 34 zero32 := (hZ.below hb1)
      refine wpAnyH_ready (rs := [9]) (by kernel_rfl) (by simp) ?_
      refine' AllReadyH.cons (o := _) ?hic9 (fun K hK => ?_) AllReadyH.nil
      case hic9 => (simp only [List.getElem?_toArray, List.getElem?_cons_zero, List.getElem?_cons_succ]; rfl)
      go_simp
      refine hK.out _ _ (below_setRow hB1 (Nat.le_refl _) _) (fun _ => ?_)
      clear hK K
      refine wpAnyH_done (by kernel_rfl) ?_ _
      go_wp2_with fail
      go_meet
      case rel => exact ⟨w2.heap.size, rfl, Nat.le_refl _, hZ3.setRow R, below_setRow hB1 (Nat.le_refl _) _⟩
  case rest =>
    obtain ⟨p, rfl, hpw, hp, hb3⟩ := hcut
    have hrow3 := H2.out.2.2.below hb3
    have b3 := below_on H2.out.1 (Nat.le_refl _) hb3
    have c2'' := hrow3.cell2
    have HP := Lib.hid hp
    have hTk := HTk.out
    have H3 := Lib.hid (And.intro b3 (And.intro hrow3 (And.intro hp hpw)))
    have fr2 := hrow3.free 2
    obtain ⟨w4, hw4⟩ : ∃ w4, w4 = wc.drew := ⟨_, rfl⟩
    have bd : Below wc.heap.size wc w4 := by rw [hw4]; exact (Below.refl _ _).drew
    have b5 := below_alloc w4 (.cells (bvs [R].flatten).toArray 34)
    obtain ⟨w5, hw5⟩ : ∃ w5, w5 = w4.alloc (.cells (bvs [R].flatten).toArray 34) := ⟨_, rfl⟩
    rw [← hw5] at b5
    have i5 : InS w5 (some ⟨w4.heap.size, 0, none⟩) 1 R := by rw [hw5, one_flat']; exact ⟨by rw [hRl], (In.new' w4 R 34).rd⟩
    have H4 := Lib.hid (And.intro (H3.out.2.1.below bd) (H3.out.2.2.1.below bd))
    have c24 := H4.out.1.cell2
    have c25 := (H4.out.1.below b5).cell2
    have H5 := Lib.hid (And.intro (below_on (below_on H3.out.1 (Nat.le_refl _) bd) (Nat.le_refl _) b5) (And.intro (H4.out.1.below b5) i5))
    have HW5 := Lib.hid (And.intro hw4 hw5)
    have HB5 := Lib.hid (And.intro bd b5)
    obtain ⟨w6, hw6⟩ : ∃ w6, w6 = w5.alloc (.cells #[.slice A q c, .slice (some ⟨w4.heap.size, 0, none⟩) 1 1] 37) := ⟨_, rfl⟩
    have b6 : Below w5.heap.size w5 w6 := by rw [hw6]; exact below_alloc _ _
    have p6 := cell_pair w5 (.slice A q c) (.slice (some ⟨w4.heap.size, 0, none⟩) 1 1) 37
    rw [← hw6] at p6
    have b06 := below_on H5.out.1 (Nat.le_refl _) b6
    have CC := Lib.hid (concat_any w5.heap.size A (some ⟨w4.heap.size, 0, none⟩) q c 1 1 pre.flatten R w6 p6.1 p6.2 (HL.out.1.below b06) (H5.out.2.2.below b6) HL.out.2.2.1 (fun e => by cases e) (by omega) (by omega))
    have H6 := Lib.hid (And.intro b06 (H5.out.2.1.below b6))
    have HW6 := Lib.hid hw6
    have hg6 : g < w6.heap.size := Nat.lt_of_lt_of_le hglt b06.size
    clear hp hb3 hrow3 b3 c2' c2 c1 c2'' bd b5 i5 hw4 hw5 fr2 hw6 b6 p6 b06
    go_upto_region 5 with fail
    go_cut [] from 29 to 41 (fun wx => ∃ A' c', RowAt wx g n A' (q + 1) c' ∧ InS wx A' (q + 1) (pre.flatten ++ R) ∧ q + 1 ≤ c' ∧ (A' = none → c' = 0) ∧ (∀ ad, A' = some ad → w.heap.size ≤ ad.block ∧ ad.block < wx.heap.size) ∧ But (fun b => b = g) w wx)
    case first =>
      skip
      refine wp_region_held (S := fun _ => True) (by kernel_rfl) ?_
      change wpAnyH _ _ _ _ _ _ _ _ wc.drew
      rw [← HW5.out.1]
      refine' wpAnyH_take (i := 0) (oi := _) (v := _) ?hie0 (by kernel_rfl) ?hfe0 ?hre0 ?hQe0 ?hye0 trivial ?reste0
      case hie0 => (simp only [List.getElem?_toArray, List.getElem?_cons_zero]; rfl)
      case hfe0 => kernel_rfl
      case hre0 => kernel_rfl
      case hQe0 => exact fun _ _ _ h => h
      case hye0 => refine Or.inl ⟨by rfl, ?_⟩; intro W hSw; go_simp; try with_reducible rfl
      try simp only [Act.put, List.setIfInBounds_toArray, List.set_cons_zero, List.set_cons_succ]
      refine' wpAnyH_take (i := 1) (oi := _) (v := _) ?hie1 (by kernel_rfl) ?hfe1 ?hre1 ?hQe1 ?hye1 trivial ?reste1
      case hie1 => (simp only [List.getElem?_toArray, List.getElem?_cons_zero, List.getElem?_cons_succ]; rfl)
      case hfe1 => kernel_rfl
      case hre1 => kernel_rfl
      case hQe1 => exact fun _ _ _ h => h
      case hye1 => refine Or.inl ⟨by rfl, ?_⟩; intro W hSw; go_simp; try with_reducible rfl
      try simp only [Act.put, List.setIfInBounds_toArray, List.set_cons_zero, List.set_cons_succ]
      refine' wpAnyH_take (i := 2) (oi := _) (v := _) ?hie2 (by kernel_rfl) ?hfe2 ?hre2 ?hQe2 ?hye2 trivial ?reste2
      case hie2 => (simp only [List.getElem?_toArray, List.getElem?_cons_zero, List.getElem?_cons_succ]; rfl)
      case hfe2 => kernel_rfl
      case hre2 => kernel_rfl
      case hQe2 => exact fun _ _ _ h => h
      case hye2 => refine Or.inl ⟨by rfl, ?_⟩; intro W hSw; go_simp; try with_reducible rfl
      try simp only [Act.put, List.setIfInBounds_toArray, List.set_cons_zero, List.set_cons_succ]
      refine' wpAnyH_take (i := 3) (oi := _) (v := _) ?hie3 (by kernel_rfl) ?hfe3 ?hre3 ?hQe3 ?hye3 trivial ?reste3
      case hie3 => (simp only [List.getElem?_toArray, List.getElem?_cons_zero, List.getElem?_cons_succ]; rfl)
      case hfe3 => kernel_rfl
      case hre3 => kernel_rfl
      case hQe3 => exact fun _ _ _ h => h
      case hye3 => refine Or.inl ⟨by rfl, ?_⟩; intro W hSw; go_simp; try with_reducible rfl
      try simp only [Act.put, List.setIfInBounds_toArray, List.set_cons_zero, List.set_cons_succ]
      refine' wpAnyH_take (i := 5) (oi := _) (v := _) ?hie5 (by kernel_rfl) ?hfe5 ?hre5 ?hQe5 ?hye5 trivial ?reste5
      case hie5 => (simp only [List.getElem?_toArray, List.getElem?_cons_zero, List.getElem?_cons_succ]; rfl)
      case hfe5 => kernel_rfl
      case hre5 => kernel_rfl
      case hQe5 => exact fun _ _ _ h => h
      case hye5 => refine Or.inl ⟨by rfl, ?_⟩; intro W hSw; go_simp; try with_reducible rfl
      try simp only [Act.put, List.setIfInBounds_toArray, List.set_cons_zero, List.set_cons_succ]
      refine wpAnyH_ready (rs := [4, 7]) (by kernel_rfl) (by simp) ?_
      refine' AllReadyH.cons (o := _) ?hiz4 (fun K hK => ?_) (AllReadyH.cons (o := _) ?hiz7 (fun K hK => ?_) AllReadyH.nil)
      case hiz4 => (simp only [List.getElem?_toArray, List.getElem?_cons_zero, List.getElem?_cons_succ]; rfl)
      case hiz7 => (simp only [List.getElem?_toArray, List.getElem?_cons_zero, List.getElem?_cons_succ]; rfl)
      · skip
        go_simp
        refine hK.out _ _ trivial (fun _ => ?_)
        clear hK K
        try simp only [Act.put, List.setIfInBounds_toArray, List.set_cons_zero, List.set_cons_succ]
        refine' wpAnyH_take (i := 6) (oi := _) (v := .slice A q c) ?hif6 (by kernel_rfl) ?hff6 ?hrf6 ?hQf6 ?hyf6 trivial ?restf6
        case hif6 => (simp only [List.getElem?_toArray, List.getElem?_cons_zero, List.getElem?_cons_succ]; rfl)
        case hff6 => kernel_rfl
        case hrf6 => kernel_rfl
        case hQf6 => exact fun _ _ _ h => h
        case hyf6 => refine yields_high (by rfl) _ _ rfl rfl rfl ?_; exact HTk.out
        try simp only [Act.put, List.setIfInBounds_toArray, List.set_cons_zero, List.set_cons_succ]
        refine wpAnyH_ready (rs := [7]) (by kernel_rfl) (by simp) ?_
        refine' AllReadyH.cons (o := _) ?hif7 (fun K hK => ?_) AllReadyH.nil
        case hif7 => (simp only [List.getElem?_toArray, List.getElem?_cons_zero, List.getElem?_cons_succ]; rfl)
        rw [if_pos (by rfl)]
        refine wp_load_sum (.tmp 6) rfl ⟨p, 0, none⟩ rfl R hRl H4.out.2.at_ ?_
        refine hK.out _ _ trivial (fun _ => ?_)
        clear hK K
        try simp only [Act.put, List.setIfInBounds_toArray, List.set_cons_zero, List.set_cons_succ]
        refine wpAnyH_ready (rs := [8]) (by kernel_rfl) (by simp) ?_
        refine' AllReadyH.cons (o := _) ?hif8 (fun K hK => ?_) AllReadyH.nil
        case hif8 => (simp only [List.getElem?_toArray, List.getElem?_cons_zero, List.getElem?_cons_succ]; rfl)
        rw [if_pos (by rfl)]
        refine wp_sums _ [R] 1 rfl rfl (by simp <;> rfl) (by intro x hx; simp at hx; rw [hx]; exact hRl) (by omega) (by omega) ?_
        refine hK.out _ _ trivial (fun _ => ?_)
        clear hK K
        rw [← HW5.out.2]
        try simp only [Act.put, List.setIfInBounds_toArray, List.set_cons_zero, List.set_cons_succ]
        refine wpAnyH_ready (rs := [9]) (by kernel_rfl) (by simp) ?_
        refine' AllReadyH.cons (o := _) ?hif9 (fun K hK => ?_) AllReadyH.nil
        case hif9 => (simp only [List.getElem?_toArray, List.getElem?_cons_zero, List.getElem?_cons_succ]; rfl)
        go_simp
        refine hK.out _ _ trivial (fun _ => ?_)
        clear hK K
        rw [← HW6.out]
        try simp only [Act.put, List.setIfInBounds_toArray, List.set_cons_zero, List.set_cons_succ]
        refine wpAnyH_ready (rs := [10]) (by kernel_rfl) (by simp) ?_
        refine' AllReadyH.cons (o := _) ?hif10 (fun K hK => ?_) AllReadyH.nil
        case hif10 => (simp only [List.getElem?_toArray, List.getElem?_cons_zero, List.getElem?_cons_succ]; rfl)
        go_simp
        go_at_call 53
        refine CC.out.mono ?_
        rintro e W7 ⟨A', c', rfl, ho, hb7⟩
        have r7 := H6.out.2.below hb7
        have c27 := r7.cell2
        have f27 := r7.free 2
        have H7 := Lib.hid (And.intro ho (And.intro r7 hb7))
        clear r7 hb7 ho
        refine hK.out _ _ trivial (fun _ => ?_)
        clear hK K
        try simp only [Act.put, List.setIfInBounds_toArray, List.set_cons_zero, List.set_cons_succ]
        refine' wpAnyH_take (i := 11) (oi := _) (v := _) ?hif11 (by kernel_rfl) ?hff11 ?hrf11 ?hQf11 ?hyf11 trivial ?restf11
        case hif11 => (simp only [List.getElem?_toArray, List.getElem?_cons_zero, List.getElem?_cons_succ]; rfl)
        case hff11 => kernel_rfl
        case hrf11 => kernel_rfl
        case hQf11 => exact fun _ _ _ h => h
        case hyf11 => refine Or.inl ⟨by rfl, ?_⟩; intro W hSw; go_simp; try with_reducible rfl
        try simp only [Act.put, List.setIfInBounds_toArray, List.set_cons_zero, List.set_cons_succ]
        refine' wpAnyH_take (i := 12) (oi := _) (v := _) ?hif12 (by kernel_rfl) ?hff12 ?hrf12 ?hQf12 ?hyf12 trivial ?restf12
        case hif12 => (simp only [List.getElem?_toArray, List.getElem?_cons_zero, List.getElem?_cons_succ]; rfl)
        case hff12 => kernel_rfl
        case hrf12 => kernel_rfl
        case hQf12 => exact fun _ _ _ h => h
        case hyf12 => refine Or.inl ⟨by rfl, ?_⟩; intro W hSw; go_simp; try with_reducible rfl
        try simp only [Act.put, List.setIfInBounds_toArray, List.set_cons_zero, List.set_cons_succ]
        refine wpAnyH_ready (rs := [13]) (by kernel_rfl) (by simp) ?_
        refine' AllReadyH.cons (o := _) ?hif13 (fun K hK => ?_) AllReadyH.nil
        case hif13 => (simp only [List.getElem?_toArray, List.getElem?_cons_zero, List.getElem?_cons_succ]; rfl)
        go_simp
        refine hK.out _ _ trivial (fun _ => ?_)
        clear hK K
        refine wpAnyH_done (by kernel_rfl) ?_ _
        go_wp2_with fail
        go_meet
        case rel =>
          have hb := below_on H6.out.1 (Nat.le_refl _) H7.out.2.2
          have hold : ∀ ad, A' = some ad → w.heap.size ≤ ad.block ∧ ad.block < W7.heap.size := fun ad e => by
            have h1 := H7.out.1.lt ad.block (by rw [e]; rfl)
            have h2 := H6.out.1.size
            exact ⟨by omega, h1.2⟩
          have hoff : ∀ ad, A' = some ad → ad.block ≠ g := fun ad e hh => by have := (hold ad e).1; omega
          refine ⟨A', c', H7.out.2.1.setList, inS_blocks (InS.of_own H7.out.1) (fun ad e => heap_setCell_other _ _ _ _ (hoff ad e)), own_cap H7.out.1, own_nil H7.out.1, fun ad e => ⟨(hold ad e).1, by rw [size_setCell_]; exact (hold ad e).2⟩, (But.of_below hb).set 2 _ (fun _ => rfl)⟩
      · skip
        rw [if_pos (by rfl)]
        refine wp_load_sum (.tmp 6) rfl ⟨p, 0, none⟩ rfl R hRl H4.out.2.at_ ?_
        refine hK.out _ _ trivial (fun _ => ?_)
        clear hK K
        try simp only [Act.put, List.setIfInBounds_toArray, List.set_cons_zero, List.set_cons_succ]
        refine wpAnyH_ready (rs := [4, 8]) (by kernel_rfl) (by simp) ?_
        refine' AllReadyH.cons (o := _) ?hiy4 (fun K hK => ?_) (AllReadyH.cons (o := _) ?hiy8 (fun K hK => ?_) AllReadyH.nil)
        case hiy4 => (simp only [List.getElem?_toArray, List.getElem?_cons_zero, List.getElem?_cons_succ]; rfl)
        case hiy8 => (simp only [List.getElem?_toArray, List.getElem?_cons_zero, List.getElem?_cons_succ]; rfl)
        · skip
          go_simp
          refine hK.out _ _ trivial (fun _ => ?_)
          clear hK K
          try simp only [Act.put, List.setIfInBounds_toArray, List.set_cons_zero, List.set_cons_succ]
          refine' wpAnyH_take (i := 6) (oi := _) (v := .slice A q c) ?hik6 (by kernel_rfl) ?hfk6 ?hrk6 ?hQk6 ?hyk6 trivial ?restk6
          case hik6 => (simp only [List.getElem?_toArray, List.getElem?_cons_zero, List.getElem?_cons_succ]; rfl)
          case hfk6 => kernel_rfl
          case hrk6 => kernel_rfl
          case hQk6 => exact fun _ _ _ h => h
          case hyk6 => refine yields_high (by rfl) _ _ rfl rfl rfl ?_; exact HTk.out
          try simp only [Act.put, List.setIfInBounds_toArray, List.set_cons_zero, List.set_cons_succ]
          refine wpAnyH_ready (rs := [8]) (by kernel_rfl) (by simp) ?_
          refine' AllReadyH.cons (o := _) ?hik8 (fun K hK => ?_) AllReadyH.nil
          case hik8 => (simp only [List.getElem?_toArray, List.getElem?_cons_zero, List.getElem?_cons_succ]; rfl)
          rw [if_pos (by rfl)]
          refine wp_sums _ [R] 1 rfl rfl (by simp <;> rfl) (by intro x hx; simp at hx; rw [hx]; exact hRl) (by omega) (by omega) ?_
          refine hK.out _ _ trivial (fun _ => ?_)
          clear hK K
          rw [← HW5.out.2]
          try simp only [Act.put, List.setIfInBounds_toArray, List.set_cons_zero, List.set_cons_succ]
          refine wpAnyH_ready (rs := [9]) (by kernel_rfl) (by simp) ?_
          refine' AllReadyH.cons (o := _) ?hik9 (fun K hK => ?_) AllReadyH.nil
          case hik9 => (simp only [List.getElem?_toArray, List.getElem?_cons_zero, List.getElem?_cons_succ]; rfl)
          go_simp
          refine hK.out _ _ trivial (fun _ => ?_)
          clear hK K
          rw [← HW6.out]
          try simp only [Act.put, List.setIfInBounds_toArray, List.set_cons_zero, List.set_cons_succ]
          refine wpAnyH_ready (rs := [10]) (by kernel_rfl) (by simp) ?_
          refine' AllReadyH.cons (o := _) ?hik10 (fun K hK => ?_) AllReadyH.nil
          case hik10 => (simp only [List.getElem?_toArray, List.getElem?_cons_zero, List.getElem?_cons_succ]; rfl)
          go_simp
          go_at_call 53
          refine CC.out.mono ?_
          rintro e W7 ⟨A', c', rfl, ho, hb7⟩
          have r7 := H6.out.2.below hb7
          have c27 := r7.cell2
          have f27 := r7.free 2
          have H7 := Lib.hid (And.intro ho (And.intro r7 hb7))
          clear r7 hb7 ho
          refine hK.out _ _ trivial (fun _ => ?_)
          clear hK K
          try simp only [Act.put, List.setIfInBounds_toArray, List.set_cons_zero, List.set_cons_succ]
          refine' wpAnyH_take (i := 11) (oi := _) (v := _) ?hik11 (by kernel_rfl) ?hfk11 ?hrk11 ?hQk11 ?hyk11 trivial ?restk11
          case hik11 => (simp only [List.getElem?_toArray, List.getElem?_cons_zero, List.getElem?_cons_succ]; rfl)
          case hfk11 => kernel_rfl
          case hrk11 => kernel_rfl
          case hQk11 => exact fun _ _ _ h => h
          case hyk11 => refine Or.inl ⟨by rfl, ?_⟩; intro W hSw; go_simp; try with_reducible rfl
          try simp only [Act.put, List.setIfInBounds_toArray, List.set_cons_zero, List.set_cons_succ]
          refine' wpAnyH_take (i := 12) (oi := _) (v := _) ?hik12 (by kernel_rfl) ?hfk12 ?hrk12 ?hQk12 ?hyk12 trivial ?restk12
          case hik12 => (simp only [List.getElem?_toArray, List.getElem?_cons_zero, List.getElem?_cons_succ]; rfl)
          case hfk12 => kernel_rfl
          case hrk12 => kernel_rfl
          case hQk12 => exact fun _ _ _ h => h
          case hyk12 => refine Or.inl ⟨by rfl, ?_⟩; intro W hSw; go_simp; try with_reducible rfl
          try simp only [Act.put, List.setIfInBounds_toArray, List.set_cons_zero, List.set_cons_succ]
          refine wpAnyH_ready (rs := [13]) (by kernel_rfl) (by simp) ?_
          refine' AllReadyH.cons (o := _) ?hik13 (fun K hK => ?_) AllReadyH.nil
          case hik13 => (simp only [List.getElem?_toArray, List.getElem?_cons_zero, List.getElem?_cons_succ]; rfl)
          go_simp
          refine hK.out _ _ trivial (fun _ => ?_)
          clear hK K
          refine wpAnyH_done (by kernel_rfl) ?_ _
          go_wp2_with fail
          go_meet
          case rel =>
            have hb := below_on H6.out.1 (Nat.le_refl _) H7.out.2.2
            have hold : ∀ ad, A' = some ad → w.heap.size ≤ ad.block ∧ ad.block < W7.heap.size := fun ad e => by
              have h1 := H7.out.1.lt ad.block (by rw [e]; rfl)
              have h2 := H6.out.1.size
              exact ⟨by omega, h1.2⟩
            have hoff : ∀ ad, A' = some ad → ad.block ≠ g := fun ad e hh => by have := (hold ad e).1; omega
            refine ⟨A', c', H7.out.2.1.setList, inS_blocks (InS.of_own H7.out.1) (fun ad e => heap_setCell_other _ _ _ _ (hoff ad e)), own_cap H7.out.1, own_nil H7.out.1, fun ad e => ⟨(hold ad e).1, by rw [size_setCell_]; exact (hold ad e).2⟩, (But.of_below hb).set 2 _ (fun _ => rfl)⟩
        · skip
          rw [if_pos (by rfl)]
          refine wp_sums _ [R] 1 rfl rfl (by simp <;> rfl) (by intro x hx; simp at hx; rw [hx]; exact hRl) (by omega) (by omega) ?_
          refine hK.out _ _ trivial (fun _ => ?_)
          clear hK K
          rw [← HW5.out.2]
          try simp only [Act.put, List.setIfInBounds_toArray, List.set_cons_zero, List.set_cons_succ]
          refine wpAnyH_ready (rs := [4]) (by kernel_rfl) (by simp) ?_
          refine' AllReadyH.cons (o := _) ?hil4 (fun K hK => ?_) AllReadyH.nil
          case hil4 => (simp only [List.getElem?_toArray, List.getElem?_cons_zero, List.getElem?_cons_succ]; rfl)
          go_simp
          refine hK.out _ _ trivial (fun _ => ?_)
          clear hK K
          try simp only [Act.put, List.setIfInBounds_toArray, List.set_cons_zero, List.set_cons_succ]
          refine' wpAnyH_take (i := 6) (oi := _) (v := .slice A q c) ?hil6 (by kernel_rfl) ?hfl6 ?hrl6 ?hQl6 ?hyl6 trivial ?restl6
          case hil6 => (simp only [List.getElem?_toArray, List.getElem?_cons_zero, List.getElem?_cons_succ]; rfl)
          case hfl6 => kernel_rfl
          case hrl6 => kernel_rfl
          case hQl6 => exact fun _ _ _ h => h
          case hyl6 => refine yields_high (by rfl) _ _ rfl rfl rfl ?_; exact HTk.out
          try simp only [Act.put, List.setIfInBounds_toArray, List.set_cons_zero, List.set_cons_succ]
          refine wpAnyH_ready (rs := [9]) (by kernel_rfl) (by simp) ?_
          refine' AllReadyH.cons (o := _) ?hil9 (fun K hK => ?_) AllReadyH.nil
          case hil9 => (simp only [List.getElem?_toArray, List.getElem?_cons_zero, List.getElem?_cons_succ]; rfl)
          go_simp
          refine hK.out _ _ trivial (fun _ => ?_)
          clear hK K
          rw [← HW6.out]
          try simp only [Act.put, List.setIfInBounds_toArray, List.set_cons_zero, List.set_cons_succ]
          refine wpAnyH_ready (rs := [10]) (by kernel_rfl) (by simp) ?_
          refine' AllReadyH.cons (o := _) ?hil10 (fun K hK => ?_) AllReadyH.nil
          case hil10 => (simp only [List.getElem?_toArray, List.getElem?_cons_zero, List.getElem?_cons_succ]; rfl)
          go_simp
          go_at_call 53
          refine CC.out.mono ?_
          rintro e W7 ⟨A', c', rfl, ho, hb7⟩
          have r7 := H6.out.2.below hb7
          have c27 := r7.cell2
          have f27 := r7.free 2
          have H7 := Lib.hid (And.intro ho (And.intro r7 hb7))
          clear r7 hb7 ho
          refine hK.out _ _ trivial (fun _ => ?_)
          clear hK K
          try simp only [Act.put, List.setIfInBounds_toArray, List.set_cons_zero, List.set_cons_succ]
          refine' wpAnyH_take (i := 11) (oi := _) (v := _) ?hil11 (by kernel_rfl) ?hfl11 ?hrl11 ?hQl11 ?hyl11 trivial ?restl11
          case hil11 => (simp only [List.getElem?_toArray, List.getElem?_cons_zero, List.getElem?_cons_succ]; rfl)
          case hfl11 => kernel_rfl
          case hrl11 => kernel_rfl
          case hQl11 => exact fun _ _ _ h => h
          case hyl11 => refine Or.inl ⟨by rfl, ?_⟩; intro W hSw; go_simp; try with_reducible rfl
          try simp only [Act.put, List.setIfInBounds_toArray, List.set_cons_zero, List.set_cons_succ]
          refine' wpAnyH_take (i := 12) (oi := _) (v := _) ?hil12 (by kernel_rfl) ?hfl12 ?hrl12 ?hQl12 ?hyl12 trivial ?restl12
          case hil12 => (simp only [List.getElem?_toArray, List.getElem?_cons_zero, List.getElem?_cons_succ]; rfl)
          case hfl12 => kernel_rfl
          case hrl12 => kernel_rfl
          case hQl12 => exact fun _ _ _ h => h
          case hyl12 => refine Or.inl ⟨by rfl, ?_⟩; intro W hSw; go_simp; try with_reducible rfl
          try simp only [Act.put, List.setIfInBounds_toArray, List.set_cons_zero, List.set_cons_succ]
          refine wpAnyH_ready (rs := [13]) (by kernel_rfl) (by simp) ?_
          refine' AllReadyH.cons (o := _) ?hil13 (fun K hK => ?_) AllReadyH.nil
          case hil13 => (simp only [List.getElem?_toArray, List.getElem?_cons_zero, List.getElem?_cons_succ]; rfl)
          go_simp
          refine hK.out _ _ trivial (fun _ => ?_)
          clear hK K
          refine wpAnyH_done (by kernel_rfl) ?_ _
          go_wp2_with fail
          go_meet
          case rel =>
            have hb := below_on H6.out.1 (Nat.le_refl _) H7.out.2.2
            have hold : ∀ ad, A' = some ad → w.heap.size ≤ ad.block ∧ ad.block < W7.heap.size := fun ad e => by
              have h1 := H7.out.1.lt ad.block (by rw [e]; rfl)
              have h2 := H6.out.1.size
              exact ⟨by omega, h1.2⟩
            have hoff : ∀ ad, A' = some ad → ad.block ≠ g := fun ad e hh => by have := (hold ad e).1; omega
            refine ⟨A', c', H7.out.2.1.setList, inS_blocks (InS.of_own H7.out.1) (fun ad e => heap_setCell_other _ _ _ _ (hoff ad e)), own_cap H7.out.1, own_nil H7.out.1, fun ad e => ⟨(hold ad e).1, by rw [size_setCell_]; exact (hold ad e).2⟩, (But.of_below hb).set 2 _ (fun _ => rfl)⟩
    case rest =>
      clear c24 c25 CC
      obtain ⟨A', c', hrow, hin, hc', hn', hoff, hbut⟩ := hcut
      have c1 := hrow.size
      have f1 := hrow.free 1
      have hwn : IntKind.u64.wrap ((n : Int) + 1) = (n : Int) + 1 := by rw [IntKind.wrap_u64]; omega
      have HX := Lib.hid (And.intro hrow (And.intro hin (And.intro hc' (And.intro hn' (And.intro hoff hbut)))))
      clear hrow hin hc' hn' hoff hbut
      go_wp2_with fail
      go_ret
      have hfr : fr f 0 (n + 1) = pre ++ [R] := by rw [HL.out.2.2.2.1, HRR.out.1]
      have hpop : pop (n + 1) = q + 1 := by rw [← fr_length f (n + 1) 0, hfr, List.length_append, HL.out.2.2.2.2.2.1]; rfl
      have hoffg : ∀ ad, A' = some ad → ad.block ≠ g := fun ad e => by have := (HX.out.2.2.2.2.1 ad e).1; omega
      refine ⟨rfl, ⟨A', c', ⟨?_, ?_, ?_, HX.out.2.2.2.1, hoffg⟩, fun ad e => ⟨(HX.out.2.2.2.2.1 ad e).1, by rw [size_setCell_]; exact (HX.out.2.2.2.2.1 ad e).2⟩⟩, HX.out.2.2.2.2.2.set 1 _ (fun _ => rfl)⟩
      · rw [hpop]
        exact (HX.out.1.setSize (n' := n + 1)).row
      · rw [hpop, hfr, List.flatten_append, one_flat']
        exact inS_blocks HX.out.2.1 (fun ad e => heap_setCell_other _ _ _ _ (hoffg ad e))
      · rw [hpop]; exact HX.out.2.2.1

theorem add_front {w : World} {g : Nat} {f : Nat → List Nat} {n : Nat} (h : Front w g f n) (hf : Sums32 f (n + 1)) (hn : n < 999999) (hk : Knows w) (hs : Starts w) :
    Calls Tryd.prog 34 #[.pointer (some ⟨g, 0, none⟩), sv (f n)] w fun e w' => e = .returned (.int .i64 0) ∧ Front w' g f (n + 1) ∧ But (fun b => b = g) w w' :=
  (add_front_at h hf hn hk hs).mono fun _ _ ⟨he, ⟨A', c', hf', _⟩, hb⟩ => ⟨he, ⟨A', c', hf'⟩, hb⟩

end Go.Proofs.YtllohbgejjbagaaDoor
