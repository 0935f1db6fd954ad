/-
  sums.On: piece by piece.
-/
import Derived.Test.YthbgcijkpincfaaGreatDoorSumChunk
import Derived.Test.YthbgcijkpincfaaGreatDoorSumAdd
namespace Go.Proofs.YthbgcijkpincfaaGreatDoor
open Go.RowKit Go.Shelf

attribute [local go_sem] Oper.semAt_some

def piece (xs : List Nat) (k : Nat) : List Nat := (xs.drop (5552 * k)).take 5552
def pieces (xs : List Nat) (pre : List Nat) : List Nat := pre.flatMap (piece xs)
theorem pieces_snoc (xs pre : List Nat) (k : Nat) : pieces xs (pre ++ [k]) = pieces xs pre ++ piece xs k := by simp [pieces]
theorem pieces_range (xs : List Nat) (k : Nat) : pieces xs (List.range k) = xs.take (5552 * k) := by
  induction k with
  | zero => simp [pieces]
  | succ k ih => rw [List.range_succ, pieces_snoc, ih, piece, show 5552 * (k + 1) = 5552 * k + 5552 by omega, List.take_add]
theorem pieces_all (xs : List Nat) : pieces xs (List.range (cks xs.length)) = xs := by
  rw [pieces_range, List.take_of_length_le]
  unfold cks
  omega
theorem piece_in {w : World} {A : Option Addr} {n : Nat} {xs : List Nat} (h : In w A n xs) (k : Nat) : In w (A.map (·.add (5552 * k))) (ckLen n k) (piece xs k) := by
  refine ⟨by unfold piece ckLen; rw [List.length_take, List.length_drop, h.len], ?_⟩
  cases A with
  | none =>
    intro j x hx
    have hm : x ∈ xs := List.mem_of_mem_drop (List.mem_of_mem_take (List.mem_of_getElem? hx))
    obtain ⟨i, hi⟩ := List.mem_iff_getElem?.1 hm
    obtain ⟨ad, e, _⟩ := h.rd i x hi
    cases e
  | some a => exact (h.rd.drop (5552 * k)).take 5552
theorem piece_lt {xs : List Nat} (h : ∀ x ∈ xs, x < 256) (k : Nat) : ∀ x ∈ piece xs k, x < 256 := fun x hx => h x (List.mem_of_mem_drop (List.mem_of_mem_take hx))
theorem ckLen_le (n k : Nat) : ckLen n k ≤ 5552 := by unfold ckLen; omega

theorem keepsOthers_below {w w' : World} (h : Below w.heap.size w w') : KeepsOthers w w' := ⟨h.size, fun k _ hk _ => (h.block k (Array.getElem?_eq_some_iff.1 hk).1).trans hk⟩

/-- What holds between two rounds. -/
structure Kept (w : World) (g : Nat) (A : Option Addr) (n c l1 m1 : Nat) (xs pre : List Nat) (W : World) : Prop where
  two : Pair W g (ad (l1, m1) (pieces xs pre)).1 (ad (l1, m1) (pieces xs pre)).2
  row : Boxed W (g + 1) 50 (.slice A n c)
  num : Boxed W (g + 1 + 1) 3 (.int .i64 5552)
  bel : Below w.heap.size w W
theorem kept_own {w : World} {g : Nat} {A : Option Addr} {n c l1 m1 : Nat} {xs : List Nat} {B : Nat} (hB : w.heap.size ≤ B) : OwnFrom B (Kept w g A n c l1 m1 xs) := fun _ _ _ _ hs hg hr =>
  ⟨(grownBy_keeps_cells hg (fun r e => (hr r e).2) hs.two rfl).trans hs.two, (grownBy_keeps_cells hg (fun r e => (hr r e).2) hs.row rfl).trans hs.row, (grownBy_keeps_cells hg (fun r e => (hr r e).2) hs.num rfl).trans hs.num,
    hs.bel.grown hg hs.bel.size (fun k e => Nat.le_trans hB (hr k e).1)⟩
theorem keep2_b {B C : Nat} {w : World} (hB : B < w.heap.size) (hC : C < w.heap.size) (W : World) (l : Nat) (o o' : Obj) (hl : w.heap.size ≤ l) (_ : W.heap[l]? = some o) (_ : o.isCells = false) (_ : o.isWalk = false) : Keeps2 B C W (W.putObj l o') :=
  ⟨World.putObj_heap_other (by omega), World.putObj_heap_other (by omega)⟩
theorem keep2_t {B C : Nat} {X Y Z : World} (h : Keeps2 B C X Y) (k : Keeps2 B C Y Z) : Keeps2 B C X Z := ⟨k.1.trans h.1, k.2.trans h.2⟩

set_option maxRecDepth 100000 in
set_option maxHeartbeats 1000000 in
theorem on_in (s : Nat) (hs : s < 4294967296) (A : Option Addr) (n c : Nat) (xs : List Nat) (w : World) (hin : In w A n xs) (hx : ∀ x ∈ xs, x < 256) (hA : A = none → n = 0) (hnc : n ≤ c) (hc : n ≤ 140737488355328) :
    CallsIn Fence.wide 3 Tryz.prog 244 #[.int .u32 (s : Int), .slice A n c] w fun e W' => e = .returned (.int .u32 ((onL s xs : Nat) : Int)) ∧ Below w.heap.size w W' := by
  refine callsIn_of_wp_marks Tryz.func244 rfl trivial ?_ rfl
  simp only [Tryz.ntmps244, List.size_toArray, List.length_cons, List.length_nil, Nat.reduceAdd, Nat.reduceSub, Array.replicate_succ, Array.replicate_zero, List.push_toArray, List.append_toArray, List.nil_append, List.cons_append]
  have hsp := split_lt s
  have hN := numbersOf_any s hs w
  have hD := fun W => divided_any (s % 65536) (s / 65536) (by omega) (by omega) W
  obtain ⟨l0, hl0⟩ : ∃ l0, s % 65536 = l0 := ⟨_, rfl⟩
  obtain ⟨m0, hm0⟩ : ∃ m0, s / 65536 = m0 := ⟨_, rfl⟩
  have hsp0 : split s = (l0 % 65521, m0 % 65521) := by unfold split; rw [hl0, hm0]
  rw [hl0, hm0] at hN
  rw [hl0, hm0] at hD
  obtain ⟨l1, hl1⟩ : ∃ l1, l0 % 65521 = l1 := ⟨_, rfl⟩
  obtain ⟨m1, hm1⟩ : ∃ m1, m0 % 65521 = m1 := ⟨_, rfl⟩
  rw [hl1, hm1] at hD hsp0
  unfold pv at hN hD
  have HS := Lib.hid hsp0
  have HX := Lib.hid hx
  clear hl0 hm0 hl1 hm1 hsp0 hsp hx
  gi_wp2_with (first
    | (refine ⟨trivial, ?_⟩; gi_at_call 277; refine (callsIn_wide.2 hN).mono ?_; rintro e w1 ⟨rfl, bel1⟩)
    | (refine ⟨trivial, ?_⟩; gi_at_call 276; refine (callsIn_wide.2 (hD _)).mono ?_; rintro e w2 ⟨rfl, bel2⟩)
    | (refine ⟨trivial, ?_⟩; gi_at_call 246; refine (chunk_in Fence.wide _ trivial rfl _ _ _ _).mono ?_; rintro e w3 ⟨rfl, rfl⟩))
  obtain ⟨g, hg⟩ : ∃ g, g = w2.heap.size := ⟨_, rfl⟩
  have p0 := Pair.new w2 l1 m1
  have r0 := Boxed.new (w2.alloc (.cells #[.int .u32 (l1 : Int), .int .u32 (m1 : Int)] 324)) 50 (.slice A n c)
  have n0 := Boxed.new ((w2.alloc (.cells #[.int .u32 (l1 : Int), .int .u32 (m1 : Int)] 324)).alloc (.cells #[.slice A n c] 50)) 3 (.int .i64 5552)
  rw [World.size_alloc] at r0
  rw [World.size_alloc, World.size_alloc] at n0
  have bel12 : Below w.heap.size w w2 := bel1.trans (bel2.mono bel1.size)
  have bl0 : Below w.heap.size w (((w2.alloc (.cells #[.int .u32 (l1 : Int), .int .u32 (m1 : Int)] 324)).alloc (.cells #[.slice A n c] 50)).alloc (.cells #[.int .i64 5552] 3)) :=
    ((bel12.alloc bel12.size _).alloc (by simp; have := bel12.size; omega) _).alloc (by simp; have := bel12.size; omega) _
  have hwg : w.heap.size ≤ g := by rw [hg]; exact bel12.size
  obtain ⟨W0, hW0⟩ : ∃ W0, W0 = ((w2.alloc (.cells #[.int .u32 (l1 : Int), .int .u32 (m1 : Int)] 324)).alloc (.cells #[.slice A n c] 50)).alloc (.cells #[.int .i64 5552] 3) := ⟨_, rfl⟩
  have z0 : W0.heap.size = g + 3 := by rw [hW0, hg]; simp
  have k0 : Kept w g A n c l1 m1 xs [] W0 := by rw [hW0, hg]; exact ⟨(p0.alloc _).alloc _, r0.alloc _, n0, bl0⟩
  rw [← hW0, ← hg]
  clear hW0 p0 r0 n0 bl0 bel1 bel2 bel12 hg
  refine wpIn_rangeFunc_ownG rfl (by decide) (gf := 279) (lb := #[.pointer (some ⟨g + 1, 0, none⟩), .pointer (some ⟨g + 1 + 1, 0, none⟩)]) rfl trivial (enters_of Tryz.func279 (by kernel_rfl) rfl)
    (chunk_stops Fence.wide (3 - 1) trivial rfl (by decide) (g + 1) (g + 1 + 1) n c A hA hnc hc W0 k0.row k0.num) keep2_t (keep2_b k0.row.lt k0.num.lt) (Below.refl _ _) (fun _ => rfl)
    (Kept w g A n c l1 m1 xs) (fun _ _ _ => False) (kept_own (by omega)) (fun _ _ _ _ _ hs _ _ => hs) k0
    (fun x => { tmps := #[.int .u32 (s : Int), .slice A n c, undef, undef, .int .u32 0, .pointer (some ⟨g, 0, none⟩), ck A n x, .int .u32 (s : Int), .agg #[.int .u32 (l0 : Int), .int .u32 (m0 : Int)], .agg #[.int .u32 (l1 : Int), .int .u32 (m1 : Int)], .slice A n c,
      .func (.func 279) #[] #[.pointer (some ⟨g + 1, 0, none⟩), .pointer (some ⟨g + 1 + 1, 0, none⟩)], ck A n x, undef, undef, undef, undef, undef, undef, undef, undef, undef, undef], defers := [] }) ?assign ?body ?done ?stop
  case assign =>
    intro l x W K hK
    gi_wp2
    exact hK
  case body =>
    intro l pre x W kp hlt
    obtain ⟨p, hp⟩ : ∃ p, ad (l1, m1) (pieces xs pre) = p := ⟨_, rfl⟩
    have hl1 : l1 < 65521 := by have := (split_lt s).1; rw [HS.out] at this; exact this
    have hm1 : m1 < 65521 := by have := (split_lt s).2; rw [HS.out] at this; exact this
    have hpl := ad_lt l1 m1 hl1 hm1 (pieces xs pre)
    have tw := kp.two
    rw [hp] at tw hpl
    obtain ⟨a, b⟩ := p
    have hinW : In W A n xs := hin.below kp.bel
    have hpi := piece_in hinW x
    have hAdd := added_any a b hpl.1 hpl.2 _ _ (ckLen n x) _ W hpi (piece_lt HX.out x) (ckLen_le n x)
    have hlen : (piece xs x).length ≤ 5552 := by rw [hpi.len]; exact ckLen_le n x
    have hu := lo_lt hpl.1 (piece_lt HX.out x) hlen
    have hv := hi_lt hpl.1 hpl.2 (piece_lt HX.out x) hlen
    have hfin : ad (l1, m1) (pieces xs (pre ++ [x])) = (lo a (piece xs x) % 65521, hi a b (piece xs x) % 65521) := by
      rw [pieces_snoc, ad_append, hp, ad_piece hpl.1 hpl.2]
    obtain ⟨u, hu0⟩ : ∃ u, lo a (piece xs x) = u := ⟨_, rfl⟩
    obtain ⟨v, hv0⟩ : ∃ v, hi a b (piece xs x) = v := ⟨_, rfl⟩
    rw [hu0, hv0] at hfin
    rw [hu0] at hu
    rw [hv0] at hv
    rw [hu0, hv0] at hAdd
    have hDiv := fun W => divided_any u v hu hv W
    obtain ⟨u1, hu1⟩ : ∃ u1, u % 65521 = u1 := ⟨_, rfl⟩
    obtain ⟨v1, hv1⟩ : ∃ v1, v % 65521 = v1 := ⟨_, rfl⟩
    rw [hu1, hv1] at hfin
    rw [hu1, hv1] at hDiv
    unfold pv at hAdd hDiv
    have HF := Lib.hid hfin
    have HT := Lib.hid tw
    clear hfin hu0 hv0 hu hv hu1 hv1 hD hN hp hpl hl1 hm1 hpi hlen hinW
    have c0 := tw.low
    have c1 := tw.high
    clear tw
    unfold ck
    gi_wp2_with (first
      | (refine ⟨trivial, ?_⟩; gi_at_call 278; refine (CallsIn.inRound l (callsIn_wide.2 hAdd)).mono ?_; rintro e w3 ⟨rfl, bel3⟩)
      | (refine ⟨trivial, ?_⟩; gi_at_call 276; refine (CallsIn.inRound l (callsIn_wide.2 (hDiv _))).mono ?_; rintro e w4 ⟨rfl, bel4⟩; have bel34 := bel3.trans (bel4.mono bel3.size); have t4 := HT.out.below bel34; have f0 := t4.free 0; have f1 := t4.free 1; have d0 := t4.low; have d1 := t4.high))
    have t5 := (t4.setLow u1).setHigh v1
    have hgW : g < W.heap.size := HT.out.lt
    have ko : KeepsOthers W ((w4.setCell ⟨g, 0, none⟩ (.int .u32 (u1 : Int))).setCell ⟨g, 1, none⟩ (.int .u32 (v1 : Int))) := ((keepsOthers_below bel34).trans (KeepsOthers.setCell _ _ _)).trans (KeepsOthers.setCell _ _ _)
    have r5 : Boxed ((w4.setCell ⟨g, 0, none⟩ (.int .u32 (u1 : Int))).setCell ⟨g, 1, none⟩ (.int .u32 (v1 : Int))) (g + 1) 50 (.slice A n c) := by
      unfold Boxed
      rw [heap_setCell_other _ _ _ _ (by show g + 1 ≠ g; omega), heap_setCell_other _ _ _ _ (by show g + 1 ≠ g; omega), bel34.block _ kp.row.lt]
      exact kp.row
    have n5 : Boxed ((w4.setCell ⟨g, 0, none⟩ (.int .u32 (u1 : Int))).setCell ⟨g, 1, none⟩ (.int .u32 (v1 : Int))) (g + 1 + 1) 3 (.int .i64 5552) := by
      unfold Boxed
      rw [heap_setCell_other _ _ _ _ (by show g + 1 + 1 ≠ g; omega), heap_setCell_other _ _ _ _ (by show g + 1 + 1 ≠ g; omega), bel34.block _ kp.num.lt]
      exact kp.num
    refine ⟨ko.from _, ⟨Eq.trans r5 (Eq.symm kp.row), Eq.trans n5 (Eq.symm kp.num)⟩, ?_, r5, n5, ?_⟩
    · rw [HF.out]
      exact t5
    · exact kp.bel.trans (((bel34.mono kp.bel.size).setCell (by show w.heap.size ≤ g; exact hwg) _).setCell (by show w.heap.size ≤ g; exact hwg) _)
  case done =>
    rintro D ys W hD rfl kp hK
    have c0 := kp.two.low
    have c1 := kp.two.high
    have hA0 := ad_lt l1 m1 (by have := (split_lt s).1; rw [HS.out] at this; exact this) (by have := (split_lt s).2; rw [HS.out] at this; exact this) (pieces xs (List.range (cks n)))
    have hres : onL s xs = two (ad (l1, m1) (pieces xs (List.range (cks n)))) := by
      unfold onL
      rw [HS.out, ← hin.len, pieces_all]
    obtain ⟨a, ha⟩ : ∃ a, (ad (l1, m1) (pieces xs (List.range (cks n)))).1 = a := ⟨_, rfl⟩
    obtain ⟨b, hb⟩ : ∃ b, (ad (l1, m1) (pieces xs (List.range (cks n)))).2 = b := ⟨_, rfl⟩
    unfold two at hres
    rw [ha, hb] at hres hA0
    rw [ha] at c0
    rw [hb] at c1
    gi_wp2
    refine ⟨by simp, .inl ⟨_, _, rfl, run_takeDeferred hK, ?_⟩⟩
    refine ⟨_, results_tmp rfl _ _ _, ?_, kp.bel.trans (belowK_b (w := w) (Nat.le_refl _) W D _ _ (by omega) hK rfl rfl)⟩
    have e1 : (b : Int) * 65536 = ((b * 65536 : Nat) : Int) := by omega
    have e2 : bits .or .u32 ((b : Int) * 65536) (a : Int) = ((b * 65536 + a : Nat) : Int) := by
      rw [e1, u32_or_nat _ _ (by omega) (by omega)]
      have := Nat.two_pow_add_eq_or_of_lt (i := 16) (b := a) (by omega) b
      rw [Nat.mul_comm b 65536, show 65536 = 2 ^ 16 by decide, ← this]
    rw [hres, ← e2]
    rfl
  case stop =>
    rintro D c' pre W _ _ h _
    exact h.elim

theorem on_any (s : Nat) (hs : s < 4294967296) (A : Option Addr) (n c : Nat) (xs : List Nat) (w : World) (hin : In w A n xs) (hx : ∀ x ∈ xs, x < 256) (hA : A = none → n = 0) (hnc : n ≤ c) (hc : n ≤ 140737488355328) :
    Calls Tryz.prog 244 #[.int .u32 (s : Int), .slice A n c] w fun e W' => e = .returned (.int .u32 ((onL s xs : Nat) : Int)) ∧ Below w.heap.size w W' :=
  (callsIn_wide (n := 3)).1 (on_in s hs A n c xs w hin hx hA hnc hc)

set_option maxRecDepth 100000 in
set_option maxHeartbeats 1000000 in
theorem of_any (A : Option Addr) (n c : Nat) (xs : List Nat) (w : World) (hin : In w A n xs) (hx : ∀ x ∈ xs, x < 256) (hA : A = none → n = 0) (hnc : n ≤ c) (hc : n ≤ 140737488355328) :
    Calls Tryz.prog 245 #[.slice A n c] w fun e W' => e = .returned (.int .u32 ((ofL xs : Nat) : Int)) ∧ Below w.heap.size w W' := by
  have hOn := on_any 1 (by decide) A n c xs w hin hx hA hnc hc
  go_enter Tryz.func245, Tryz.ntmps245
  go_wp2_with fail
  refine hOn.mono ?_
  rintro e w1 ⟨rfl, bel⟩
  go_wp2_with fail
  go_ret
  exact ⟨rfl, bel⟩

end Go.Proofs.YthbgcijkpincfaaGreatDoor
