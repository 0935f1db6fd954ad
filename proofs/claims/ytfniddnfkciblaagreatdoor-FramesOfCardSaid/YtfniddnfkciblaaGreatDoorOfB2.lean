/-
  Several texts in one: SumOn, FNum, FBack, FPut, FRefPutN, SumRef, LApp2, FRefPut, FIs, FParts, FTable.
-/
import Derived.Test.YtfniddnfkciblaaGreatDoorOfB1
import Derived.Lib.SmallJoins
import Derived.ArgAppend
import Derived.Deep.Cut
import Derived.Maps.AppendAt
import Derived.WalkKit
import Derived.LaidEql
import Derived.Stop.Asserts
import Derived.RowKitTokens
/-
  sums.On: piece by piece.
-/
namespace Go.Proofs.YtfniddnfkciblaaGreatDoor
open Go.RowKit Go.Shelf

attribute [local go_sem] Oper.semAt_some

def piece (xs : List Nat) (k : Nat) : List Nat := (xs.drop (5552 * k)).take 5552
def pieces (xs : List Nat) (pre : List Nat) : List Nat := pre.flatMap (piece xs)
theorem pieces_snoc (xs pre : List Nat) (k : Nat) : pieces xs (pre ++ [k]) = pieces xs pre ++ piece xs k := by simp [pieces]
theorem pieces_range (xs : List Nat) (k : Nat) : pieces xs (List.range k) = xs.take (5552 * k) := by
  induction k with
  | zero => simp [pieces]
  | succ k ih => rw [List.range_succ, pieces_snoc, ih, piece, show 5552 * (k + 1) = 5552 * k + 5552 by omega, List.take_add]
theorem pieces_all (xs : List Nat) : pieces xs (List.range (cks xs.length)) = xs := by
  rw [pieces_range, List.take_of_length_le]
  unfold cks
  omega
theorem piece_in {w : World} {A : Option Addr} {n : Nat} {xs : List Nat} (h : In w A n xs) (k : Nat) : In w (A.map (·.add (5552 * k))) (ckLen n k) (piece xs k) := by
  refine ⟨by unfold piece ckLen; rw [List.length_take, List.length_drop, h.len], ?_⟩
  cases A with
  | none =>
    intro j x hx
    have hm : x ∈ xs := List.mem_of_mem_drop (List.mem_of_mem_take (List.mem_of_getElem? hx))
    obtain ⟨i, hi⟩ := List.mem_iff_getElem?.1 hm
    obtain ⟨ad, e, _⟩ := h.rd i x hi
    cases e
  | some a => exact (h.rd.drop (5552 * k)).take 5552
theorem piece_lt {xs : List Nat} (h : ∀ x ∈ xs, x < 256) (k : Nat) : ∀ x ∈ piece xs k, x < 256 := fun x hx => h x (List.mem_of_mem_drop (List.mem_of_mem_take hx))
theorem ckLen_le (n k : Nat) : ckLen n k ≤ 5552 := by unfold ckLen; omega

theorem keepsOthers_below {w w' : World} (h : Below w.heap.size w w') : KeepsOthers w w' := ⟨h.size, fun k _ hk _ => (h.block k (Array.getElem?_eq_some_iff.1 hk).1).trans hk⟩

/-- What holds between two rounds. -/
structure Kept (w : World) (g : Nat) (A : Option Addr) (n c l1 m1 : Nat) (xs pre : List Nat) (W : World) : Prop where
  two : Pair W g (ad (l1, m1) (pieces xs pre)).1 (ad (l1, m1) (pieces xs pre)).2
  row : Boxed W (g + 1) 23 (.slice A n c)
  num : Boxed W (g + 1 + 1) 3 (.int .i64 5552)
  bel : Below w.heap.size w W
theorem kept_own {w : World} {g : Nat} {A : Option Addr} {n c l1 m1 : Nat} {xs : List Nat} {B : Nat} (hB : w.heap.size ≤ B) : OwnFrom B (Kept w g A n c l1 m1 xs) := fun _ _ _ _ hs hg hr =>
  ⟨(grownBy_keeps_cells hg (fun r e => (hr r e).2) hs.two rfl).trans hs.two, (grownBy_keeps_cells hg (fun r e => (hr r e).2) hs.row rfl).trans hs.row, (grownBy_keeps_cells hg (fun r e => (hr r e).2) hs.num rfl).trans hs.num,
    hs.bel.grown hg hs.bel.size (fun k e => Nat.le_trans hB (hr k e).1)⟩
theorem keep2_b {B C : Nat} {w : World} (hB : B < w.heap.size) (hC : C < w.heap.size) (W : World) (l : Nat) (o o' : Obj) (hl : w.heap.size ≤ l) (_ : W.heap[l]? = some o) (_ : o.isCells = false) (_ : o.isWalk = false) : Keeps2 B C W (W.putObj l o') :=
  ⟨World.putObj_heap_other (by omega), World.putObj_heap_other (by omega)⟩
theorem keep2_t {B C : Nat} {X Y Z : World} (h : Keeps2 B C X Y) (k : Keeps2 B C Y Z) : Keeps2 B C X Z := ⟨k.1.trans h.1, k.2.trans h.2⟩

set_option maxRecDepth 100000 in
set_option maxHeartbeats 1000000 in
theorem on_in (s : Nat) (hs : s < 4294967296) (A : Option Addr) (n c : Nat) (xs : List Nat) (w : World) (hin : In w A n xs) (hx : ∀ x ∈ xs, x < 256) (hA : A = none → n = 0) (hnc : n ≤ c) (hc : n ≤ 140737488355328) :
    CallsIn Fence.wide 3 Tryz.prog 53 #[.int .u32 (s : Int), .slice A n c] w fun e W' => e = .returned (.int .u32 ((onL s xs : Nat) : Int)) ∧ Below w.heap.size w W' := by
  refine callsIn_of_wp_marks Tryz.func53 rfl trivial ?_ rfl
  simp only [Tryz.ntmps53, List.size_toArray, List.length_cons, List.length_nil, Nat.reduceAdd, Nat.reduceSub, Array.replicate_succ, Array.replicate_zero, List.push_toArray, List.append_toArray, List.nil_append, List.cons_append]
  have hsp := split_lt s
  have hN := numbersOf_any s hs w
  have hD := fun W => divided_any (s % 65536) (s / 65536) (by omega) (by omega) W
  obtain ⟨l0, hl0⟩ : ∃ l0, s % 65536 = l0 := ⟨_, rfl⟩
  obtain ⟨m0, hm0⟩ : ∃ m0, s / 65536 = m0 := ⟨_, rfl⟩
  have hsp0 : split s = (l0 % 65521, m0 % 65521) := by unfold split; rw [hl0, hm0]
  rw [hl0, hm0] at hN
  rw [hl0, hm0] at hD
  obtain ⟨l1, hl1⟩ : ∃ l1, l0 % 65521 = l1 := ⟨_, rfl⟩
  obtain ⟨m1, hm1⟩ : ∃ m1, m0 % 65521 = m1 := ⟨_, rfl⟩
  rw [hl1, hm1] at hD hsp0
  unfold pv at hN hD
  have HS := Lib.hid hsp0
  have HX := Lib.hid hx
  clear hl0 hm0 hl1 hm1 hsp0 hsp hx
  gi_wp2_with (first
    | (refine ⟨trivial, ?_⟩; gi_at_call 79; refine (callsIn_wide.2 hN).mono ?_; rintro e w1 ⟨rfl, bel1⟩)
    | (refine ⟨trivial, ?_⟩; gi_at_call 78; refine (callsIn_wide.2 (hD _)).mono ?_; rintro e w2 ⟨rfl, bel2⟩)
    | (refine ⟨trivial, ?_⟩; gi_at_call 80; refine (chunk_in Fence.wide _ trivial rfl _ _ _ _).mono ?_; rintro e w3 ⟨rfl, rfl⟩))
  obtain ⟨g, hg⟩ : ∃ g, g = w2.heap.size := ⟨_, rfl⟩
  have p0 := Pair.new w2 l1 m1
  have r0 := Boxed.new (w2.alloc (.cells #[.int .u32 (l1 : Int), .int .u32 (m1 : Int)] 133)) 23 (.slice A n c)
  have n0 := Boxed.new ((w2.alloc (.cells #[.int .u32 (l1 : Int), .int .u32 (m1 : Int)] 133)).alloc (.cells #[.slice A n c] 23)) 3 (.int .i64 5552)
  rw [World.size_alloc] at r0
  rw [World.size_alloc, World.size_alloc] at n0
  have bel12 : Below w.heap.size w w2 := bel1.trans (bel2.mono bel1.size)
  have bl0 : Below w.heap.size w (((w2.alloc (.cells #[.int .u32 (l1 : Int), .int .u32 (m1 : Int)] 133)).alloc (.cells #[.slice A n c] 23)).alloc (.cells #[.int .i64 5552] 3)) :=
    ((bel12.alloc bel12.size _).alloc (by simp; have := bel12.size; omega) _).alloc (by simp; have := bel12.size; omega) _
  have hwg : w.heap.size ≤ g := by rw [hg]; exact bel12.size
  obtain ⟨W0, hW0⟩ : ∃ W0, W0 = ((w2.alloc (.cells #[.int .u32 (l1 : Int), .int .u32 (m1 : Int)] 133)).alloc (.cells #[.slice A n c] 23)).alloc (.cells #[.int .i64 5552] 3) := ⟨_, rfl⟩
  have z0 : W0.heap.size = g + 3 := by rw [hW0, hg]; simp
  have k0 : Kept w g A n c l1 m1 xs [] W0 := by rw [hW0, hg]; exact ⟨(p0.alloc _).alloc _, r0.alloc _, n0, bl0⟩
  rw [← hW0, ← hg]
  clear hW0 p0 r0 n0 bl0 bel1 bel2 bel12 hg
  refine wpIn_rangeFunc_ownG rfl (by decide) (gf := 96) (lb := #[.pointer (some ⟨g + 1, 0, none⟩), .pointer (some ⟨g + 1 + 1, 0, none⟩)]) rfl trivial (enters_of Tryz.func96 (by kernel_rfl) rfl)
    (chunk_stops Fence.wide (3 - 1) trivial rfl (by decide) (g + 1) (g + 1 + 1) n c A hA hnc hc W0 k0.row k0.num) keep2_t (keep2_b k0.row.lt k0.num.lt) (Below.refl _ _) (fun _ => rfl)
    (Kept w g A n c l1 m1 xs) (fun _ _ _ => False) (kept_own (by omega)) (fun _ _ _ _ _ hs _ _ => hs) k0
    (fun x => { tmps := #[.int .u32 (s : Int), .slice A n c, undef, undef, .int .u32 0, .pointer (some ⟨g, 0, none⟩), ck A n x, .int .u32 (s : Int), .agg #[.int .u32 (l0 : Int), .int .u32 (m0 : Int)], .agg #[.int .u32 (l1 : Int), .int .u32 (m1 : Int)], .slice A n c,
      .func (.func 96) #[] #[.pointer (some ⟨g + 1, 0, none⟩), .pointer (some ⟨g + 1 + 1, 0, none⟩)], ck A n x, undef, undef, undef, undef, undef, undef, undef, undef, undef, undef], defers := [] }) ?assign ?body ?done ?stop
  case assign =>
    intro l x W K hK
    gi_wp2
    exact hK
  case body =>
    intro l pre x W kp hlt
    obtain ⟨p, hp⟩ : ∃ p, ad (l1, m1) (pieces xs pre) = p := ⟨_, rfl⟩
    have hl1 : l1 < 65521 := by have := (split_lt s).1; rw [HS.out] at this; exact this
    have hm1 : m1 < 65521 := by have := (split_lt s).2; rw [HS.out] at this; exact this
    have hpl := ad_lt l1 m1 hl1 hm1 (pieces xs pre)
    have tw := kp.two
    rw [hp] at tw hpl
    obtain ⟨a, b⟩ := p
    have hinW : In W A n xs := hin.below kp.bel
    have hpi := piece_in hinW x
    have hAdd := added_any a b hpl.1 hpl.2 _ _ (ckLen n x) _ W hpi (piece_lt HX.out x) (ckLen_le n x)
    have hlen : (piece xs x).length ≤ 5552 := by rw [hpi.len]; exact ckLen_le n x
    have hu := lo_lt hpl.1 (piece_lt HX.out x) hlen
    have hv := hi_lt hpl.1 hpl.2 (piece_lt HX.out x) hlen
    have hfin : ad (l1, m1) (pieces xs (pre ++ [x])) = (lo a (piece xs x) % 65521, hi a b (piece xs x) % 65521) := by
      rw [pieces_snoc, ad_append, hp, ad_piece hpl.1 hpl.2]
    obtain ⟨u, hu0⟩ : ∃ u, lo a (piece xs x) = u := ⟨_, rfl⟩
    obtain ⟨v, hv0⟩ : ∃ v, hi a b (piece xs x) = v := ⟨_, rfl⟩
    rw [hu0, hv0] at hfin
    rw [hu0] at hu
    rw [hv0] at hv
    rw [hu0, hv0] at hAdd
    have hDiv := fun W => divided_any u v hu hv W
    obtain ⟨u1, hu1⟩ : ∃ u1, u % 65521 = u1 := ⟨_, rfl⟩
    obtain ⟨v1, hv1⟩ : ∃ v1, v % 65521 = v1 := ⟨_, rfl⟩
    rw [hu1, hv1] at hfin
    rw [hu1, hv1] at hDiv
    unfold pv at hAdd hDiv
    have HF := Lib.hid hfin
    have HT := Lib.hid tw
    clear hfin hu0 hv0 hu hv hu1 hv1 hD hN hp hpl hl1 hm1 hpi hlen hinW
    have c0 := tw.low
    have c1 := tw.high
    clear tw
    unfold ck
    gi_wp2_with (first
      | (refine ⟨trivial, ?_⟩; gi_at_call 81; refine (CallsIn.inRound l (callsIn_wide.2 hAdd)).mono ?_; rintro e w3 ⟨rfl, bel3⟩)
      | (refine ⟨trivial, ?_⟩; gi_at_call 78; refine (CallsIn.inRound l (callsIn_wide.2 (hDiv _))).mono ?_; rintro e w4 ⟨rfl, bel4⟩; have bel34 := bel3.trans (bel4.mono bel3.size); have t4 := HT.out.below bel34; have f0 := t4.free 0; have f1 := t4.free 1; have d0 := t4.low; have d1 := t4.high))
    have t5 := (t4.setLow u1).setHigh v1
    have hgW : g < W.heap.size := HT.out.lt
    have ko : KeepsOthers W ((w4.setCell ⟨g, 0, none⟩ (.int .u32 (u1 : Int))).setCell ⟨g, 1, none⟩ (.int .u32 (v1 : Int))) := ((keepsOthers_below bel34).trans (KeepsOthers.setCell _ _ _)).trans (KeepsOthers.setCell _ _ _)
    have r5 : Boxed ((w4.setCell ⟨g, 0, none⟩ (.int .u32 (u1 : Int))).setCell ⟨g, 1, none⟩ (.int .u32 (v1 : Int))) (g + 1) 23 (.slice A n c) := by
      unfold Boxed
      rw [heap_setCell_other _ _ _ _ (by show g + 1 ≠ g; omega), heap_setCell_other _ _ _ _ (by show g + 1 ≠ g; omega), bel34.block _ kp.row.lt]
      exact kp.row
    have n5 : Boxed ((w4.setCell ⟨g, 0, none⟩ (.int .u32 (u1 : Int))).setCell ⟨g, 1, none⟩ (.int .u32 (v1 : Int))) (g + 1 + 1) 3 (.int .i64 5552) := by
      unfold Boxed
      rw [heap_setCell_other _ _ _ _ (by show g + 1 + 1 ≠ g; omega), heap_setCell_other _ _ _ _ (by show g + 1 + 1 ≠ g; omega), bel34.block _ kp.num.lt]
      exact kp.num
    refine ⟨ko.from _, ⟨Eq.trans r5 (Eq.symm kp.row), Eq.trans n5 (Eq.symm kp.num)⟩, ?_, r5, n5, ?_⟩
    · rw [HF.out]
      exact t5
    · exact kp.bel.trans (((bel34.mono kp.bel.size).setCell (by show w.heap.size ≤ g; exact hwg) _).setCell (by show w.heap.size ≤ g; exact hwg) _)
  case done =>
    rintro D ys W hD rfl kp hK
    have c0 := kp.two.low
    have c1 := kp.two.high
    have hA0 := ad_lt l1 m1 (by have := (split_lt s).1; rw [HS.out] at this; exact this) (by have := (split_lt s).2; rw [HS.out] at this; exact this) (pieces xs (List.range (cks n)))
    have hres : onL s xs = two (ad (l1, m1) (pieces xs (List.range (cks n)))) := by
      unfold onL
      rw [HS.out, ← hin.len, pieces_all]
    obtain ⟨a, ha⟩ : ∃ a, (ad (l1, m1) (pieces xs (List.range (cks n)))).1 = a := ⟨_, rfl⟩
    obtain ⟨b, hb⟩ : ∃ b, (ad (l1, m1) (pieces xs (List.range (cks n)))).2 = b := ⟨_, rfl⟩
    unfold two at hres
    rw [ha, hb] at hres hA0
    rw [ha] at c0
    rw [hb] at c1
    gi_wp2
    refine ⟨by simp, .inl ⟨_, _, rfl, run_takeDeferred hK, ?_⟩⟩
    refine ⟨_, results_tmp rfl _ _ _, ?_, kp.bel.trans (belowK_b (w := w) (Nat.le_refl _) W D _ _ (by omega) hK rfl rfl)⟩
    have e1 : (b : Int) * 65536 = ((b * 65536 : Nat) : Int) := by omega
    have e2 : bits .or .u32 ((b : Int) * 65536) (a : Int) = ((b * 65536 + a : Nat) : Int) := by
      rw [e1, u32_or_nat _ _ (by omega) (by omega)]
      have := Nat.two_pow_add_eq_or_of_lt (i := 16) (b := a) (by omega) b
      rw [Nat.mul_comm b 65536, show 65536 = 2 ^ 16 by decide, ← this]
    rw [hres, ← e2]
    rfl
  case stop =>
    rintro D c' pre W _ _ h _
    exact h.elim

theorem on_any (s : Nat) (hs : s < 4294967296) (A : Option Addr) (n c : Nat) (xs : List Nat) (w : World) (hin : In w A n xs) (hx : ∀ x ∈ xs, x < 256) (hA : A = none → n = 0) (hnc : n ≤ c) (hc : n ≤ 140737488355328) :
    Calls Tryz.prog 53 #[.int .u32 (s : Int), .slice A n c] w fun e W' => e = .returned (.int .u32 ((onL s xs : Nat) : Int)) ∧ Below w.heap.size w W' :=
  (callsIn_wide (n := 3)).1 (on_in s hs A n c xs w hin hx hA hnc hc)

set_option maxRecDepth 100000 in
set_option maxHeartbeats 1000000 in
theorem of_any (A : Option Addr) (n c : Nat) (xs : List Nat) (w : World) (hin : In w A n xs) (hx : ∀ x ∈ xs, x < 256) (hA : A = none → n = 0) (hnc : n ≤ c) (hc : n ≤ 140737488355328) :
    Calls Tryz.prog 54 #[.slice A n c] w fun e W' => e = .returned (.int .u32 ((ofL xs : Nat) : Int)) ∧ Below w.heap.size w W' := by
  have hOn := on_any 1 (by decide) A n c xs w hin hx hA hnc hc
  go_enter Tryz.func54, Tryz.ntmps54
  go_wp2_with fail
  refine hOn.mono ?_
  rintro e w1 ⟨rfl, bel⟩
  go_wp2_with fail
  go_ret
  exact ⟨rfl, bel⟩

end Go.Proofs.YtfniddnfkciblaaGreatDoor

/-
  frames' numbers: sectors, noughts, number, numbers, sumOf.
-/
namespace Go.Proofs.YtfniddnfkciblaaGreatDoor
open Go.RowKit

theorem own_low {w : World} {base base' : Nat} {e : TypeId} {size : Nat} {v : Value} {n : Nat} {xs : List Value} (h : w.ownsRow base e size v n xs) (hb : base' ≤ base) : w.ownsRow base' e size v n xs := by
  refine ⟨h.1, ?_⟩
  rcases h.2 with h0 | ⟨g, cap, cur, e1, h2, r⟩
  · exact .inl h0
  · exact .inr ⟨g, cap, cur, e1, Nat.le_trans hb h2, r⟩

set_option maxRecDepth 100000 in
theorem sectors_any (c : Nat) (hc : c ≤ 1000000000000) (w : World) : Calls Tryz.prog 16 #[.int .i64 (c : Int)] w fun e w' => e = .returned (.int .i64 ((secs c : Nat) : Int)) ∧ w = w' := by
  have h1 : (18 + (c : Int) + 64 - 1).tdiv 64 = ((secs c : Nat) : Int) := by rw [Int.tdiv_eq_ediv_of_nonneg (by omega)]; unfold secs; omega
  obtain ⟨q, hq⟩ : ∃ q, secs c = q := ⟨_, rfl⟩
  rw [hq] at h1 ⊢
  have hq2 : q ≤ 1000000000000 := by unfold secs at hq; omega
  clear hq
  go_enter Tryz.func16, Tryz.ntmps16
  go_wp2
  go_ret
  exact ⟨rfl, rfl⟩

set_option maxRecDepth 100000 in
theorem noughts_any (c : Nat) (hc : c ≤ 1000000000000) (w : World) : Calls Tryz.prog 90 #[.int .i64 (c : Int)] w fun e w' => e = .returned (.int .i64 ((noug c : Nat) : Int)) ∧ w = w' := by
  have h1 : 64 * ((secs c : Nat) : Int) - 18 - (c : Int) = ((noug c : Nat) : Int) := by unfold noug; have := secs_ge c; omega
  have C := sectors_any c hc w
  have h2 := secs_ge c
  have h3 := secs_lt c
  obtain ⟨q, hq⟩ : ∃ q, secs c = q := ⟨_, rfl⟩
  obtain ⟨m, hm⟩ : ∃ m, noug c = m := ⟨_, rfl⟩
  rw [hq] at h1 h2 h3 C
  rw [hm] at h1 ⊢
  clear hq hm
  go_enter Tryz.func90, Tryz.ntmps90
  go_wp2_with fail
  refine C.mono ?_
  rintro e w' ⟨rfl, rfl⟩
  go_wp2_with fail
  go_ret
  exact ⟨rfl, rfl⟩

set_option maxRecDepth 100000 in
theorem number_any (A : Option Addr) (n c : Nat) (xs : List Nat) (w : World) (hin : In w A n xs) (hx : ∀ x ∈ xs, x < 256) (hn : n ≤ 8) (hc : n ≤ c) :
    Calls Tryz.prog 98 #[.slice A n c] w fun e w' => e = .returned (.int .u64 ((val xs : Nat) : Int)) ∧ w = w' := by
  have C := Lib.hid (get_ok A n c n xs w hin hx hn (Nat.le_refl _) hc)
  rw [← hin.len, List.take_length, hin.len] at C
  clear hx
  go_enter Tryz.func98, Tryz.ntmps98
  go_wp2_with fail
  refine C.out.mono ?_
  rintro e w' ⟨rfl, rfl⟩
  go_wp2_with fail
  go_ret
  exact ⟨rfl, rfl⟩

set_option maxRecDepth 100000 in
theorem numbers_any (num count : Nat) (hc : count < 18446744073709551616) (hc2 : count ≤ 140737488355328) (w : World) :
    Calls Tryz.prog 13 #[.int .u64 (num : Int), .int .i64 (count : Int)] w (Gives w.heap.size w 10 (toldL num count)) := by
  have C1 := Lib.hid (put_nil num 8 (by omega) w)
  have C2 := Lib.hid (fun (A : Option Addr) (c : Nat) (W : World) (h : In W A 8 (dg num 8)) => put_any A 8 c (dg num 8) count 2 2 (kk_nat 2 (by omega)) W h (by omega))
  have hw : IntKind.u64.wrap (count : Int) = (count : Int) := by rw [IntKind.wrap_u64]; omega
  go_enter Tryz.func13, Tryz.ntmps13
  go_wp2_with fail
  refine C1.out.mono ?_
  rintro e w1 ⟨A1, c1, rfl, ho1, hb1⟩
  go_wp2_with fail
  refine (C2.out _ _ _ (In.of_own ho1)).mono ?_
  rintro e w2 ⟨A2, c2, rfl, ho2, hb2⟩
  go_wp2_with fail
  go_ret
  exact ⟨A2, c2, rfl, own_low ho2 hb1.size, hb1.trans (hb2.mono hb1.size)⟩

set_option maxRecDepth 100000 in
theorem sumOf_any (num : Nat) (A : Option Addr) (n c : Nat) (xs : List Nat) (w : World) (hin : In w A n xs) (hx : ∀ x ∈ xs, x < 256) (hA : A = none → n = 0) (hnc : n ≤ c) (hc : n ≤ 140737488355328) :
    Calls Tryz.prog 15 #[.int .u64 (num : Int), .slice A n c] w fun e W' => e = .returned (.int .u64 ((sumL num xs : Nat) : Int)) ∧ Below w.heap.size w W' := by
  have hres : onL (ofL (toldL num n)) xs = sumL num xs := by unfold sumL; rw [hin.len, join_on]
  have hlt := sumL_lt num xs
  have hw : IntKind.u64.wrap ((sumL num xs : Nat) : Int) = ((sumL num xs : Nat) : Int) := by rw [IntKind.wrap_u64]; omega
  have C1 := Lib.hid (numbers_any num n (by omega) (by omega) w)
  have C2 := Lib.hid (fun (A1 : Option Addr) (c1 : Nat) (W : World) (h : In W A1 10 (toldL num n)) (h2 : A1 = none → 10 = 0) (h3 : 10 ≤ c1) => of_any A1 10 c1 (toldL num n) W h (toldL_lt _ _) h2 h3 (by omega))
  have C3 := Lib.hid (fun (W : World) (h : In W A n xs) => on_any (ofL (toldL num n)) (onL_lt 1 _) A n c xs W h hx hA hnc hc)
  rw [hres] at C3
  obtain ⟨s, hs⟩ : ∃ s, sumL num xs = s := ⟨_, rfl⟩
  rw [hs] at hw C3 ⊢
  clear hres hlt hs hx
  obtain ⟨u, hu⟩ : ∃ u, ofL (toldL num n) = u := ⟨_, rfl⟩
  rw [hu] at C2 C3
  go_enter Tryz.func15, Tryz.ntmps15
  go_wp2_with fail
  refine C1.out.mono ?_
  rintro e w1 ⟨A1, c1, rfl, ho1, hb1⟩
  go_wp2_with fail
  refine (C2.out A1 c1 _ (In.of_own ho1) (fun e => by have := own_cap ho1; have := own_nil ho1 e; omega) (own_cap ho1)).mono ?_
  rintro e w2 ⟨rfl, hb2⟩
  go_wp2_with fail
  have hb12 : Below w.heap.size w w2 := hb1.trans (hb2.mono hb1.size)
  refine (C3.out _ (hin.below hb12)).mono ?_
  rintro e w3 ⟨rfl, hb3⟩
  go_wp2_with fail
  go_ret
  exact ⟨rfl, hb12.trans (hb3.mono hb12.size)⟩

end Go.Proofs.YtfniddnfkciblaaGreatDoor

/-
  What follows of frames as plain lists.
-/
namespace Go.Proofs.YtfniddnfkciblaaGreatDoor

theorem dg_snoc (n k : Nat) : dg n (k + 1) = dg (n / 256) k ++ [n % 256] := by
  have := dg_split n k 1
  rw [this]
  simp [dg]
theorem dg_val (ys : List Nat) (h : ∀ x ∈ ys, x < 256) : ∀ k, ys.length = k → dg (val ys) k = ys := by
  intro k
  induction k generalizing ys with
  | zero => intro hl; rw [List.eq_nil_of_length_eq_zero hl]; rfl
  | succ k ih =>
    intro hl
    have hne : ys ≠ [] := fun e => by rw [e] at hl; cases hl
    obtain ⟨zs, d, rfl⟩ : ∃ zs d, ys = zs ++ [d] := ⟨ys.dropLast, ys.getLast hne, (List.dropLast_concat_getLast hne).symm⟩
    have hd : d < 256 := h d (by simp)
    rw [dg_snoc, val_snoc, show (val zs * 256 + d) / 256 = val zs by omega, show (val zs * 256 + d) % 256 = d by omega, ih zs (fun x hx => h x (by simp [hx])) (by rw [List.length_append] at hl; simpa using hl)]

theorem drop_append_len {α : Type} (a b : List α) (k : Nat) (h : a.length = k) : (a ++ b).drop k = b := by rw [List.drop_append, List.drop_of_length_le (by omega), show k - a.length = 0 by omega]; rfl
theorem take_append_len {α : Type} (a b : List α) (k : Nat) (h : a.length = k) : (a ++ b).take k = a := by rw [List.take_append, List.take_of_length_le (by omega), show k - a.length = 0 by omega]; simp

section
variable {num : Nat} {b ys : List Nat}
/-- Bytes that begin with as much of a frame as has its head. -/
theorem frame_split (num : Nat) (b zs : List Nat) : frameL num b ++ zs = recMark ++ (dg num 8 ++ (dg b.length 2 ++ (dg (sumL num b) 4 ++ (b ++ (List.replicate (noug b.length) 0 ++ zs))))) := by
  unfold frameL headL toldL
  simp only [List.append_assoc]
theorem take4_frame : (frameL num b ++ ys).take 4 = recMark := by rw [frame_split]; exact take_append_len _ _ 4 rfl
theorem drop4_frame : (frameL num b ++ ys).drop 4 = dg num 8 ++ (dg b.length 2 ++ (dg (sumL num b) 4 ++ (b ++ (List.replicate (noug b.length) 0 ++ ys)))) := by rw [frame_split]; exact drop_append_len _ _ 4 rfl
theorem drop12_frame : (frameL num b ++ ys).drop 12 = dg b.length 2 ++ (dg (sumL num b) 4 ++ (b ++ (List.replicate (noug b.length) 0 ++ ys))) := by
  rw [show 12 = 4 + 8 from rfl, ← List.drop_drop, drop4_frame]; exact drop_append_len _ _ 8 (dg_length _ _)
theorem drop14_frame : (frameL num b ++ ys).drop 14 = dg (sumL num b) 4 ++ (b ++ (List.replicate (noug b.length) 0 ++ ys)) := by
  rw [show 14 = 12 + 2 from rfl, ← List.drop_drop, drop12_frame]; exact drop_append_len _ _ 2 (dg_length _ _)
theorem drop18_frame : (frameL num b ++ ys).drop 18 = b ++ (List.replicate (noug b.length) 0 ++ ys) := by
  rw [show 18 = 14 + 4 from rfl, ← List.drop_drop, drop14_frame]; exact drop_append_len _ _ 4 (dg_length _ _)
theorem numOf_frame (h : num < 18446744073709551616) : numOf (frameL num b ++ ys) = num := by
  unfold numOf; rw [drop4_frame, val_told _ _ _ (by simpa using h)]
theorem cntOf_frame (h : b.length < 65536) : cntOf (frameL num b ++ ys) = b.length := by
  unfold cntOf; rw [drop12_frame, val_told _ _ _ (by simpa using h)]
theorem sumIn_frame : sumIn (frameL num b ++ ys) = sumL num b := by
  unfold sumIn; rw [drop14_frame, val_told _ _ _ (by have := sumL_lt num b; simpa using this)]
theorem recOf_frame (h : b.length < 65536) : recOf (frameL num b ++ ys) = b := by
  unfold recOf; rw [cntOf_frame h, drop18_frame]; exact take_append_len _ _ _ rfl
theorem restOf_frame (h : b.length < 65536) : restOf (frameL num b ++ ys) = List.replicate (noug b.length) 0 := by
  unfold restOf; rw [cntOf_frame h, ← List.drop_drop, drop18_frame, drop_append_len _ _ _ rfl]; exact take_append_len _ _ _ List.length_replicate

/-- What is put is got, whatever stands behind it. -/
theorem cutL_frame (hnum : num < 18446744073709551616) (h : b.length ≤ 256) : cutL (frameL num b ++ ys) = none := by
  have hl := frameL_length num b
  have hs := secs_pos b.length
  unfold cutL
  rw [if_neg (by rw [List.length_append]; omega), if_neg (fun k => k take4_frame), cntOf_frame (by omega), if_neg (by omega), if_neg (by rw [List.length_append]; omega), restOf_frame (by omega), if_neg (fun k => k rfl), sumIn_frame, numOf_frame hnum, recOf_frame (by omega), if_neg (fun k => k rfl)]

/-- Cut anywhere it is too short. -/
theorem cutL_cut (h : b.length ≤ 256) {k : Nat} (hk : k < (frameL num b).length) : cutL ((frameL num b).take k) = some .short := by
  have hl := frameL_length num b
  have hlt : ((frameL num b).take k).length = k := by rw [List.length_take]; omega
  unfold cutL
  by_cases h64 : k < 64
  · rw [hlt, if_pos h64]
  · have e : ∀ a m : Nat, a + m ≤ 64 → (((frameL num b).take k).drop a).take m = ((frameL num b ++ []).drop a).take m := fun a m ha => by
      rw [List.append_nil, List.drop_take, List.take_take, Nat.min_eq_left (by omega)]
    have e4 := e 0 4 (by omega)
    have e2 : cntOf ((frameL num b).take k) = b.length := by
      have := cntOf_frame (num := num) (ys := []) (show b.length < 65536 by omega)
      unfold cntOf at this ⊢
      rw [e 12 2 (by omega)]
      exact this
    rw [List.drop_zero, List.drop_zero] at e4
    rw [e4, hlt, e2, if_neg h64, if_neg (fun j => j take4_frame), if_neg (by omega), if_pos (by omega)]
end

/-- Of bytes of which a record is got its frame is their beginning. -/
theorem cutL_again (xs : List Nat) (hx : ∀ x ∈ xs, x < 256) (h : cutL xs = none) :
    frameL (numOf xs) (recOf xs) = xs.take (64 * secs (cntOf xs)) ∧ cntOf xs ≤ 256 ∧ 64 * secs (cntOf xs) ≤ xs.length ∧ (recOf xs).length = cntOf xs := by
  unfold cutL at h
  split at h
  · cases h
  rename_i h1
  split at h
  · cases h
  rename_i h2
  split at h
  · cases h
  rename_i h3
  split at h
  · cases h
  rename_i h4
  split at h
  · cases h
  rename_i h5
  split at h
  · cases h
  rename_i h6
  have h2 := Decidable.not_not.1 h2
  have h5 := Decidable.not_not.1 h5
  have h6 := Decidable.not_not.1 h6
  have hl : (recOf xs).length = cntOf xs := recOf_length (by omega)
  have hs := secs_ge (cntOf xs)
  refine ⟨?_, by omega, by omega, hl⟩
  have d1 : dg (numOf xs) 8 = (xs.drop 4).take 8 := dg_val _ (drop_take_lt hx 4 8) 8 (by rw [List.length_take, List.length_drop]; omega)
  have d2 : dg (cntOf xs) 2 = (xs.drop 12).take 2 := dg_val _ (drop_take_lt hx 12 2) 2 (by rw [List.length_take, List.length_drop]; omega)
  have d3 : dg (sumIn xs) 4 = (xs.drop 14).take 4 := dg_val _ (drop_take_lt hx 14 4) 4 (by rw [List.length_take, List.length_drop]; omega)
  have e := frame_split (numOf xs) (recOf xs) []
  rw [List.append_nil, hl, ← h6, d1, d2, d3, ← h2, ← h5] at e
  rw [e, List.append_nil]
  have t : 64 * secs (cntOf xs) = 4 + (8 + (2 + (4 + (cntOf xs + noug (cntOf xs))))) := by unfold noug; omega
  rw [t, take_more, take_more, List.drop_drop, take_more, List.drop_drop, take_more, List.drop_drop, take_more, List.drop_drop]
  rfl

end Go.Proofs.YtfniddnfkciblaaGreatDoor

/-
  frames.Put.
-/
namespace Go.Proofs.YtfniddnfkciblaaGreatDoor
open Go.RowKit

theorem splice_bytes (ys : List Nat) (k : Nat) (cs : List Nat) : splice (bvs ys) k (bvs cs) = bvs (ys.take k ++ cs ++ ys.drop (k + cs.length)) := by
  unfold splice
  rw [bvs_append, bvs_append, bvs_length]
  simp [bvs, List.map_take, List.map_drop]
theorem made_noughts (m : Nat) : madeCells #[.int .u8 0] m = (bvs (List.replicate m 0)).toArray := by
  apply Array.ext'
  simp only [madeCells, bvs, List.map_replicate, Array.toList_map, Array.toList_range]
  rw [List.eq_replicate_iff]
  refine ⟨by simp, fun b hb => ?_⟩
  obtain ⟨i, _, rfl⟩ := List.mem_map.1 hb
  simp [Nat.mod_one, bv]
theorem In.from_ {W : World} {A : Option Addr} {n : Nat} {xs : List Nat} (h : In W A n xs) : 0 < (bvs xs).length → ∃ ad, A = some ad ∧ ∀ j v, (bvs xs)[j]? = some v → W.cell? (ad.add j) = some v := by
  intro h0
  rw [bvs_length] at h0
  obtain ⟨ad, rfl, _⟩ := h.rd.at_ h0
  refine ⟨ad, rfl, fun j v hv => ?_⟩
  rw [bvs_get] at hv
  obtain ⟨x, hx, rfl⟩ := Option.map_eq_some_iff.1 hv
  obtain ⟨ad', e, hc⟩ := h.rd j x hx
  cases e
  exact hc

/-- 'append(s, l...)' of bytes, s without room for l. -/
theorem wpList_app_grows {ops : Array Oper} {rest : List Oper} {o : Oper} {a : Act} {Q : Exit → Act → World → Prop} (w : World) (hgd : o.guard = none) (s x : Operand)
    (ho : o.op = .call { callee := .builtin .append, args := #[s, x], argTypes := #[23, 23] })
    (A : Option Addr) (n c : Nat) (xs : List Nat) (hs : a.eval s = .slice A n c) (hin : In w A n xs) (hA : A = none → n = 0 ∧ c = 0)
    (ad : Addr) (m c2 : Nat) (ys : List Nat) (hx : a.eval x = .slice (some ad) m c2) (hin2 : In w (some ad) m ys) (hg : c < n + m) (hle : n + m ≤ 140737488355328)
    (h : ∀ A' c' w', w'.ownsRow w.heap.size 5 1 (.slice A' (n + m) c') (n + m) (bvs (xs ++ ys)) → Below w.heap.size w w' → wpList Tryz.prog ops Q rest (a.put o.dst (.slice A' (n + m) c')) w') :
    wpList Tryz.prog ops Q (o :: rest) a w := by
  obtain ⟨i0, hi, hz0, hz1, hz2⟩ := info_parts infoByte
  refine wpList_append_grows w hgd s x 23 ho 5 i0 _ 1 1 Tryz.underlying23 hi hz0 hz1 hz2 rfl (by decide) A n c (bvs xs) hs hA (by rw [bvs_length, hin.len]; simp) ?_ ad m c2 (bvs ys) hx (by rw [bvs_length, hin2.len]; simp) ?_ (bvs_oneCell ys) hg (by unfold maxLen; omega) (by omega) ?_
  · intro b hb j u hu
    rw [bvs_get] at hu
    obtain ⟨y, hy, rfl⟩ := Option.map_eq_some_iff.1 hu
    obtain ⟨ad', e, hc⟩ := hin.rd j y hy
    rw [hb] at e
    cases e
    exact hc
  · intro j u hu
    rw [bvs_get] at hu
    obtain ⟨y, hy, rfl⟩ := Option.map_eq_some_iff.1 hu
    obtain ⟨ad', e, hc⟩ := hin2.rd j y hy
    cases e
    exact hc
  · intro v' w' h2 h3
    rw [← bvs_append] at h2
    obtain ⟨A', c', rfl⟩ := own_form h2
    exact h A' c' w' h2 ((Below.refl _ _).grown h3 (Nat.le_refl _) (fun k hk => by cases hk))
theorem In.lit_ (W : World) (xs : List Nat) (fr : Nat × Nat) : In (W.alloc (.cells (bvs xs).toArray 5 fr)) (some ⟨W.heap.size, 0, none⟩) xs.length xs :=
  ⟨rfl, fun j x hx => ⟨_, rfl, by
    rw [show (⟨W.heap.size, 0, none⟩ : Addr).add j = ⟨W.heap.size, j, none⟩ from by unfold Addr.add; split <;> simp_all]
    rw [cell_of_row _ W.heap.size j _ 5 fr (World.alloc_heap_new W _), List.getElem?_toArray, bvs_get, hx]
    rfl⟩⟩
theorem own_ad {w : World} {base size n : Nat} {A : Option Addr} {c : Nat} {e : TypeId} {xs : List Value} (h : w.ownsRow base e size (.slice A n c) n xs) (hn : 0 < n) : ∃ g, A = some ⟨g, 0, none⟩ := by
  obtain ⟨g, cap, hv⟩ := Joins.ownsRow_form h hn
  injection hv with h1
  exact ⟨g, h1⟩

/-- What Put answers. -/
def PutPost (num : Nat) (xs : List Nat) (n : Nat) (w : World) (e : Ending) (w' : World) : Prop :=
  ∃ A c, e = .returned (.tuple #[.slice A (64 * secs n) c, .int .i64 0]) ∧ w'.ownsRow w.heap.size 5 1 (.slice A (64 * secs n) c) (64 * secs n) (bvs (frameL num xs)) ∧ Below w.heap.size w w'

set_option maxRecDepth 100000 in
theorem put_great (num n c : Nat) (A : Option Addr) (w : World) (h : 256 < n) :
    Calls Tryz.prog 5 #[.int .u64 (num : Int), .slice A n c] w fun e w' => e = .returned (.tuple #[.slice none 0 0, .int .i64 3]) ∧ w = w' := by
  have hi : (256 : Int) < (n : Int) := by omega
  go_enter Tryz.func5, Tryz.ntmps5
  go_wp2_with fail
  go_ret2
  exact ⟨rfl, rfl⟩

set_option maxRecDepth 100000 in
set_option maxHeartbeats 4000000 in
theorem put_frame (num n c : Nat) (A : Option Addr) (xs : List Nat) (w : World) (h : n ≤ 256) (hin : In w A n xs) (hx : ∀ x ∈ xs, x < 256) (hA : A = none → n = 0) (hnc : n ≤ c) :
    Calls Tryz.prog 5 #[.int .u64 (num : Int), .slice A n c] w (PutPost num xs n w) := by
  have hi : ¬ (256 : Int) < (n : Int) := by omega
  have C1 := Lib.hid (fun W => numbers_any num n (by omega) (by omega) W)
  have C2 := Lib.hid (fun (W : World) (hb : Below w.heap.size w W) => sumOf_any num A n c xs W (hin.below hb) hx hA hnc (by omega))
  have C3 := Lib.hid (fun (A1 : Option Addr) (c1 : Nat) (W : World) (hi : In W A1 14 (recMark ++ toldL num n)) => put_any A1 14 c1 (recMark ++ toldL num n) (sumL num xs) 4 4 (kk_nat 4 (by omega)) W hi (by omega))
  have C4 := Lib.hid (fun W => sectors_any n (by omega) W)
  have hmk := fun m (hm : m ≤ 1000) => make_bytes m m (Nat.le_refl _) (by omega)
  have HX := Lib.hid (And.intro hin (And.intro hx hA))
  clear hin hx hA
  have kc := fun (W : World) (C : Array Value) (n c g : Nat) (hg : g = W.heap.size) => Joins.run_convert_bytes_const_at (P := Tryz.prog) W 23 5 C n c g hg Tryz.underlying23 Tryz.underlying5
  go_enter Tryz.func5, Tryz.ntmps5
  go_wp2_with fail
  have i1 : In (w.alloc (.cells #[.int .u8 82, .int .u8 69, .int .u8 67, .int .u8 49] 5 (4, 5))) (some ⟨w.heap.size, 0, none⟩) 4 recMark := In.lit_ w recMark (4, 5)
  have hb1 := below_alloc w (.cells #[.int .u8 82, .int .u8 69, .int .u8 67, .int .u8 49] 5 (4, 5))
  obtain ⟨w1, hw1⟩ : ∃ w1, w.alloc (.cells #[.int .u8 82, .int .u8 69, .int .u8 67, .int .u8 49] 5 (4, 5)) = w1 := ⟨_, rfl⟩
  rw [hw1] at i1 hb1 ⊢
  clear hw1 kc
  have HB1 := Lib.hid hb1
  clear hb1
  obtain ⟨g0, hg0⟩ : ∃ g, w.heap.size = g := ⟨_, rfl⟩
  rw [hg0] at i1 ⊢
  have HG0 := Lib.hid hg0
  clear hg0
  have I1 := Lib.hid i1
  clear i1
  refine (C1.out _).mono ?_
  rintro e w2 ⟨A2, c2, rfl, ho2, hb2⟩
  obtain ⟨g2, rfl⟩ := own_ad ho2 (by omega)
  have H2 := Lib.hid (And.intro (I1.out.below hb2) (And.intro (In.of_own ho2) (below_on HB1.out (Nat.le_refl _) hb2)))
  clear ho2 hb2
  go_wp2_with (at_builtin; refine wpList_app_grows _ rfl (.tmp 12) (.tmp 16) rfl (some ⟨g0, 0, none⟩) 4 4 recMark rfl H2.out.1 (fun e => by cases e) ⟨g2, 0, none⟩ 10 c2 (toldL num n) rfl H2.out.2.1 (by omega) (by omega) ?_; intro A3 c3 w3 ho3 hb3)
  have H3 := Lib.hid (And.intro (show In w3 A3 14 (recMark ++ toldL num n) from In.of_own ho3) (below_on H2.out.2.2 (Nat.le_refl _) hb3))
  clear ho3 hb3
  refine (C2.out _ H3.out.2).mono ?_
  rintro e w4 ⟨rfl, hb4⟩
  have H4 := Lib.hid (And.intro (H3.out.1.below hb4) (below_on H3.out.2 (Nat.le_refl _) hb4))
  clear hb4
  go_wp2_with fail
  refine (C3.out A3 c3 w4 H4.out.1).mono ?_
  rintro e w5 ⟨A5, c5, rfl, ho5, hb5⟩
  have hhd : recMark ++ toldL num n ++ dg (sumL num xs) 4 = headL num xs := by unfold headL; rw [HX.out.1.len]
  rw [hhd] at ho5
  have H5 := Lib.hid (And.intro (show In w5 A5 18 (headL num xs) from In.of_own ho5) (below_on H4.out.2 (Nat.le_refl _) hb5))
  clear ho5 hb5 hhd
  obtain ⟨q, hq⟩ : ∃ q, secs n = q := ⟨_, rfl⟩
  have q1 := secs_ge n
  have q2 := secs_le n h
  rw [hq] at q1 q2 C4
  obtain ⟨L, hL⟩ : ∃ L, 64 * q = L := ⟨_, rfl⟩
  have hLi : 64 * (q : Int) = (L : Int) := by omega
  have hL1 : 18 + n ≤ L := by omega
  have hL2 : L ≤ 320 := by omega
  have hL3 : L % 64 = 0 := by omega
  have HQ := Lib.hid (And.intro hq hL)
  clear hq q1 q2 hL
  have hmk5 := hmk L (by omega) w5
  rw [made_noughts] at hmk5
  have hg6 : (w5.alloc (.cells (bvs (List.replicate L 0)).toArray 5)).heap[w5.heap.size]? = some (.cells (bvs (List.replicate L 0)).toArray 5 (0, 0)) := World.alloc_heap_new w5 _
  have hb6 := below_alloc w5 (.cells (bvs (List.replicate L 0)).toArray 5)
  obtain ⟨w6, hw6⟩ : ∃ w6, w5.alloc (.cells (bvs (List.replicate L 0)).toArray 5) = w6 := ⟨_, rfl⟩
  rw [hw6] at hmk5 hg6 hb6
  clear hw6 hmk
  have hB6 : Hid (Below w.heap.size w w6) := below_on H5.out.2 (Nat.le_refl _) hb6
  have i5 := Lib.hid (H5.out.1.below hb6)
  have hgw : Hid (w.heap.size ≤ w5.heap.size) := H5.out.2.size
  obtain ⟨g6, hgg⟩ : ∃ g, w5.heap.size = g := ⟨_, rfl⟩
  rw [hgg] at hmk5 hg6 hgw
  clear hgg hb6
  obtain ⟨B6, hcut, hB6'⟩ := cut_name (A := some ⟨g6, 0, none⟩) (n := L) (c := L) (k := 18) (by omega)
  rw [if_neg (by omega)] at hB6'
  have hB6'' : B6 = some ⟨g6, 18, none⟩ := by rw [hB6']; rfl
  subst hB6''
  clear hB6'
  obtain ⟨L2, hL4⟩ : ∃ L2, L - 18 = L2 := ⟨_, rfl⟩
  rw [hL4] at hcut
  have HL4 := Lib.hid hL4
  have hcut' : ∀ W : World, (Instr.slice 23 (.slice (some ⟨g6, 0, none⟩) L L) (some (.int .i64 18)) none none).run Tryz.prog W = .ok (.slice (some ⟨g6, 18, none⟩) L2 L2) W := hcut
  clear hcut
  clear hL4
  have hn1 : Hid ((bvs (headL num xs)).length = Nat.min 18 L) := by
    show _ = _
    rw [bvs_length, headL_length]
    exact (Nat.min_eq_left (by omega)).symm
  have hf1 : Hid (0 + (bvs (headL num xs)).length ≤ (bvs (List.replicate L 0)).length) := by
    show _ ≤ _
    rw [bvs_length, headL_length, bvs_length, List.length_replicate]
    omega
  have hc5 : 18 ≤ L := by omega
  have HG6 := Lib.hid hg6
  clear hg6
  go_wp2_with fail
  refine (C4.out _).mono ?_
  rintro e w5' ⟨rfl, rfl⟩
  go_upto_region 7 with (with_reducible refine wpList_copy_splice rfl (.tmp 28) (.tmp 29) 23 23 rfl 5 Tryz.underlying23 sizeByte (some ⟨g6, 0, none⟩) A5 L L 18 c5 rfl rfl g6 0 (bvs (List.replicate L 0)) 5 HG6.out (bvs (headL num xs)) hn1.out (fun h => ⟨rfl, i5.out.from_ h⟩) hf1.out (bvs_oneCell _) w.heap.size w hB6.out hgw.out ?_; intro w7 hw7 hb7)
  have hg7 := hw7.out
  rw [splice_bytes, headL_length] at hg7
  have e7 : List.take 0 (List.replicate L 0) ++ headL num xs ++ List.drop (0 + 18) (List.replicate L 0) = headL num xs ++ List.replicate L2 0 := by
    rw [List.take_zero, List.nil_append, List.drop_replicate, Nat.zero_add, HL4.out]
  rw [e7] at hg7
  have HB7 := Lib.hid hb7
  have i7 := Lib.hid (HX.out.1.below hb7)
  have HG7 := Lib.hid hg7
  have hn2 : Hid ((bvs xs).length = Nat.min n L2) := by
    show _ = _
    have := HL4.out
    rw [bvs_length, HX.out.1.len]
    exact (Nat.min_eq_left (by omega)).symm
  have hf2 : Hid (18 + (bvs xs).length ≤ (bvs (headL num xs ++ List.replicate L2 0)).length) := by
    show _ ≤ _
    have := HL4.out
    rw [bvs_length, HX.out.1.len, bvs_length, List.length_append, headL_length, List.length_replicate]
    omega
  clear hw7 hb7 hg7 e7
  go_wp2_with (with_reducible refine wpList_copy_splice rfl (.tmp 32) (.tmp 33) 23 23 rfl 5 Tryz.underlying23 sizeByte (some ⟨g6, 18, none⟩) A L2 L2 n c rfl rfl g6 18 (bvs (headL num xs ++ List.replicate L2 0)) 5 HG7.out (bvs xs) hn2.out (fun h => ⟨rfl, i7.out.from_ h⟩) hf2.out (bvs_oneCell _) w.heap.size w HB7.out hgw.out ?_; intro w8 hw8 hb8)
  go_ret2
  refine ⟨some ⟨g6, 0, none⟩, L, ?_, ?_, hb8⟩
  · rw [HQ.out.1, HQ.out.2]; rfl
  · have hg8 := hw8.out
    have e8 : List.take 18 (headL num xs ++ List.replicate L2 0) ++ xs ++ List.drop (18 + xs.length) (headL num xs ++ List.replicate L2 0) = frameL num xs := by
      have h1 := HL4.out
      have h2 := HX.out.1.len
      have h3 := HQ.out
      rw [take_append_len _ _ _ (headL_length _ _), ← List.drop_drop, drop_append_len _ _ _ (headL_length _ _), List.drop_replicate, frameL, noug, h2, h3.1, h3.2, h1]
    rw [splice_bytes, e8] at hg8
    rw [HQ.out.1, HQ.out.2]
    have hfl := frameL_length num xs
    rw [HX.out.1.len, HQ.out.1, HQ.out.2] at hfl
    refine ⟨by rw [bvs_length, hfl]; simp, .inr ⟨g6, L, (bvs (frameL num xs)).toArray, rfl, hgw.out, hg8, Nat.le_refl _, by unfold maxLen; omega, ?_, ?_⟩⟩
    · rw [List.size_toArray, bvs_length, hfl]; simp
    · rw [List.take_of_length_le (by rw [bvs_length, hfl]; omega)]

end Go.Proofs.YtfniddnfkciblaaGreatDoor

/-
  almonerref01.Put.
-/
namespace Go.Proofs.YtfniddnfkciblaaGreatDoor
open Go.RowKit

theorem nil_world {P : Program} {f : FuncId} {args : Array Value} {w : World} {v : Value} (h : Calls P f args w fun e w' => e = .returned v ∧ w' = w) : Calls P f args w fun e w' => e = .returned v ∧ w = w' := h.mono fun _ _ ⟨h1, h2⟩ => ⟨h1, h2.symm⟩
theorem dg_take (N k j : Nat) (h : j < k) : (dg N k).take (j + 1) = (dg N k).take j ++ [N / 256 ^ (k - 1 - j) % 256] := take_snoc_of (dg_get N k j h)

set_option maxRecDepth 100000 in
set_option maxHeartbeats 1000000 in
theorem refPut_any (A : Option Addr) (n c : Nat) (xs : List Nat) (N k : Nat) (hk0 : 0 < k) (hk : k ≤ 8) (w : World) (hin : In w A n xs) (hA : A = none → c = 0) (hN : N < 18446744073709551616) (hn : n ≤ 1000000000) :
    Calls Tryz.prog 17 #[.slice A n c, .int .u64 (N : Int), .int .i64 (k : Int)] w (Gives w.heap.size w (n + k) (xs ++ dg N k)) := by
  have hki : (0 : Int) < (k : Int) := by omega
  have HI := Lib.hid hin
  have CP := Lib.hid (fun (p P : Nat) (hp : p ≤ 7) (hP : 256 ^ p = P) (W : World) => power_any p P hp hP W)
  clear hin
  go_enter Tryz.func17, Tryz.ntmps17
  go_wp2_with (at_builtin; refine wpList_app _ rfl (.const (.slice none 0 0)) (.tmp 9) rfl w.heap.size none 0 0 [] rfl (World.ownsRow_nil _ _ _ _) A n c xs rfl HI.out hA (by omega) (Nat.le_refl _) ?_; intro A2 c2 w2 ho2 hb2)
  rw [Nat.zero_add, List.nil_append] at ho2
  have HO2 := Lib.hid (And.intro ho2 hb2)
  clear ho2 hb2
  go_loopw [7, 8] (fun o i wr => ∃ (j : Nat) (z : Int) (A3 : Option Addr) (c3 : Nat), j ≤ k ∧ i = .int .i64 z ∧ z = (k : Int) - 1 - (j : Int) ∧ o = .slice A3 (n + j) c3 ∧ wr.ownsRow w.heap.size 5 1 (.slice A3 (n + j) c3) (n + j) (bvs (xs ++ (dg N k).take j)) ∧ Below w.heap.size w wr) (fun _ i _ => (intOf i + 1).toNat)
  case atStart => exact ⟨0, _, A2, c2, by omega, rfl, by omega, rfl, by rw [List.take_zero, List.append_nil]; exact HO2.out.1, HO2.out.2⟩
  case round =>
    obtain ⟨j, z, A3, c3, hj, rfl, hz, rfl, ho, hb⟩ := hrel
    by_cases hlt : j < k
    · obtain ⟨p, hp⟩ : ∃ p, k - 1 - j = p := ⟨_, rfl⟩
      obtain rfl : z = (p : Int) := by omega
      obtain ⟨P, hP⟩ : ∃ P, 256 ^ p = P := ⟨_, rfl⟩
      have hP0 : 0 < P := by rw [← hP]; exact Nat.pow_pos (by omega)
      obtain ⟨e, he⟩ : ∃ e, N / P = e := ⟨_, rfl⟩
      obtain ⟨d, hd⟩ : ∃ d, e % 256 = d := ⟨_, rfl⟩
      have ht : (dg N k).take (j + 1) = (dg N k).take j ++ [d] := by rw [dg_take N k j hlt, hp, hP, he, hd]
      have q1 : Int.tdiv (N : Int) (P : Int) = (e : Int) := by rw [Int.tdiv_eq_ediv_of_nonneg (by omega), ← he]; simp
      have q2 : Int.tmod (e : Int) 256 = (d : Int) := by rw [Int.tmod_eq_emod_of_nonneg (by omega), ← hd]; simp
      have hd256 : d < 256 := by omega
      have he64 : e < 18446744073709551616 := by rw [← he]; exact Nat.lt_of_le_of_lt (Nat.div_le_self _ _) hN
      have hPne : ((P : Int) == 0) = false := by simp; omega
      have hw64 : IntKind.i64.wrap ((p : Int) - 1) = (p : Int) - 1 := IntWalk.i64_in _ (by omega)
      have CP1 := Lib.hid (CP.out p P (by omega) hP)
      have HO := Lib.hid (And.intro ho hb)
      have HT := Lib.hid ht
      have HZ := Lib.hid hz
      have HP := Lib.hid hp
      clear ho hb ht hP he hd hz hp
      go_wp2_with fail
      refine (nil_world (CP1.out _)).mono ?_
      rintro e2 _ ⟨rfl, rfl⟩
      go_wp2_with (at_builtin; refine wpList_app _ rfl (.tmp 19) (.tmp 26) rfl w.heap.size A3 (n + j) c3 _ rfl (HO.out.1.alloc _) (some ⟨wr.heap.size, 0, none⟩) 1 1 [d] rfl (In.new wr [d]) (fun h => by cases h) (by omega) (by have := HO.out.2.size; simp; omega) ?_; intro A4 c4 w4 ho4 hb4)
      have H4 := Lib.hid (And.intro ho4 ((HO.out.2.alloc HO.out.2.size _).trans hb4))
      clear ho4 hb4
      go_roundw
      case rel => exact ⟨j + 1, _, A4, c4, by omega, rfl, by have := HZ.out; omega, rfl, by rw [HT.out, ← List.append_assoc]; exact H4.out.1, H4.out.2⟩
      case measure => simp [intOf]
    · obtain rfl : j = k := by omega
      have hz1 : z = -1 := by omega
      subst hz1
      rw [take_all] at ho
      have HO := Lib.hid (And.intro ho hb)
      clear ho hb
      go_wp2
      go_ret
      exact ⟨A3, c3, rfl, HO.out.1, HO.out.2⟩

end Go.Proofs.YtfniddnfkciblaaGreatDoor

/-
  almonerref04.On, almonerref04.Of: the document's sum.
-/
namespace Go.Proofs.YtfniddnfkciblaaGreatDoor
open Go.RowKit

set_option maxRecDepth 100000 in
set_option maxHeartbeats 1000000 in
theorem refOn_any (s : Nat) (hs : s < 4294967296) (A : Option Addr) (n c : Nat) (xs : List Nat) (w : World) (hin : In w A n xs) (hx : ∀ x ∈ xs, x < 256) (hn : n ≤ 140737488355328) :
    Calls Tryz.prog 56 #[.int .u32 (s : Int), .slice A n c] w fun e W' => e = .returned (.int .u32 ((onL s xs : Nat) : Int)) ∧ w = W' := by
  obtain ⟨l0, hl0⟩ : ∃ l0, s % 65536 % 65521 = l0 := ⟨_, rfl⟩
  obtain ⟨m0, hm0⟩ : ∃ m0, s / 65536 % 65521 = m0 := ⟨_, rfl⟩
  have e1 : (s : Int) % 65536 % 65521 = (l0 : Int) := by omega
  have e2 : (s : Int) / 65536 % 65521 = (m0 : Int) := by omega
  have hsp : split s = (l0, m0) := by unfold split; rw [hl0, hm0]
  have HS := Lib.hid hsp
  clear hsp hl0 hm0
  go_enter Tryz.func56, Tryz.ntmps56
  go_wp2
  go_loopw [5, 6, 7] (fun l m i wr => ∃ (j : Nat), j ≤ n ∧ i = .int .i64 (j : Int) ∧ l = .int .u32 (((ad (split s) (xs.take j)).1 : Nat) : Int) ∧ m = .int .u32 (((ad (split s) (xs.take j)).2 : Nat) : Int) ∧ w = wr) (fun _ _ i _ => n - (intOf i).toNat)
  case atStart => exact ⟨0, by omega, rfl, by rw [List.take_zero, ad_nil, HS.out, ← e1], by rw [List.take_zero, ad_nil, HS.out, ← e2], rfl⟩
  case round =>
    obtain ⟨j, hj, rfl, rfl, rfl, rfl⟩ := hrel
    have hlt0 := ad_lt (split s).1 (split s).2 (split_lt s).1 (split_lt s).2 (xs.take j)
    by_cases hlt : j < n
    · obtain ⟨ad', x, rfl, hxj, hcell⟩ := hin.at_ hlt
      have hx256 : x < 256 := hx x (List.mem_of_getElem? hxj)
      have tk : ad (split s) (xs.take (j + 1)) = (((ad (split s) (xs.take j)).1 + x) % 65521, ((ad (split s) (xs.take j)).2 + ((ad (split s) (xs.take j)).1 + x) % 65521) % 65521) := by rw [take_snoc_of hxj, ad_snoc]
      obtain ⟨l, hl⟩ : ∃ l, (ad (split s) (xs.take j)).1 = l := ⟨_, rfl⟩
      obtain ⟨m, hm⟩ : ∃ m, (ad (split s) (xs.take j)).2 = m := ⟨_, rfl⟩
      change (ad (split s) (xs.take j)).1 < 65521 ∧ (ad (split s) (xs.take j)).2 < 65521 at hlt0
      rw [hl, hm] at tk hlt0
      rw [hl, hm]
      have HT := Lib.hid tk
      clear tk hl hm hxj e1 e2
      go_wp2
      refine ⟨⟨j + 1, by omega, by go_num, ?_, ?_, trivial⟩, by simp [intOf]; omega⟩
      · rw [HT.out]
        congr 1
      · rw [HT.out]
        congr 1
    · obtain rfl : j = n := by omega
      have hres : onL s xs = two (ad (split s) (xs.take j)) := by rw [List.take_of_length_le (by rw [hin.len]; omega)]; rfl
      unfold two at hres
      change (ad (split s) (xs.take j)).1 < 65521 ∧ (ad (split s) (xs.take j)).2 < 65521 at hlt0
      obtain ⟨l, hl⟩ : ∃ l, (ad (split s) (xs.take j)).1 = l := ⟨_, rfl⟩
      obtain ⟨m, hm⟩ : ∃ m, (ad (split s) (xs.take j)).2 = m := ⟨_, rfl⟩
      rw [hl, hm] at hres hlt0
      rw [hl, hm]
      have HR := Lib.hid hres
      clear hl hm hres
      go_wp2
      go_ret
      rw [HR.out]
      simp

set_option maxRecDepth 100000 in
set_option maxHeartbeats 1000000 in
theorem refOf_any (A : Option Addr) (n c : Nat) (xs : List Nat) (w : World) (hin : In w A n xs) (hx : ∀ x ∈ xs, x < 256) (hn : n ≤ 140737488355328) :
    Calls Tryz.prog 18 #[.slice A n c] w fun e W' => e = .returned (.int .u32 ((ofL xs : Nat) : Int)) ∧ w = W' := by
  have hOn := refOn_any 1 (by decide) A n c xs w hin hx hn
  go_enter Tryz.func18, Tryz.ntmps18
  go_wp2_with fail
  refine hOn.mono ?_
  rintro e w1 ⟨rfl, rfl⟩
  go_wp2_with fail
  go_ret
  exact ⟨rfl, rfl⟩

end Go.Proofs.YtfniddnfkciblaaGreatDoor

/-
  append to one of several rows of the call's own: the others stay as they are.
-/
namespace Go.Proofs.YtfniddnfkciblaaGreatDoor
open Go.RowKit

theorem own_on {w w' : World} {base : Nat} {e : TypeId} {size : Nat} {v : Value} {n : Nat} {xs : List Value} (h : w.ownsRow base e size v n xs) (hb : Below w.heap.size w w') : w'.ownsRow base e size v n xs := by
  refine ⟨h.1, ?_⟩
  rcases h.2 with ⟨e1, h0⟩ | ⟨g, cap, cur, e1, h1, hg, h2⟩
  · exact .inl ⟨e1, h0⟩
  · exact .inr ⟨g, cap, cur, e1, h1, (hb.block g (Array.getElem?_eq_some_iff.1 hg).1).trans hg, h2⟩

/-- Two slices that have no block in common. -/
def Apart (u v : Value) : Prop := ∀ k, u.ownBlock = some k → v.ownBlock ≠ some k
theorem Apart.symm {u v : Value} (h : Apart u v) : Apart v u := fun k hv hu => h k hu hv
theorem apart_nil (u : Value) : Apart u (.slice none 0 0) := fun _ _ h => by cases h

/-- v became v' by an append, w became w'. -/
structure Next (w w' : World) (v v' : Value) : Prop where
  grown : w.grownBy w' v.ownBlock
  at_ : v'.ownBlock = v.ownBlock ∨ v'.ownBlock = some w.heap.size
section
variable {w w' : World} {v v' u : Value} {base : Nat} {e : TypeId} {size n : Nat} {ys : List Value}
theorem Next.keep (h : Next w w' v v') (hu : w.ownsRow base e size u n ys) (ha : Apart v u) : w'.ownsRow base e size u n ys := by
  refine hu.kept h.grown ?_
  cases hk : u.ownBlock with
  | none => exact .inl rfl
  | some k => exact .inr fun e => ha k e.symm hk
theorem Next.apart (h : Next w w' v v') (hu : w.ownsRow base e size u n ys) (ha : Apart v u) : Apart v' u := by
  intro k hk hk2
  rcases h.at_ with e | e
  · exact ha k (e ▸ hk) hk2
  · rw [e] at hk
    cases hk
    have := (hu.lt _ hk2).2
    omega
theorem Next.cell (h : Next w w' v v') {a : Addr} {x : Value} (hc : w.cell? a = some x) (hne : some a.block ≠ v.ownBlock) : w'.cell? a = some x := h.grown.cell hc hne
theorem Next.below {w0 : World} {B : Nat} (h : Next w w' v v') (hv : w.ownsRow base e size v n ys) (hb : Below B w0 w) (hB : B ≤ base) (hs : B ≤ w.heap.size) : Below B w0 w' :=
  hb.grown h.grown hs fun k hk => Nat.le_trans hB (hv.lt k hk).1
end

theorem run_app_at (w : World) (ty : TypeId) (base : Nat) (A : Option Addr) (n c : Nat) (xs : List Nat) (hown : w.ownsRow base 5 1 (.slice A n c) n (bvs xs))
    (A2 : Option Addr) (m c2 : Nat) (ys : List Nat) (hin : In w A2 m ys) (hnil : A2 = none → c2 = 0) (hle : n + m ≤ 140737488355328) (hbase : base ≤ w.heap.size) :
    ∃ A' c' w', (Builtin.append_ #[23, 23] ty #[.slice A n c, .slice A2 m c2]).run Tryz.prog w = .ok (.slice A' (n + m) c') w' ∧
      w'.ownsRow base 5 1 (.slice A' (n + m) c') (n + m) (bvs (xs ++ ys)) ∧ Next w w' (.slice A n c) (.slice A' (n + m) c') := by
  obtain ⟨i0, hi, hz0, hz1, hz2⟩ := info_parts infoByte
  cases A2 with
  | none =>
    obtain rfl := hnil rfl
    have hy : ys = [] := by
      cases ys with
      | nil => rfl
      | cons y ys =>
        obtain ⟨ad, e, _⟩ := hin.rd 0 y rfl
        cases e
    subst hy
    obtain rfl : m = 0 := hin.len.symm
    exact ⟨A, c, w, run_append_owned_none (P := Tryz.prog) (w := w) base 23 ty 5 i0 1 Tryz.underlying23 hi _ n (bvs xs) hown, by simpa using hown, ⟨rfl, rfl, rfl, Nat.le_refl _, fun _ _ _ => rfl⟩, .inl rfl⟩
  | some ad =>
    obtain ⟨v', w', hr, h2, h3, _, h5⟩ := run_append_own_at (P := Tryz.prog) (w := w) base 23 ty 5 i0 _ 1 1 Tryz.underlying23 hi hz0 hz1 hz2 rfl (by decide) _ n (bvs xs) hown ad m c2 (bvs ys) (by rw [bvs_length, hin.len]; simp)
      (fun j u hu => by
        rw [bvs_get] at hu
        obtain ⟨y, hy, rfl⟩ := Option.map_eq_some_iff.1 hu
        obtain ⟨ad', e, hc⟩ := hin.rd j y hy
        cases e
        exact hc) (bvs_oneCell ys) (by unfold maxLen; omega) (by omega) hbase
    rw [← bvs_append] at h2
    obtain ⟨A', c', rfl⟩ := own_form h2
    exact ⟨A', c', w', hr, h2, h3, h5⟩

theorem wpList_app_at {ops : Array Oper} {rest : List Oper} {o : Oper} {a : Act} {Q : Exit → Act → World → Prop} (w : World) (hgd : o.guard = none) (s x : Operand)
    (ho : o.op = .call { callee := .builtin .append, args := #[s, x], argTypes := #[23, 23] })
    (base : Nat) (A : Option Addr) (n c : Nat) (xs : List Nat) (hs : a.eval s = .slice A n c) (hown : w.ownsRow base 5 1 (.slice A n c) n (bvs xs))
    (A2 : Option Addr) (m c2 : Nat) (ys : List Nat) (hx : a.eval x = .slice A2 m c2) (hin : In w A2 m ys) (hnil : A2 = none → c2 = 0) (hle : n + m ≤ 140737488355328) (hbase : base ≤ w.heap.size)
    (h : ∀ A' c' w', w'.ownsRow base 5 1 (.slice A' (n + m) c') (n + m) (bvs (xs ++ ys)) → Next w w' (.slice A n c) (.slice A' (n + m) c') → wpList Tryz.prog ops Q rest (a.put o.dst (.slice A' (n + m) c')) w') :
    wpList Tryz.prog ops Q (o :: rest) a w := by
  refine wpList_plain hgd fun K hK => ?_
  obtain ⟨A', c', w', hr, h2, h3⟩ := run_app_at w o.type base A n c xs hown A2 m c2 ys hin hnil hle hbase
  unfold Oper.wp execOp
  simp only [ho, resolve, invoke, builtin, Sem.run_bind, Sem.run_pure, Result.andThen_ok, List.map_toArray, List.map_cons, List.map_nil, hs, hx, hr]
  exact hK _ _ (h A' c' w' h2 h3)

/-- The same in a region that draws, behind '&&' or not. -/
theorem step_app_at {ops : Array Oper} {o : Oper} {a : Act} {w : World} {K : Act → World → Prop} {Q : Exit → Act → World → Prop} {E : Prop} (hw : Region.wanted o (yielded ops a.tmps) = true) (s x : Operand)
    (ho : o.op = .call { callee := .builtin .append, args := #[s, x], argTypes := #[23, 23] })
    (base : Nat) (A : Option Addr) (n c : Nat) (xs : List Nat) (hs : a.eval s = .slice A n c) (hown : w.ownsRow base 5 1 (.slice A n c) n (bvs xs))
    (A2 : Option Addr) (m c2 : Nat) (ys : List Nat) (hx : a.eval x = .slice A2 m c2) (hin : In w A2 m ys) (hnil : A2 = none → c2 = 0) (hle : n + m ≤ 140737488355328) (hbase : base ≤ w.heap.size)
    (h : ∀ A' c' w', w'.ownsRow base 5 1 (.slice A' (n + m) c') (n + m) (bvs (xs ++ ys)) → Next w w' (.slice A n c) (.slice A' (n + m) c') → K (a.put o.dst (.slice A' (n + m) c')) w') :
    if Region.wanted o (yielded ops a.tmps) = true then Oper.wp Tryz.prog o a w K Q else E := by
  rw [if_pos hw]
  obtain ⟨A', c', w', hr, h2, h3⟩ := run_app_at w o.type base A n c xs hown A2 m c2 ys hin hnil hle hbase
  unfold Oper.wp execOp
  simp only [ho, resolve, invoke, builtin, Sem.run_bind, Sem.run_pure, Result.andThen_ok, List.map_toArray, List.map_cons, List.map_nil, hs, hx, hr]
  exact h A' c' w' h2 h3

end Go.Proofs.YtfniddnfkciblaaGreatDoor

/-
  almonerref06.Put: the document's frame.
-/
namespace Go.Proofs.YtfniddnfkciblaaGreatDoor
open Go.RowKit

/-- What Put answers, of any record. -/
def putRes (num : Nat) (xs : List Nat) : List Nat := if 256 < xs.length then [] else frameL num xs
def putErr (xs : List Nat) : Nat := if 256 < xs.length then 3 else 0
def PutUni (num : Nat) (xs : List Nat) (w : World) (e : Ending) (w' : World) : Prop :=
  ∃ A L c, e = .returned (.tuple #[.slice A L c, .int .i64 (putErr xs : Int)]) ∧ w'.ownsRow w.heap.size 5 1 (.slice A L c) L (bvs (putRes num xs)) ∧ Below w.heap.size w w'

/-- 'append(s, l...)', the length under a name. -/
theorem wpList_app_k {ops : Array Oper} {rest : List Oper} {o : Oper} {a : Act} {Q : Exit → Act → World → Prop} (w : World) (hgd : o.guard = none) (s x : Operand)
    (ho : o.op = .call { callee := .builtin .append, args := #[s, x], argTypes := #[23, 23] })
    (base : Nat) (A : Option Addr) (n c : Nat) (xs : List Nat) (hs : a.eval s = .slice A n c) (hown : w.ownsRow base 5 1 (.slice A n c) n (bvs xs))
    (A2 : Option Addr) (m c2 : Nat) (ys : List Nat) (hx : a.eval x = .slice A2 m c2) (hin : In w A2 m ys) (hnil : A2 = none → c2 = 0) (k : Nat) (hk : n + m = k) (hle : n + m ≤ 140737488355328) (hbase : base ≤ w.heap.size)
    (h : ∀ A' c' w', w'.ownsRow base 5 1 (.slice A' k c') k (bvs (xs ++ ys)) → Next w w' (.slice A n c) (.slice A' k c') → wpList Tryz.prog ops Q rest (a.put o.dst (.slice A' k c')) w') :
    wpList Tryz.prog ops Q (o :: rest) a w := by
  subst hk
  exact wpList_app_at w hgd s x ho base A n c xs hs hown A2 m c2 ys hx hin hnil hle hbase h

def lenOf : Value → Nat
  | .slice _ n _ => n
  | _ => 0

/-- frames.Put of any record. -/
theorem put_uni (num n c : Nat) (A : Option Addr) (xs : List Nat) (w : World) (hin : In w A n xs) (hx : ∀ x ∈ xs, x < 256) (hA : A = none → n = 0) (hnc : n ≤ c) :
    Calls Tryz.prog 5 #[.int .u64 (num : Int), .slice A n c] w (PutUni num xs w) := by
  by_cases h : 256 < n
  · refine (put_great num n c A w h).mono ?_
    rintro e w' ⟨rfl, rfl⟩
    have h' : 256 < xs.length := by rw [hin.len]; exact h
    exact ⟨none, 0, 0, by unfold putErr; rw [if_pos h']; rfl, by unfold putRes; rw [if_pos h']; exact World.ownsRow_nil _ _ _ _, Below.refl _ _⟩
  · refine (put_frame num n c A xs w (by omega) hin hx hA hnc).mono ?_
    rintro e w' ⟨A', c', rfl, ho, hb⟩
    have h' : ¬ 256 < xs.length := by rw [hin.len]; exact h
    exact ⟨A', _, c', by unfold putErr; rw [if_neg h']; rfl, by unfold putRes; rw [if_neg h']; exact ho, hb⟩

set_option maxRecDepth 100000 in
theorem refPutF_great (num n c : Nat) (A : Option Addr) (w : World) (h : 256 < n) :
    Calls Tryz.prog 6 #[.int .u64 (num : Int), .slice A n c] w fun e w' => e = .returned (.tuple #[.slice none 0 0, .int .i64 3]) ∧ w = w' := by
  have hi : (256 : Int) < (n : Int) := by omega
  go_enter Tryz.func6, Tryz.ntmps6
  go_wp2_with fail
  go_ret2
  exact ⟨rfl, rfl⟩

set_option maxRecDepth 100000 in
set_option maxHeartbeats 4000000 in
theorem refPutF_frame (num n c : Nat) (hnum : num < 18446744073709551616) (A : Option Addr) (xs : List Nat) (w : World) (h : n ≤ 256) (hin : In w A n xs) (hx : ∀ x ∈ xs, x < 256) (hA : A = none → c = 0) :
    Calls Tryz.prog 6 #[.int .u64 (num : Int), .slice A n c] w (PutPost num xs n w) := by
  have hi : ¬ (256 : Int) < (n : Int) := by omega
  have hs1 := secs_ge n
  have hs3 := secs_lt n
  obtain ⟨L, hL⟩ : ∃ L, 64 * secs n = L := ⟨_, rfl⟩
  have hL64 : L % 64 = 0 := by omega
  rw [hL] at hs1 hs3
  have HL := Lib.hid hL
  have hL2 : L ≤ 320 := by have := secs_le n h; omega
  clear hL
  have HX := Lib.hid (And.intro hin (And.intro hx hA))
  have C2 := Lib.hid (fun W => refPut_any none 0 0 [] num 8 (by omega) (by omega) W (In.none_ _ _) (fun _ => rfl) hnum (by omega))
  have C3 := Lib.hid (fun (A2 : Option Addr) (c2 : Nat) (W : World) (h : In W A2 8 (dg num 8)) (hnil : A2 = none → c2 = 0) => refPut_any A2 8 c2 (dg num 8) n 2 (by omega) (by omega) W h hnil (by omega) (by omega))
  have C4 := Lib.hid (fun (A2 : Option Addr) (c2 : Nat) (W : World) (h : In W A2 14 (recMark ++ toldL num n)) (hnil : A2 = none → c2 = 0) => refPut_any A2 14 c2 (recMark ++ toldL num n) (sumL num xs) 4 (by omega) (by omega) W h hnil (by have := sumL_lt num xs; omega) (by omega))
  have kc := fun (W : World) (C : Array Value) (n c g : Nat) (hg : g = W.heap.size) => Joins.run_convert_bytes_const_at (P := Tryz.prog) W 23 5 C n c g hg Tryz.underlying23 Tryz.underlying5
  have hwn : IntKind.u64.wrap (n : Int) = (n : Int) := by rw [IntKind.wrap_u64]; omega
  have hwrap : IntKind.u64.wrap ((sumL num xs : Nat) : Int) = ((sumL num xs : Nat) : Int) := by have := sumL_lt num xs; rw [IntKind.wrap_u64]; omega
  clear hin hx hA
  go_enter Tryz.func6, Tryz.ntmps6
  go_wp2_with fail
  refine (C2.out _).mono ?_
  rintro e w3 ⟨A3, c3, rfl, ho3, hb3⟩
  have H3 := Lib.hid (And.intro (show In w3 A3 8 (dg num 8) from In.of_own ho3) (And.intro (own_nil ho3) hb3))
  clear ho3 hb3
  go_wp2_with fail
  refine (C3.out _ _ _ H3.out.1 H3.out.2.1).mono ?_
  rintro e w4 ⟨A4, c4, rfl, ho4, hb4⟩
  obtain ⟨g4, rfl⟩ := own_ad ho4 (by omega)
  have hg4 : g4 < w4.heap.size := (ho4.lt g4 rfl).2
  have O4 := Lib.hid (show w4.ownsRow w3.heap.size 5 1 (.slice (some ⟨g4, 0, none⟩) 10 c4) 10 (bvs (toldL num n)) from ho4)
  have B4 := Lib.hid (H3.out.2.2.trans (hb4.mono H3.out.2.2.size))
  have hb34 := Lib.hid hb4
  clear ho4 hb4
  have i5 : In (w4.alloc (.cells #[.int .u8 82, .int .u8 69, .int .u8 67, .int .u8 49] 5 (4, 5))) (some ⟨w4.heap.size, 0, none⟩) 4 recMark := In.lit_ w4 recMark (4, 5)
  have hb5 := below_alloc w4 (.cells #[.int .u8 82, .int .u8 69, .int .u8 67, .int .u8 49] 5 (4, 5))
  have kc4 := kc w4 #[.int .u8 82, .int .u8 69, .int .u8 67, .int .u8 49] 4 4 w4.heap.size rfl
  have hs5 := World.size_alloc w4 (.cells #[.int .u8 82, .int .u8 69, .int .u8 67, .int .u8 49] 5 (4, 5))
  obtain ⟨w5, hw5⟩ : ∃ w5, w4.alloc (.cells #[.int .u8 82, .int .u8 69, .int .u8 67, .int .u8 49] 5 (4, 5)) = w5 := ⟨_, rfl⟩
  have kc5 : (convert 23 23 (.slice (some ⟨w4.heap.size, 0, none⟩) 4 4)).run Tryz.prog (w4.alloc (.cells #[.int .u8 82, .int .u8 69, .int .u8 67, .int .u8 49] 5)) = .ok (.slice (some ⟨w4.heap.size, 0, none⟩) 4 4) w5 := by
    rw [← hw5]; exact kc4
  rw [hw5] at i5 hb5 hs5
  have B5 : Hid (Below w.heap.size w w5) := below_on B4.out (Nat.le_refl _) hb5
  have I5 := Lib.hid (And.intro i5 (And.intro ((In.of_own O4.out).below hb5) (own_on O4.out hb5)))
  have S5 := Lib.hid hs5
  clear i5 hb5 hw5 kc kc4 hs5
  obtain ⟨h1, hh1⟩ : ∃ h, 18 + n = h := ⟨_, rfl⟩
  obtain ⟨h2, hh2⟩ : ∃ h2, 10 + n = h2 := ⟨_, rfl⟩
  go_upto_region 5 with (at_builtin; refine wpList_app_grows w5 rfl (.tmp 18) (.tmp 19) rfl (some ⟨w4.heap.size, 0, none⟩) 4 4 recMark rfl I5.out.1 (fun e => by cases e) ⟨g4, 0, none⟩ 10 c4 (toldL num n) rfl I5.out.2.1 (by omega) (by omega) ?_; intro A6 c6 w6 ho6 hb6)
  obtain ⟨g6, rfl⟩ := own_ad ho6 (by omega)
  have hg6 : w5.heap.size ≤ g6 := (ho6.lt g6 rfl).1
  have O6 := Lib.hid (show w6.ownsRow w5.heap.size 5 1 (.slice (some ⟨g6, 0, none⟩) 14 c6) 14 (bvs (recMark ++ toldL num n)) from ho6)
  have B6 : Hid (Below w.heap.size w w6) := below_on B5.out (Nat.le_refl _) hb6
  have P6 := Lib.hid (own_on I5.out.2.2 hb6)
  have hap : Hid (Apart (.slice (some ⟨g4, 0, none⟩) 10 c4) (.slice (some ⟨g6, 0, none⟩) 14 c6)) := fun k h1 h2 => by
    have e1 : g4 = k := by injection h1
    have e2 : g6 = k := by injection h2
    have := S5.out
    omega
  have hsz : Hid (w3.heap.size ≤ w6.heap.size) := Nat.le_trans (Nat.le_trans hb34.out.size (by have := S5.out; omega)) hb6.size
  have J6 := Lib.hid (HX.out.1.below B6.out)
  clear ho6 hb6 hg6
  have hsum : ofL (toldL num n ++ xs) = sumL num xs := by unfold sumL; rw [HX.out.1.len]
  have HSUM := Lib.hid hsum
  have hhead : recMark ++ toldL num n ++ dg (sumL num xs) 4 = headL num xs := by unfold headL; rw [HX.out.1.len]
  have HHEAD := Lib.hid hhead
  clear hsum hhead kc5 hg4
  obtain ⟨su, hsu⟩ : ∃ su, sumL num xs = su := ⟨_, rfl⟩
  rw [hsu] at C4 hwrap HSUM HHEAD
  clear hsu
  go_wp2_with (at_builtin; refine wpList_app_k w6 rfl (.tmp 22) (.tmp 23) rfl w3.heap.size (some ⟨g4, 0, none⟩) 10 c4 (toldL num n) rfl P6.out A n c xs rfl J6.out HX.out.2.2 h2 hh2 (by omega) hsz.out ?_; intro A7 c7 w7 ho7 hn7)
  have B7 : Hid (Below w.heap.size w w7) := hn7.below P6.out B6.out H3.out.2.2.size B6.out.size
  have O7 := Lib.hid (hn7.keep O6.out hap.out)
  have C7 := Lib.hid (refOf_any A7 h2 c7 (toldL num n ++ xs) w7 (In.of_own ho7) (bytes_append (toldL_lt _ _) HX.out.2.1) (by omega))
  rw [HSUM.out] at C7
  clear ho7 hn7
  refine C7.out.mono ?_
  rintro e w8 ⟨rfl, rfl⟩
  go_wp2_with fail
  refine (C4.out _ _ _ (In.of_own O7.out) (fun e => by cases e)).mono ?_
  rintro e w9 ⟨A9, c9, rfl, ho9, hb9⟩
  rw [HHEAD.out] at ho9
  have O9 := Lib.hid (show w9.ownsRow w7.heap.size 5 1 (.slice A9 18 c9) 18 (bvs (headL num xs)) from ho9)
  have B9 : Hid (Below w.heap.size w w9) := below_on B7.out (Nat.le_refl _) hb9
  have J9 := Lib.hid (HX.out.1.below B9.out)
  have S9 : Hid (w7.heap.size ≤ w9.heap.size) := hb9.size
  clear ho9 hb9
  go_wp2_with (at_builtin; refine wpList_app_k w9 rfl (.tmp 28) (.tmp 29) rfl w7.heap.size A9 18 c9 (headL num xs) rfl O9.out A n c xs rfl J9.out HX.out.2.2 h1 hh1 (by omega) S9.out ?_; intro A10 c10 w10 ho10 hn10)
  have B10 : Hid (Below w.heap.size w w10) := hn10.below O9.out B9.out B7.out.size B9.out.size
  have O10 : Hid (w10.ownsRow w.heap.size 5 1 (.slice A10 h1 c10) h1 (bvs (headL num xs ++ xs))) := own_low ho10 B7.out.size
  clear ho10 hn10
  go_loopw [7] (fun o wr => ∃ (t : Nat) (A' : Option Addr) (c' : Nat), h1 ≤ t ∧ t ≤ L ∧ o = .slice A' t c' ∧ wr.ownsRow w.heap.size 5 1 (.slice A' t c') t (bvs (headL num xs ++ xs ++ List.replicate (t - h1) 0)) ∧ Below w.heap.size w wr) (fun o _ => L - lenOf o)
  case atStart => exact ⟨h1, A10, c10, Nat.le_refl _, by omega, rfl, by rw [Nat.sub_self, List.replicate_zero, List.append_nil]; exact O10.out, B10.out⟩
  case round =>
    obtain ⟨t, A', c', ht1, ht2, rfl, ho, hb⟩ := hrel
    obtain ⟨r, hr⟩ : ∃ r, t % 64 = r := ⟨_, rfl⟩
    have hrt : Int.tmod (t : Int) 64 = (r : Int) := by rw [Int.tmod_eq_emod_of_nonneg (by omega), ← hr]; simp
    have HO := Lib.hid (And.intro ho hb)
    clear ho hb
    by_cases hlt : t < L
    · have hrn : ((r : Int) != 0) = true := by simp; omega
      have hnx : Hid (headL num xs ++ xs ++ List.replicate (t + 1 - h1) 0 = headL num xs ++ xs ++ List.replicate (t - h1) 0 ++ [0]) := by
        show _ = _
        rw [show t + 1 - h1 = (t - h1) + 1 by omega, List.replicate_succ', ← List.append_assoc]
      clear hr
      go_wp2_with (at_builtin; refine wpList_app_k _ rfl (.tmp 35) (.tmp 36) rfl w.heap.size A' t c' _ rfl (HO.out.1.alloc _) (some ⟨wr.heap.size, 0, none⟩) 1 1 [0] rfl (In.new wr [0]) (fun h => by cases h) (t + 1) rfl (by omega) (by have := HO.out.2.size; simp; omega) ?_; intro A4 c4 w4 ho4 hn4)
      have H4 := Lib.hid (And.intro ho4 (hn4.below (HO.out.1.alloc _) (HO.out.2.alloc HO.out.2.size _) (Nat.le_refl _) (by have := HO.out.2.size; simp; omega)))
      clear ho4 hn4
      go_roundw
      case rel => exact ⟨t + 1, A4, c4, by omega, by omega, rfl, by rw [hnx.out]; exact H4.out.1, H4.out.2⟩
      case measure => simp [lenOf]; omega
    · obtain rfl : t = L := by omega
      have hr0 : r = 0 := by omega
      subst hr0
      clear hr
      go_wp2_with fail
      go_ret2
      refine ⟨A', c', by rw [HL.out]; rfl, ?_, HO.out.2⟩
      have hf : frameL num xs = headL num xs ++ xs ++ List.replicate (t - h1) 0 := by
        unfold frameL noug
        rw [HX.out.1.len, HL.out, show t - 18 - n = t - h1 by omega]
      rw [HL.out, hf]
      exact HO.out.1

theorem refPut_uni (num n c : Nat) (hnum : num < 18446744073709551616) (A : Option Addr) (xs : List Nat) (w : World) (hin : In w A n xs) (hx : ∀ x ∈ xs, x < 256) (hA : A = none → c = 0) :
    Calls Tryz.prog 6 #[.int .u64 (num : Int), .slice A n c] w (PutUni num xs w) := by
  by_cases h : 256 < n
  · refine (refPutF_great num n c A w h).mono ?_
    rintro e w' ⟨rfl, rfl⟩
    have h' : 256 < xs.length := by rw [hin.len]; exact h
    exact ⟨none, 0, 0, by unfold putErr; rw [if_pos h']; rfl, by unfold putRes; rw [if_pos h']; exact World.ownsRow_nil _ _ _ _, Below.refl _ _⟩
  · refine (refPutF_frame num n c hnum A xs w (by omega) hin hx hA).mono ?_
    rintro e w' ⟨A', c', rfl, ho, hb⟩
    have h' : ¬ 256 < xs.length := by rw [hin.len]; exact h
    exact ⟨A', _, c', by unfold putErr; rw [if_neg h']; rfl, by unfold putRes; rw [if_neg h']; exact ho, hb⟩

end Go.Proofs.YtfniddnfkciblaaGreatDoor

/-
  errors.Is of two sentinels, or of none and one.
-/
namespace Go.Proofs.YtfniddnfkciblaaGreatDoor
open Go.RowKit Go.Extern.Stop Go.Stop Go.Extern

theorem isTypeOf (v : Value) (w : World) : (Extern.ReflectliteType.typeOf #[.iface 174 v]).run Tryz.prog w = .ok (.iface 151 (.agg #[.pointer (some ⟨6, 174, none⟩)])) w := by kernel_rfl
theorem isComparable (w : World) : (callFunc 133 #[.agg #[.pointer (some ⟨6, 174, none⟩)]]).run Tryz.prog w = .ok (.value (.bool true)) w := by
  rw [@run_callFunc_extern Tryz.prog 133 _ (Extern.ReflectliteType.method fun t => do Go.Extern.Rtype.noPackHeld "Comparable" t; pure (.bool (← typeInfo t).comparable)) Tryz.func133 (by kernel_rfl) (by kernel_rfl) (by kernel_rfl) (by kernel_rfl)]
  kernel_rfl
theorem isMethodComparable (n : Nat) (v : Value) (w : World) : (Go.method (n + 1) 151 v "Comparable").run Tryz.prog w = .ok (133, v) w := by kernel_rfl
theorem isComp : (Tryz.prog.info? 174).map (·.comparable) = some true := by kernel_rfl
theorem isSize : (Tryz.prog.info? 199).map (·.size) = some 1 := by kernel_rfl
theorem noIsE (v : Value) (xT : TypeId) (w : World) : (Instr.typeAssert (.iface 174 v) xT 153 true).run Tryz.prog w = .ok (.tuple #[.nilIface, .bool false]) w := run_typeAssert_lacksB Tryz.underlying153 (by kernel_rfl) (by kernel_rfl) v xT w
theorem noUnwrapE (v : Value) (xT : TypeId) (w : World) : (Instr.typeAssert (.iface 174 v) xT 156 true).run Tryz.prog w = .ok (.tuple #[.nilIface, .bool false]) w := run_typeAssert_lacksB Tryz.underlying156 (by kernel_rfl) (by kernel_rfl) v xT w
theorem noUnwrapsE (v : Value) (xT : TypeId) (w : World) : (Instr.typeAssert (.iface 174 v) xT 158 true).run Tryz.prog w = .ok (.tuple #[.nilIface, .bool false]) w := run_typeAssert_lacksB Tryz.underlying158 (by kernel_rfl) (by kernel_rfl) v xT w

set_option maxRecDepth 100000 in
theorem is1_same (a : Addr) (w : World) :
    Calls Tryz.prog 93 #[.iface 174 (.pointer (some a)), .iface 174 (.pointer (some a)), .bool true] w fun e w' => e = .returned (.bool true) ∧ w = w' := by
  obtain ⟨i, hi, hcmp⟩ := Option.map_eq_some_iff.1 isComp
  obtain ⟨j, hj, hjs⟩ := Option.map_eq_some_iff.1 isSize
  have heq := run_eql_iface_ptr_same (P := Tryz.prog) w a Tryz.underlying54 Tryz.underlying174 hi hcmp hj
  go_enter Tryz.func93, Tryz.ntmps93
  go_wp2
  refine wp_loop_rounds 1 ?_
  rw [rounds_succ]
  go_wp2
  go_ret
  exact ⟨rfl, rfl⟩

set_option maxRecDepth 100000 in
theorem is1_other (a b : Addr) (ca cb : Array Value) (ta tb : TypeId) (w : World) (hne : a ≠ b) (ha : w.heap[a.block]? = some (.cells ca ta (0, 0))) (hb : w.heap[b.block]? = some (.cells cb tb (0, 0))) :
    Calls Tryz.prog 93 #[.iface 174 (.pointer (some a)), .iface 174 (.pointer (some b)), .bool true] w fun e w' => e = .returned (.bool false) ∧ w = w' := by
  obtain ⟨i, hi, hcmp⟩ := Option.map_eq_some_iff.1 isComp
  obtain ⟨j, hj, hjs⟩ := Option.map_eq_some_iff.1 isSize
  have nE := noIsE
  have uE := noUnwrapE
  have vE := noUnwrapsE
  have heq := run_eql_iface_ptr_other (P := Tryz.prog) w Tryz.underlying54 Tryz.underlying174 hi hcmp hj (by rw [hjs]; decide) hne ha hb
  go_enter Tryz.func93, Tryz.ntmps93
  go_wp2
  refine wp_loop_rounds 1 ?_
  rw [rounds_succ]
  go_wp2
  go_ret
  exact ⟨rfl, rfl⟩

set_option maxRecDepth 100000 in
/-- errors.Is(x, x). -/
theorem is_same (a : Addr) (w : World) :
    Calls Tryz.prog 58 #[.iface 174 (.pointer (some a)), .iface 174 (.pointer (some a))] w fun e w' => e = .returned (.bool true) ∧ w = w' := by
  have h8 := @run_callFunc_extern Tryz.prog 92 _ Extern.ReflectliteType.typeOf Tryz.func92 (by kernel_rfl) (by kernel_rfl) (by kernel_rfl) (by kernel_rfl)
  have tT := isTypeOf
  have cT := isComparable
  have mR := isMethodComparable
  have h1 := is1_same a w
  go_enter Tryz.func58, Tryz.ntmps58
  go_wp2_with (go_at_call 93; refine h1.mono ?_; rintro e w' ⟨rfl, rfl⟩)
  go_ret
  exact ⟨rfl, rfl⟩

set_option maxRecDepth 100000 in
/-- errors.Is(x, y), two different ones. -/
theorem is_other (a b : Addr) (ca cb : Array Value) (ta tb : TypeId) (w : World) (hne : a ≠ b) (ha : w.heap[a.block]? = some (.cells ca ta (0, 0))) (hb : w.heap[b.block]? = some (.cells cb tb (0, 0))) :
    Calls Tryz.prog 58 #[.iface 174 (.pointer (some a)), .iface 174 (.pointer (some b))] w fun e w' => e = .returned (.bool false) ∧ w = w' := by
  have h8 := @run_callFunc_extern Tryz.prog 92 _ Extern.ReflectliteType.typeOf Tryz.func92 (by kernel_rfl) (by kernel_rfl) (by kernel_rfl) (by kernel_rfl)
  have tT := isTypeOf
  have cT := isComparable
  have mR := isMethodComparable
  have h1 := Lib.hid (is1_other a b ca cb ta tb w hne ha hb)
  clear hne ha hb
  go_enter Tryz.func58, Tryz.ntmps58
  go_wp2_with (go_at_call 93; refine h1.out.mono ?_; rintro e w' ⟨rfl, rfl⟩)
  go_ret
  exact ⟨rfl, rfl⟩

/-- errors.Is(nil, x). -/
theorem is_nil (b : Addr) (w : World) :
    Calls Tryz.prog 58 #[.nilIface, .iface 174 (.pointer (some b))] w fun e w' => e = .returned (.bool false) ∧ w = w' := by
  have hn := run_eql_iface_nil_left (P := Tryz.prog) w 174 (.pointer (some b)) Tryz.underlying54
  go_enter Tryz.func58, Tryz.ntmps58
  go_wp2
  go_ret
  exact ⟨rfl, rfl⟩

def Bad.no : Bad → Nat | .short => 5 | .form => 4 | .sum => 6
/-- Where the sentinels lie. -/
structure Errs where
  (s f m : Addr)
def Errs.at_ (E : Errs) : Bad → Addr | .short => E.s | .form => E.f | .sum => E.m
def Errs.val (E : Errs) (b : Bad) : Value := .iface 174 (.pointer (some (E.at_ b)))
/-- The three sentinels lie in w, below B. -/
structure Laid (w : World) (E : Errs) : Prop where
  gs : w.cell? ⟨0, 0, none⟩ = some (.iface 174 (.pointer (some E.s)))
  gf : w.cell? ⟨2, 0, none⟩ = some (.iface 174 (.pointer (some E.f)))
  gm : w.cell? ⟨1, 0, none⟩ = some (.iface 174 (.pointer (some E.m)))
  row : ∀ b, ∃ c t, w.heap[(E.at_ b).block]? = some (.cells c t (0, 0))
  sf : E.s ≠ E.f
  sm : E.s ≠ E.m
  fm : E.f ≠ E.m

theorem Laid.below {w w' : World} {E : Errs} (h : Laid w E) (hb : Below w.heap.size w w') : Laid w' E :=
  ⟨(hb.cell (World.block_lt_of_cell? w _ h.gs)).trans h.gs, (hb.cell (World.block_lt_of_cell? w _ h.gf)).trans h.gf, (hb.cell (World.block_lt_of_cell? w _ h.gm)).trans h.gm,
    fun b => by
      obtain ⟨c, t, hc⟩ := h.row b
      exact ⟨c, t, (hb.block _ (Array.getElem?_eq_some_iff.1 hc).1).trans hc⟩, h.sf, h.sm, h.fm⟩

set_option maxRecDepth 100000 in
set_option maxHeartbeats 1000000 in
theorem told_nil (E : Errs) (w : World) (h : Laid w E) : Calls Tryz.prog 20 #[.nilIface] w fun e w' => e = .returned (.int .i64 0) ∧ w = w' := by
  obtain ⟨s, f, m⟩ := E
  have gs : w.cell? ⟨0, 0, none⟩ = some (.iface 174 (.pointer (some s))) := h.gs
  have gf : w.cell? ⟨2, 0, none⟩ = some (.iface 174 (.pointer (some f))) := h.gf
  have gm : w.cell? ⟨1, 0, none⟩ = some (.iface 174 (.pointer (some m))) := h.gm
  go_enter Tryz.func20, Tryz.ntmps20
  go_wp2_with fail
  refine (is_nil _ _).mono ?_
  rintro e w' ⟨rfl, rfl⟩
  go_wp2_with fail
  refine (is_nil _ _).mono ?_
  rintro e w' ⟨rfl, rfl⟩
  go_wp2_with fail
  refine (is_nil _ _).mono ?_
  rintro e w' ⟨rfl, rfl⟩
  go_wp2_with fail
  go_ret
  exact ⟨rfl, rfl⟩

set_option maxRecDepth 100000 in
set_option maxHeartbeats 1000000 in
theorem told_short (E : Errs) (w : World) (h : Laid w E) : Calls Tryz.prog 20 #[.iface 174 (.pointer (some E.s))] w fun e w' => e = .returned (.int .i64 5) ∧ w = w' := by
  obtain ⟨s, f, m⟩ := E
  show Calls Tryz.prog 20 #[.iface 174 (.pointer (some s))] w _
  have gs : w.cell? ⟨0, 0, none⟩ = some (.iface 174 (.pointer (some s))) := h.gs
  have gf : w.cell? ⟨2, 0, none⟩ = some (.iface 174 (.pointer (some f))) := h.gf
  have gm : w.cell? ⟨1, 0, none⟩ = some (.iface 174 (.pointer (some m))) := h.gm
  go_enter Tryz.func20, Tryz.ntmps20
  go_wp2_with fail
  refine (is_same _ _).mono ?_
  rintro e w' ⟨rfl, rfl⟩
  go_wp2_with fail
  go_ret
  exact ⟨rfl, rfl⟩

set_option maxRecDepth 100000 in
set_option maxHeartbeats 1000000 in
theorem told_form (E : Errs) (w : World) (h : Laid w E) : Calls Tryz.prog 20 #[.iface 174 (.pointer (some E.f))] w fun e w' => e = .returned (.int .i64 4) ∧ w = w' := by
  obtain ⟨s, f, m⟩ := E
  show Calls Tryz.prog 20 #[.iface 174 (.pointer (some f))] w _
  have gs : w.cell? ⟨0, 0, none⟩ = some (.iface 174 (.pointer (some s))) := h.gs
  have gf : w.cell? ⟨2, 0, none⟩ = some (.iface 174 (.pointer (some f))) := h.gf
  have gm : w.cell? ⟨1, 0, none⟩ = some (.iface 174 (.pointer (some m))) := h.gm
  obtain ⟨cs, ts, hs⟩ := h.row .short
  obtain ⟨cf, tf, hf⟩ := h.row .form
  have h1 := Lib.hid (is_other f s cf cs tf ts w h.sf.symm hf hs)
  clear hs hf
  go_enter Tryz.func20, Tryz.ntmps20
  go_wp2_with fail
  refine h1.out.mono ?_
  rintro e w' ⟨rfl, rfl⟩
  go_wp2_with fail
  refine (is_same _ _).mono ?_
  rintro e w' ⟨rfl, rfl⟩
  go_wp2_with fail
  go_ret
  exact ⟨rfl, rfl⟩

set_option maxRecDepth 100000 in
set_option maxHeartbeats 1000000 in
theorem told_sum (E : Errs) (w : World) (h : Laid w E) : Calls Tryz.prog 20 #[.iface 174 (.pointer (some E.m))] w fun e w' => e = .returned (.int .i64 6) ∧ w = w' := by
  obtain ⟨s, f, m⟩ := E
  show Calls Tryz.prog 20 #[.iface 174 (.pointer (some m))] w _
  have gs : w.cell? ⟨0, 0, none⟩ = some (.iface 174 (.pointer (some s))) := h.gs
  have gf : w.cell? ⟨2, 0, none⟩ = some (.iface 174 (.pointer (some f))) := h.gf
  have gm : w.cell? ⟨1, 0, none⟩ = some (.iface 174 (.pointer (some m))) := h.gm
  obtain ⟨cs, ts, hs⟩ := h.row .short
  obtain ⟨cf, tf, hf⟩ := h.row .form
  obtain ⟨cm, tm, hm⟩ := h.row .sum
  have h1 := Lib.hid (is_other m s cm cs tm ts w h.sm.symm hm hs)
  have h2 := Lib.hid (is_other m f cm cf tm tf w h.fm.symm hm hf)
  clear hs hf hm
  go_enter Tryz.func20, Tryz.ntmps20
  go_wp2_with fail
  refine h1.out.mono ?_
  rintro e w' ⟨rfl, rfl⟩
  go_wp2_with fail
  refine h2.out.mono ?_
  rintro e w' ⟨rfl, rfl⟩
  go_wp2_with fail
  refine (is_same _ _).mono ?_
  rintro e w' ⟨rfl, rfl⟩
  go_wp2_with fail
  go_ret
  exact ⟨rfl, rfl⟩

theorem told_bad (E : Errs) (b : Bad) (w : World) (h : Laid w E) : Calls Tryz.prog 20 #[E.val b] w fun e w' => e = .returned (.int .i64 (b.no : Int)) ∧ w = w' := by
  cases b with
  | short => exact told_short E w h
  | form => exact told_form E w h
  | sum => exact told_sum E w h

end Go.Proofs.YtfniddnfkciblaaGreatDoor

/-
  A frame's parts: what they are, how many bytes each has, and what is kept of each.
-/
namespace Go.Proofs.YtfniddnfkciblaaGreatDoor
open Go.RowKit

/-- Block g is a frame. -/
def Fr (w : World) (g : Nat) (num cnt sum : Nat) (r : Value) : Prop :=
  w.heap[g]? = some (.cells #[.int .u64 (num : Int), .int .i64 (cnt : Int), .int .u64 (sum : Int), r] 52 (0, 0))
section
variable {w w' : World} {g num cnt sum : Nat} {r : Value}
theorem Fr.lt (h : Fr w g num cnt sum r) : g < w.heap.size := (Array.getElem?_eq_some_iff.1 h).1
theorem Fr.below (h : Fr w g num cnt sum r) (hb : Below w.heap.size w w') : Fr w' g num cnt sum r := (hb.block g h.lt).trans h
theorem Fr.c0 (h : Fr w g num cnt sum r) : w.cell? ⟨g, 0, none⟩ = some (.int .u64 (num : Int)) := by rw [cell_of_row _ g 0 _ _ _ h]; rfl
theorem Fr.c1 (h : Fr w g num cnt sum r) : w.cell? ⟨g, 1, none⟩ = some (.int .i64 (cnt : Int)) := by rw [cell_of_row _ g 1 _ _ _ h]; rfl
theorem Fr.c2 (h : Fr w g num cnt sum r) : w.cell? ⟨g, 2, none⟩ = some (.int .u64 (sum : Int)) := by rw [cell_of_row _ g 2 _ _ _ h]; rfl
theorem Fr.c3 (h : Fr w g num cnt sum r) : w.cell? ⟨g, 3, none⟩ = some r := by rw [cell_of_row _ g 3 _ _ _ h]; rfl
theorem Fr.free (h : Fr w g num cnt sum r) (k : Nat) : w.frozen? ⟨g, k, none⟩ = false := frozen_of_row w g k _ _ h
theorem Fr.set0 (h : Fr w g num cnt sum r) (v : Nat) : Fr (w.setCell ⟨g, 0, none⟩ (.int .u64 (v : Int))) g v cnt sum r := heap_setCell_same w g 0 _ _ _ h
theorem Fr.set1 (h : Fr w g num cnt sum r) (v : Nat) : Fr (w.setCell ⟨g, 1, none⟩ (.int .i64 (v : Int))) g num v sum r := heap_setCell_same w g 1 _ _ _ h
theorem Fr.set2 (h : Fr w g num cnt sum r) (v : Nat) : Fr (w.setCell ⟨g, 2, none⟩ (.int .u64 (v : Int))) g num cnt v r := heap_setCell_same w g 2 _ _ _ h
theorem Fr.set3 (h : Fr w g num cnt sum r) (v : Value) : Fr (w.setCell ⟨g, 3, none⟩ v) g num cnt sum v := heap_setCell_same w g 3 _ _ _ h
theorem Fr.new (w : World) : Fr (w.alloc (.cells #[.int .u64 0, .int .i64 0, .int .u64 0, .slice none 0 0] 52)) w.heap.size 0 0 0 (.slice none 0 0) := World.alloc_heap_new w _
end

set_option maxRecDepth 100000 in
theorem always_any (k : Nat) (w : World) : Calls Tryz.prog 82 #[.int .i64 (k : Int)] w fun e w' =>
    e = .returned (.func (.func 97) #[] #[.pointer (some ⟨w.heap.size, 0, none⟩)]) ∧ w.alloc (.cells #[.int .i64 (k : Int)] 3) = w' := by
  go_enter Tryz.func82, Tryz.ntmps82
  go_wp2
  go_ret
  exact ⟨rfl, rfl⟩

set_option maxRecDepth 100000 in
theorem always1_any (p : Value) (B k : Nat) (w : World) (h : Boxed w B 3 (.int .i64 (k : Int))) : Calls Tryz.prog 97 #[p, .pointer (some ⟨B, 0, none⟩)] w fun e w' =>
    e = .returned (.int .i64 (k : Int)) ∧ w = w' := by
  have hc := h.cell
  go_enter Tryz.func97, Tryz.ntmps97
  go_wp2
  go_ret
  exact ⟨rfl, rfl⟩

set_option maxRecDepth 100000 in
theorem parts1_any (g num cnt sum : Nat) (r : Value) (w : World) (h : Fr w g num cnt sum r) : Calls Tryz.prog 87 #[.pointer (some ⟨g, 0, none⟩)] w fun e w' =>
    e = .returned (.int .i64 (cnt : Int)) ∧ w = w' := by
  have hc := h.c1
  go_enter Tryz.func87, Tryz.ntmps87
  go_wp2
  go_ret
  exact ⟨rfl, rfl⟩

set_option maxRecDepth 100000 in
theorem parts2_any (g num cnt sum : Nat) (hcnt : cnt ≤ 1000000000000) (r : Value) (w : World) (h : Fr w g num cnt sum r) : Calls Tryz.prog 89 #[.pointer (some ⟨g, 0, none⟩)] w fun e w' =>
    e = .returned (.int .i64 ((noug cnt : Nat) : Int)) ∧ w = w' := by
  have hc := h.c1
  have C := noughts_any cnt hcnt w
  go_enter Tryz.func89, Tryz.ntmps89
  go_wp2_with fail
  refine C.mono ?_
  rintro e w' ⟨rfl, rfl⟩
  go_wp2_with fail
  go_ret
  exact ⟨rfl, rfl⟩

set_option maxRecDepth 100000 in
theorem takeNum_any (g num cnt sum : Nat) (r : Value) (A : Option Addr) (n c : Nat) (xs : List Nat) (w : World) (h : Fr w g num cnt sum r) (hin : In w A n xs) (hx : ∀ x ∈ xs, x < 256) (hn : n ≤ 8) (hc : n ≤ c) :
    Calls Tryz.prog 84 #[.pointer (some ⟨g, 0, none⟩), .slice A n c] w fun e w' => e = .returned .nilIface ∧ w.setCell ⟨g, 0, none⟩ (.int .u64 (val xs : Int)) = w' := by
  have C := Lib.hid (number_any A n c xs w hin hx hn hc)
  have h0 := h.c0
  have f0 := h.free 0
  clear hx
  go_enter Tryz.func84, Tryz.ntmps84
  go_wp2_with fail
  refine C.out.mono ?_
  rintro e w' ⟨rfl, rfl⟩
  go_wp2_with fail
  go_ret
  exact ⟨rfl, rfl⟩

set_option maxRecDepth 100000 in
theorem takeSum_any (g num cnt sum : Nat) (r : Value) (A : Option Addr) (n c : Nat) (xs : List Nat) (w : World) (h : Fr w g num cnt sum r) (hin : In w A n xs) (hx : ∀ x ∈ xs, x < 256) (hn : n ≤ 8) (hc : n ≤ c) :
    Calls Tryz.prog 86 #[.pointer (some ⟨g, 0, none⟩), .slice A n c] w fun e w' => e = .returned .nilIface ∧ w.setCell ⟨g, 2, none⟩ (.int .u64 (val xs : Int)) = w' := by
  have C := Lib.hid (number_any A n c xs w hin hx hn hc)
  have h0 := h.c2
  have f0 := h.free 2
  clear hx
  go_enter Tryz.func86, Tryz.ntmps86
  go_wp2_with fail
  refine C.out.mono ?_
  rintro e w' ⟨rfl, rfl⟩
  go_wp2_with fail
  go_ret
  exact ⟨rfl, rfl⟩

set_option maxRecDepth 100000 in
theorem takeCount_any (E : Errs) (g num cnt sum : Nat) (r : Value) (A : Option Addr) (n c : Nat) (xs : List Nat) (m : Nat) (hm : val xs = m) (hm2 : m < 65536) (w : World) (h : Fr w g num cnt sum r) (hE : Laid w E) (hin : In w A n xs) (hx : ∀ x ∈ xs, x < 256) (hn : n ≤ 8) (hc : n ≤ c) :
    Calls Tryz.prog 85 #[.pointer (some ⟨g, 0, none⟩), .slice A n c] w fun e w' => e = .returned (if 256 < m then E.val .form else .nilIface) ∧ w.setCell ⟨g, 1, none⟩ (.int .i64 (m : Int)) = w' := by
  have C := Lib.hid (number_any A n c xs w hin hx hn hc)
  rw [hm] at C
  have h0 := h.c1
  have f0 := h.free 1
  have gf := hE.gf
  have hw : IntKind.i64.wrap (m : Int) = (m : Int) := by rw [IntKind.wrap_i64]; omega
  have h1 := (h.set1 m).c1
  have gf1 : (w.setCell ⟨g, 1, none⟩ (.int .i64 (m : Int))).cell? ⟨2, 0, none⟩ = some (.iface 174 (.pointer (some E.f))) := by
    by_cases hg : g = 2
    · exfalso
      rw [hg] at h0 h
      have := h.c0
      rw [gf] at this
      injection this with this
      cases this
    · rw [World.cell?_of_block (heap_setCell_other _ _ _ _ (by show 2 ≠ g; omega))]
      exact gf
  clear hx hm gf h
  by_cases hk : 256 < m
  · rw [if_pos hk]
    go_enter Tryz.func85, Tryz.ntmps85
    go_wp2_with fail
    refine C.out.mono ?_
    rintro e w' ⟨rfl, rfl⟩
    go_wp2_with fail
    go_ret
    exact ⟨rfl, rfl⟩
  · rw [if_neg hk]
    go_enter Tryz.func85, Tryz.ntmps85
    go_wp2_with fail
    refine C.out.mono ?_
    rintro e w' ⟨rfl, rfl⟩
    go_wp2_with fail
    go_ret
    exact ⟨rfl, rfl⟩

set_option maxRecDepth 100000 in
theorem takeRecord_any (g num cnt sum : Nat) (r : Value) (A : Option Addr) (n c : Nat) (w : World) (h : Fr w g num cnt sum r) :
    Calls Tryz.prog 88 #[.pointer (some ⟨g, 0, none⟩), .slice A n c] w fun e w' => e = .returned .nilIface ∧ w.setCell ⟨g, 3, none⟩ (.slice A n c) = w' := by
  have h0 := h.c3
  have f0 := h.free 3
  go_enter Tryz.func88, Tryz.ntmps88
  go_wp2_with fail
  go_ret
  exact ⟨rfl, rfl⟩

set_option maxRecDepth 100000 in
theorem takeNoughts_any (E : Errs) (p : Value) (A : Option Addr) (n c : Nat) (xs : List Nat) (w : World) (hE : Laid w E) (hin : In w A n xs) (hn : n ≤ 1000000000000) :
    Calls Tryz.prog 91 #[p, .slice A n c] w fun e w' => (xs = List.replicate n 0 ∧ e = .returned .nilIface ∨ xs ≠ List.replicate n 0 ∧ e = .returned (E.val .form)) ∧ w = w' := by
  have gf := hE.gf
  go_enter Tryz.func91, Tryz.ntmps91
  go_wp2
  go_loop [9] (fun i => ∃ j : Nat, j ≤ n ∧ i = .int .i64 (j : Int) ∧ xs.take j = List.replicate j 0) (fun i => n - (intOf i).toNat)
  case atStart => exact ⟨0, Nat.zero_le _, rfl, rfl⟩
  case round =>
    obtain ⟨j, hj, rfl, hz⟩ := hrel
    have HZ := Lib.hid hz
    clear hz
    by_cases hlt : j < n
    · obtain ⟨ad, x, rfl, hx, hc1⟩ := hin.at_ hlt
      have HX := Lib.hid hx
      clear hx
      have hjn : (j : Int) < (n : Int) := by omega
      by_cases h0 : x = 0
      · subst h0
        go_wp2
        go_round
        case rel => exact ⟨j + 1, by omega, by go_num, by rw [take_snoc_of HX.out, HZ.out, List.replicate_succ']⟩
        case measure => simp [intOf]; omega
      · have dx : ((x : Int) != 0) = true := by simp; omega
        have hne : xs ≠ List.replicate n 0 := by
          intro e
          have := HX.out
          rw [e, List.getElem?_replicate, if_pos hlt] at this
          injection this with this
          omega
        have HN := Lib.hid hne
        clear hne
        go_wp2
        go_ret
        exact ⟨.inr ⟨HN.out, rfl⟩, rfl⟩
    · obtain rfl : j = n := by omega
      have hyes : xs = List.replicate j 0 := by
        have := HZ.out
        rwa [List.take_of_length_le (Nat.le_of_eq hin.len)] at this
      have HY := Lib.hid hyes
      clear hyes
      go_wp2
      go_ret
      exact ⟨.inl ⟨HY.out, rfl⟩, rfl⟩

theorem takeNoughts_yes (E : Errs) (p : Value) (A : Option Addr) (n c : Nat) (xs : List Nat) (w : World) (hE : Laid w E) (hin : In w A n xs) (hn : n ≤ 1000000000000) (h : xs = List.replicate n 0) :
    Calls Tryz.prog 91 #[p, .slice A n c] w fun e w' => e = .returned .nilIface ∧ w = w' :=
  (takeNoughts_any E p A n c xs w hE hin hn).mono fun _ _ ⟨h1, h2⟩ => ⟨h1.elim (·.2) (fun k => absurd h k.1), h2⟩
theorem takeNoughts_no (E : Errs) (p : Value) (A : Option Addr) (n c : Nat) (xs : List Nat) (w : World) (hE : Laid w E) (hin : In w A n xs) (hn : n ≤ 1000000000000) (h : xs ≠ List.replicate n 0) :
    Calls Tryz.prog 91 #[p, .slice A n c] w fun e w' => e = .returned (E.val .form) ∧ w = w' :=
  (takeNoughts_any E p A n c xs w hE hin hn).mono fun _ _ ⟨h1, h2⟩ => ⟨h1.elim (fun k => absurd k.1 h) (·.2), h2⟩

end Go.Proofs.YtfniddnfkciblaaGreatDoor

/-
  The table of a frame's parts.
-/
namespace Go.Proofs.YtfniddnfkciblaaGreatDoor
open Go.RowKit

def alw (B : Nat) : Value := .func (.func 97) #[] #[.pointer (some ⟨B, 0, none⟩)]
def fnv (f : FuncId) : Value := .func (.func f) #[] #[]
/-- Block G is the table of parts; the sizes of the first four lie in blocks B to B + 3. -/
structure Pts (w : World) (G B : Nat) : Prop where
  row : w.heap[G]? = some (.cells #[alw B, fnv 83, alw (B + 1), fnv 84, alw (B + 2), fnv 85, alw (B + 3), fnv 86,
    fnv 87, fnv 88, fnv 89, fnv 91] 69 (0, 0))
  b0 : Boxed w B 3 (.int .i64 (4 : Nat))
  b1 : Boxed w (B + 1) 3 (.int .i64 (8 : Nat))
  b2 : Boxed w (B + 2) 3 (.int .i64 (2 : Nat))
  b3 : Boxed w (B + 3) 3 (.int .i64 (4 : Nat))

theorem boxed_below {w w' : World} {B : Nat} {t : TypeId} {v : Value} (h : Boxed w B t v) (hb : Below w.heap.size w w') : Boxed w' B t v := (hb.block B h.lt).trans h
section
variable {w w' : World} {G B : Nat}
theorem Pts.lt (h : Pts w G B) : G < w.heap.size := (Array.getElem?_eq_some_iff.1 h.row).1
theorem Pts.below (h : Pts w G B) (hb : Below w.heap.size w w') : Pts w' G B :=
  ⟨(hb.block G h.lt).trans h.row, boxed_below h.b0 hb, boxed_below h.b1 hb, boxed_below h.b2 hb, boxed_below h.b3 hb⟩
theorem Pts.setCell (h : Pts w G B) (a : Addr) (v : Value) (hG : a.block ≠ G) (hB : ∀ i, i < 4 → a.block ≠ B + i) : Pts (w.setCell a v) G B :=
  ⟨(heap_setCell_other _ _ _ _ hG.symm).trans h.row, (heap_setCell_other _ _ _ _ (hB 0 (by omega)).symm).trans h.b0, (heap_setCell_other _ _ _ _ (hB 1 (by omega)).symm).trans h.b1, (heap_setCell_other _ _ _ _ (hB 2 (by omega)).symm).trans h.b2, (heap_setCell_other _ _ _ _ (hB 3 (by omega)).symm).trans h.b3⟩
end

set_option maxRecDepth 100000 in
set_option maxHeartbeats 1000000 in
theorem parts_any (w : World) : Calls Tryz.prog 57 #[] w fun e w' =>
    e = .returned (.slice (some ⟨w.heap.size + 4, 0, none⟩) 6 6) ∧ Pts w' (w.heap.size + 4) w.heap.size ∧ Below w.heap.size w w' := by
  have C1 := always_any 4 w
  go_enter Tryz.func57, Tryz.ntmps57
  go_wp2_with fail
  refine C1.mono ?_
  rintro e w1 ⟨rfl, hw1⟩
  have s1 : w1.heap.size = w.heap.size + 1 := by rw [← hw1]; simp
  have C2 := always_any 8 w1
  have H1 := Lib.hid hw1
  have S1 := Lib.hid s1
  rw [s1] at C2
  clear hw1 s1
  go_wp2_with fail
  refine C2.mono ?_
  rintro e w2 ⟨rfl, hw2⟩
  have s2 : w2.heap.size = w.heap.size + 2 := by rw [← hw2]; simp [S1.out]
  have C3 := always_any 2 w2
  have H2 := Lib.hid hw2
  have S2 := Lib.hid s2
  rw [s2] at C3
  clear hw2 s2
  go_wp2_with fail
  refine C3.mono ?_
  rintro e w3 ⟨rfl, hw3⟩
  have s3 : w3.heap.size = w.heap.size + 3 := by rw [← hw3]; simp [S2.out]
  have C4 := always_any 4 w3
  have H3 := Lib.hid hw3
  have S3 := Lib.hid s3
  rw [s3] at C4
  clear hw3 s3
  go_wp2_with fail
  refine C4.mono ?_
  rintro e w4 ⟨rfl, hw4⟩
  have s4 : w4.heap.size = w.heap.size + 4 := by rw [← hw4]; simp [S3.out]
  have H4 := Lib.hid hw4
  have S4 := Lib.hid s4
  clear hw4 s4
  go_wp2_with fail
  go_ret
  rw [S4.out]
  have e1 : w1 = w.alloc (.cells #[.int .i64 ((4 : Nat) : Int)] 3) := H1.out.symm
  have e2 : w2 = w1.alloc (.cells #[.int .i64 ((8 : Nat) : Int)] 3) := H2.out.symm
  have e3 : w3 = w2.alloc (.cells #[.int .i64 ((2 : Nat) : Int)] 3) := H3.out.symm
  have e4 : w4 = w3.alloc (.cells #[.int .i64 ((4 : Nat) : Int)] 3) := H4.out.symm
  have b0 : Boxed w1 w.heap.size 3 (.int .i64 ((4 : Nat) : Int)) := by rw [e1]; exact Boxed.new w _ _
  have b1 : Boxed w2 (w.heap.size + 1) 3 (.int .i64 ((8 : Nat) : Int)) := by rw [e2, ← S1.out]; exact Boxed.new w1 _ _
  have b2 : Boxed w3 (w.heap.size + 2) 3 (.int .i64 ((2 : Nat) : Int)) := by rw [e3, ← S2.out]; exact Boxed.new w2 _ _
  have b3 : Boxed w4 (w.heap.size + 3) 3 (.int .i64 ((4 : Nat) : Int)) := by rw [e4, ← S3.out]; exact Boxed.new w3 _ _
  have k1 : Below w.heap.size w w1 := by rw [e1]; exact below_alloc w _
  have k2 : Below w1.heap.size w1 w2 := by rw [e2]; exact below_alloc w1 _
  have k3 : Below w2.heap.size w2 w3 := by rw [e3]; exact below_alloc w2 _
  have k4 : Below w3.heap.size w3 w4 := by rw [e4]; exact below_alloc w3 _
  have k5 := below_alloc w4
  refine ⟨rfl, ⟨?_, boxed_below (boxed_below (boxed_below (boxed_below b0 k2) k3) k4) (k5 _), boxed_below (boxed_below (boxed_below b1 k3) k4) (k5 _), boxed_below (boxed_below b2 k4) (k5 _), boxed_below b3 (k5 _)⟩, below_on (below_on (below_on (below_on k1 (Nat.le_refl _) k2) (Nat.le_refl _) k3) (Nat.le_refl _) k4) (Nat.le_refl _) (k5 _)⟩
  rw [← S4.out]
  exact World.alloc_heap_new w4 _

end Go.Proofs.YtfniddnfkciblaaGreatDoor
