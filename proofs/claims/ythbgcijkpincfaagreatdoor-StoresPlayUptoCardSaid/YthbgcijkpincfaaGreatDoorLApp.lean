/-
  nums.appendDigits.
-/
import Derived.Test.YthbgcijkpincfaaGreatDoorLDig
namespace Go.Proofs.YthbgcijkpincfaaGreatDoor
open Go.RowKit Go.Shelf

attribute [local go_sem] Oper.semAt_some

theorem keepsB_of {Bn : Nat} {t : TypeId} {u : Value} {W W' : World} (h : Boxed W Bn t u) (h' : Boxed W' Bn t u) : KeepsB Bn W W' := Eq.trans h' (Eq.symm h)
theorem keepsB_t {Bn : Nat} {A B C : World} (h : KeepsB Bn A B) (k : KeepsB Bn B C) : KeepsB Bn A C := Eq.trans k h
theorem keepsB_b {Bn : Nat} {w : World} (hn : Bn < w.heap.size) (W : World) (l : Nat) (o o' : Obj) (hl : w.heap.size ≤ l) (_ : W.heap[l]? = some o) (_ : o.isCells = false) (_ : o.isWalk = false) : KeepsB Bn W (W.putObj l o') :=
  World.putObj_heap_other (by omega)

set_option maxRecDepth 100000 in
set_option maxHeartbeats 1000000 in
theorem appendDigits_in (F : Fence) (n : Nat) (h15 : F.fn 242) (h18 : F.fn 275) (h19 : F.fn 308) (hro : F.round = none) (hn : 3 ≤ n)
    (base : Nat) (A : Option Addr) (L c : Nat) (xs : List Nat) (N k : Nat) (hk : k ≤ 8) (hlen : L ≤ 1000000000000) (w : World) (hbase : base ≤ w.heap.size)
    (hown : w.ownsRow base 5 1 (.slice A L c) L (bvs xs)) :
    CallsIn F n Tryz.prog 242 #[.slice A L c, .int .u64 (N : Int), .int .i64 (k : Int)] w fun e W' =>
      ∃ v, e = .returned v ∧ W'.ownsRow base 5 1 v (L + k) (bvs (xs ++ dg N k)) ∧ Below base w W' := by
  have h1 : 1 ≤ n := by omega
  obtain ⟨i0, hi, hz0, hz1, hz2⟩ := info_parts infoByte
  refine callsIn_of_wp_marks Tryz.func242 rfl h15 ?_ hro
  simp only [Tryz.ntmps242, List.size_toArray, List.length_cons, List.length_nil, Nat.reduceAdd, Nat.reduceSub, Array.replicate_succ, Array.replicate_zero, List.push_toArray, List.append_toArray, List.nil_append, List.cons_append]
  gi_wp2_with (gi_at_call 275; refine (digits_in F (n - 1) h18 hro _ _ _).mono ?_; rintro e w' ⟨rfl, rfl⟩)
  have bO := Boxed.new w 50 (.slice A L c)
  have bN := Boxed.new (w.alloc (.cells #[.slice A L c] 50)) 126 (.int .u64 (N : Int))
  rw [World.size_alloc] at bN
  have bK := Boxed.new ((w.alloc (.cells #[.slice A L c] 50)).alloc (.cells #[.int .u64 (N : Int)] 126)) 3 (.int .i64 (k : Int))
  rw [World.size_alloc, World.size_alloc] at bK
  have hB0 : Below base w (((w.alloc (.cells #[.slice A L c] 50)).alloc (.cells #[.int .u64 (N : Int)] 126)).alloc (.cells #[.int .i64 (k : Int)] 3)) :=
    (((Below.refl _ w).alloc hbase _).alloc (by simp; omega) _).alloc (by simp; omega) _
  refine wpIn_rangeFunc_ownG hro h1 (gf := 308) (lb := #[.pointer (some ⟨w.heap.size + 1 + 1, 0, none⟩), .pointer (some ⟨w.heap.size + 1, 0, none⟩)]) rfl h19 (enters_of Tryz.func308 (by kernel_rfl) rfl)
    (digits_stops F (n - 1) h19 hro (by omega) (w.heap.size + 1 + 1) (w.heap.size + 1) k N hk _ bK (bN.alloc _)) keepsB_t (keepsB_b (by simp)) (Below.refl _ _) (fun _ => rfl)
    (fun pre W => (∃ v, Boxed W w.heap.size 50 v ∧ W.ownsRow base 5 1 v (L + pre.length) (bvs (xs ++ pre)) ∧ True) ∧ (Boxed W (w.heap.size + 1) 126 (.int .u64 (N : Int)) ∧ Below base w W))
    (fun _ _ _ => False)
    (OwnFrom.and (Own.from (holdsRow_own base w.heap.size 50 5 1 (fun pre => L + pre.length) (fun pre => bvs (xs ++ pre)) (fun _ _ => True)) _)
      (OwnFrom.and (Own.from (boxed_own (w.heap.size + 1) 126 (fun _ => .int .u64 (N : Int))) _) (ownFrom_below hbase (by simp; omega))))
    (fun _ _ _ _ _ hs _ _ => hs)
    ⟨⟨_, (bO.alloc _).alloc _, by simpa using ((hown.alloc _).alloc _).alloc _, trivial⟩, bN.alloc _, hB0⟩
    (fun x => { tmps := #[.slice A L c, .int .u64 (N : Int), .int .i64 (k : Int), .pointer (some ⟨w.heap.size, 0, none⟩), undef, undef, .slice none 0 0, .int .u8 (x : Int), .int .u64 (N : Int), .int .i64 (k : Int), .func (.func 308) #[] #[.pointer (some ⟨w.heap.size + 1 + 1, 0, none⟩), .pointer (some ⟨w.heap.size + 1, 0, none⟩)], .int .u8 (x : Int), undef, undef, undef, undef, undef], defers := [] }) ?assign ?body ?done ?stop
  case assign =>
    intro l x W K hK
    unfold bv
    gi_wp2
    exact hK
  case body =>
    rintro l pre x W ⟨⟨v, hv, hrow, _⟩, hbn, hB⟩ hlt
    have hc := hv.cell
    have hsz := hB.size
    have hm : L + pre.length + 1 ≤ maxLen := by unfold maxLen; omega
    gi_wp2_with (gi_at_builtin; refine wpListIn_append_own _ rfl _ _ 50 rfl base 5 i0 (.int .u8 0) 1 1 Tryz.underlying50 hi hz0 hz1 hz2 rfl (by decide) _ _ _ rfl (hrow.alloc _) ⟨W.heap.size, 0, none⟩ 1 1 [.int .u8 (x : Int)] rfl rfl (cell_one_new _ _ _) (by simp [Value.oneCell']) hm (by omega) (by simp; omega) ?_; intro v' w1 hown' hgrow _; obtain ⟨g', cap', rfl⟩ := ownsRow_succ hown'; obtain ⟨hv1, hv2, hr2, hk2, hb2⟩ := hv.appended (by decide) hrow (by omega) hbase hown' hgrow; have hc1 := hv1.cell; have hf1 := hv1.frozen)
    have hbn2 := Boxed.other ((hbn.alloc (.cells #[.int .u8 (x : Int)] 5)).kept hgrow (hbn.not_row (by decide) hrow)) (B' := w.heap.size) (by omega) (.slice (some ⟨g', 0, none⟩) (L + pre.length + 1) cap')
    refine ⟨hk2.from _, keepsB_of hbn hbn2, ⟨_, hv2, ?_, trivial⟩, hbn2, hB.trans hb2⟩
    rw [List.length_append, ← List.append_assoc, bvs_append]
    exact hr2
  case done =>
    rintro D ys W hD rfl ⟨⟨v, hv, hrow, _⟩, hbn, hB⟩ hK
    have hc := hv.cell
    gi_wp2
    refine ⟨by simp, .inl ⟨_, _, rfl, run_takeDeferred hK, ?_⟩⟩
    refine ⟨_, results_tmp rfl _ _ _, v, rfl, ?_, hB.trans (belowK_b (w := w) hbase W D _ _ (by simp at hD; omega) hK rfl rfl)⟩
    have := ownsRow_putObj hrow (.deferred none) hK rfl
    rw [dg_length] at this
    exact this
  case stop =>
    rintro D c pre W _ _ h _
    exact h.elim

end Go.Proofs.YthbgcijkpincfaaGreatDoor
