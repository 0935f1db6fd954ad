/-
  leaves.cut: one sum of a list; leaves.Root's sides, by what they answer; leaves.Root.
-/
import Derived.Test.YtnaebjdccngeoaaDoorVNode
import Derived.Test.YtnaebjdccngeoaaDoorVLen
import Derived.Test.YtnaebjdccngeoaaDoorLSums
namespace Go.Proofs.YtnaebjdccngeoaaDoor
open Go.RowKit

theorem run_cut_one {A : Option Addr} {n c at_ : Nat} (h : at_ < n) (hc : n ≤ c) (W : World) :
    (Instr.slice 24 (.slice A n c) (some (.int .i64 (at_ : Int))) (some (.int .i64 ((at_ : Int) + 1))) (some (.int .i64 ((at_ : Int) + 1)))).run Tryd.prog W = .ok (.slice (A.map (·.add (at_ * 32))) 1 1) W := by
  obtain ⟨i0, hi, hz0, hz1, hz2⟩ := info_parts infoSum
  have he : Tryd.prog.elem 24 = 36 := by kernel_rfl
  rw [run_slice_lhm W 24 A n c (by rw [he]; exact Tryd.underlying24) .i64 .i64 .i64 (at_ : Int) ((at_ : Int) + 1) ((at_ : Int) + 1) (by omega) (by omega) (by omega) (by omega), he]
  have e1 : ((at_ : Int) + 1).toNat = at_ + 1 := by omega
  simp [sizeOf, typeInfo, hi, hz1, sliced, e1]

set_option maxRecDepth 100000 in
set_option maxHeartbeats 1000000 in
theorem cut_any (A : Option Addr) (n c at_ : Nat) (ys : List Nat) (w : World) (hin : InS w A n ys) (h : at_ < n) (hc : n ≤ c) (hn : n ≤ 1000000) :
    Calls Tryd.prog 43 #[.slice A n c, .int .i64 (at_ : Int)] w fun e w' => e = .returned (sv (nth ys at_)) ∧ Below w.heap.size w w' := by
  obtain ⟨ad, rfl, hl, hat⟩ := hin.at_ h
  have e0 : (bvs zero32).toArray = #[.int .u8 0, .int .u8 0, .int .u8 0, .int .u8 0, .int .u8 0, .int .u8 0, .int .u8 0, .int .u8 0, .int .u8 0, .int .u8 0, .int .u8 0, .int .u8 0, .int .u8 0, .int .u8 0, .int .u8 0, .int .u8 0, .int .u8 0, .int .u8 0, .int .u8 0, .int .u8 0, .int .u8 0, .int .u8 0, .int .u8 0, .int .u8 0, .int .u8 0, .int .u8 0, .int .u8 0, .int .u8 0, .int .u8 0, .int .u8 0, .int .u8 0, .int .u8 0] := rfl
  have f1 := BArr.new w 36 zero32
  have b1 := below_alloc w (.cells (bvs zero32).toArray 36)
  rw [e0] at f1 b1
  clear e0
  have HF := Lib.hid (And.intro f1 b1)
  have hcut := run_cut_one (A := some ad) h hc
  have HA := Lib.hid (hat.below b1)
  obtain ⟨s, hs⟩ : ∃ s, nth ys at_ = s := ⟨_, rfl⟩
  rw [hs] at HA hl ⊢
  have HL := Lib.hid hl
  clear f1 b1 hat hin hs
  go_enter Tryd.func43, Tryd.ntmps43
  go_upto_region 1 with fail
  obtain ⟨w1, hw1⟩ : ∃ w1, w1 = w.alloc (.cells #[.int .u8 0, .int .u8 0, .int .u8 0, .int .u8 0, .int .u8 0, .int .u8 0, .int .u8 0, .int .u8 0, .int .u8 0, .int .u8 0, .int .u8 0, .int .u8 0, .int .u8 0, .int .u8 0, .int .u8 0, .int .u8 0, .int .u8 0, .int .u8 0, .int .u8 0, .int .u8 0, .int .u8 0, .int .u8 0, .int .u8 0, .int .u8 0, .int .u8 0, .int .u8 0, .int .u8 0, .int .u8 0, .int .u8 0, .int .u8 0, .int .u8 0, .int .u8 0] 36) := ⟨_, rfl⟩
  rw [← hw1] at HF HA ⊢
  clear hw1
  have HZ32 := Lib.hid (show zero32.length = 32 from rfl)
  go_wp2_with (first | with_reducible refine wpList_load_sum rfl (.tmp 14) rfl (ad.add (at_ * 32)) rfl s hl HA.out ?_ | with_reducible refine wpList_store_sum rfl (.tmp 4) (.tmp 15) rfl w.heap.size rfl zero32 s HZ32 hl HF.out.1 rfl ?_)
  refine bodyPost_ret_by (results_cell_row (p := 4) (ty := 36) (by kernel_rfl) _ _ w.heap.size 36 (bvs s).toArray (0, 0) _ rfl (HF.out.1.setRow _) Tryd.underlying36 rfl (by rw [List.size_toArray, bvs_length, hl]; exact sizeSum)) rfl ?_
  exact ⟨rfl, below_setRow HF.out.2 (by omega) _⟩

/-- What a side's contract asks: the list and the function itself, in two variables of their own. -/
structure SideIn (w : World) (bl bs : Nat) (A : Option Addr) (n c : Nat) (ys : List Nat) : Prop where
  list : w.cell? ⟨bl, 0, none⟩ = some (.slice A n c)
  self : w.cell? ⟨bs, 0, none⟩ = some (.func (.func 42) #[] #[.pointer (some ⟨bl, 0, none⟩), .pointer (some ⟨bs, 0, none⟩)])
  in_ : InS w A n ys
  lt : ∀ x ∈ ys, x < 256
  cap : n ≤ c
  few : n ≤ 65536
  knows : Knows w
  starts : Starts w

theorem SideIn.below {w w' : World} {bl bs n c : Nat} {A : Option Addr} {ys : List Nat} (h : SideIn w bl bs A n c ys) (hb : Below w.heap.size w w') : SideIn w' bl bs A n c ys :=
  ⟨(hb.cell (World.block_lt_of_cell? w _ h.list)).trans h.list, (hb.cell (World.block_lt_of_cell? w _ h.self)).trans h.self, h.in_.below hb, h.lt, h.cap, h.few, h.knows.below hb, h.starts.below hb⟩

theorem nth_lt {ys : List Nat} (h : ∀ x ∈ ys, x < 256) (k : Nat) : ∀ x ∈ nth ys k, x < 256 := fun x hx => h x (List.mem_of_mem_drop (List.mem_of_mem_take hx))

theorem SideIn.length {w : World} {bl bs n c : Nat} {A : Option Addr} {ys : List Nat} (h : SideIn w bl bs A n c ys) {i m : Nat} (hm : i + m ≤ n) : (rt (nth ys) i m).length = 32 :=
  rt_length _ i m fun j hj => nth_length h.in_.len (by omega)
theorem SideIn.bytes {w : World} {bl bs n c : Nat} {A : Option Addr} {ys : List Nat} (h : SideIn w bl bs A n c ys) (i m : Nat) : ∀ x ∈ rt (nth ys) i m, x < 256 :=
  rt_lt _ i m fun _ _ => nth_lt h.lt _

set_option maxRecDepth 100000 in
set_option maxHeartbeats 1000000 in
theorem side_one (bl bs : Nat) (A : Option Addr) (n c i : Nat) (ys : List Nat) (w : World) (h : SideIn w bl bs A n c ys) (hi : i < n) :
    Calls Tryd.prog 42 #[.int .i64 (i : Int), .int .i64 ((i + 1 : Nat) : Int), .pointer (some ⟨bl, 0, none⟩), .pointer (some ⟨bs, 0, none⟩)] w fun e w' => e = .returned (sv (rt (nth ys) i 1)) ∧ Below w.heap.size w w' := by
  rw [rt_one]
  have e0 : (bvs zero32).toArray = #[.int .u8 0, .int .u8 0, .int .u8 0, .int .u8 0, .int .u8 0, .int .u8 0, .int .u8 0, .int .u8 0, .int .u8 0, .int .u8 0, .int .u8 0, .int .u8 0, .int .u8 0, .int .u8 0, .int .u8 0, .int .u8 0, .int .u8 0, .int .u8 0, .int .u8 0, .int .u8 0, .int .u8 0, .int .u8 0, .int .u8 0, .int .u8 0, .int .u8 0, .int .u8 0, .int .u8 0, .int .u8 0, .int .u8 0, .int .u8 0, .int .u8 0, .int .u8 0] := rfl
  have f1 := BArr.new w 36 zero32
  have b1 := below_alloc w (.cells (bvs zero32).toArray 36)
  rw [e0] at f1 b1
  clear e0
  have HF := Lib.hid (And.intro f1 b1)
  have h1 := Lib.hid (h.below b1)
  have hl := nth_length h.in_.len hi
  clear f1 b1
  go_enter Tryd.func42, Tryd.ntmps42
  go_upto_region 1 with fail
  obtain ⟨w1, hw1⟩ : ∃ w1, w1 = w.alloc (.cells #[.int .u8 0, .int .u8 0, .int .u8 0, .int .u8 0, .int .u8 0, .int .u8 0, .int .u8 0, .int .u8 0, .int .u8 0, .int .u8 0, .int .u8 0, .int .u8 0, .int .u8 0, .int .u8 0, .int .u8 0, .int .u8 0, .int .u8 0, .int .u8 0, .int .u8 0, .int .u8 0, .int .u8 0, .int .u8 0, .int .u8 0, .int .u8 0, .int .u8 0, .int .u8 0, .int .u8 0, .int .u8 0, .int .u8 0, .int .u8 0, .int .u8 0, .int .u8 0] 36) := ⟨_, rfl⟩
  rw [← hw1] at HF h1 ⊢
  clear hw1
  have hlist := h1.out.list
  have C := Lib.hid (cut_any A n c i ys w1 h1.out.in_ hi h.cap (by have := h.few; omega))
  have hd : ((i + 1 : Nat) : Int) - (i : Int) = 1 := by omega
  go_wp2_with fail
  refine C.out.mono ?_
  rintro e w2 ⟨rfl, hb2⟩
  have f2 := HF.out.1.below hb2
  have HZ32 := Lib.hid (show zero32.length = 32 from rfl)
  obtain ⟨s, hs⟩ : ∃ s, nth ys i = s := ⟨_, rfl⟩
  rw [hs] at hl
  go_wp2_with (with_reducible refine wpList_store_sum rfl (.tmp 6) (.tmp 14) rfl w.heap.size rfl zero32 s HZ32 hl f2 rfl ?_)
  refine bodyPost_ret_by (results_cell_row (p := 6) (ty := 36) (by kernel_rfl) _ _ w.heap.size 36 (bvs s).toArray (0, 0) _ rfl (f2.setRow _) Tryd.underlying36 rfl (by rw [List.size_toArray, bvs_length, hl]; exact sizeSum)) rfl ?_
  exact ⟨by rw [hs]; rfl, below_setRow (below_on HF.out.2 (Nat.le_refl _) hb2) (by omega) _⟩

theorem quiet_load_one {ops : Array Oper} {o : Oper} {a : Act} {C : World → Prop} {K : Act → Prop} {E : Prop} (hw : Region.wanted o (yielded ops a.tmps) = true) (ty : TypeId) (hagg : ∀ w, (isAgg ty).run Tryd.prog w = .ok false w) (x : Operand) (ho : o.op = .load ty x)
    (ad : Addr) (hx : a.eval x = .pointer (some ad)) (v : Value) (hc : ∀ w, C w → w.cell? ad = some v) (h : K (a.put o.dst v)) :
    if Region.wanted o (yielded ops a.tmps) = true then o.quiet Tryd.prog a C K else E := by
  rw [if_pos hw]
  refine ⟨v, fun w hC => ?_, h⟩
  unfold Oper.quietAt execOp
  have hl : (loadVar ty ad).run Tryd.prog w = .ok v w := by simp [loadVar, Sem.run_bind, hagg, hc w hC]
  simp only [ho, hx, Instr.loadAt, Instr.sureAddr, Sem.run_bind, Sem.run_pure, Result.andThen_ok, hl]
  exact ⟨rfl, rfl⟩

set_option maxRecDepth 100000 in
set_option maxHeartbeats 2000000 in
theorem side_step (bl bs : Nat) (A : Option Addr) (n c i m : Nat) (ys : List Nat) (w : World) (h : SideIn w bl bs A n c ys) (hm : 2 ≤ m) (hi : i + m ≤ n)
    (ih : ∀ (i' m' : Nat) (w' : World), SideIn w' bl bs A n c ys → m' < m → 1 ≤ m' → i' + m' ≤ n →
      Calls Tryd.prog 42 #[.int .i64 (i' : Int), .int .i64 ((i' + m' : Nat) : Int), .pointer (some ⟨bl, 0, none⟩), .pointer (some ⟨bs, 0, none⟩)] w' fun e w'' => e = .returned (sv (rt (nth ys) i' m')) ∧ Below w'.heap.size w' w'') :
    Calls Tryd.prog 42 #[.int .i64 (i : Int), .int .i64 ((i + m : Nat) : Int), .pointer (some ⟨bl, 0, none⟩), .pointer (some ⟨bs, 0, none⟩)] w fun e w' => e = .returned (sv (rt (nth ys) i m)) ∧ Below w.heap.size w w' := by
  have e0 : (bvs zero32).toArray = #[.int .u8 0, .int .u8 0, .int .u8 0, .int .u8 0, .int .u8 0, .int .u8 0, .int .u8 0, .int .u8 0, .int .u8 0, .int .u8 0, .int .u8 0, .int .u8 0, .int .u8 0, .int .u8 0, .int .u8 0, .int .u8 0, .int .u8 0, .int .u8 0, .int .u8 0, .int .u8 0, .int .u8 0, .int .u8 0, .int .u8 0, .int .u8 0, .int .u8 0, .int .u8 0, .int .u8 0, .int .u8 0, .int .u8 0, .int .u8 0, .int .u8 0, .int .u8 0] := rfl
  have f1 := BArr.new w 36 zero32
  have b1 := below_alloc w (.cells (bvs zero32).toArray 36)
  rw [e0] at f1 b1
  clear e0
  have HF := Lib.hid (And.intro f1 b1)
  have h1 := Lib.hid (h.below b1)
  have hcl := cutN_lt hm
  have hcp := cutN_pos m
  have hfew := h.few
  clear f1 b1
  obtain ⟨k, hk0⟩ : ∃ k, cutN m = k := ⟨_, rfl⟩
  obtain ⟨j, hj⟩ : ∃ j, i + m = j := ⟨_, rfl⟩
  obtain ⟨q, hq⟩ : ∃ q, i + k = q := ⟨_, rfl⟩
  rw [hk0] at hcl hcp
  have hd : (j : Int) - (i : Int) = (m : Int) := by omega
  have hm1 : ((m : Int) == 1) = false := by simp; omega
  have hwm : wrap64 (m : Int) = (m : Int) := by simp only [wrap64]; omega
  have hwq : wrap64 (q : Int) = (q : Int) := by simp only [wrap64]; omega
  have hq' : (i : Int) + (k : Int) = (q : Int) := by omega
  have hrt : rt (nth ys) i m = nodeL (rt (nth ys) i k) (rt (nth ys) q (m - k)) := by rw [rt_cut _ i hm, hk0, hq]
  obtain ⟨L, hL⟩ : ∃ L, rt (nth ys) i k = L := ⟨_, rfl⟩
  obtain ⟨R, hR⟩ : ∃ R, rt (nth ys) q (m - k) = R := ⟨_, rfl⟩
  obtain ⟨w1, hw1⟩ : ∃ w1, w1 = w.alloc (.cells #[.int .u8 0, .int .u8 0, .int .u8 0, .int .u8 0, .int .u8 0, .int .u8 0, .int .u8 0, .int .u8 0, .int .u8 0, .int .u8 0, .int .u8 0, .int .u8 0, .int .u8 0, .int .u8 0, .int .u8 0, .int .u8 0, .int .u8 0, .int .u8 0, .int .u8 0, .int .u8 0, .int .u8 0, .int .u8 0, .int .u8 0, .int .u8 0, .int .u8 0, .int .u8 0, .int .u8 0, .int .u8 0, .int .u8 0, .int .u8 0, .int .u8 0, .int .u8 0] 36) := ⟨_, rfl⟩
  have HW := Lib.hid hw1
  rw [← hw1] at HF h1
  have CL := Lib.hid (fun (W : World) (hW : Below w1.heap.size w1 W) => (ih i k W (h1.out.below hW) hcl hcp (by omega)).mono (R' := fun e w' => e = .returned (sv L) ∧ Below w1.heap.size w1 w') fun e w' ⟨he, hb⟩ => ⟨by rw [he, hL], below_on hW (Nat.le_refl _) hb⟩)
  have CR := Lib.hid (fun (W : World) (hW : Below w1.heap.size w1 W) => (ih q (m - k) W (h1.out.below hW) (by omega) (by omega) (by omega)).mono (R' := fun e w' => e = .returned (sv R) ∧ Below w1.heap.size w1 w') fun e w' ⟨he, hb⟩ => ⟨by rw [he, hR], below_on hW (Nat.le_refl _) hb⟩)
  rw [hq] at CL
  rw [show q + (m - k) = j by omega] at CR
  have hLl : L.length = 32 := by rw [← hL]; exact h.length (by omega)
  have hRl : R.length = 32 := by rw [← hR]; exact h.length (by omega)
  have hLb : ∀ x ∈ L, x < 256 := by rw [← hL]; exact h.bytes _ _
  have hRb : ∀ x ∈ R, x < 256 := by rw [← hR]; exact h.bytes _ _
  rw [hL, hR] at hrt
  obtain ⟨N, hN⟩ : ∃ N, nodeL L R = N := ⟨_, rfl⟩
  have hNl : N.length = 32 := by rw [← hN]; exact nodeL_length _ _
  have CN := Lib.hid (fun (W : World) (hW : Below w1.heap.size w1 W) => (node_any L R W hLl hRl hLb hRb (h1.out.below hW).knows (h1.out.below hW).starts).mono (R' := fun e w' => e = .returned (sv N) ∧ Below w1.heap.size w1 w') fun e w' ⟨he, hb⟩ => ⟨by rw [he, hN], below_on hW (Nat.le_refl _) hb⟩)
  rw [hN] at hrt
  rw [hrt]
  have HS := Lib.hid (fun (W : World) (hW : Below w1.heap.size w1 W) => (h1.out.below hW).self)
  have CM := Lib.hid (left_any m w1 hm (by omega))
  rw [hk0] at CM
  have HN := Lib.hid hNl
  have HJ := Lib.hid hj
  have HK := Lib.hid (And.intro hk0 (And.intro hq (And.intro hL (And.intro hR hN))))
  rw [hj]
  have HI := Lib.hid hi
  clear hw1 hL hR hN hLl hRl hLb hRb hrt hk0 hq hj hNl hi ih h h1 hfew
  go_enter Tryd.func42, Tryd.ntmps42
  go_upto_region 1 with fail
  rw [← HW.out]
  go_wp2_with fail
  refine CM.out.mono ?_
  rintro e w2 ⟨rfl, rfl⟩
  go_upto_region 4 with fail
  refine wp_region_quiet_tail (C := fun w' => Below w2.heap.size w2 w') 9 (by kernel_rfl) (by kernel_rfl) ((Below.refl _ _).drew) ?_
  simp only [List.take_succ_cons, List.take_zero, List.drop_succ_cons, List.drop_zero]
  refine wpQuiet_step (fun K hK => ?_)
  refine quiet_load_one (by rfl) _ Tryd.isAgg72 (.tmp 3) rfl ⟨bs, 0, none⟩ rfl _ HS.out (hK _ ?_)
  clear hK K
  iterate 2 (refine wpQuiet_step (fun K hK => ?_); go_simp; refine ⟨_, fun _ _ => rfl, hK _ ?_⟩; clear hK K)
  refine wpQuiet_step (fun K hK => ?_)
  go_simp
  refine ⟨sv L, fun W hW => CL.out W hW, hK _ ?_⟩
  clear hK K
  refine wpQuiet_step (fun K hK => ?_)
  refine quiet_load_one (by rfl) _ Tryd.isAgg72 (.tmp 3) rfl ⟨bs, 0, none⟩ rfl _ HS.out (hK _ ?_)
  clear hK K
  iterate 2 (refine wpQuiet_step (fun K hK => ?_); go_simp; refine ⟨_, fun _ _ => rfl, hK _ ?_⟩; clear hK K)
  refine wpQuiet_step (fun K hK => ?_)
  go_simp
  refine ⟨sv R, fun W hW => CR.out W hW, hK _ ?_⟩
  clear hK K
  refine wpQuiet_step (fun K hK => ?_)
  go_simp
  refine ⟨sv N, fun W hW => CN.out W hW, hK _ ?_⟩
  clear hK K
  refine wpQuiet_nil ?_
  intro w3 hb3
  have f3 := HF.out.1.below hb3
  have HZ32 := Lib.hid (show zero32.length = 32 from rfl)
  have hl := HN.out
  refine wpList_store_sum rfl (.tmp 6) (.tmp 29) rfl w.heap.size rfl zero32 N HZ32 hl f3 rfl ?_
  go_wp2
  refine bodyPost_ret_by (results_cell_row (p := 6) (ty := 36) (by kernel_rfl) _ _ w.heap.size 36 (bvs N).toArray (0, 0) _ rfl (f3.setRow _) Tryd.underlying36 rfl (by rw [List.size_toArray, bvs_length, hl]; exact sizeSum)) rfl ?_
  exact ⟨rfl, below_setRow (below_on HF.out.2 (Nat.le_refl _) hb3) (by omega) _⟩

theorem side_any (bl bs : Nat) (A : Option Addr) (n c : Nat) (ys : List Nat) : ∀ (m i : Nat) (w : World), SideIn w bl bs A n c ys → 1 ≤ m → i + m ≤ n →
    Calls Tryd.prog 42 #[.int .i64 (i : Int), .int .i64 ((i + m : Nat) : Int), .pointer (some ⟨bl, 0, none⟩), .pointer (some ⟨bs, 0, none⟩)] w fun e w' => e = .returned (sv (rt (nth ys) i m)) ∧ Below w.heap.size w w' := by
  intro m
  induction m using Nat.strongRecOn with
  | ind m ih =>
    intro i w h h1 hi
    by_cases hm : m = 1
    · subst hm
      exact side_one bl bs A n c i ys w h (by omega)
    · exact side_step bl bs A n c i m ys w h (by omega) hi fun i' m' w' h' hlt h1' hi' => ih m' hlt i' w' h' h1' hi'

end Go.Proofs.YtnaebjdccngeoaaDoor
