/-
  almonerlaw08.LeavesOf.
-/
import Derived.Test.YtigmbiigaiajdaaDoorVTwin
import Derived.Test.YtigmbiigaiajdaaDoorVRefB
import Derived.Test.YtigmbiigaiajdaaDoorVTools
import Derived.Test.YtigmbiigaiajdaaDoorLTwin
namespace Go.Proofs.YtigmbiigaiajdaaDoor
open Go.RowKit

theorem at_left {w : World} {g o : Nat} {l r : List Nat} (h : At w ⟨g, o, none⟩ (l ++ r)) : At w ⟨g, o, none⟩ l := fun j x hx => h j x (by
  rw [List.getElem?_append_left (List.getElem?_eq_some_iff.1 hx).1]; exact hx)
theorem at_right {w : World} {g : Nat} {l r : List Nat} (hl : l.length = 32) (h : At w ⟨g, 0, none⟩ (l ++ r)) : At w ⟨g, 32, none⟩ r := fun j x hx => by
  have := h (32 + j) x (by rw [List.getElem?_append_right (by omega), hl, Nat.add_sub_cancel_left]; exact hx)
  have e : (⟨g, 0, none⟩ : Addr).add (32 + j) = (⟨g, 32, none⟩ : Addr).add j := by unfold Addr.add; split <;> split <;> simp_all
  rw [e] at this
  exact this

set_option maxRecDepth 100000 in
set_option maxHeartbeats 4000000 in
theorem of_some (w : World) (hk : Knows w) (hs : Starts w) (A : Option Addr) (n c : Nat) (xs l r : List Nat) (B : Option Addr) (m d : Nat) (ys : List Nat) (hc : Came w A n c xs) (hl : l.length = 32) (hr : r.length = 32) (ll : ∀ x ∈ l, x < 256) (lr : ∀ x ∈ r, x < 256) (hb : CameS w B m d ys) (h : n ≤ 20000) (h2 : m ≤ 100) :
    Calls Tryd.prog 3 #[.slice A n c, .agg (bvs (l ++ r)).toArray, .slice B m d] w fun e w' => e = .returned (.bool true) ∧ Below w.heap.size w w' := by
  have hi : decide ((20000 : Int) < (n : Int)) = false := by simp; omega
  have hj : decide ((100 : Int) < (m : Int)) = false := by simp; omega
  have b0 := below_alloc w (.cells (bvs (l ++ r)).toArray 25)
  have f0 := BArr.new w 25 (l ++ r)
  obtain ⟨w0, hw0⟩ : ∃ w0, w0 = w.alloc (.cells (bvs (l ++ r)).toArray 25) := ⟨_, rfl⟩
  rw [← hw0] at b0 f0
  have HW := Lib.hid hw0
  have ca := Lib.hid (twinBytes_any A n c xs w0 (hc.below b0).in_ (by omega))
  clear hw0
  go_enter Tryd.func3, Tryd.ntmps3
  go_wp2_with fail
  rw [← HW.out]
  refine ca.out.mono ?_
  rintro e w1 ⟨rfl, tw1, b1⟩
  have B1 := Lib.hid (below_on b0 (Nat.le_refl _) b1)
  have cb := Lib.hid (twinSums_any B m d ys w1 (hb.in_.below B1.out) (by omega))
  have T1 := Lib.hid (And.intro tw1 (f0.below b1))
  clear ca tw1 b0 b1 f0 HW
  go_wp2_with fail
  refine cb.out.mono ?_
  rintro e w2 ⟨ad2, c2, rfl, tw2, b2⟩
  have B2 := Lib.hid (below_on B1.out (Nat.le_refl _) b2)
  have T2 := Lib.hid (And.intro (T1.out.1.below b2) (And.intro (T1.out.2.below b2) tw2))
  clear T1 cb B1 tw2 b2
  go_wp2_with fail
  have hM := leafL_length xs
  have hN := nodeL_length l r
  have hR : (rt (nth ys) 0 m).length = 32 := rt_length _ _ _ fun j hj => by rw [Nat.zero_add]; exact (hb.in_.at_ hj).elim fun _ h => h.2.1
  obtain ⟨M, eM⟩ : ∃ M, leafL xs = M := ⟨_, rfl⟩
  obtain ⟨N, eN⟩ : ∃ N, nodeL l r = N := ⟨_, rfl⟩
  obtain ⟨R, eR⟩ : ∃ R, rt (nth ys) 0 m = R := ⟨_, rfl⟩
  rw [eM] at hM
  rw [eN] at hN
  rw [eR] at hR
  have t2 := T2.out.1
  have C1 := Lib.hid (fun (W : World) (hW : Below w2.heap.size w2 W) => later (v' := sv M) hW (by rw [eM]) (leaf_any (some ⟨w0.heap.size, 0, none⟩) n (n + 1) xs W ⟨(T2.out.1.below hW).in_, hc.lt, (fun e => by cases e), Nat.le_succ n⟩ (hk.below (below_on B2.out (Nat.le_refl _) hW)) (hs.below (below_on B2.out (Nat.le_refl _) hW)) (by omega)))
  have C2 := Lib.hid (fun (W : World) (hW : Below w2.heap.size w2 W) => later (v' := sv M) hW (by rw [eM]) (refLeaf_any A n c xs W (hc.below (below_on B2.out (Nat.le_refl _) hW)) (by omega)))
  have C3 := Lib.hid (fun (W : World) (hW : Below w2.heap.size w2 W) => later (v' := sv N) hW (by rw [eN]) (node_any l r W hl hr ll lr (hk.below (below_on B2.out (Nat.le_refl _) hW)) (hs.below (below_on B2.out (Nat.le_refl _) hW))))
  have C4 := Lib.hid (fun (W : World) (hW : Below w2.heap.size w2 W) => later (v' := sv N) hW (by rw [eN]) (refNode_any l r W hl hr ll lr))
  have C5 := Lib.hid (fun (W : World) (hW : Below w2.heap.size w2 W) => later (v' := sv R) hW (by rw [eR]) (root_any (some ad2) m c2 ys W (T2.out.2.2.below hW).in_ hb.lt (by have := T2.out.2.2.cap; omega) (by omega) (hk.below (below_on B2.out (Nat.le_refl _) hW)) (hs.below (below_on B2.out (Nat.le_refl _) hW))))
  have C6 := Lib.hid (fun (W : World) (hW : Below w2.heap.size w2 W) => later (v' := sv R) hW (by rw [eR]) (refRoot_any m B d ys W (hb.in_.below (below_on B2.out (Nat.le_refl _) hW)) hb.lt hb.cap (by omega)))
  have C7 := Lib.hid (fun (W : World) (hW : Below w2.heap.size w2 W) => leftBytes_yes A w0.heap.size n c xs W (T2.out.1.below hW) ((hc.below (below_on B2.out (Nat.le_refl _) hW)).in_) (by omega))
  have C8 := Lib.hid (fun (W : World) (hW : Below w2.heap.size w2 W) => later (v' := .bool true) hW rfl (leftSums_yes B ad2 m c2 d ys W (T2.out.2.2.below hW) (hb.in_.below (below_on B2.out (Nat.le_refl _) hW)) (by omega)))
  have AL := Lib.hid (fun (W : World) (hW : Below w2.heap.size w2 W) => at_left (T2.out.2.1.below hW).at_)
  have AR := Lib.hid (fun (W : World) (hW : Below w2.heap.size w2 W) => at_right hl (T2.out.2.1.below hW).at_)
  have qM := run_eql_sum M M hM hM
  have qN := run_eql_sum N N hN hN
  have qR := run_eql_sum R R hR hR
  rw [decide_eq_true rfl] at qM qN qR
  have q2 := run_guard_eql
  have HL := Lib.hid (And.intro hl hr)
  clear hM hN hR eM eN eR t2 T2 hl hr ll lr hc hb hk hs
  refine wp_region_quiet (C := fun w' => Below w2.heap.size w2 w') (by kernel_rfl) (by kernel_rfl) ((Below.refl _ _).drew) ?_
  refine wpQuiet_step (fun K hK => ?_); go_simp; refine ⟨_, fun _ _ => rfl, hK _ ?_⟩; clear hK K
  refine wpQuiet_step (fun K hK => ?_); go_simp; refine ⟨sv M, fun W hW => C1.out W hW, hK _ ?_⟩; clear hK K
  refine wpQuiet_step (fun K hK => ?_); go_simp; refine ⟨_, fun _ _ => rfl, hK _ ?_⟩; clear hK K
  refine wpQuiet_step (fun K hK => ?_); go_simp; refine ⟨sv M, fun W hW => C2.out W hW, hK _ ?_⟩; clear hK K
  iterate 2 (refine wpQuiet_step (fun K hK => ?_); go_simp; refine ⟨_, fun _ _ => rfl, hK _ ?_⟩; clear hK K)
  iterate 1 (refine wpQuiet_step (fun K hK => ?_); go_simp; refine ⟨_, fun _ _ => rfl, hK _ ?_⟩; clear hK K)
  refine wpQuiet_step (fun K hK => ?_)
  refine quiet_load_sum' rfl (.tmp 27) rfl ⟨w.heap.size, 0, none⟩ rfl l HL.out.1 (fun W hW => AL.out W hW) ?_
  go_simp
  refine hK _ ?_
  clear hK K
  iterate 1 (refine wpQuiet_step (fun K hK => ?_); go_simp; refine ⟨_, fun _ _ => rfl, hK _ ?_⟩; clear hK K)
  refine wpQuiet_step (fun K hK => ?_)
  refine quiet_load_sum' rfl (.tmp 29) rfl ⟨w.heap.size, 32, none⟩ rfl r HL.out.2 (fun W hW => AR.out W hW) ?_
  go_simp
  refine hK _ ?_
  clear hK K
  refine wpQuiet_step (fun K hK => ?_); go_simp; refine ⟨sv N, fun W hW => C3.out W hW, hK _ ?_⟩; clear hK K
  iterate 1 (refine wpQuiet_step (fun K hK => ?_); go_simp; refine ⟨_, fun _ _ => rfl, hK _ ?_⟩; clear hK K)
  refine wpQuiet_step (fun K hK => ?_)
  refine quiet_load_sum' rfl (.tmp 32) rfl ⟨w.heap.size, 0, none⟩ rfl l HL.out.1 (fun W hW => AL.out W hW) ?_
  go_simp
  refine hK _ ?_
  clear hK K
  iterate 1 (refine wpQuiet_step (fun K hK => ?_); go_simp; refine ⟨_, fun _ _ => rfl, hK _ ?_⟩; clear hK K)
  refine wpQuiet_step (fun K hK => ?_)
  refine quiet_load_sum' rfl (.tmp 34) rfl ⟨w.heap.size, 32, none⟩ rfl r HL.out.2 (fun W hW => AR.out W hW) ?_
  go_simp
  refine hK _ ?_
  clear hK K
  refine wpQuiet_step (fun K hK => ?_); go_simp; refine ⟨sv N, fun W hW => C4.out W hW, hK _ ?_⟩; clear hK K
  iterate 4 (refine wpQuiet_step (fun K hK => ?_); go_simp; refine ⟨_, fun _ _ => rfl, hK _ ?_⟩; clear hK K)
  refine wpQuiet_step (fun K hK => ?_); go_simp; refine ⟨sv R, fun W hW => C5.out W hW, hK _ ?_⟩; clear hK K
  iterate 1 (refine wpQuiet_step (fun K hK => ?_); go_simp; refine ⟨_, fun _ _ => rfl, hK _ ?_⟩; clear hK K)
  refine wpQuiet_step (fun K hK => ?_); go_simp; refine ⟨sv R, fun W hW => C6.out W hW, hK _ ?_⟩; clear hK K
  iterate 5 (refine wpQuiet_step (fun K hK => ?_); go_simp; refine ⟨_, fun _ _ => rfl, hK _ ?_⟩; clear hK K)
  refine wpQuiet_step (fun K hK => ?_)
  go_simp
  refine ⟨.bool true, fun W hC => (C7.out W hC).mono fun e w'' ⟨he, q, hq⟩ => ⟨he, ?_⟩, hK _ ?_⟩
  · rw [hq]; exact ⟨hC.os, hC.tape, hC.output, hC.size, hC.block⟩
  clear hK K
  iterate 4 (refine wpQuiet_step (fun K hK => ?_); go_simp; refine ⟨_, fun _ _ => rfl, hK _ ?_⟩; clear hK K)
  refine wpQuiet_step (fun K hK => ?_); go_simp; refine ⟨.bool true, fun W hW => C8.out W hW, hK _ ?_⟩; clear hK K
  iterate 2 (refine wpQuiet_step (fun K hK => ?_); go_simp; refine ⟨_, fun _ _ => rfl, hK _ ?_⟩; clear hK K)
  refine wpQuiet_nil ?_
  intro w8 hb8
  go_wp2
  go_ret
  exact ⟨rfl, below_on B2.out (Nat.le_refl _) hb8⟩

set_option maxRecDepth 100000 in
set_option maxHeartbeats 4000000 in
theorem of_else (w : World) (A : Option Addr) (n c : Nat) (z : List Nat) (B : Option Addr) (m d : Nat) (h : 20000 < n ∨ 100 < m) :
    Calls Tryd.prog 3 #[.slice A n c, .agg (bvs z).toArray, .slice B m d] w fun e w' => e = .returned (.bool true) ∧ Below w.heap.size w w' := by
  have b1 := below_alloc w (.cells (bvs z).toArray 25)
  obtain ⟨w1, hw1⟩ : ∃ w1, w1 = w.alloc (.cells (bvs z).toArray 25) := ⟨_, rfl⟩
  rw [← hw1] at b1
  have HW := Lib.hid (And.intro b1 hw1)
  clear b1 hw1
  by_cases hn : 20000 < n
  · have hi : decide ((20000 : Int) < (n : Int)) = true := by simp; omega
    go_enter Tryd.func3, Tryd.ntmps3
    go_wp2_with fail
    rw [← HW.out.2]
    go_ret
    exact ⟨rfl, HW.out.1⟩
  · have hi : decide ((20000 : Int) < (n : Int)) = false := by simp; omega
    have hj : decide ((100 : Int) < (m : Int)) = true := by simp; omega
    go_enter Tryd.func3, Tryd.ntmps3
    go_wp2_with fail
    rw [← HW.out.2]
    go_ret
    exact ⟨rfl, HW.out.1⟩

theorem leavesOf_law (w : World) (hk : Knows w) (hs : Starts w) {A : Option Addr} {n c : Nat} {xs : List Nat} {l r : List Nat} {B : Option Addr} {m d : Nat} {ys : List Nat} (hc : Came w A n c xs) (hl : l.length = 32) (hr : r.length = 32) (ll : ∀ x ∈ l, x < 256) (lr : ∀ x ∈ r, x < 256) (hb : CameS w B m d ys) :
    Calls Tryd.prog 3 #[.slice A n c, .agg (bvs (l ++ r)).toArray, .slice B m d] w fun e w' => e = .returned (.bool true) ∧ Below w.heap.size w w' := by
  by_cases h : 20000 < n ∨ 100 < m
  · exact of_else w A n c (l ++ r) B m d h
  · exact of_some w hk hs A n c xs l r B m d ys hc hl hr ll lr hb (by omega) (by omega)

end Go.Proofs.YtigmbiigaiajdaaDoor
