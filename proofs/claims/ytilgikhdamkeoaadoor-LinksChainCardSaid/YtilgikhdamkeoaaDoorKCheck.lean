/-
  links.Check.
-/
import Derived.Test.YtilgikhdamkeoaaDoorKEnds
import Derived.Test.YtilgikhdamkeoaaDoorKIs
namespace Go.Proofs.YtilgikhdamkeoaaDoor
open Go.RowKit

theorem wpList_load_pair_g {ops : Array Oper} {rest : List Oper} {o : Oper} {a : Act} {w : World} {Q : Exit → Act → World → Prop} (hw : Region.wanted o (yielded ops a.tmps) = true) (x : Operand) (ho : o.op = .load 46 x)
    (ad : Addr) (hx : a.eval x = .pointer (some ad)) (s : List Nat) (hl : s.length = 64) (hc : At w ad s)
    (h : wpList Tryd.prog ops Q rest (a.put o.dst (sv s)) w) : wpList Tryd.prog ops Q (o :: rest) a w := by
  refine wpList_step fun K hK => ?_
  rw [if_pos hw]
  unfold Oper.wp execOp
  simp only [ho, hx, Instr.loadAt, Instr.sureAddr, Sem.run_bind, Sem.run_pure, Result.andThen_ok, run_load_pair w ad s hl hc]
  exact hK _ _ h
theorem wpList_build_pair_g {ops : Array Oper} {rest : List Oper} {o : Oper} {a : Act} {w : World} {Q : Exit → Act → World → Prop} (hw : Region.wanted o (yielded ops a.tmps) = true) (u v : Operand) (ho : o.op = .build 46 #[(0, u), (1, v)])
    (x y : List Nat) (hu : a.eval u = sv x) (hv : a.eval v = sv y) (hx : x.length = 32) (hy : y.length = 32)
    (h : wpList Tryd.prog ops Q rest (a.put o.dst (sv (x ++ y))) w) : wpList Tryd.prog ops Q (o :: rest) a w := by
  refine wpList_step fun K hK => ?_
  rw [if_pos hw]
  unfold Oper.wp
  rw [run_build_op u v ho x y hu hv hx hy]
  exact hK _ _ h

/-- The world in which Check begins. -/
structure KCheckIn (w w1 : World) (a b : List Nat) : Prop where
  old : BArr w1 w.heap.size 24 a
  new : BArr w1 (w.heap.size + 1) 24 b
  below : Below w.heap.size w w1
  size : w1.heap.size = w.heap.size + 2
theorem kcheckIn_of (w : World) (a b : List Nat) : KCheckIn w ((w.alloc (.cells (bvs a).toArray 24)).alloc (.cells (bvs b).toArray 24)) a b := by
  have f0 := (BArr.new w 24 a).alloc (.cells (bvs b).toArray 24)
  have f1 := BArr.new (w.alloc (.cells (bvs a).toArray 24)) 24 b
  rw [World.size_alloc] at f1
  exact ⟨f0, f1, (below_alloc w _).alloc (by simp) _, by simp⟩

section
variable {w : World} {n c : Nat} {A : Option Addr} {ys a b : List Nat} {E : Addr} {from_ size : Nat}

set_option maxRecDepth 100000 in
set_option maxHeartbeats 2000000 in
theorem kcheck_far (hge : ¬ (1 ≤ from_ ∧ from_ ≤ size)) :
    Calls Tryd.prog 10 #[.int .u64 (from_ : Int), .int .u64 (size : Int), sv a, sv b, .slice A n c] w fun e w' => e = .returned (.bool false) ∧ Below w.heap.size w w' := by
  have H1 := Lib.hid (kcheckIn_of w a b)
  unfold sv
  by_cases h1 : from_ < 1
  · have hi : (from_ : Int) < 1 := by omega
    go_enter Tryd.func10, Tryd.ntmps10
    go_wp2_with fail
    go_ret
    exact ⟨rfl, H1.out.below⟩
  · have hi : ¬ (from_ : Int) < 1 := by omega
    have hd : decide ((from_ : Int) < 1) = false := by simp; omega
    have hj : (size : Int) < (from_ : Int) := by omega
    go_enter Tryd.func10, Tryd.ntmps10
    go_wp2_with fail
    go_ret
    exact ⟨rfl, H1.out.below⟩

set_option maxRecDepth 100000 in
set_option maxHeartbeats 2000000 in
theorem kcheck_no (hl : a.length = 32) (h1 : 1 ≤ from_) (hlt : from_ ≤ size) (hm : Miss w E)
    (ce : ∀ w' : World, Below w.heap.size w w' → ∃ P Q : List Nat, ∃ m : Nat, P.length = 32 ∧ Q.length = 32 ∧ Calls Tryd.prog 18 #[.int .u64 (from_ : Int), .int .u64 (size : Int), sv a, .slice A n c] w' fun e w'' => e = .returned (.tuple #[sv (P ++ Q), .int .i64 (m : Int), missV E]) ∧ Below w'.heap.size w' w'') :
    Calls Tryd.prog 10 #[.int .u64 (from_ : Int), .int .u64 (size : Int), sv a, sv b, .slice A n c] w fun e w' => e = .returned (.bool false) ∧ Below w.heap.size w w' := by
  obtain ⟨w1, hw1⟩ : ∃ w1, w1 = (w.alloc (.cells (bvs a).toArray 24)).alloc (.cells (bvs b).toArray 24) := ⟨_, rfl⟩
  have k1 := kcheckIn_of w a b
  rw [← hw1] at k1
  have H1 := Lib.hid k1
  have HW := Lib.hid hw1
  obtain ⟨P, Q, m, hPl, hQl, ce1⟩ := ce w1 k1.below
  have CE := Lib.hid ce1
  have hi : ¬ (from_ : Int) < 1 := by omega
  have hd : decide ((from_ : Int) < 1) = false := by simp; omega
  have hj : ¬ (size : Int) < (from_ : Int) := by omega
  have hA := Lib.hid k1.old.at_
  have hPQ : (P ++ Q).length = 64 := by rw [List.length_append]; omega
  have HM := Lib.hid hm
  have mv : missV E = .iface 98 (.pointer (some E)) := rfl
  clear k1 hw1 ce ce1 hlt hm h1
  unfold sv
  go_enter Tryd.func10, Tryd.ntmps10
  go_upto_region 1 with fail
  rw [← HW.out]
  go_wp2_with (with_reducible refine wpList_load_sum rfl (.tmp 7) rfl ⟨w.heap.size, 0, none⟩ rfl a hl hA.out ?_)
  refine CE.out.mono ?_
  rintro e w2 ⟨rfl, hb2⟩
  rw [mv]
  have m2 := (HM.out.below H1.out.below).below hb2
  unfold Miss at m2
  rw [mv] at m2
  have B2 := Lib.hid (below_on H1.out.below (Nat.le_refl _) hb2)
  have b3 := below_alloc w2 (.cells (bvs (P ++ Q)).toArray 46)
  have m3 := (b3.cell (World.block_lt_of_cell? w2 _ m2)).trans m2
  have HB3 := Lib.hid b3
  clear m2 hb2 b3 mv
  go_upto_region 4 with (with_reducible refine wpList_store_newP w2 _ rfl rfl (.tmp 11) (.tmp 27) rfl rfl (P ++ Q) hPQ rfl ?_)
  obtain ⟨w3, hw3⟩ : ∃ w3, w3 = w2.alloc (.cells (bvs (P ++ Q)).toArray 46) := ⟨_, rfl⟩
  rw [← hw3] at m3 HB3 ⊢
  clear hw3
  go_wp2_with fail
  refine (is_same E w3).mono ?_
  rintro e w4 ⟨rfl, rfl⟩
  go_wp2_with fail
  go_ret
  exact ⟨rfl, below_on B2.out (Nat.le_refl _) HB3.out⟩

set_option maxRecDepth 100000 in
set_option maxHeartbeats 4000000 in
theorem kcheck_at {P Q : List Nat} {m : Nat} (z : Bool) (hmz : ((m : Int) == 0) = z) (hPl : P.length = 32) (hQl : Q.length = 32) (hl : a.length = 32) (hbl : b.length = 32) (h1 : 1 ≤ from_) (hlt : from_ ≤ size) (hm : Miss w E)
    (ce : ∀ w' : World, Below w.heap.size w w' → Calls Tryd.prog 18 #[.int .u64 (from_ : Int), .int .u64 (size : Int), sv a, .slice A n c] w' fun e w'' => e = .returned (.tuple #[sv (P ++ Q), .int .i64 (m : Int), .nilIface]) ∧ Below w'.heap.size w' w'') :
    Calls Tryd.prog 10 #[.int .u64 (from_ : Int), .int .u64 (size : Int), sv a, sv b, .slice A n c] w fun e w' => e = .returned (.bool (z && (decide (P = a) && decide (Q = b)))) ∧ Below w.heap.size w w' := by
  obtain ⟨w1, hw1⟩ : ∃ w1, w1 = (w.alloc (.cells (bvs a).toArray 24)).alloc (.cells (bvs b).toArray 24) := ⟨_, rfl⟩
  have k1 := kcheckIn_of w a b
  rw [← hw1] at k1
  have H1 := Lib.hid k1
  have HW := Lib.hid hw1
  have CE := Lib.hid (ce w1 k1.below)
  have hi : ¬ (from_ : Int) < 1 := by omega
  have hd : decide ((from_ : Int) < 1) = false := by simp; omega
  have hj : ¬ (size : Int) < (from_ : Int) := by omega
  have hA := Lib.hid k1.old.at_
  have hPQ : (P ++ Q).length = 64 := by rw [List.length_append]; omega
  have HM := Lib.hid hm
  have HZ := Lib.hid hmz
  have mv : missV E = .iface 98 (.pointer (some E)) := rfl
  have q1 := run_eql_pair P Q a b hPl hQl hl hbl
  have q2 := fun x y => run_guard_pair x y (P ++ Q) (a ++ b)
  clear k1 hw1 ce hlt hm h1 hmz
  unfold sv
  go_enter Tryd.func10, Tryd.ntmps10
  go_upto_region 1 with fail
  rw [← HW.out]
  go_wp2_with (with_reducible refine wpList_load_sum rfl (.tmp 7) rfl ⟨w.heap.size, 0, none⟩ rfl a hl hA.out ?_)
  refine CE.out.mono ?_
  rintro e w2 ⟨rfl, hb2⟩
  have m2 := (HM.out.below H1.out.below).below hb2
  unfold Miss at m2
  rw [mv] at m2
  have B2 := Lib.hid (below_on H1.out.below (Nat.le_refl _) hb2)
  have b3 := below_alloc w2 (.cells (bvs (P ++ Q)).toArray 46)
  have g3 := BArr.new w2 46 (P ++ Q)
  have m3 := (b3.cell (World.block_lt_of_cell? w2 _ m2)).trans m2
  have O3 := Lib.hid ((H1.out.old.below hb2).below b3).at_
  have N3 := Lib.hid ((H1.out.new.below hb2).below b3).at_
  have HB3 := Lib.hid b3
  have HG3 := Lib.hid g3.at_
  clear m2 hb2 b3 mv g3
  go_upto_region 4 with (with_reducible refine wpList_store_newP w2 _ rfl rfl (.tmp 11) (.tmp 27) rfl rfl (P ++ Q) hPQ rfl ?_)
  obtain ⟨w3, hw3⟩ : ∃ w3, w3 = w2.alloc (.cells (bvs (P ++ Q)).toArray 46) := ⟨_, rfl⟩
  rw [← hw3] at m3 HB3 O3 N3 HG3 ⊢
  clear hw3
  go_wp2_with fail
  refine (is_nil E w3).mono ?_
  rintro e w4 ⟨rfl, rfl⟩
  have hmz := HZ.out
  cases z
  · go_wp2_with fail
    go_ret
    exact ⟨rfl, below_on B2.out (Nat.le_refl _) HB3.out⟩
  · go_upto_region 6 with fail
    refine wp_region_lit ?_
    refine wpList_plain rfl fun K hK => ?_
    go_simp
    refine hK _ _ ?_
    clear hK K
    refine wpList_plain rfl fun K hK => ?_
    go_simp
    refine hK _ _ ?_
    clear hK K
    refine wpList_plain rfl fun K hK => ?_
    go_simp
    refine hK _ _ ?_
    clear hK K
    refine wpList_load_pair_g rfl (.tmp 11) rfl ⟨w2.heap.size, 0, none⟩ rfl (P ++ Q) hPQ HG3.out ?_
    refine wpList_load_sum_g rfl (.tmp 7) rfl ⟨w.heap.size, 0, none⟩ rfl a hl O3.out ?_
    refine wpList_load_sum_g rfl (.tmp 8) rfl ⟨w.heap.size + 1, 0, none⟩ rfl b hbl N3.out ?_
    refine wpList_build_pair_g rfl (.tmp 37) (.tmp 38) rfl a b rfl rfl hl hbl ?_
    simp only [Act.put, List.setIfInBounds_toArray, List.set_cons_zero, List.set_cons_succ]
    go_wp2_with fail
    go_ret
    exact ⟨rfl, below_on B2.out (Nat.le_refl _) HB3.out⟩

/-- Whether a tree of so many leaves begins another one, by that link. -/
def begins (ys a b : List Nat) (n from_ size : Nat) : Bool := decide (1 ≤ from_ ∧ from_ ≤ size) && (decide (ldep from_ size true = n) && (decide ((linkF (nth ys) a from_ size true 0).1 = a) && decide ((linkF (nth ys) a from_ size true 0).2 = b)))

theorem kcheck_any (hin : InS w A n ys) (hy : ∀ x ∈ ys, x < 256) (hc : n ≤ c) (hn : n ≤ 1000000) (hal : a.length = 32) (hab : ∀ x ∈ a, x < 256) (hbl : b.length = 32) (hz : size < 18446744073709551616) (hk : Knows w) (hs : Starts w) (hm : Miss w E) :
    Calls Tryd.prog 10 #[.int .u64 (from_ : Int), .int .u64 (size : Int), sv a, sv b, .slice A n c] w fun e w' => e = .returned (.bool (begins ys a b n from_ size)) ∧ Below w.heap.size w w' := by
  unfold begins
  by_cases hat : 1 ≤ from_ ∧ from_ ≤ size
  · rw [decide_eq_true hat, Bool.true_and]
    by_cases hd : ldep from_ size true ≤ n
    · have L := linkF_len (a := a) (j := 0) (edge := true) hin.len hal (size := size) (from_ := from_) (by omega)
      exact kcheck_at _ (by
          by_cases he : ldep from_ size true = n
          · simp [he]
          · have : ¬ n - ldep from_ size true = 0 := by omega
            simp [he]; omega) L.1 L.2 hal hbl hat.1 hat.2 hm fun w' hb' => kends_yes hn (hin.below hb') hy hc hal hab (hk.below hb') (hs.below hb') (hm.below hb') hat.1 hat.2 hz hd
    · rw [decide_eq_false (p := ldep from_ size true = n) (by omega), Bool.false_and]
      exact kcheck_no hal hat.1 hat.2 hm fun w' hb' => kends_no hn (hin.below hb') hy hc hal hab (hk.below hb') (hs.below hb') (hm.below hb') hat.1 hat.2 hz (by omega)
  · rw [decide_eq_false hat, Bool.false_and]
    exact kcheck_far hat
end

end Go.Proofs.YtilgikhdamkeoaaDoor
