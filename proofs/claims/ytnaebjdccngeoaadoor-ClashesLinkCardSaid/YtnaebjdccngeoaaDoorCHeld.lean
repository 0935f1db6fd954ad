/-
  clashes.held: the sums of both, or both are a clash.
-/
import Derived.Test.YtnaebjdccngeoaaDoorCTold
import Derived.Test.YtnaebjdccngeoaaDoorCPair
namespace Go.Proofs.YtnaebjdccngeoaaDoor
open Go.RowKit

section
variable {base : Nat} {w : World} {A B : Option Addr} {n c m d : Nat} {xs ys : List Nat}

set_option maxRecDepth 100000 in
set_option maxHeartbeats 2000000 in
theorem held_any (h : Two base w A n c xs B m d ys) (hbase : base ≤ w.heap.size) (hk : Knows w) (hks : Starts w) :
    Calls Tryd.prog 89 #[.slice A n c, .slice B m d] w fun e w' => Told base (sv (sha xs ++ sha ys)) (Same xs ys) e w' ∧ Below w.heap.size w w' := by
  have b1 := below_alloc w (.cells (bvs zero64).toArray 63)
  have f1 := BArr.new w 63 zero64
  have e0 : (bvs zero64).toArray = #[.int .u8 0, .int .u8 0, .int .u8 0, .int .u8 0, .int .u8 0, .int .u8 0, .int .u8 0, .int .u8 0, .int .u8 0, .int .u8 0, .int .u8 0, .int .u8 0, .int .u8 0, .int .u8 0, .int .u8 0, .int .u8 0, .int .u8 0, .int .u8 0, .int .u8 0, .int .u8 0, .int .u8 0, .int .u8 0, .int .u8 0, .int .u8 0, .int .u8 0, .int .u8 0, .int .u8 0, .int .u8 0, .int .u8 0, .int .u8 0, .int .u8 0, .int .u8 0, .int .u8 0, .int .u8 0, .int .u8 0, .int .u8 0, .int .u8 0, .int .u8 0, .int .u8 0, .int .u8 0, .int .u8 0, .int .u8 0, .int .u8 0, .int .u8 0, .int .u8 0, .int .u8 0, .int .u8 0, .int .u8 0, .int .u8 0, .int .u8 0, .int .u8 0, .int .u8 0, .int .u8 0, .int .u8 0, .int .u8 0, .int .u8 0, .int .u8 0, .int .u8 0, .int .u8 0, .int .u8 0, .int .u8 0, .int .u8 0, .int .u8 0, .int .u8 0] := rfl
  rw [e0] at b1 f1
  obtain ⟨w1, hw1⟩ : ∃ w1, w1 = w.alloc (.cells #[.int .u8 0, .int .u8 0, .int .u8 0, .int .u8 0, .int .u8 0, .int .u8 0, .int .u8 0, .int .u8 0, .int .u8 0, .int .u8 0, .int .u8 0, .int .u8 0, .int .u8 0, .int .u8 0, .int .u8 0, .int .u8 0, .int .u8 0, .int .u8 0, .int .u8 0, .int .u8 0, .int .u8 0, .int .u8 0, .int .u8 0, .int .u8 0, .int .u8 0, .int .u8 0, .int .u8 0, .int .u8 0, .int .u8 0, .int .u8 0, .int .u8 0, .int .u8 0, .int .u8 0, .int .u8 0, .int .u8 0, .int .u8 0, .int .u8 0, .int .u8 0, .int .u8 0, .int .u8 0, .int .u8 0, .int .u8 0, .int .u8 0, .int .u8 0, .int .u8 0, .int .u8 0, .int .u8 0, .int .u8 0, .int .u8 0, .int .u8 0, .int .u8 0, .int .u8 0, .int .u8 0, .int .u8 0, .int .u8 0, .int .u8 0, .int .u8 0, .int .u8 0, .int .u8 0, .int .u8 0, .int .u8 0, .int .u8 0, .int .u8 0, .int .u8 0] 63) := ⟨_, rfl⟩
  rw [← hw1] at b1 f1
  have HW := Lib.hid hw1
  have H1 := Lib.hid (And.intro b1 f1)
  have HK := Lib.hid (And.intro h (And.intro hbase (And.intro hk hks)))
  obtain ⟨s, hs⟩ : ∃ s, sha xs = s := ⟨_, rfl⟩
  obtain ⟨t, ht⟩ : ∃ t, sha ys = t := ⟨_, rfl⟩
  have sl : s.length = 32 := by rw [← hs]; exact sha_length _
  have tl : t.length = 32 := by rw [← ht]; exact sha_length _
  have stl : (s ++ t).length = 64 := by rw [List.length_append, sl, tl]
  have CA := Lib.hid (fun (W : World) (hW : Below w.heap.size w W) => later (v' := sv s) (Below.refl _ W) (by rw [hs]) (of_any A n c xs W (In.of_own (HK.out.1.below hW).a) HK.out.1.lta (own_cap HK.out.1.a) (HK.out.2.2.1.below hW) (HK.out.2.2.2.below hW) (by have := HK.out.1.na; omega)))
  have CB := Lib.hid (fun (W : World) (hW : Below w.heap.size w W) => later (v' := sv t) (Below.refl _ W) (by rw [ht]) (of_any B m d ys W (In.of_own (HK.out.1.below hW).b) HK.out.1.ltb (own_cap HK.out.1.b) (HK.out.2.2.1.below hW) (HK.out.2.2.2.below hW) (by have := HK.out.1.nb; omega)))
  rw [hs, ht]
  clear hw1 b1 f1 e0 h hbase hk hks hs ht
  go_enter Tryd.func89, Tryd.ntmps89
  go_upto_region 1 with fail
  rw [← HW.out]
  go_upto_region 2 with fail
  have b2 := below_alloc w1 (.cells #[.slice A n c, .slice B m d] 30)
  have c2 := Cells.new w1 30 #[.slice A n c, .slice B m d]
  obtain ⟨w2, hw2⟩ : ∃ w2, w2 = w1.alloc (.cells #[.slice A n c, .slice B m d] 30) := ⟨_, rfl⟩
  rw [← hw2] at b2 c2 ⊢
  have b02 := below_on H1.out.1 (Nat.le_refl _) b2
  have T2 := HK.out.1.below b02
  have CI := Lib.hid (is_any (came_own T2.a T2.lta) (came_own T2.b T2.ltb) (by have := T2.na; omega) (by have := T2.nb; omega) (HK.out.2.2.1.below b02) (HK.out.2.2.2.below b02))
  have x0 := c2.cell 0 (v := .slice A n c) rfl
  have x1 := c2.cell 1 (v := .slice B m d) rfl
  have H2 := Lib.hid (And.intro b02 (And.intro c2 (H1.out.2.below b2)))
  clear hw2 b2 c2 b02 T2 H1
  obtain ⟨b, hb⟩ : ∃ b, isC xs ys = b := ⟨_, rfl⟩
  rw [hb] at CI
  have HB := Lib.hid hb
  clear hb
  obtain ⟨g2, hg2⟩ : ∃ g, w1.heap.size = g := ⟨_, rfl⟩
  rw [hg2] at x0 x1 H2 ⊢
  clear hg2
  unfold clv at CI
  go_wp2_with fail
  refine CI.out.mono ?_
  rintro e w3 ⟨rfl, hb3⟩
  have y0 := (hb3.cell (World.block_lt_of_cell? w2 _ x0)).trans x0
  have y1 := (hb3.cell (World.block_lt_of_cell? w2 _ x1)).trans x1
  have H3 := Lib.hid (And.intro (below_on H2.out.1 (Nat.le_refl _) hb3) (H2.out.2.2.below hb3))
  clear x0 x1 hb3 CI H2
  cases b with
  | true =>
    go_wp2_with fail
    exact ⟨rfl, .inr ⟨_, rfl, A, n, c, xs, B, m, d, ys, rfl, HK.out.1.below H3.out.1, isC_true.1 HB.out⟩, H3.out.1⟩
  | false =>
    clear y0 y1
    have C1 := Lib.hid (CA.out w3 H3.out.1)
    go_upto_region 4 with fail
    go_wp2_with fail
    refine C1.out.mono ?_
    rintro e w4 ⟨rfl, hb4⟩
    have C2 := Lib.hid (CB.out w4 (below_on H3.out.1 (Nat.le_refl _) hb4))
    have f4b := Lib.hid hb4
    have f4 := Lib.hid (below_on H3.out.1 (Nat.le_refl _) hb4)
    clear C1 hb4
    go_wp2_with fail
    refine C2.out.mono ?_
    rintro e w5 ⟨rfl, hb5⟩
    have f5 := (H3.out.2.below f4b.out).below hb5
    have HB5 := Lib.hid (below_on f4.out (Nat.le_refl _) hb5)
    clear hb5 C2
    have HZ64 : zero64.length = 64 := rfl
    go_upto_region 5 with (first
      | (with_reducible refine wpList_build_pairC rfl (.tmp 14) (.tmp 16) rfl s t rfl rfl sl tl ?_)
      | (with_reducible refine wpList_store_pairC rfl (.tmp 4) (.tmp 17) rfl w.heap.size rfl zero64 (s ++ t) HZ64 stl f5 rfl ?_))
    refine bodyPost_ret_by (results_cell_row (p := 4) (ty := 63) (by kernel_rfl) _ _ w.heap.size 63 (bvs (s ++ t)).toArray (0, 0) _ rfl (f5.setRow _) Tryd.underlying63 rfl (by rw [List.size_toArray, bvs_length, stl]; exact sizePairC)) rfl ?_
    exact ⟨.inl ⟨rfl, isC_false HB.out⟩, below_setRow HB5.out (Nat.le_refl _) _⟩
end

end Go.Proofs.YtnaebjdccngeoaaDoor
