/-
  almonerlaw10.PathsBack: a leaf that has a path.
-/
import Derived.Test.YtppfdpnplemfkaaDoorWBackTools
namespace Go.Proofs.YtppfdpnplemfkaaDoor
open Go.RowKit

section
variable {w : World} {ys s : List Nat} {z n c : Nat} {A : Option Addr}

set_option maxRecDepth 100000 in
set_option maxHeartbeats 8000000 in
theorem back_some (hk : Knows w) (hs : Starts w) (cm : CameS w A n c ys) (hz : z < 256) (hsl : s.length = 32) (hsb : ∀ x ∈ s, x < 256) (h0 : 0 < n) (hn : n ≤ 150) (hdd : 0 < dep (z % n) n) :
    Calls Tryd.prog 3 #[.slice A n c, .int .u8 (z : Int), .agg (bvs s).toArray] w fun e w' => e = .returned (.bool true) ∧ Below w.heap.size w w' := by
  obtain ⟨w1, hw1⟩ : ∃ w1, w1 = w.alloc (.cells (bvs s).toArray 24) := ⟨_, rfl⟩
  have b1 : Below w.heap.size w w1 := by rw [hw1]; exact below_alloc _ _
  have g1 : BArr w1 w.heap.size 24 s := by rw [hw1]; exact BArr.new _ _ _
  have HW := Lib.hid hw1
  obtain ⟨k, hk0⟩ : ∃ k, z % n = k := ⟨_, rfl⟩
  have hkn : k < n := by rw [← hk0]; exact Nat.mod_lt _ h0
  have ht : Int.tmod (z : Int) (n : Int) = (k : Int) := by rw [Int.tmod_eq_emod_of_nonneg (by omega), ← hk0]; rfl
  rw [hk0] at hdd
  obtain ⟨d, hd0⟩ : ∃ d, dep k n = d := ⟨_, rfl⟩
  rw [hd0] at hdd
  have hdl : d ≤ bl (n - 1) := by rw [← hd0]; exact dep_le n k hkn
  have hd64 : d ≤ 64 := by rw [← hd0]; exact dep_64 hkn (by omega)
  obtain ⟨ad, hA⟩ := cm.in_.some_ h0
  subst hA
  have C4 := pof_yes (w := w1) (at_ := k) (cm.in_.below b1) cm.lt cm.cap (by omega) hkn (hk.below b1) (hs.below b1)
  obtain ⟨P, hP⟩ : ∃ P, (pathL (nth ys) 0 n k).flatten = P := ⟨_, rfl⟩
  obtain ⟨R, hR⟩ : ∃ R, rt (nth ys) 0 n = R := ⟨_, rfl⟩
  have hRl : R.length = 32 := by rw [← hR]; exact rt_length _ 0 n fun j hj => by rw [Nat.zero_add]; exact nth_length cm.in_.len hj
  have hin := path_in cm.in_.len hkn hd0
  rw [hP, hR] at hin
  rw [hP, hd0] at C4
  have hPb : ∀ x ∈ P, x < 256 := by
    rw [← hP]
    intro x hx
    obtain ⟨q, hq, hxq⟩ := List.mem_flatten.1 hx
    exact pathL_of (P := fun q => ∀ x ∈ q, x < 256) (nth ys) n 0 k (fun i m => rt_lt _ i m fun _ _ => nth_lt cm.lt _) q hq x hxq
  have hKl : (nth ys k).length = 32 := nth_length cm.in_.len hkn
  have hKb : ∀ x ∈ nth ys k, x < 256 := nth_lt cm.lt k
  obtain ⟨Y, hY⟩ : ∃ Y, nth ys k = Y := ⟨_, rfl⟩
  rw [hY] at hin hKl hKb
  have HAt := Lib.hid (fun (W : World) (hW : Below w.heap.size w W) => show At W (ad.add (k * 32)) Y from by
    obtain ⟨ad', e, _, h⟩ := (cm.in_.below hW).at_ hkn
    cases e
    rw [hY] at h
    exact h)
  have CR := Lib.hid (fun (W : World) (hW : Below w.heap.size w W) => (root_any (some ad) n c ys W (cm.in_.below hW) cm.lt cm.cap (by omega) (hk.below hW) (hs.below hW)).mono (R' := fun e w' => e = .returned (sv R) ∧ Below W.heap.size W w') fun e w' ⟨he, hb⟩ => ⟨by rw [he, hR], hb⟩)
  have nf := fun (m : Nat) (hm : m ≠ d) (P' : List Nat) => path_not (n := n) (k := k) P' Y R hd0 hm
  have CK := Lib.hid (fun (W : World) (B : Option Addr) (cB m : Nat) (P' : List Nat) (hW : Below w.heap.size w W) (hi : InS W B m P') (hp : ∀ x ∈ P', x < 256) (hc : m ≤ cB) (hm : m ≤ 1000) => check_any (w := W) (A := B) (c := cB) (n := m) (ys := P') (leaf := Y) (root := R) (at_ := k) (size := n) hi hp hc (by omega) hKl hKb hRl (by omega) (hk.below hW) (hs.below hW))
  have CA := Lib.hid (fun (W : World) (hW : Below w.heap.size w W) => walive_any W (hk.below hW) (hs.below hW))
  have HH := Lib.hid (And.intro b1 (And.intro g1 (And.intro hin (And.intro hPb (And.intro hd0 hP)))))
  have HC4 := Lib.hid C4
  have HN := Lib.hid (And.intro h0 (And.intro hn (And.intro hkn (And.intro hdl (And.intro hd64 hdd)))))
  have HNF := Lib.hid nf
  have HSB := Lib.hid (And.intro hsl hsb)
  have n0 : ((n : Int) == 0) = false := by simp; omega
  have n1 : ¬ (150 : Int) < (n : Int) := by omega
  have nz : ¬ (n : Int) = 0 := by omega
  have hkb : (k : Int) < (n : Int) := by omega
  have hkn0 : (0 : Int) ≤ (k : Int) := by omega
  have nsub : (n : Int) - 1 = ((n - 1 : Nat) : Int) := by omega
  have wk : IntKind.u64.wrap (k : Int) = (k : Int) := by rw [IntKind.wrap_u64]; omega
  have wn : IntKind.u64.wrap (n : Int) = (n : Int) := by rw [IntKind.wrap_u64]; omega
  have HKL := Lib.hid hKl
  have HRL := Lib.hid hRl
  have wz : IntKind.i64.wrap (z : Int) = (z : Int) := by rw [IntKind.wrap_i64]; omega
  clear hw1 b1 g1 cm hz hsl hsb h0 hn hdd hkn hdl hd64 C4 hP hR hin hPb hKb hY nf hd0 hk hs hKl hRl hk0
  go_enter Tryd.func3, Tryd.ntmps3
  go_upto_region 1 with fail
  rw [← HW.out]
  go_wp2_with fail
  refine HC4.out.mono ?_
  rintro e w2 ⟨A3, c3, rfl, ho2, hb2⟩
  have B2 := Lib.hid (below_on HH.out.1 (Nat.le_refl _) hb2)
  have P2 := Lib.hid (And.intro (InS.of_own ho2) (And.intro (own_nil ho2) (own_cap ho2)))
  have S2 := Lib.hid (HH.out.2.1.below hb2)
  clear ho2 hb2
  go_wp2_with fail
  refine (CR.out w2 B2.out).mono ?_
  rintro e w3 ⟨rfl, hb3⟩
  have hRl := HRL.out
  go_upto_region 6 with (with_reducible refine wpList_store_new w3 _ rfl rfl (.tmp 10) (.tmp 34) rfl rfl R hRl rfl ?_)
  have b4 := below_alloc w3 (.cells (bvs R).toArray 24)
  have g4 := BArr.new w3 24 R
  obtain ⟨w4, hw4⟩ : ∃ w4, w4 = w3.alloc (.cells (bvs R).toArray 24) := ⟨_, rfl⟩
  rw [← hw4] at b4 g4 ⊢
  have b34 := below_on hb3 (Nat.le_refl _) b4
  have F4 := Lib.hid (And.intro (below_on B2.out (Nat.le_refl _) b34) (And.intro (P2.out.1.below b34) (And.intro (S2.out.below b34) g4)))
  clear hw4 b4 g4 b34 hb3 B2 S2
  obtain ⟨rb, hrb⟩ : ∃ rb, w3.heap.size = rb := ⟨_, rfl⟩
  rw [hrb] at F4 ⊢
  clear hrb
  obtain ⟨sb, hsb0⟩ : ∃ sb, w.heap.size = sb := ⟨_, rfl⟩
  have HSb := Lib.hid hsb0
  have FS := Lib.hid (show BArr w4 sb 24 s from by rw [← hsb0]; exact F4.out.2.2.1)
  go_wp2_with fail
  go_loopw [11, 12] (fun x y wr => ∃ b m : Nat, x = .int .i64 (b : Int) ∧ y = .int .i64 (m : Int) ∧ b + bl m = bl (n - 1) ∧ m ≤ n - 1 ∧ wr = w4) (fun _ y _ => (intOf y).toNat)
  case atStart => exact ⟨0, n - 1, rfl, rfl, Nat.zero_add _, Nat.le_refl _, rfl⟩
  case round =>
    obtain ⟨b, m, rfl, rfl, hbm, hmn, hwr⟩ := hrel
    rw [hwr]
    clear hwr
    have HBM := Lib.hid hbm
    by_cases hm : 0 < m
    · have hmi : (0 : Int) < (m : Int) := by omega
      have hq2 : Int.tdiv (m : Int) 2 = ((m / 2 : Nat) : Int) := by rw [Int.tdiv_eq_ediv_of_nonneg (by omega)]; omega
      have hb9 : b ≤ 1000000 := by have := bl_le (x := n - 1) (e := 8) (by have := HN.out; omega); omega
      clear hbm
      go_wp2_with fail
      go_roundw
      case rel =>
        refine ⟨b + 1, m / 2, by go_num, by go_num, ?_, by omega, by first | rfl | trivial⟩
        have := bl_half hm
        have := HBM.out
        omega
      case measure => simp [intOf]; omega
    · obtain rfl : m = 0 := by omega
      have hdb : ¬ (b : Int) < (d : Int) := by have := HN.out; rw [bl_zero] at hbm; omega
      clear hbm hm hmn
      obtain ⟨ad3, hA3⟩ := F4.out.2.1.some_ HN.out.2.2.2.2.2
      subst hA3
      obtain ⟨e1, he1⟩ : ∃ e1, d - 1 = e1 := ⟨_, rfl⟩
      have dsub : (d : Int) - 1 = (e1 : Int) := by have := HN.out; omega
      have hcut9 := run_take_sums (ad := ad3) (n := d) (c := c3) (k := e1) (by omega) P2.out.2.2
      have hdz : ((d : Int) == 0) = false := by have := HN.out; simp; omega
      have CK1 := Lib.hid (fun (W : World) (hW : Below w4.heap.size w4 W) => show Calls Tryd.prog 9 #[sv Y, .int .u64 (k : Int), .int .u64 (n : Int), .slice (some ad3) d c3, sv R] W fun e w' => e = .returned (.bool true) ∧ Below w4.heap.size w4 w' from later hW (by rw [HH.out.2.2.1]) (CK.out W (some ad3) c3 d P (below_on F4.out.1 (Nat.le_refl _) hW) (F4.out.2.1.below hW) HH.out.2.2.2.1 P2.out.2.2 (by have := HN.out; omega)))
      have CK2 := Lib.hid (fun (W : World) (B : Option Addr) (cB : Nat) (P' : List Nat) (hW : Below w4.heap.size w4 W) (hi : InS W B (d + 1) P') (hp : ∀ x ∈ P', x < 256) (hc : d + 1 ≤ cB) => show Calls Tryd.prog 9 #[sv Y, .int .u64 (k : Int), .int .u64 (n : Int), .slice B (d + 1) cB, sv R] W fun e w' => e = .returned (.bool false) ∧ Below w4.heap.size w4 w' from later hW (by rw [HNF.out (d + 1) (by omega) P']) (CK.out W B cB (d + 1) P' (below_on F4.out.1 (Nat.le_refl _) hW) hi hp hc (by have := HN.out; omega)))
      have KR := Lib.hid (fun (W : World) (hW : Below w4.heap.size w4 W) => (F4.out.2.2.2.below hW).at_)
      have KS := Lib.hid (fun (W : World) (hW : Below w4.heap.size w4 W) => (FS.out.below hW).at_)
      have KY := Lib.hid (fun (W : World) (hW : Below w4.heap.size w4 W) => HAt.out W (below_on F4.out.1 (Nat.le_refl _) hW))
      have hKl := HKL.out
      have hsl := HSB.out.1
      have PI := Lib.hid F4.out.2.1
      have hd9 : 0 + d ≤ 1000000000 := by have := HN.out; omega
      have hd10 : d + 1 ≤ 1000000000 := by have := HN.out; omega
      have PBY := Lib.hid (fun x (hx : x ∈ P ++ s) => show x < 256 from by rcases List.mem_append.1 hx with h | h; exact HH.out.2.2.2.1 x h; exact HSB.out.2 x h)
      go_upto_region 11 with fail
      try rw [HSb.out]
      go_cut [84] from 44 to 84 (fun x wx => x = .bool false ∧ Below w4.heap.size w4 wx)
      case first =>
        refine wp_region_held_drew (S := fun W => Below w4.heap.size w4 W) (by kernel_rfl) ((Below.refl _ _).drew) (fun hT0 => ?_)
        change wpAnyH _ _ _ _ _ _ _ _ w4.drew
        refine' wpAnyH_take (i := 0) (oi := _) (v := _) ?hip0 (by kernel_rfl) ?hfp0 ?hrp0 ?hQp0 ?hyp0 hT0 ?restp0
        case hip0 => (simp only [List.getElem?_toArray, List.getElem?_cons_zero]; rfl)
        case hfp0 => kernel_rfl
        case hrp0 => kernel_rfl
        case hQp0 => exact fun _ _ _ h => h
        case hyp0 => refine Or.inl ⟨by rfl, ?_⟩; intro W hSw; go_simp; try with_reducible rfl
        try simp only [Act.put, List.setIfInBounds_toArray, List.set_cons_zero, List.set_cons_succ]
        refine' wpAnyH_take (i := 1) (oi := _) (v := _) ?hip1 (by kernel_rfl) ?hfp1 ?hrp1 ?hQp1 ?hyp1 hT0 ?restp1
        case hip1 => (simp only [List.getElem?_toArray, List.getElem?_cons_zero, List.getElem?_cons_succ]; rfl)
        case hfp1 => kernel_rfl
        case hrp1 => kernel_rfl
        case hQp1 => exact fun _ _ _ h => h
        case hyp1 => refine Or.inl ⟨by rfl, ?_⟩; intro W hSw; go_simp; try with_reducible rfl
        try simp only [Act.put, List.setIfInBounds_toArray, List.set_cons_zero, List.set_cons_succ]
        refine' wpAnyH_take (i := 2) (oi := _) (v := _) ?hip2 (by kernel_rfl) ?hfp2 ?hrp2 ?hQp2 ?hyp2 hT0 ?restp2
        case hip2 => (simp only [List.getElem?_toArray, List.getElem?_cons_zero, List.getElem?_cons_succ]; rfl)
        case hfp2 => kernel_rfl
        case hrp2 => kernel_rfl
        case hQp2 => exact fun _ _ _ h => h
        case hyp2 => refine Or.inl ⟨by rfl, ?_⟩; intro W hSw; go_simp; try with_reducible rfl
        try simp only [Act.put, List.setIfInBounds_toArray, List.set_cons_zero, List.set_cons_succ]
        refine' wpAnyH_take (i := 3) (oi := _) (v := _) ?hip3 (by kernel_rfl) ?hfp3 ?hrp3 ?hQp3 ?hyp3 hT0 ?restp3
        case hip3 => (simp only [List.getElem?_toArray, List.getElem?_cons_zero, List.getElem?_cons_succ]; rfl)
        case hfp3 => kernel_rfl
        case hrp3 => kernel_rfl
        case hQp3 => exact fun _ _ _ h => h
        case hyp3 => refine Or.inl ⟨by rfl, ?_⟩; intro W hSw; go_simp; try with_reducible rfl
        try simp only [Act.put, List.setIfInBounds_toArray, List.set_cons_zero, List.set_cons_succ]
        refine' wpAnyH_take (i := 4) (oi := _) (v := _) ?hip4 (by kernel_rfl) ?hfp4 ?hrp4 ?hQp4 ?hyp4 hT0 ?restp4
        case hip4 => (simp only [List.getElem?_toArray, List.getElem?_cons_zero, List.getElem?_cons_succ]; rfl)
        case hfp4 => kernel_rfl
        case hrp4 => kernel_rfl
        case hQp4 => exact fun _ _ _ h => h
        case hyp4 => refine Or.inl ⟨by rfl, ?_⟩; intro W hSw; go_simp; try with_reducible rfl
        try simp only [Act.put, List.setIfInBounds_toArray, List.set_cons_zero, List.set_cons_succ]
        refine' wpAnyH_take (i := 5) (oi := _) (v := _) ?hip5 (by kernel_rfl) ?hfp5 ?hrp5 ?hQp5 ?hyp5 hT0 ?restp5
        case hip5 => (simp only [List.getElem?_toArray, List.getElem?_cons_zero, List.getElem?_cons_succ]; rfl)
        case hfp5 => kernel_rfl
        case hrp5 => kernel_rfl
        case hQp5 => exact fun _ _ _ h => h
        case hyp5 => refine Or.inl ⟨by rfl, ?_⟩; intro W hSw; go_simp; try with_reducible rfl
        try simp only [Act.put, List.setIfInBounds_toArray, List.set_cons_zero, List.set_cons_succ]
        refine' wpAnyH_take (i := 6) (oi := _) (v := _) ?hip6 (by kernel_rfl) ?hfp6 ?hrp6 ?hQp6 ?hyp6 hT0 ?restp6
        case hip6 => (simp only [List.getElem?_toArray, List.getElem?_cons_zero, List.getElem?_cons_succ]; rfl)
        case hfp6 => kernel_rfl
        case hrp6 => kernel_rfl
        case hQp6 => exact fun _ _ _ h => h
        case hyp6 => refine Or.inl ⟨by rfl, ?_⟩; intro W hSw; go_simp; try with_reducible rfl
        try simp only [Act.put, List.setIfInBounds_toArray, List.set_cons_zero, List.set_cons_succ]
        refine' wpAnyH_take (i := 7) (oi := _) (v := _) ?hip7 (by kernel_rfl) ?hfp7 ?hrp7 ?hQp7 ?hyp7 hT0 ?restp7
        case hip7 => (simp only [List.getElem?_toArray, List.getElem?_cons_zero, List.getElem?_cons_succ]; rfl)
        case hfp7 => kernel_rfl
        case hrp7 => kernel_rfl
        case hQp7 => exact fun _ _ _ h => h
        case hyp7 => refine Or.inl ⟨by rfl, ?_⟩; intro W hSw; go_simp; try with_reducible rfl
        try simp only [Act.put, List.setIfInBounds_toArray, List.set_cons_zero, List.set_cons_succ]
        refine' wpAnyH_take (i := 8) (oi := _) (v := _) ?hip8 (by kernel_rfl) ?hfp8 ?hrp8 ?hQp8 ?hyp8 hT0 ?restp8
        case hip8 => (simp only [List.getElem?_toArray, List.getElem?_cons_zero, List.getElem?_cons_succ]; rfl)
        case hfp8 => kernel_rfl
        case hrp8 => kernel_rfl
        case hQp8 => exact fun _ _ _ h => h
        case hyp8 => refine Or.inl ⟨by rfl, ?_⟩; intro W hSw; go_simp; try with_reducible rfl
        try simp only [Act.put, List.setIfInBounds_toArray, List.set_cons_zero, List.set_cons_succ]
        refine' wpAnyH_take (i := 9) (oi := _) (v := _) ?hip9 (by kernel_rfl) ?hfp9 ?hrp9 ?hQp9 ?hyp9 hT0 ?restp9
        case hip9 => (simp only [List.getElem?_toArray, List.getElem?_cons_zero, List.getElem?_cons_succ]; rfl)
        case hfp9 => kernel_rfl
        case hrp9 => kernel_rfl
        case hQp9 => exact fun _ _ _ h => h
        case hyp9 => refine Or.inl ⟨by rfl, ?_⟩; intro W hSw; go_simp; try with_reducible rfl
        try simp only [Act.put, List.setIfInBounds_toArray, List.set_cons_zero, List.set_cons_succ]
        refine' wpAnyH_take (i := 10) (oi := _) (v := _) ?hip10 (by kernel_rfl) ?hfp10 ?hrp10 ?hQp10 ?hyp10 hT0 ?restp10
        case hip10 => (simp only [List.getElem?_toArray, List.getElem?_cons_zero, List.getElem?_cons_succ]; rfl)
        case hfp10 => kernel_rfl
        case hrp10 => kernel_rfl
        case hQp10 => exact fun _ _ _ h => h
        case hyp10 => refine Or.inl ⟨by rfl, ?_⟩; intro W hSw; go_simp; try with_reducible rfl
        try simp only [Act.put, List.setIfInBounds_toArray, List.set_cons_zero, List.set_cons_succ]
        refine' wpAnyH_take (i := 11) (oi := _) (v := _) ?hip11 (by kernel_rfl) ?hfp11 ?hrp11 ?hQp11 ?hyp11 hT0 ?restp11
        case hip11 => (simp only [List.getElem?_toArray, List.getElem?_cons_zero, List.getElem?_cons_succ]; rfl)
        case hfp11 => kernel_rfl
        case hrp11 => kernel_rfl
        case hQp11 => exact fun _ _ _ h => h
        case hyp11 => refine Or.inl ⟨by rfl, ?_⟩; intro W hSw; go_simp; try with_reducible rfl
        try simp only [Act.put, List.setIfInBounds_toArray, List.set_cons_zero, List.set_cons_succ]
        refine' wpAnyH_take (i := 12) (oi := _) (v := sv Y) ?hip12 (by kernel_rfl) ?hfp12 ?hrp12 ?hQp12 ?hyp12 hT0 ?restp12
        case hip12 => (simp only [List.getElem?_toArray, List.getElem?_cons_zero, List.getElem?_cons_succ]; rfl)
        case hfp12 => kernel_rfl
        case hrp12 => kernel_rfl
        case hQp12 => exact fun _ _ _ h => h
        case hyp12 => exact yields_sum (by rfl) (.tmp 55) (by rfl) _ (by rfl) Y hKl (fun W hSw => (KY.out W hSw))
        try simp only [Act.put, List.setIfInBounds_toArray, List.set_cons_zero, List.set_cons_succ]
        refine' wpAnyH_take (i := 13) (oi := _) (v := _) ?hip13 (by kernel_rfl) ?hfp13 ?hrp13 ?hQp13 ?hyp13 hT0 ?restp13
        case hip13 => (simp only [List.getElem?_toArray, List.getElem?_cons_zero, List.getElem?_cons_succ]; rfl)
        case hfp13 => kernel_rfl
        case hrp13 => kernel_rfl
        case hQp13 => exact fun _ _ _ h => h
        case hyp13 => refine Or.inl ⟨by rfl, ?_⟩; intro W hSw; go_simp; try with_reducible rfl
        try simp only [Act.put, List.setIfInBounds_toArray, List.set_cons_zero, List.set_cons_succ]
        refine' wpAnyH_take (i := 14) (oi := _) (v := _) ?hip14 (by kernel_rfl) ?hfp14 ?hrp14 ?hQp14 ?hyp14 hT0 ?restp14
        case hip14 => (simp only [List.getElem?_toArray, List.getElem?_cons_zero, List.getElem?_cons_succ]; rfl)
        case hfp14 => kernel_rfl
        case hrp14 => kernel_rfl
        case hQp14 => exact fun _ _ _ h => h
        case hyp14 => refine Or.inl ⟨by rfl, ?_⟩; intro W hSw; go_simp; try with_reducible rfl
        try simp only [Act.put, List.setIfInBounds_toArray, List.set_cons_zero, List.set_cons_succ]
        refine' wpAnyH_take (i := 15) (oi := _) (v := _) ?hip15 (by kernel_rfl) ?hfp15 ?hrp15 ?hQp15 ?hyp15 hT0 ?restp15
        case hip15 => (simp only [List.getElem?_toArray, List.getElem?_cons_zero, List.getElem?_cons_succ]; rfl)
        case hfp15 => kernel_rfl
        case hrp15 => kernel_rfl
        case hQp15 => exact fun _ _ _ h => h
        case hyp15 => refine Or.inl ⟨by rfl, ?_⟩; intro W hSw; go_simp; try with_reducible rfl
        try simp only [Act.put, List.setIfInBounds_toArray, List.set_cons_zero, List.set_cons_succ]
        refine' wpAnyH_take (i := 16) (oi := _) (v := _) ?hip16 (by kernel_rfl) ?hfp16 ?hrp16 ?hQp16 ?hyp16 hT0 ?restp16
        case hip16 => (simp only [List.getElem?_toArray, List.getElem?_cons_zero, List.getElem?_cons_succ]; rfl)
        case hfp16 => kernel_rfl
        case hrp16 => kernel_rfl
        case hQp16 => exact fun _ _ _ h => h
        case hyp16 => refine Or.inl ⟨by rfl, ?_⟩; intro W hSw; go_simp; try with_reducible rfl
        try simp only [Act.put, List.setIfInBounds_toArray, List.set_cons_zero, List.set_cons_succ]
        refine' wpAnyH_take (i := 17) (oi := _) (v := _) ?hip17 (by kernel_rfl) ?hfp17 ?hrp17 ?hQp17 ?hyp17 hT0 ?restp17
        case hip17 => (simp only [List.getElem?_toArray, List.getElem?_cons_zero, List.getElem?_cons_succ]; rfl)
        case hfp17 => kernel_rfl
        case hrp17 => kernel_rfl
        case hQp17 => exact fun _ _ _ h => h
        case hyp17 => refine Or.inl ⟨by rfl, ?_⟩; intro W hSw; go_simp; try with_reducible rfl
        try simp only [Act.put, List.setIfInBounds_toArray, List.set_cons_zero, List.set_cons_succ]
        refine' wpAnyH_take (i := 18) (oi := _) (v := _) ?hip18 (by kernel_rfl) ?hfp18 ?hrp18 ?hQp18 ?hyp18 hT0 ?restp18
        case hip18 => (simp only [List.getElem?_toArray, List.getElem?_cons_zero, List.getElem?_cons_succ]; rfl)
        case hfp18 => kernel_rfl
        case hrp18 => kernel_rfl
        case hQp18 => exact fun _ _ _ h => h
        case hyp18 => refine Or.inl ⟨by rfl, ?_⟩; intro W hSw; go_simp; try with_reducible rfl
        try simp only [Act.put, List.setIfInBounds_toArray, List.set_cons_zero, List.set_cons_succ]
        refine' wpAnyH_take (i := 19) (oi := _) (v := sv (R)) ?hip19 (by kernel_rfl) ?hfp19 ?hrp19 ?hQp19 ?hyp19 hT0 ?restp19
        case hip19 => (simp only [List.getElem?_toArray, List.getElem?_cons_zero, List.getElem?_cons_succ]; rfl)
        case hfp19 => kernel_rfl
        case hrp19 => kernel_rfl
        case hQp19 => exact fun _ _ _ h => h
        case hyp19 => refine yields_sum ?_ (.tmp 10) rfl ⟨rb, 0, none⟩ rfl R hRl (fun W hSw => (KR.out W hSw)); rfl
        try simp only [Act.put, List.setIfInBounds_toArray, List.set_cons_zero, List.set_cons_succ]
        refine wpAnyH_ready (rs := [20]) (by kernel_rfl) (by simp) ?_
        refine' AllReadyH.cons (o := _) ?hip20 (fun K hK => ?_) AllReadyH.nil
        case hip20 => (simp only [List.getElem?_toArray, List.getElem?_cons_zero, List.getElem?_cons_succ]; rfl)
        go_simp
        go_at_call 9
        refine (CK1.out _ hT0).mono ?_
        rintro e Wp2 ⟨rfl, hBp1⟩
        refine hK.out _ _ hBp1 (fun _ => ?_)
        clear hK K
        try simp only [Act.put, List.setIfInBounds_toArray, List.set_cons_zero, List.set_cons_succ]
        refine' wpAnyH_take (i := 21) (oi := _) (v := _) ?hip21 (by kernel_rfl) ?hfp21 ?hrp21 ?hQp21 ?hyp21 hBp1 ?restp21
        case hip21 => (simp only [List.getElem?_toArray, List.getElem?_cons_zero, List.getElem?_cons_succ]; rfl)
        case hfp21 => kernel_rfl
        case hrp21 => kernel_rfl
        case hQp21 => exact fun _ _ _ h => h
        case hyp21 => refine Or.inl ⟨by rfl, ?_⟩; intro W hSw; go_simp; try with_reducible rfl
        try simp only [Act.put, List.setIfInBounds_toArray, List.set_cons_zero, List.set_cons_succ]
        refine' wpAnyH_take (i := 22) (oi := _) (v := _) ?hip22 (by kernel_rfl) ?hfp22 ?hrp22 ?hQp22 ?hyp22 hBp1 ?restp22
        case hip22 => (simp only [List.getElem?_toArray, List.getElem?_cons_zero, List.getElem?_cons_succ]; rfl)
        case hfp22 => kernel_rfl
        case hrp22 => kernel_rfl
        case hQp22 => exact fun _ _ _ h => h
        case hyp22 => refine Or.inl ⟨by rfl, ?_⟩; intro W hSw; go_simp; try with_reducible rfl
        try simp only [Act.put, List.setIfInBounds_toArray, List.set_cons_zero, List.set_cons_succ]
        refine' wpAnyH_take (i := 23) (oi := _) (v := _) ?hip23 (by kernel_rfl) ?hfp23 ?hrp23 ?hQp23 ?hyp23 hBp1 ?restp23
        case hip23 => (simp only [List.getElem?_toArray, List.getElem?_cons_zero, List.getElem?_cons_succ]; rfl)
        case hfp23 => kernel_rfl
        case hrp23 => kernel_rfl
        case hQp23 => exact fun _ _ _ h => h
        case hyp23 => refine Or.inl ⟨by rfl, ?_⟩; intro W hSw; go_simp; try with_reducible rfl
        try simp only [Act.put, List.setIfInBounds_toArray, List.set_cons_zero, List.set_cons_succ]
        refine' wpAnyH_take (i := 24) (oi := _) (v := _) ?hip24 (by kernel_rfl) ?hfp24 ?hrp24 ?hQp24 ?hyp24 hBp1 ?restp24
        case hip24 => (simp only [List.getElem?_toArray, List.getElem?_cons_zero, List.getElem?_cons_succ]; rfl)
        case hfp24 => kernel_rfl
        case hrp24 => kernel_rfl
        case hQp24 => exact fun _ _ _ h => h
        case hyp24 => refine Or.inl ⟨by rfl, ?_⟩; intro W hSw; go_simp; try with_reducible rfl
        try simp only [Act.put, List.setIfInBounds_toArray, List.set_cons_zero, List.set_cons_succ]
        refine' wpAnyH_take (i := 25) (oi := _) (v := _) ?hip25 (by kernel_rfl) ?hfp25 ?hrp25 ?hQp25 ?hyp25 hBp1 ?restp25
        case hip25 => (simp only [List.getElem?_toArray, List.getElem?_cons_zero, List.getElem?_cons_succ]; rfl)
        case hfp25 => kernel_rfl
        case hrp25 => kernel_rfl
        case hQp25 => exact fun _ _ _ h => h
        case hyp25 => refine Or.inl ⟨by rfl, ?_⟩; intro W hSw; go_simp; try with_reducible rfl
        try simp only [Act.put, List.setIfInBounds_toArray, List.set_cons_zero, List.set_cons_succ]
        refine' wpAnyH_take (i := 26) (oi := _) (v := _) ?hip26 (by kernel_rfl) ?hfp26 ?hrp26 ?hQp26 ?hyp26 hBp1 ?restp26
        case hip26 => (simp only [List.getElem?_toArray, List.getElem?_cons_zero, List.getElem?_cons_succ]; rfl)
        case hfp26 => kernel_rfl
        case hrp26 => kernel_rfl
        case hQp26 => exact fun _ _ _ h => h
        case hyp26 => refine Or.inl ⟨by rfl, ?_⟩; intro W hSw; go_simp; try with_reducible rfl
        try simp only [Act.put, List.setIfInBounds_toArray, List.set_cons_zero, List.set_cons_succ]
        refine' wpAnyH_take (i := 27) (oi := _) (v := sv Y) ?hip27 (by kernel_rfl) ?hfp27 ?hrp27 ?hQp27 ?hyp27 hBp1 ?restp27
        case hip27 => (simp only [List.getElem?_toArray, List.getElem?_cons_zero, List.getElem?_cons_succ]; rfl)
        case hfp27 => kernel_rfl
        case hrp27 => kernel_rfl
        case hQp27 => exact fun _ _ _ h => h
        case hyp27 => exact yields_sum (by rfl) (.tmp 70) (by rfl) _ (by rfl) Y hKl (fun W hSw => (KY.out W hSw))
        try simp only [Act.put, List.setIfInBounds_toArray, List.set_cons_zero, List.set_cons_succ]
        refine' wpAnyH_take (i := 28) (oi := _) (v := _) ?hip28 (by kernel_rfl) ?hfp28 ?hrp28 ?hQp28 ?hyp28 hBp1 ?restp28
        case hip28 => (simp only [List.getElem?_toArray, List.getElem?_cons_zero, List.getElem?_cons_succ]; rfl)
        case hfp28 => kernel_rfl
        case hrp28 => kernel_rfl
        case hQp28 => exact fun _ _ _ h => h
        case hyp28 => refine Or.inl ⟨by rfl, ?_⟩; intro W hSw; go_simp; try with_reducible rfl
        try simp only [Act.put, List.setIfInBounds_toArray, List.set_cons_zero, List.set_cons_succ]
        refine' wpAnyH_take (i := 29) (oi := _) (v := _) ?hip29 (by kernel_rfl) ?hfp29 ?hrp29 ?hQp29 ?hyp29 hBp1 ?restp29
        case hip29 => (simp only [List.getElem?_toArray, List.getElem?_cons_zero, List.getElem?_cons_succ]; rfl)
        case hfp29 => kernel_rfl
        case hrp29 => kernel_rfl
        case hQp29 => exact fun _ _ _ h => h
        case hyp29 => refine Or.inl ⟨by rfl, ?_⟩; intro W hSw; go_simp; try with_reducible rfl
        try simp only [Act.put, List.setIfInBounds_toArray, List.set_cons_zero, List.set_cons_succ]
        refine' wpAnyH_take (i := 30) (oi := _) (v := _) ?hip30 (by kernel_rfl) ?hfp30 ?hrp30 ?hQp30 ?hyp30 hBp1 ?restp30
        case hip30 => (simp only [List.getElem?_toArray, List.getElem?_cons_zero, List.getElem?_cons_succ]; rfl)
        case hfp30 => kernel_rfl
        case hrp30 => kernel_rfl
        case hQp30 => exact fun _ _ _ h => h
        case hyp30 => refine Or.inl ⟨by rfl, ?_⟩; intro W hSw; go_simp; try with_reducible rfl
        try simp only [Act.put, List.setIfInBounds_toArray, List.set_cons_zero, List.set_cons_succ]
        refine' wpAnyH_take (i := 31) (oi := _) (v := _) ?hip31 (by kernel_rfl) ?hfp31 ?hrp31 ?hQp31 ?hyp31 hBp1 ?restp31
        case hip31 => (simp only [List.getElem?_toArray, List.getElem?_cons_zero, List.getElem?_cons_succ]; rfl)
        case hfp31 => kernel_rfl
        case hrp31 => kernel_rfl
        case hQp31 => exact fun _ _ _ h => h
        case hyp31 => refine Or.inl ⟨by rfl, ?_⟩; intro W hSw; go_simp; try with_reducible rfl
        try simp only [Act.put, List.setIfInBounds_toArray, List.set_cons_zero, List.set_cons_succ]
        refine' wpAnyH_take (i := 32) (oi := _) (v := _) ?hip32 (by kernel_rfl) ?hfp32 ?hrp32 ?hQp32 ?hyp32 hBp1 ?restp32
        case hip32 => (simp only [List.getElem?_toArray, List.getElem?_cons_zero, List.getElem?_cons_succ]; rfl)
        case hfp32 => kernel_rfl
        case hrp32 => kernel_rfl
        case hQp32 => exact fun _ _ _ h => h
        case hyp32 => refine Or.inl ⟨by rfl, ?_⟩; intro W hSw; go_simp; try with_reducible rfl
        try simp only [Act.put, List.setIfInBounds_toArray, List.set_cons_zero, List.set_cons_succ]
        refine' wpAnyH_take (i := 33) (oi := _) (v := _) ?hip33 (by kernel_rfl) ?hfp33 ?hrp33 ?hQp33 ?hyp33 hBp1 ?restp33
        case hip33 => (simp only [List.getElem?_toArray, List.getElem?_cons_zero, List.getElem?_cons_succ]; rfl)
        case hfp33 => kernel_rfl
        case hrp33 => kernel_rfl
        case hQp33 => exact fun _ _ _ h => h
        case hyp33 => refine Or.inl ⟨by rfl, ?_⟩; intro W hSw; go_simp; try with_reducible rfl
        try simp only [Act.put, List.setIfInBounds_toArray, List.set_cons_zero, List.set_cons_succ]
        refine' wpAnyH_take (i := 35) (oi := _) (v := sv (s)) ?hip35 (by kernel_rfl) ?hfp35 ?hrp35 ?hQp35 ?hyp35 hBp1 ?restp35
        case hip35 => (simp only [List.getElem?_toArray, List.getElem?_cons_zero, List.getElem?_cons_succ]; rfl)
        case hfp35 => kernel_rfl
        case hrp35 => kernel_rfl
        case hQp35 => exact fun _ _ _ h => h
        case hyp35 => refine yields_sum ?_ (.tmp 5) rfl ⟨sb, 0, none⟩ rfl s hsl (fun W hSw => (KS.out W hSw)); rfl
        try simp only [Act.put, List.setIfInBounds_toArray, List.set_cons_zero, List.set_cons_succ]
        refine' wpAnyH_take (i := 38) (oi := _) (v := sv (R)) ?hip38 (by kernel_rfl) ?hfp38 ?hrp38 ?hQp38 ?hyp38 hBp1 ?restp38
        case hip38 => (simp only [List.getElem?_toArray, List.getElem?_cons_zero, List.getElem?_cons_succ]; rfl)
        case hfp38 => kernel_rfl
        case hrp38 => kernel_rfl
        case hQp38 => exact fun _ _ _ h => h
        case hyp38 => refine yields_sum ?_ (.tmp 10) rfl ⟨rb, 0, none⟩ rfl R hRl (fun W hSw => (KR.out W hSw)); rfl
        try simp only [Act.put, List.setIfInBounds_toArray, List.set_cons_zero, List.set_cons_succ]
        refine wpAnyH_ready (rs := [34, 36]) (by kernel_rfl) (by simp) ?_
        refine' AllReadyH.cons (o := _) ?hiy34 (fun K hK => ?_) (AllReadyH.cons (o := _) ?hiy36 (fun K hK => ?_) AllReadyH.nil)
        case hiy34 => (simp only [List.getElem?_toArray, List.getElem?_cons_zero, List.getElem?_cons_succ]; rfl)
        case hiy36 => (simp only [List.getElem?_toArray, List.getElem?_cons_zero, List.getElem?_cons_succ]; rfl)
        · skip
          refine step_sapp (K := K) (by rfl) _ _ (by rfl) Wp2.heap.size none 0 0 [] (by rfl) (own_none Wp2 _ 24 32) (some ad3) d c3 P (by rfl) (PI.out.below hBp1) P2.out.2.1 hd9 (Nat.le_refl _) ?_
          intro A5 c5 w5 o5 nx5
          have hBa51 : Below w4.heap.size w4 w5 := nx5.below (own_none Wp2 Wp2.heap.size 24 32) hBp1 hBp1.size hBp1.size
          rw [Nat.zero_add, List.nil_append] at o5
          rw [Nat.zero_add]
          refine hK.out _ _ hBa51 (fun _ => ?_)
          clear hK K
          try simp only [Act.put, List.setIfInBounds_toArray, List.set_cons_zero, List.set_cons_succ]
          refine wpAnyH_ready (rs := [36]) (by kernel_rfl) (by simp) ?_
          refine' AllReadyH.cons (o := _) ?hia36 (fun K hK => ?_) AllReadyH.nil
          case hia36 => (simp only [List.getElem?_toArray, List.getElem?_cons_zero, List.getElem?_cons_succ]; rfl)
          rw [if_pos (by rfl)]
          refine wp_sums _ [s] 1 rfl rfl (by simp <;> rfl) (by intro q hq; simp at hq; rw [hq]; exact hsl) (by omega) (by omega) ?_
          rw [show [s].flatten = s by simp]
          have hBa52 := Below.alloc hBa51 (Below.size hBa51) (.cells (bvs s).toArray 24)
          have iL : InS (w5.alloc (.cells (bvs s).toArray 24)) (some ⟨w5.heap.size, 0, none⟩) 1 s := InS.of_own (own_sum w5 s 0 hsl (Nat.zero_le _))
          have o5 := own_on o5 (below_alloc w5 (.cells (bvs s).toArray 24))
          have hq9 := (nx5.below (own_none Wp2 Wp2.heap.size 24 32) (Below.refl Wp2.heap.size Wp2) (Nat.le_refl _) (Nat.le_refl _)).alloc (nx5.below (own_none Wp2 Wp2.heap.size 24 32) (Below.refl Wp2.heap.size Wp2) (Nat.le_refl _) (Nat.le_refl _)).size (.cells (bvs s).toArray 24)
          refine hK.out _ _ hBa52 (fun _ => ?_)
          clear hK K
          try simp only [Act.put, List.setIfInBounds_toArray, List.set_cons_zero, List.set_cons_succ]
          refine wpAnyH_ready (rs := [37]) (by kernel_rfl) (by simp) ?_
          refine' AllReadyH.cons (o := _) ?hia37 (fun K hK => ?_) AllReadyH.nil
          case hia37 => (simp only [List.getElem?_toArray, List.getElem?_cons_zero, List.getElem?_cons_succ]; rfl)
          refine step_sapp (K := K) (by rfl) _ _ (by rfl) Wp2.heap.size A5 d c5 P (by rfl) o5 (some ⟨w5.heap.size, 0, none⟩) 1 1 s (by rfl) iL (fun e => by cases e) hd10 (by first | exact Nat.le_refl _ | exact Below.size hq9) ?_
          intro A6 c6 w6 o6 nx6
          have hBa53 : Below w4.heap.size w4 w6 := nx6.below o5 hBa52 (Below.size hBp1) (Below.size hBa52)
          refine hK.out _ _ hBa53 (fun _ => ?_)
          clear hK K
          try simp only [Act.put, List.setIfInBounds_toArray, List.set_cons_zero, List.set_cons_succ]
          refine wpAnyH_ready (rs := [39]) (by kernel_rfl) (by simp) ?_
          refine' AllReadyH.cons (o := _) ?hia39 (fun K hK => ?_) AllReadyH.nil
          case hia39 => (simp only [List.getElem?_toArray, List.getElem?_cons_zero, List.getElem?_cons_succ]; rfl)
          go_simp
          go_at_call 9
          refine (CK2.out _ A6 c6 (P ++ s) hBa53 (InS.of_own o6) PBY.out (own_cap o6)).mono ?_
          rintro e W9 ⟨rfl, hBa54⟩
          refine hK.out _ _ hBa54 (fun _ => ?_)
          clear hK K
          try simp only [Act.put, List.setIfInBounds_toArray, List.set_cons_zero, List.set_cons_succ]
          refine' wpAnyH_take (i := 40) (oi := _) (v := _) ?hia40 (by kernel_rfl) ?hfa40 ?hra40 ?hQa40 ?hya40 hBa54 ?resta40
          case hia40 => (simp only [List.getElem?_toArray, List.getElem?_cons_zero, List.getElem?_cons_succ]; rfl)
          case hfa40 => kernel_rfl
          case hra40 => kernel_rfl
          case hQa40 => exact fun _ _ _ h => h
          case hya40 => refine Or.inl ⟨by rfl, ?_⟩; intro W hSw; go_simp; try with_reducible rfl
          try simp only [Act.put, List.setIfInBounds_toArray, List.set_cons_zero, List.set_cons_succ]
          refine wpAnyH_done (by kernel_rfl) ?_ _
          go_wp2_with fail
          go_meet
          case rel => exact ⟨rfl, hBa54⟩
        · skip
          rw [if_pos (by rfl)]
          refine wp_sums _ [s] 1 rfl rfl (by simp <;> rfl) (by intro q hq; simp at hq; rw [hq]; exact hsl) (by omega) (by omega) ?_
          rw [show [s].flatten = s by simp]
          have hBc51 := Below.alloc hBp1 (Below.size hBp1) (.cells (bvs s).toArray 24)
          have iL : InS (Wp2.alloc (.cells (bvs s).toArray 24)) (some ⟨Wp2.heap.size, 0, none⟩) 1 s := InS.of_own (own_sum Wp2 s 0 hsl (Nat.zero_le _))
          refine hK.out _ _ hBc51 (fun _ => ?_)
          clear hK K
          try simp only [Act.put, List.setIfInBounds_toArray, List.set_cons_zero, List.set_cons_succ]
          refine wpAnyH_ready (rs := [34]) (by kernel_rfl) (by simp) ?_
          refine' AllReadyH.cons (o := _) ?hic34 (fun K hK => ?_) AllReadyH.nil
          case hic34 => (simp only [List.getElem?_toArray, List.getElem?_cons_zero, List.getElem?_cons_succ]; rfl)
          refine step_sapp (K := K) (by rfl) _ _ (by rfl) (Wp2.alloc (.cells (bvs s).toArray 24)).heap.size none 0 0 [] (by rfl) (own_none (Wp2.alloc (.cells (bvs s).toArray 24)) _ 24 32) (some ad3) d c3 P (by rfl) (PI.out.below hBc51) P2.out.2.1 hd9 (Nat.le_refl _) ?_
          intro A5 c5 w5 o5 nx5
          have hBc52 : Below w4.heap.size w4 w5 := nx5.below (own_none (Wp2.alloc (.cells (bvs s).toArray 24)) (Wp2.alloc (.cells (bvs s).toArray 24)).heap.size 24 32) hBc51 hBc51.size hBc51.size
          rw [Nat.zero_add, List.nil_append] at o5
          rw [Nat.zero_add]
          have hq9 := nx5.below (own_none (Wp2.alloc (.cells (bvs s).toArray 24)) (Wp2.alloc (.cells (bvs s).toArray 24)).heap.size 24 32) (Below.refl (Wp2.alloc (.cells (bvs s).toArray 24)).heap.size (Wp2.alloc (.cells (bvs s).toArray 24))) (Nat.le_refl _) (Nat.le_refl _)
          have iL := iL.below hq9
          refine hK.out _ _ hBc52 (fun _ => ?_)
          clear hK K
          try simp only [Act.put, List.setIfInBounds_toArray, List.set_cons_zero, List.set_cons_succ]
          refine wpAnyH_ready (rs := [37]) (by kernel_rfl) (by simp) ?_
          refine' AllReadyH.cons (o := _) ?hic37 (fun K hK => ?_) AllReadyH.nil
          case hic37 => (simp only [List.getElem?_toArray, List.getElem?_cons_zero, List.getElem?_cons_succ]; rfl)
          refine step_sapp (K := K) (by rfl) _ _ (by rfl) (Wp2.alloc (.cells (bvs s).toArray 24)).heap.size A5 d c5 P (by rfl) o5 (some ⟨Wp2.heap.size, 0, none⟩) 1 1 s (by rfl) iL (fun e => by cases e) hd10 (by first | exact Nat.le_refl _ | exact Below.size hq9) ?_
          intro A6 c6 w6 o6 nx6
          have hBc53 : Below w4.heap.size w4 w6 := nx6.below o5 hBc52 (Below.size hBc51) (Below.size hBc52)
          refine hK.out _ _ hBc53 (fun _ => ?_)
          clear hK K
          try simp only [Act.put, List.setIfInBounds_toArray, List.set_cons_zero, List.set_cons_succ]
          refine wpAnyH_ready (rs := [39]) (by kernel_rfl) (by simp) ?_
          refine' AllReadyH.cons (o := _) ?hic39 (fun K hK => ?_) AllReadyH.nil
          case hic39 => (simp only [List.getElem?_toArray, List.getElem?_cons_zero, List.getElem?_cons_succ]; rfl)
          go_simp
          go_at_call 9
          refine (CK2.out _ A6 c6 (P ++ s) hBc53 (InS.of_own o6) PBY.out (own_cap o6)).mono ?_
          rintro e W9 ⟨rfl, hBc54⟩
          refine hK.out _ _ hBc54 (fun _ => ?_)
          clear hK K
          try simp only [Act.put, List.setIfInBounds_toArray, List.set_cons_zero, List.set_cons_succ]
          refine' wpAnyH_take (i := 40) (oi := _) (v := _) ?hic40 (by kernel_rfl) ?hfc40 ?hrc40 ?hQc40 ?hyc40 hBc54 ?restc40
          case hic40 => (simp only [List.getElem?_toArray, List.getElem?_cons_zero, List.getElem?_cons_succ]; rfl)
          case hfc40 => kernel_rfl
          case hrc40 => kernel_rfl
          case hQc40 => exact fun _ _ _ h => h
          case hyc40 => refine Or.inl ⟨by rfl, ?_⟩; intro W hSw; go_simp; try with_reducible rfl
          try simp only [Act.put, List.setIfInBounds_toArray, List.set_cons_zero, List.set_cons_succ]
          refine wpAnyH_done (by kernel_rfl) ?_ _
          go_wp2_with fail
          go_meet
          case rel => exact ⟨rfl, hBc54⟩
      case rest =>
        obtain ⟨rfl, hbc⟩ := hcut
        have CA13 := Lib.hid (fun (W : World) (hW : Below wc.heap.size wc W) => later (v' := .bool true) hW rfl (CA.out W (below_on F4.out.1 (Nat.le_refl _) (below_on hbc (Nat.le_refl _) hW))))
        have KR13 := Lib.hid (fun (W : World) (hW : Below wc.heap.size wc W) => KR.out W (below_on hbc (Nat.le_refl _) hW))
        have KY13 := Lib.hid (fun (W : World) (hW : Below wc.heap.size wc W) => KY.out W (below_on hbc (Nat.le_refl _) hW))
        have BL := Lib.hid (fun (W : World) (hW : Below wc.heap.size wc W) => below_on F4.out.1 (Nat.le_refl _) (below_on hbc (Nat.le_refl _) hW))
        have CKX := Lib.hid (fun (W : World) (hW : Below wc.heap.size wc W) => show Calls Tryd.prog 9 #[sv Y, .int .u64 (k : Int), .int .u64 (n : Int), .slice (some ad3) e1 c3, sv R] W fun e w' => e = .returned (.bool false) ∧ Below wc.heap.size wc w' from later hW (by rw [HNF.out e1 (by have := HN.out; omega) (P.take (32 * e1))]) (CK.out W (some ad3) c3 e1 (P.take (32 * e1)) (below_on F4.out.1 (Nat.le_refl _) (below_on hbc (Nat.le_refl _) hW)) ((F4.out.2.1.below (below_on hbc (Nat.le_refl _) hW)).take (by omega)) (fun x hx => HH.out.2.2.2.1 x (List.mem_of_mem_take hx)) (by have := P2.out.2.2; omega) (by have := HN.out; omega)))
        have he9 : e1 ≤ 64 := by have := HN.out; omega
        clear hbc he1
        have dwr2 : IntKind.i64.wrap (e1 : Int) = (e1 : Int) := by rw [IntKind.wrap_i64]; omega
        have dwr : wrap64 (e1 : Int) = (e1 : Int) := by simp only [wrap64]; omega
        clear he9
        go_upto_region 13 with fail
        refine wp_region_held_drew (S := fun W => Below wc.heap.size wc W) (by kernel_rfl) ((Below.refl _ _).drew) (fun hU0 => ?_)
        change wpAnyH _ _ _ _ _ _ _ _ wc.drew
        refine wpAnyH_ready (rs := [0]) (by kernel_rfl) (by simp) ?_
        refine' AllReadyH.cons (o := _) ?hiq0 (fun K hK => ?_) AllReadyH.nil
        case hiq0 => (simp only [List.getElem?_toArray, List.getElem?_cons_zero]; rfl)
        go_simp
        go_at_call 6
        refine (CA13.out _ hU0).mono ?_
        rintro e Wq2 ⟨rfl, hBq1⟩
        refine hK.out _ _ hBq1 (fun _ => ?_)
        clear hK K
        try simp only [Act.put, List.setIfInBounds_toArray, List.set_cons_zero, List.set_cons_succ]
        refine' wpAnyH_take (i := 1) (oi := _) (v := _) ?hiq1 (by kernel_rfl) ?hfq1 ?hrq1 ?hQq1 ?hyq1 hBq1 ?restq1
        case hiq1 => (simp only [List.getElem?_toArray, List.getElem?_cons_zero, List.getElem?_cons_succ]; rfl)
        case hfq1 => kernel_rfl
        case hrq1 => kernel_rfl
        case hQq1 => exact fun _ _ _ h => h
        case hyq1 => refine Or.inl ⟨by rfl, ?_⟩; intro W hSw; go_simp; try with_reducible rfl
        try simp only [Act.put, List.setIfInBounds_toArray, List.set_cons_zero, List.set_cons_succ]
        refine' wpAnyH_take (i := 2) (oi := _) (v := _) ?hiq2 (by kernel_rfl) ?hfq2 ?hrq2 ?hQq2 ?hyq2 hBq1 ?restq2
        case hiq2 => (simp only [List.getElem?_toArray, List.getElem?_cons_zero, List.getElem?_cons_succ]; rfl)
        case hfq2 => kernel_rfl
        case hrq2 => kernel_rfl
        case hQq2 => exact fun _ _ _ h => h
        case hyq2 => refine Or.inl ⟨by rfl, ?_⟩; intro W hSw; go_simp; try with_reducible rfl
        try simp only [Act.put, List.setIfInBounds_toArray, List.set_cons_zero, List.set_cons_succ]
        refine' wpAnyH_take (i := 3) (oi := _) (v := _) ?hiq3 (by kernel_rfl) ?hfq3 ?hrq3 ?hQq3 ?hyq3 hBq1 ?restq3
        case hiq3 => (simp only [List.getElem?_toArray, List.getElem?_cons_zero, List.getElem?_cons_succ]; rfl)
        case hfq3 => kernel_rfl
        case hrq3 => kernel_rfl
        case hQq3 => exact fun _ _ _ h => h
        case hyq3 => refine Or.inl ⟨by rfl, ?_⟩; intro W hSw; go_simp; try with_reducible rfl
        try simp only [Act.put, List.setIfInBounds_toArray, List.set_cons_zero, List.set_cons_succ]
        refine' wpAnyH_take (i := 4) (oi := _) (v := _) ?hiq4 (by kernel_rfl) ?hfq4 ?hrq4 ?hQq4 ?hyq4 hBq1 ?restq4
        case hiq4 => (simp only [List.getElem?_toArray, List.getElem?_cons_zero, List.getElem?_cons_succ]; rfl)
        case hfq4 => kernel_rfl
        case hrq4 => kernel_rfl
        case hQq4 => exact fun _ _ _ h => h
        case hyq4 => refine Or.inl ⟨by rfl, ?_⟩; intro W hSw; go_simp; try with_reducible rfl
        try simp only [Act.put, List.setIfInBounds_toArray, List.set_cons_zero, List.set_cons_succ]
        refine' wpAnyH_take (i := 5) (oi := _) (v := _) ?hiq5 (by kernel_rfl) ?hfq5 ?hrq5 ?hQq5 ?hyq5 hBq1 ?restq5
        case hiq5 => (simp only [List.getElem?_toArray, List.getElem?_cons_zero, List.getElem?_cons_succ]; rfl)
        case hfq5 => kernel_rfl
        case hrq5 => kernel_rfl
        case hQq5 => exact fun _ _ _ h => h
        case hyq5 => refine Or.inl ⟨by rfl, ?_⟩; intro W hSw; go_simp; try with_reducible rfl
        try simp only [Act.put, List.setIfInBounds_toArray, List.set_cons_zero, List.set_cons_succ]
        refine' wpAnyH_take (i := 6) (oi := _) (v := _) ?hiq6 (by kernel_rfl) ?hfq6 ?hrq6 ?hQq6 ?hyq6 hBq1 ?restq6
        case hiq6 => (simp only [List.getElem?_toArray, List.getElem?_cons_zero, List.getElem?_cons_succ]; rfl)
        case hfq6 => kernel_rfl
        case hrq6 => kernel_rfl
        case hQq6 => exact fun _ _ _ h => h
        case hyq6 => refine Or.inl ⟨by rfl, ?_⟩; intro W hSw; go_simp; try with_reducible rfl
        try simp only [Act.put, List.setIfInBounds_toArray, List.set_cons_zero, List.set_cons_succ]
        refine' wpAnyH_take (i := 7) (oi := _) (v := _) ?hiq7 (by kernel_rfl) ?hfq7 ?hrq7 ?hQq7 ?hyq7 hBq1 ?restq7
        case hiq7 => (simp only [List.getElem?_toArray, List.getElem?_cons_zero, List.getElem?_cons_succ]; rfl)
        case hfq7 => kernel_rfl
        case hrq7 => kernel_rfl
        case hQq7 => exact fun _ _ _ h => h
        case hyq7 => refine Or.inl ⟨by rfl, ?_⟩; intro W hSw; go_simp; try with_reducible rfl
        try simp only [Act.put, List.setIfInBounds_toArray, List.set_cons_zero, List.set_cons_succ]
        refine' wpAnyH_take (i := 8) (oi := _) (v := _) ?hiq8 (by kernel_rfl) ?hfq8 ?hrq8 ?hQq8 ?hyq8 hBq1 ?restq8
        case hiq8 => (simp only [List.getElem?_toArray, List.getElem?_cons_zero, List.getElem?_cons_succ]; rfl)
        case hfq8 => kernel_rfl
        case hrq8 => kernel_rfl
        case hQq8 => exact fun _ _ _ h => h
        case hyq8 => refine Or.inl ⟨by rfl, ?_⟩; intro W hSw; go_simp; try with_reducible rfl
        try simp only [Act.put, List.setIfInBounds_toArray, List.set_cons_zero, List.set_cons_succ]
        refine' wpAnyH_take (i := 9) (oi := _) (v := sv Y) ?hiq9 (by kernel_rfl) ?hfq9 ?hrq9 ?hQq9 ?hyq9 hBq1 ?restq9
        case hiq9 => (simp only [List.getElem?_toArray, List.getElem?_cons_zero, List.getElem?_cons_succ]; rfl)
        case hfq9 => kernel_rfl
        case hrq9 => kernel_rfl
        case hQq9 => exact fun _ _ _ h => h
        case hyq9 => exact yields_sum (by rfl) (.tmp 93) (by rfl) _ (by rfl) Y hKl (fun W hSw => (KY13.out W hSw))
        try simp only [Act.put, List.setIfInBounds_toArray, List.set_cons_zero, List.set_cons_succ]
        refine' wpAnyH_take (i := 10) (oi := _) (v := _) ?hiq10 (by kernel_rfl) ?hfq10 ?hrq10 ?hQq10 ?hyq10 hBq1 ?restq10
        case hiq10 => (simp only [List.getElem?_toArray, List.getElem?_cons_zero, List.getElem?_cons_succ]; rfl)
        case hfq10 => kernel_rfl
        case hrq10 => kernel_rfl
        case hQq10 => exact fun _ _ _ h => h
        case hyq10 => refine Or.inl ⟨by rfl, ?_⟩; intro W hSw; go_simp; try with_reducible rfl
        try simp only [Act.put, List.setIfInBounds_toArray, List.set_cons_zero, List.set_cons_succ]
        refine' wpAnyH_take (i := 11) (oi := _) (v := _) ?hiq11 (by kernel_rfl) ?hfq11 ?hrq11 ?hQq11 ?hyq11 hBq1 ?restq11
        case hiq11 => (simp only [List.getElem?_toArray, List.getElem?_cons_zero, List.getElem?_cons_succ]; rfl)
        case hfq11 => kernel_rfl
        case hrq11 => kernel_rfl
        case hQq11 => exact fun _ _ _ h => h
        case hyq11 => refine Or.inl ⟨by rfl, ?_⟩; intro W hSw; go_simp; try with_reducible rfl
        try simp only [Act.put, List.setIfInBounds_toArray, List.set_cons_zero, List.set_cons_succ]
        refine' wpAnyH_take (i := 12) (oi := _) (v := _) ?hiq12 (by kernel_rfl) ?hfq12 ?hrq12 ?hQq12 ?hyq12 hBq1 ?restq12
        case hiq12 => (simp only [List.getElem?_toArray, List.getElem?_cons_zero, List.getElem?_cons_succ]; rfl)
        case hfq12 => kernel_rfl
        case hrq12 => kernel_rfl
        case hQq12 => exact fun _ _ _ h => h
        case hyq12 => refine Or.inl ⟨by rfl, ?_⟩; intro W hSw; go_simp; try with_reducible rfl
        try simp only [Act.put, List.setIfInBounds_toArray, List.set_cons_zero, List.set_cons_succ]
        refine' wpAnyH_take (i := 13) (oi := _) (v := _) ?hiq13 (by kernel_rfl) ?hfq13 ?hrq13 ?hQq13 ?hyq13 hBq1 ?restq13
        case hiq13 => (simp only [List.getElem?_toArray, List.getElem?_cons_zero, List.getElem?_cons_succ]; rfl)
        case hfq13 => kernel_rfl
        case hrq13 => kernel_rfl
        case hQq13 => exact fun _ _ _ h => h
        case hyq13 => refine Or.inl ⟨by rfl, ?_⟩; intro W hSw; go_simp; try with_reducible rfl
        try simp only [Act.put, List.setIfInBounds_toArray, List.set_cons_zero, List.set_cons_succ]
        refine' wpAnyH_take (i := 14) (oi := _) (v := _) ?hiq14 (by kernel_rfl) ?hfq14 ?hrq14 ?hQq14 ?hyq14 hBq1 ?restq14
        case hiq14 => (simp only [List.getElem?_toArray, List.getElem?_cons_zero, List.getElem?_cons_succ]; rfl)
        case hfq14 => kernel_rfl
        case hrq14 => kernel_rfl
        case hQq14 => exact fun _ _ _ h => h
        case hyq14 => refine Or.inl ⟨by rfl, ?_⟩; intro W hSw; go_simp; try with_reducible rfl
        try simp only [Act.put, List.setIfInBounds_toArray, List.set_cons_zero, List.set_cons_succ]
        refine' wpAnyH_take (i := 15) (oi := _) (v := _) ?hiq15 (by kernel_rfl) ?hfq15 ?hrq15 ?hQq15 ?hyq15 hBq1 ?restq15
        case hiq15 => (simp only [List.getElem?_toArray, List.getElem?_cons_zero, List.getElem?_cons_succ]; rfl)
        case hfq15 => kernel_rfl
        case hrq15 => kernel_rfl
        case hQq15 => exact fun _ _ _ h => h
        case hyq15 => refine Or.inl ⟨by rfl, ?_⟩; intro W hSw; go_simp; try with_reducible rfl
        try simp only [Act.put, List.setIfInBounds_toArray, List.set_cons_zero, List.set_cons_succ]
        refine' wpAnyH_take (i := 16) (oi := _) (v := _) ?hiq16 (by kernel_rfl) ?hfq16 ?hrq16 ?hQq16 ?hyq16 hBq1 ?restq16
        case hiq16 => (simp only [List.getElem?_toArray, List.getElem?_cons_zero, List.getElem?_cons_succ]; rfl)
        case hfq16 => kernel_rfl
        case hrq16 => kernel_rfl
        case hQq16 => exact fun _ _ _ h => h
        case hyq16 => refine Or.inl ⟨by rfl, ?_⟩; intro W hSw; go_simp; try with_reducible rfl
        try simp only [Act.put, List.setIfInBounds_toArray, List.set_cons_zero, List.set_cons_succ]
        refine' wpAnyH_take (i := 17) (oi := _) (v := _) ?hiq17 (by kernel_rfl) ?hfq17 ?hrq17 ?hQq17 ?hyq17 hBq1 ?restq17
        case hiq17 => (simp only [List.getElem?_toArray, List.getElem?_cons_zero, List.getElem?_cons_succ]; rfl)
        case hfq17 => kernel_rfl
        case hrq17 => kernel_rfl
        case hQq17 => exact fun _ _ _ h => h
        case hyq17 => refine Or.inl ⟨by rfl, ?_⟩; intro W hSw; go_simp; try with_reducible rfl
        try simp only [Act.put, List.setIfInBounds_toArray, List.set_cons_zero, List.set_cons_succ]
        refine' wpAnyH_take (i := 18) (oi := _) (v := _) ?hiq18 (by kernel_rfl) ?hfq18 ?hrq18 ?hQq18 ?hyq18 hBq1 ?restq18
        case hiq18 => (simp only [List.getElem?_toArray, List.getElem?_cons_zero, List.getElem?_cons_succ]; rfl)
        case hfq18 => kernel_rfl
        case hrq18 => kernel_rfl
        case hQq18 => exact fun _ _ _ h => h
        case hyq18 => refine Or.inl ⟨by rfl, ?_⟩; intro W hSw; go_simp; try with_reducible rfl
        try simp only [Act.put, List.setIfInBounds_toArray, List.set_cons_zero, List.set_cons_succ]
        refine' wpAnyH_take (i := 19) (oi := _) (v := _) ?hiq19 (by kernel_rfl) ?hfq19 ?hrq19 ?hQq19 ?hyq19 hBq1 ?restq19
        case hiq19 => (simp only [List.getElem?_toArray, List.getElem?_cons_zero, List.getElem?_cons_succ]; rfl)
        case hfq19 => kernel_rfl
        case hrq19 => kernel_rfl
        case hQq19 => exact fun _ _ _ h => h
        case hyq19 => refine Or.inl ⟨by rfl, ?_⟩; intro W hSw; go_simp; try with_reducible rfl
        try simp only [Act.put, List.setIfInBounds_toArray, List.set_cons_zero, List.set_cons_succ]
        refine' wpAnyH_take (i := 20) (oi := _) (v := sv (R)) ?hiq20 (by kernel_rfl) ?hfq20 ?hrq20 ?hQq20 ?hyq20 hBq1 ?restq20
        case hiq20 => (simp only [List.getElem?_toArray, List.getElem?_cons_zero, List.getElem?_cons_succ]; rfl)
        case hfq20 => kernel_rfl
        case hrq20 => kernel_rfl
        case hQq20 => exact fun _ _ _ h => h
        case hyq20 => refine yields_sum ?_ (.tmp 10) rfl ⟨rb, 0, none⟩ rfl R hRl (fun W hSw => (KR13.out W hSw)); rfl
        try simp only [Act.put, List.setIfInBounds_toArray, List.set_cons_zero, List.set_cons_succ]
        refine wpAnyH_ready (rs := [21]) (by kernel_rfl) (by simp) ?_
        refine' AllReadyH.cons (o := _) ?hiq21 (fun K hK => ?_) AllReadyH.nil
        case hiq21 => (simp only [List.getElem?_toArray, List.getElem?_cons_zero, List.getElem?_cons_succ]; rfl)
        go_simp
        go_at_call 9
        refine (CKX.out _ hBq1).mono ?_
        rintro e Wq4 ⟨rfl, hBq3⟩
        refine hK.out _ _ hBq3 (fun _ => ?_)
        clear hK K
        try simp only [Act.put, List.setIfInBounds_toArray, List.set_cons_zero, List.set_cons_succ]
        refine' wpAnyH_take (i := 22) (oi := _) (v := _) ?hiq22 (by kernel_rfl) ?hfq22 ?hrq22 ?hQq22 ?hyq22 hBq3 ?restq22
        case hiq22 => (simp only [List.getElem?_toArray, List.getElem?_cons_zero, List.getElem?_cons_succ]; rfl)
        case hfq22 => kernel_rfl
        case hrq22 => kernel_rfl
        case hQq22 => exact fun _ _ _ h => h
        case hyq22 => refine Or.inl ⟨by rfl, ?_⟩; intro W hSw; go_simp; try with_reducible rfl
        try simp only [Act.put, List.setIfInBounds_toArray, List.set_cons_zero, List.set_cons_succ]
        refine' wpAnyH_take (i := 23) (oi := _) (v := _) ?hiq23 (by kernel_rfl) ?hfq23 ?hrq23 ?hQq23 ?hyq23 hBq3 ?restq23
        case hiq23 => (simp only [List.getElem?_toArray, List.getElem?_cons_zero, List.getElem?_cons_succ]; rfl)
        case hfq23 => kernel_rfl
        case hrq23 => kernel_rfl
        case hQq23 => exact fun _ _ _ h => h
        case hyq23 => refine Or.inl ⟨by rfl, ?_⟩; intro W hSw; go_simp; try with_reducible rfl
        try simp only [Act.put, List.setIfInBounds_toArray, List.set_cons_zero, List.set_cons_succ]
        refine' wpAnyH_take (i := 24) (oi := _) (v := _) ?hiq24 (by kernel_rfl) ?hfq24 ?hrq24 ?hQq24 ?hyq24 hBq3 ?restq24
        case hiq24 => (simp only [List.getElem?_toArray, List.getElem?_cons_zero, List.getElem?_cons_succ]; rfl)
        case hfq24 => kernel_rfl
        case hrq24 => kernel_rfl
        case hQq24 => exact fun _ _ _ h => h
        case hyq24 => refine Or.inl ⟨by rfl, ?_⟩; intro W hSw; go_simp; try with_reducible rfl
        try simp only [Act.put, List.setIfInBounds_toArray, List.set_cons_zero, List.set_cons_succ]
        refine' wpAnyH_take (i := 25) (oi := _) (v := _) ?hiq25 (by kernel_rfl) ?hfq25 ?hrq25 ?hQq25 ?hyq25 hBq3 ?restq25
        case hiq25 => (simp only [List.getElem?_toArray, List.getElem?_cons_zero, List.getElem?_cons_succ]; rfl)
        case hfq25 => kernel_rfl
        case hrq25 => kernel_rfl
        case hQq25 => exact fun _ _ _ h => h
        case hyq25 => refine Or.inl ⟨by rfl, ?_⟩; intro W hSw; go_simp; try with_reducible rfl
        try simp only [Act.put, List.setIfInBounds_toArray, List.set_cons_zero, List.set_cons_succ]
        refine wpAnyH_done (by kernel_rfl) ?_ _
        go_wp2
        go_ret
        refine ⟨rfl, ?_⟩
        rw [← HSb.out]
        exact BL.out _ hBq3

end
end Go.Proofs.YtppfdpnplemfkaaDoor
