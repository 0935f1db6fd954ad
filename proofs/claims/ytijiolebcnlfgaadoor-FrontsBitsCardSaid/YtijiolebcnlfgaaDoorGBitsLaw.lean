/-
  almonerlaw09.FrontsBits.
-/
import Derived.Test.YtijiolebcnlfgaaDoorGRootLaw
import Derived.StillTailTactics
namespace Go.Proofs.YtijiolebcnlfgaaDoor
open Go.RowKit

set_option maxRecDepth 100000 in
set_option maxHeartbeats 4000000 in
theorem bits_else (w : World) (hk : Knows w) (hs : Starts w) (A : Option Addr) (n c : Nat) (h : n = 0 ∨ 150 < n) :
    Calls Tryd.prog 5 #[.slice A n c] w fun e w' => e = .returned (.bool true) ∧ Below w.heap.size w w' := by
  have C := Lib.hid (galive_any w hk hs)
  by_cases h0 : n = 0
  · subst h0
    go_enter Tryd.func5, Tryd.ntmps5
    go_wp2_with fail
    refine C.out.mono ?_
    rintro e w2 ⟨rfl, hb⟩
    go_wp2_with fail
    go_ret
    exact ⟨rfl, hb⟩
  · have h1 : (150 : Int) < (n : Int) := by omega
    have h2 : ((n : Int) == 0) = false := by simp; omega
    go_enter Tryd.func5, Tryd.ntmps5
    go_wp2_with fail
    refine C.out.mono ?_
    rintro e w2 ⟨rfl, hb⟩
    go_wp2_with fail
    go_ret
    exact ⟨rfl, hb⟩

/-- The last trees put together, from the k-th on, where there is one behind it. -/
def tailT (l : List (List Nat)) (x : List Nat) (k : Nat) : List Nat := tog (l.drop k) x
theorem tailT_all (l : List (List Nat)) (x : List Nat) : tailT l x l.length = x := by unfold tailT; rw [List.drop_length]; rfl
theorem tailT_step {l : List (List Nat)} {x y : List Nat} {k : Nat} (h : l[k]? = some y) : tailT l x k = nodeL y (tailT l x (k + 1)) := by
  unfold tailT
  obtain ⟨hk, e⟩ := List.getElem?_eq_some_iff.1 h
  rw [List.drop_eq_getElem_cons hk, e]; rfl

set_option maxRecDepth 100000 in
set_option maxHeartbeats 4000000 in
theorem bits_some (w : World) (hk : Knows w) (hs : Starts w) (A : Option Addr) (n c : Nat) (ys : List Nat) (h : CameS w A n c ys) (h0 : 0 < n) (hn : n ≤ 150) :
    Calls Tryd.prog 5 #[.slice A n c] w fun e w' => e = .returned (.bool true) ∧ Below w.heap.size w w' := by
  have hf := sums_of h.in_ h.lt
  have C0 := Lib.hid (new_front (nth ys) w)
  have h1 : ¬ ((150 : Int) < (n : Int)) := by omega
  have h2 : ((n : Int) == 0) = false := by simp; omega
  have HC := Lib.hid h
  have HF := Lib.hid hf
  clear h hf
  go_enter Tryd.func5, Tryd.ntmps5
  go_wp2_with fail
  refine C0.out.mono ?_
  rintro e w1 ⟨rfl, hf1, hb1⟩
  have G1 := Lib.hid (show Grown_ w w1 w.heap.size (nth ys) 0 from ⟨hf1, hb1, Nat.le_refl _⟩)
  clear hf1 hb1 C0
  obtain ⟨g, hg⟩ : ∃ g, w.heap.size = g := ⟨_, rfl⟩
  rw [hg] at G1 ⊢
  have HG := Lib.hid hg
  clear hg
  go_wp2
  go_loopw [4] (fun i wr => ∃ j : Nat, j ≤ n ∧ i = .int .i64 (j : Int) ∧ Hid (Grown_ w wr g (nth ys) j)) (fun i _ => n - (intOf i).toNat)
  case atStart => exact ⟨0, Nat.zero_le _, rfl, G1⟩
  case round =>
    clear G1
    obtain ⟨j, hj, rfl, HJ⟩ := hrel
    by_cases hlt : j < n
    · have hji : (j : Int) < (n : Int) := by omega
      obtain ⟨ad, rfl, hl, hat⟩ := HC.out.in_.at_ hlt
      obtain ⟨s, hsj⟩ : ∃ s, nth ys j = s := ⟨_, rfl⟩
      rw [hsj] at hl hat
      have HAt := Lib.hid (hat.below HJ.out.bel)
      have CA := Lib.hid (grown_add HJ.out HF.out hlt (by omega) hk hs hsj)
      clear hsj hat
      go_wp2_with (refine wpList_load_sum rfl (.tmp 29) rfl (ad.add (j * 32)) rfl s hl HAt.out ?_)
      refine CA.out.mono ?_
      rintro e w4 ⟨rfl, g4, _⟩
      have G4 := Lib.hid g4
      clear g4 CA
      go_wp2_with fail
      go_roundw
      case rel => exact ⟨j + 1, by omega, by go_num, G4⟩
      case measure => simp [intOf]; omega
    · obtain rfl : j = n := by omega
      have hji : ¬ ((j : Int) < (j : Int)) := by omega
      have CS := Lib.hid (sums_front HJ.out.front (by omega))
      obtain ⟨pre, x, hpx⟩ : ∃ pre x, fr (nth ys) 0 j = pre ++ [x] := by
        rcases List.eq_nil_or_concat (fr (nth ys) 0 j) with e | ⟨L, b, e⟩
        · have := fr_none.1 e; omega
        · exact ⟨L, b, by rw [e, List.concat_eq_append]⟩
      have htog := tog_fr (nth ys) j 0 pre x hpx
      have hm := fr_length (nth ys) j 0
      have h32 := HF.out.fr32
      have hlt2 := HF.out.frlt
      rw [hpx] at hm h32 hlt2
      rw [List.length_append, List.length_singleton] at hm
      obtain ⟨q, hq⟩ : ∃ q, pre.length = q := ⟨_, rfl⟩
      rw [hq] at hm
      have hpop := hm.symm
      rw [hpx] at CS
      rw [hpop] at CS
      have HP := Lib.hid (And.intro hpop (And.intro hq (And.intro h32 (And.intro hlt2 htog))))
      have hqj : q + 1 ≤ 150 := by have := pop_le j; omega
      clear hpop hm hpx htog h32 hlt2 hq
      go_wp2_with fail
      refine CS.out.mono ?_
      rintro e w3 ⟨A3, c3, rfl, ho3, hb3⟩
      have HJ3 := Lib.hid (HJ.out.below hb3)
      have HO3 := Lib.hid (InS.of_own ho3)
      clear hb3 CS ho3
      go_wp2
      go_loopw [6, 7] (fun b v wr => ∃ m d : Nat, v = .int .i64 (m : Int) ∧ b = .int .i64 (d : Int) ∧ m ≤ 150 ∧ d ≤ 200 ∧ d + pop m = q + 1 ∧ wr = w3) (fun _ v _ => (intOf v).toNat)
      case atStart => exact ⟨j, 0, rfl, rfl, by omega, by omega, by rw [Nat.zero_add, HP.out.1], rfl⟩
      case round =>
        obtain ⟨m, d, rfl, rfl, hm150, hd, hdq, e⟩ := hrel
        obtain rfl := e.symm
        clear e
        by_cases hm0 : 0 < m
        · have hmi : (0 : Int) < (m : Int) := by omega
          obtain ⟨r, hr⟩ : ∃ r, m % 2 = r := ⟨_, rfl⟩
          have ht : Int.tmod (m : Int) 2 = (r : Int) := by rw [Int.tmod_eq_emod_of_nonneg (by omega)]; omega
          have ht2 : (m : Int) % 2 = (r : Int) := by omega
          have hd2 : Int.tdiv (m : Int) 2 = ((m / 2 : Nat) : Int) := by rw [Int.tdiv_eq_ediv_of_nonneg (by omega)]; omega
          have hp := pop_step (show m ≠ 0 by omega)
          rw [hr] at hp
          have HPP := Lib.hid hp
          have hr2 : r ≤ 1 := by omega
          clear hr hp
          go_wp2
          go_roundw
          case rel => exact ⟨m / 2, d + r, by go_num, by go_num, by omega, by have := HPP.out; omega, by have := HPP.out; omega, trivial⟩
          case measure => simp [intOf]; omega
        · obtain rfl : m = 0 := by omega
          rw [pop_zero, Nat.add_zero] at hdq
          subst hdq
          have hxl : x.length = 32 := HP.out.2.2.1 x (by simp)
          have hxb : ∀ y ∈ x, y < 256 := HP.out.2.2.2.1 x (by simp)
          obtain ⟨ad, rfl, hl, hat⟩ := HO3.out.at_ (show q < q + 1 by omega)
          have hnx : nth (pre ++ [x]).flatten q = x := nth_flatten _ HP.out.2.2.1 q x (by rw [← HP.out.2.1]; simp)
          rw [hnx] at hl hat
          have HAt := Lib.hid hat
          have hsub : ((q + 1 : Nat) : Int) - 1 = (q : Int) := by omega
          have hsub2 : (q : Int) + 1 - 1 = (q : Int) := by omega
          have hsub3 : (q : Int) + 1 - 2 = (q : Int) - 1 := by omega
          have hqw : IntKind.i64.wrap (q : Int) = (q : Int) := by rw [IntKind.wrap_i64]; omega
          have hnq : ¬ ((q : Int) + 1 ≤ (q : Int)) := by omega
          obtain ⟨w4, hw4⟩ : ∃ w4, w4 = w3.alloc (.cells (bvs x).toArray 23) := ⟨_, rfl⟩
          have b4 : Below w3.heap.size w3 w4 := by rw [hw4]; exact below_alloc _ _
          have r4 : BArr w4 w3.heap.size 23 x := by rw [hw4]; exact BArr.new _ _ _
          have HW4 := Lib.hid hw4
          have H4 := Lib.hid (And.intro (HJ3.out.below b4) (And.intro (HO3.out.below b4) r4))
          have HB4 := Lib.hid b4
          have hp3 := HJ3.out.bel.size
          clear hnx hat hw4 b4 r4
          go_upto_region 17 with (first
            | refine wpList_load_sum rfl (.tmp 52) rfl (ad.add (q * 32)) rfl x hl HAt.out ?_
            | ((with_reducible refine wpList_store_new w3 _ ?_ rfl (.tmp 8) (.tmp 53) rfl rfl x hl rfl ?_); · simp))
          rw [← HW4.out]
          obtain ⟨p, hp⟩ : ∃ p, w3.heap.size = p := ⟨_, rfl⟩
          rw [hp] at H4 hp3 ⊢
          have HPp := Lib.hid hp
          clear hp HW4 hp3 hl
          have HBX := Lib.hid (And.intro hxl hxb)
          go_wp2
          go_loopw [9] (fun v wr => ∃ k : Nat, k ≤ q ∧ v = .int .i64 ((k : Int) - 1) ∧ Hid (BArr wr p 23 (tailT pre x k) ∧ Below w3.heap.size w3 wr)) (fun v _ => (intOf v + 1).toNat)
          case atStart => exact ⟨q, Nat.le_refl _, rfl, Lib.hid ⟨by rw [← HP.out.2.1, tailT_all]; exact H4.out.2.2, HB4.out⟩⟩
          case round =>
            clear H4 HB4
            obtain ⟨k, hk2, rfl, HK⟩ := hrel
            have hTl : (tailT pre x k).length = 32 := tog_of (P := fun l => l.length = 32) sha_length _ x hxl
            have hTb : ∀ y ∈ tailT pre x k, y < 256 := tog_of (P := fun l => ∀ y ∈ l, y < 256) sha_lt _ x HBX.out.2
            by_cases hk0 : 0 < k
            · obtain ⟨k', rfl⟩ : ∃ k', k = k' + 1 := ⟨k - 1, by omega⟩
              have hkk : ((k' + 1 : Nat) : Int) - 1 = (k' : Int) := by omega
              rw [hkk]
              obtain ⟨y, hy⟩ : ∃ y, pre[k']? = some y := ⟨_, List.getElem?_eq_getElem (by rw [HP.out.2.1]; omega)⟩
              have hyp : y ∈ pre := List.mem_of_getElem? hy
              have hyl : y.length = 32 := HP.out.2.2.1 y (List.mem_append_left _ hyp)
              have hyb : ∀ z ∈ y, z < 256 := HP.out.2.2.2.1 y (List.mem_append_left _ hyp)
              have hny : nth (pre ++ [x]).flatten k' = y := nth_flatten _ HP.out.2.2.1 k' y (by rw [List.getElem?_append_left (by rw [HP.out.2.1]; omega)]; exact hy)
              obtain ⟨ad', e', _, hat'⟩ := (HO3.out.below HK.out.2).at_ (show k' < q + 1 by omega)
              cases e'
              rw [hny] at hat'
              have hstep := tailT_step (x := x) hy
              obtain ⟨T, hT⟩ : ∃ T, tailT pre x (k' + 1) = T := ⟨_, rfl⟩
              rw [hT] at HK hTl hTb hstep
              have CN := Lib.hid (node_any y T wr.drew hyl hTl hyb hTb ((hk.below (below_on HJ3.out.bel (Nat.le_refl _) HK.out.2)).below (Below.refl _ _).drew) ((hs.below (below_on HJ3.out.bel (Nat.le_refl _) HK.out.2)).below (Below.refl _ _).drew))
              rw [← hstep] at CN
              have hNl : (tailT pre x k').length = 32 := by rw [hstep]; exact nodeL_length _ _
              obtain ⟨N, hN⟩ : ∃ N, tailT pre x k' = N := ⟨_, rfl⟩
              rw [hN] at CN hNl
              have HNN := Lib.hid hN
              have HTl := Lib.hid hTl
              have HAt' := Lib.hid hat'
              have hk0' : ¬ ((k' : Int) < 0) := by omega
              have hkq : (k' : Int) < (q : Int) + 1 := by omega
              have hkw : IntKind.i64.wrap (k' : Int) = (k' : Int) := by rw [IntKind.wrap_i64]; omega
              clear hN hat' hny hyp hy hT hstep hkk hyb
              go_upto_region 20 with fail
              go_still_tail 5, (by kernel_rfl)
              refine wpStill_step (fun K hK => ?_)
              refine still_load_sum rfl (.tmp 63) rfl (ad.add (k' * 32)) rfl y hyl HAt'.out (hK _ ?_)
              refine wpStill_step (fun K hK => ?_)
              refine still_load_sum rfl (.tmp 8) rfl ⟨p, 0, none⟩ rfl T hTl HK.out.1.at_ (hK _ ?_)
              refine wpStill_nil ?_
              change wpList _ _ _ _ _ wr.drew
              go_wp2_with (first
                | (go_at_call 14; refine CN.out.mono ?_; rintro e w6 ⟨rfl, hb6⟩; have HB6 := Lib.hid hb6; clear hb6)
                | (with_reducible refine wpList_store_sum rfl (.tmp 8) (.tmp 66) rfl p rfl T N HTl hNl (HK.out.1.drew.below HB6.out) rfl ?_))
              go_roundw
              case rel =>
                have hb := HK.out.2.trans (((Below.refl _ wr).drew.trans HB6.out).mono HK.out.2.size)
                exact ⟨k', by omega, by go_num, Lib.hid ⟨by rw [HNN.out]; exact (HK.out.1.drew.below HB6.out).setRow N, below_setRow hb (by rw [HPp.out]; exact Nat.le_refl _) _⟩⟩
              case measure => simp [intOf]
            · obtain rfl : k = 0 := by omega
              have hn1 : ((0 : Nat) : Int) - 1 = -1 := rfl
              rw [hn1]
              obtain ⟨R, hR⟩ : ∃ R, rt (nth ys) 0 j = R := ⟨_, rfl⟩
              have hR2 : tailT pre x 0 = R := by rw [← hR, ← HP.out.2.2.2.2]; rfl
              rw [hR2] at HK hTl
              have q1 := run_eql_sum R R hTl hTl
              rw [decide_eq_true rfl] at q1
              have q2 := run_guard_eql
              have hbw := below_on HJ3.out.bel (Nat.le_refl _) HK.out.2
              have CA := Lib.hid (fun (W : World) (hW : Below wr.heap.size wr W) => later (v' := .bool true) hW rfl (galive_any W (hk.below (below_on hbw (Nat.le_refl _) hW)) (hs.below (below_on hbw (Nat.le_refl _) hW))))
              have CR := Lib.hid (fun (W : World) (hW : Below wr.heap.size wr W) => later (v' := sv R) hW (by rw [hR]) (root_front ((HJ3.out.below HK.out.2).below hW).front HF.out (by omega) (hk.below (below_on hbw (Nat.le_refl _) hW)) (hs.below (below_on hbw (Nat.le_refl _) hW))))
              have KA := Lib.hid (fun (W : World) (hW : Below wr.heap.size wr W) => (HK.out.1.below hW).at_)
              have BW := Lib.hid hbw
              clear hR hR2 hbw hTb hn1
              go_upto_region 21 with fail
              refine wp_region_held_drew (S := fun W => Below wr.heap.size wr W) (by kernel_rfl) ((Below.refl _ _).drew) (fun hS0 => ?_)
              change wpAnyH _ _ _ _ _ _ _ _ wr.drew
              refine wpAnyH_ready (rs := [0]) (by kernel_rfl) (by simp) ?_
              refine' AllReadyH.cons (o := _) ?hiz0 (fun K hK => ?_) AllReadyH.nil
              case hiz0 => (simp only [List.getElem?_toArray, List.getElem?_cons_zero]; rfl)
              go_simp
              go_at_call 11
              refine (CA.out _ hS0).mono ?_
              rintro e Wz2 ⟨rfl, hBz1⟩
              refine hK.out _ _ hBz1 (fun _ => ?_)
              clear hK K
              try simp only [Act.put, List.setIfInBounds_toArray, List.set_cons_zero, List.set_cons_succ]
              refine' wpAnyH_take (i := 1) (oi := _) (v := _) ?hiz1 (by kernel_rfl) ?hfz1 ?hrz1 ?hQz1 ?hyz1 hBz1 ?restz1
              case hiz1 => (simp only [List.getElem?_toArray, List.getElem?_cons_zero, List.getElem?_cons_succ]; rfl)
              case hfz1 => kernel_rfl
              case hrz1 => kernel_rfl
              case hQz1 => exact fun _ _ _ h => h
              case hyz1 => refine Or.inl ⟨by rfl, ?_⟩; intro W hSw; go_simp; try with_reducible rfl
              try simp only [Act.put, List.setIfInBounds_toArray, List.set_cons_zero, List.set_cons_succ]
              refine' wpAnyH_take (i := 2) (oi := _) (v := sv (R)) ?hiz2 (by kernel_rfl) ?hfz2 ?hrz2 ?hQz2 ?hyz2 hBz1 ?restz2
              case hiz2 => (simp only [List.getElem?_toArray, List.getElem?_cons_zero, List.getElem?_cons_succ]; rfl)
              case hfz2 => kernel_rfl
              case hrz2 => kernel_rfl
              case hQz2 => exact fun _ _ _ h => h
              case hyz2 => refine yields_sum ?_ (.tmp 8) rfl ⟨p, 0, none⟩ rfl R hTl (fun W hSw => KA.out W hSw); rfl
              try simp only [Act.put, List.setIfInBounds_toArray, List.set_cons_zero, List.set_cons_succ]
              refine' wpAnyH_take (i := 3) (oi := _) (v := _) ?hiz3 (by kernel_rfl) ?hfz3 ?hrz3 ?hQz3 ?hyz3 hBz1 ?restz3
              case hiz3 => (simp only [List.getElem?_toArray, List.getElem?_cons_zero, List.getElem?_cons_succ]; rfl)
              case hfz3 => kernel_rfl
              case hrz3 => kernel_rfl
              case hQz3 => exact fun _ _ _ h => h
              case hyz3 => refine Or.inl ⟨by rfl, ?_⟩; intro W hSw; go_simp; try with_reducible rfl
              try simp only [Act.put, List.setIfInBounds_toArray, List.set_cons_zero, List.set_cons_succ]
              refine wpAnyH_ready (rs := [4]) (by kernel_rfl) (by simp) ?_
              refine' AllReadyH.cons (o := _) ?hiz4 (fun K hK => ?_) AllReadyH.nil
              case hiz4 => (simp only [List.getElem?_toArray, List.getElem?_cons_zero, List.getElem?_cons_succ]; rfl)
              go_simp
              go_at_call 9
              refine (CR.out _ hBz1).mono ?_
              rintro e Wz4 ⟨rfl, hBz3⟩
              refine hK.out _ _ hBz3 (fun _ => ?_)
              clear hK K
              try simp only [Act.put, List.setIfInBounds_toArray, List.set_cons_zero, List.set_cons_succ]
              refine' wpAnyH_take (i := 5) (oi := _) (v := _) ?hiz5 (by kernel_rfl) ?hfz5 ?hrz5 ?hQz5 ?hyz5 hBz3 ?restz5
              case hiz5 => (simp only [List.getElem?_toArray, List.getElem?_cons_zero, List.getElem?_cons_succ]; rfl)
              case hfz5 => kernel_rfl
              case hrz5 => kernel_rfl
              case hQz5 => exact fun _ _ _ h => h
              case hyz5 => refine Or.inl ⟨by rfl, ?_⟩; intro W hSw; go_simp; try with_reducible rfl
              try simp only [Act.put, List.setIfInBounds_toArray, List.set_cons_zero, List.set_cons_succ]
              refine' wpAnyH_take (i := 6) (oi := _) (v := _) ?hiz6 (by kernel_rfl) ?hfz6 ?hrz6 ?hQz6 ?hyz6 hBz3 ?restz6
              case hiz6 => (simp only [List.getElem?_toArray, List.getElem?_cons_zero, List.getElem?_cons_succ]; rfl)
              case hfz6 => kernel_rfl
              case hrz6 => kernel_rfl
              case hQz6 => exact fun _ _ _ h => h
              case hyz6 => refine Or.inl ⟨by rfl, ?_⟩; intro W hSw; go_simp; try with_reducible rfl
              try simp only [Act.put, List.setIfInBounds_toArray, List.set_cons_zero, List.set_cons_succ]
              refine' wpAnyH_take (i := 7) (oi := _) (v := _) ?hiz7 (by kernel_rfl) ?hfz7 ?hrz7 ?hQz7 ?hyz7 hBz3 ?restz7
              case hiz7 => (simp only [List.getElem?_toArray, List.getElem?_cons_zero, List.getElem?_cons_succ]; rfl)
              case hfz7 => kernel_rfl
              case hrz7 => kernel_rfl
              case hQz7 => exact fun _ _ _ h => h
              case hyz7 => refine Or.inl ⟨by rfl, ?_⟩; intro W hSw; go_simp; try with_reducible rfl
              try simp only [Act.put, List.setIfInBounds_toArray, List.set_cons_zero, List.set_cons_succ]
              refine wpAnyH_done (by kernel_rfl) ?_ _
              go_wp2
              go_ret
              exact ⟨rfl, by exact below_on BW.out (Nat.le_refl _) hBz3⟩

theorem frontsBits_law (w : World) (hk : Knows w) (hs : Starts w) {A : Option Addr} {n c : Nat} {ys : List Nat} (h : CameS w A n c ys) :
    Calls Tryd.prog 5 #[.slice A n c] w fun e w' => e = .returned (.bool true) ∧ Below w.heap.size w w' := by
  by_cases h1 : n = 0 ∨ 150 < n
  · exact bits_else w hk hs A n c h1
  · exact bits_some w hk hs A n c ys h (by omega) (by omega)

end Go.Proofs.YtijiolebcnlfgaaDoor
