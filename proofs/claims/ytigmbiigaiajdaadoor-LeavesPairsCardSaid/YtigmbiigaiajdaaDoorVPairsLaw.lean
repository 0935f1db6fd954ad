/-
  almonerlaw08.LeavesPairs, on a list of sums that came in.
-/
import Derived.Test.YtigmbiigaiajdaaDoorVSApp
namespace Go.Proofs.YtigmbiigaiajdaaDoor
open Go.RowKit

/-- The first j of those that two neighbours make. -/
def upS (f : Nat → List Nat) (e j : Nat) : List Nat := ((List.range j).map (upF f e)).flatten
theorem upS_succ (f : Nat → List Nat) (e j : Nat) : upS f e (j + 1) = upS f e j ++ upF f e j := by rw [upS, List.range_succ, List.map_append, List.flatten_append]; simp [upS]
theorem upF_length {f : Nat → List Nat} {e : Nat} (h : ∀ k, k < e → (f k).length = 32) {j : Nat} (hj : 2 * j < e) : (upF f e j).length = 32 := by
  unfold upF
  split
  · exact nodeL_length _ _
  · exact h _ hj
theorem upF_lt {f : Nat → List Nat} (e : Nat) (h : ∀ k, ∀ x ∈ f k, x < 256) (j : Nat) : ∀ x ∈ upF f e j, x < 256 := by
  unfold upF
  split
  · exact nodeL_lt _ _
  · exact h _
theorem upS_lt {f : Nat → List Nat} (e : Nat) (h : ∀ k, ∀ x ∈ f k, x < 256) (j : Nat) : ∀ x ∈ upS f e j, x < 256 := by
  intro x hx
  obtain ⟨l, hl, hxl⟩ := List.mem_flatten.1 hx
  obtain ⟨k, _, rfl⟩ := List.mem_map.1 hl
  exact upF_lt e h k x hxl
theorem rt_ups {f : Nat → List Nat} {m : Nat} (hm : 1 ≤ m) (h : ∀ k, k < m → (f k).length = 32) : rt (nth (upS f m ((m + 1) / 2))) 0 ((m + 1) / 2) = rt f 0 m := by
  have h1 := rt_up f m m 0 hm (Or.inl (by omega))
  rw [Nat.mul_zero] at h1
  rw [← h1]
  refine rt_congr _ _ _ 0 0 fun j hj => ?_
  rw [Nat.zero_add]
  refine nth_flatten _ (fun s hs => ?_) j _ (by rw [List.getElem?_map, List.getElem?_range hj]; rfl)
  obtain ⟨k, hk, rfl⟩ := List.mem_map.1 hs
  have := List.mem_range.1 hk
  exact upF_length h (by omega)

set_option maxRecDepth 100000 in
set_option maxHeartbeats 4000000 in
theorem pairs_else (w : World) (hk : Knows w) (hs : Starts w) (A : Option Addr) (n c : Nat) (h : n = 0 ∨ 200 < n) :
    Calls Tryd.prog 5 #[.slice A n c] w fun e w' => e = .returned (.bool true) ∧ Below w.heap.size w w' := by
  have C := Lib.hid (alive_any w hk hs)
  go_enter Tryd.func5, Tryd.ntmps5
  rcases h with h | h
  · subst h
    go_wp2_with fail
    refine C.out.mono ?_
    rintro e w2 ⟨rfl, hb⟩
    go_wp2_with fail
    go_ret
    exact ⟨rfl, hb⟩
  · have h2 : ((n : Int) == 0) = false := by simp; omega
    have h3 : decide ((200 : Int) < (n : Int)) = true := by simp; omega
    go_wp2_with fail
    refine C.out.mono ?_
    rintro e w2 ⟨rfl, hb⟩
    go_wp2_with fail
    go_ret
    exact ⟨rfl, hb⟩

/-- What stands between two rounds. -/
structure Level (w wr : World) (R : List Nat) (ad : Addr) (m c : Nat) (zs : List Nat) : Prop where
  in_ : InS wr (some ad) m zs
  lt : ∀ x ∈ zs, x < 256
  cap : m ≤ c
  one : 1 ≤ m
  few : m ≤ 200
  root : rt (nth zs) 0 m = R
  below : Below w.heap.size w wr

def slen : Value → Nat
  | .slice _ n _ => n
  | _ => 0
theorem flat_one (X : List Nat) : [X].flatten = X := by simp
theorem ownSome {w : World} {base n c : Nat} {e : TypeId} {A : Option Addr} {xs : List Value} (h : w.ownsRow base e 32 (.slice A n c) n xs) (hn : 0 < n) : ∃ ad, A = some ad := by
  rcases h.2 with ⟨e1, h0⟩ | ⟨g, cap, cur, e1, _⟩
  · omega
  · cases e1
    exact ⟨_, rfl⟩

set_option maxRecDepth 100000 in
set_option maxHeartbeats 8000000 in
theorem pairs_some (w : World) (hk : Knows w) (hs : Starts w) (A : Option Addr) (n c : Nat) (ys : List Nat) (hc0 : CameS w A n c ys) (h0 : 0 < n) (h200 : n ≤ 200) :
    Calls Tryd.prog 5 #[.slice A n c] w fun e w' => e = .returned (.bool true) ∧ Below w.heap.size w w' := by
  have HC := Lib.hid hc0
  obtain ⟨R, hR⟩ : ∃ R, rt (nth ys) 0 n = R := ⟨_, rfl⟩
  have lR : R.length = 32 := by rw [← hR]; exact rt_length _ _ _ fun j hj => nth_length hc0.in_.len (by omega)
  have HR := Lib.hid hR
  have i1 : ((n : Int) == 0) = false := by simp; omega
  have i2 : decide ((200 : Int) < (n : Int)) = false := by simp; omega
  have HO := Lib.hid (own_none w w.heap.size 24 32)
  have hz := Nat.le_refl w.heap.size
  have CF := Lib.hid (fun (W : World) (hW : Below w.heap.size w W) => later (v' := sv R) (Below.refl _ W) (by rw [hR]) (root_any A n c ys W (hc0.in_.below hW) hc0.lt hc0.cap (by omega) (hk.below hW) (hs.below hW)))
  have q1 := run_eql_sum R R lR lR
  rw [decide_eq_true rfl] at q1
  have q2 := run_guard_eql
  have q3 := run_neq_sum R R lR lR
  have q4 := run_guard_neq
  clear hc0 hR
  go_enter Tryd.func5, Tryd.ntmps5
  go_wp2_with (refine wpList_step fun K hK => ?_; refine step_sapp (K := K) (by rfl) _ _ (by rfl) w.heap.size none 0 0 [] (by rfl) HO.out A n c ys (by rfl) HC.out.in_ HC.out.nil (by omega) hz ?_; intro A1 c1 w1 ow1 nx1; rw [Nat.zero_add, List.nil_append] at ow1; rw [Nat.zero_add] at nx1; have HO1 := Lib.hid (And.intro ow1 (nx1.below HO.out (Below.refl _ _) (Nat.le_refl _) (Nat.le_refl _))); clear ow1 nx1; refine hK _ _ ?_; clear hK K; rw [Nat.zero_add])
  obtain ⟨ad1, rfl⟩ := ownSome HO1.out.1 h0
  have L1 : Level w w1 R ad1 n c1 ys := ⟨InS.of_own HO1.out.1, HC.out.lt, own_cap HO1.out.1, h0, h200, HR.out, HO1.out.2⟩
  have HL1 := Lib.hid L1
  clear L1 HO1 HO hz
  go_loopw [3] (fun v wr => ∃ (m c : Nat) (ad : Addr) (zs : List Nat), v = .slice (some ad) m c ∧ Level w wr R ad m c zs) (fun v _ => slen v)
  case atStart => exact ⟨n, c1, ad1, ys, rfl, HL1.out⟩
  case round =>
    clear HL1
    obtain ⟨m, c2, ad, zs, rfl, L⟩ := hrel
    obtain ⟨wo, rfl⟩ : ∃ wo, wo = wr := ⟨_, rfl⟩
    have HL := Lib.hid L
    clear L
    by_cases hm : 1 < m
    · have j1 : decide ((1 : Int) < (m : Int)) = true := by simp; omega
      go_wp2_with fail
      have f32 : Hid (∀ k, k < m → (nth zs k).length = 32) := Lib.hid fun k hk => nth_length HL.out.in_.len hk
      have flt : Hid (∀ k, ∀ x ∈ nth zs k, x < 256) := Lib.hid fun k => nth_lt HL.out.lt k
      have hmf := HL.out.few
      have HN0 := Lib.hid (own_none wo wo.heap.size 24 32)
      go_loopw [4, 5] (fun v i wr => ∃ (j q : Nat) (A' : Option Addr) (c' : Nat), 2 * j = q ∧ q ≤ m + 1 ∧ i = .int .i64 (q : Int) ∧ v = .slice A' j c' ∧ wr.ownsRow wo.heap.size 24 32 (.slice A' j c') j (bvs (upS (nth zs) m j)) ∧ Below wo.heap.size wo wr) (fun _ i _ => m + 1 - (intOf i).toNat)
      case atStart => exact ⟨0, 0, none, 0, rfl, by omega, rfl, rfl, HN0.out, Below.refl _ _⟩
      case round =>
        clear HN0
        obtain ⟨j, q, A', c', hjq, hq, rfl, rfl, how, hbo⟩ := hrel
        have HI0 := Lib.hid (And.intro how hbo)
        have HJ := Lib.hid hjq
        have hj2 : j ≤ 200 := by omega
        clear how hbo hjq
        by_cases hqm : q < m
        · have k1 : (q : Int) < (m : Int) := by omega
          obtain ⟨ad', hA', hlq, hatq⟩ := HL.out.in_.at_ hqm
          cases hA'
          obtain ⟨X, hX⟩ : ∃ X, nth zs q = X := ⟨_, rfl⟩
          rw [hX] at hlq hatq
          by_cases hq1 : q + 1 < m
          · obtain ⟨ad', hA', hlq1, hatq1⟩ := HL.out.in_.at_ hq1
            cases hA'
            obtain ⟨Y, hY⟩ : ∃ Y, nth zs (q + 1) = Y := ⟨_, rfl⟩
            rw [hY] at hlq1 hatq1
            obtain ⟨q1, hq1'⟩ : ∃ q1, q + 1 = q1 := ⟨_, rfl⟩
            rw [hq1'] at hatq1
            have e1 : (q : Int) + 1 = (q1 : Int) := by omega
            have k2 : (q1 : Int) < (m : Int) := by omega
            have kw : IntKind.i64.wrap (q1 : Int) = (q1 : Int) := IntWalk.i64_in _ (by omega)
            obtain ⟨U, hU⟩ : ∃ U, nodeL X Y = U := ⟨_, rfl⟩
            have lU : U.length = 32 := by rw [← hU]; exact nodeL_length _ _
            have hup : upF (nth zs) m j = U := by rw [upF, if_pos (by have := HJ.out; omega), HJ.out, hX, hY, hU]
            have HU := Lib.hid (And.intro hup hq1')
            have HAt := Lib.hid (And.intro hatq hatq1)
            have CN := Lib.hid (fun (W : World) (hW : Below wo.heap.size wo W) => later (v' := sv U) (Below.refl _ W) (by rw [hU]) (node_any X Y W hlq hlq1 (by rw [← hX]; exact flt.out q) (by rw [← hY]; exact flt.out (q + 1)) ((hk.below HL.out.below).below hW) ((hs.below HL.out.below).below hW)))
            clear hatq hatq1 hup hU hX hY hq1' hq1
            go_wp2_with fail
            refine wp_region_held_drew (S := fun W => Below wo.heap.size wo W) (by kernel_rfl) (HI0.out.2.drew) (fun hS0 => ?_)
            change wpAnyH _ _ _ _ _ _ _ _ wr.drew
            refine' wpAnyH_take (i := 0) (oi := _) (v := _) ?hiu0 (by kernel_rfl) ?hfu0 ?hru0 ?hQu0 ?hyu0 hS0 ?restu0
            case hiu0 => (simp only [List.getElem?_toArray, List.getElem?_cons_zero]; rfl)
            case hfu0 => kernel_rfl
            case hru0 => kernel_rfl
            case hQu0 => exact fun _ _ _ h => h
            case hyu0 => refine Or.inl ⟨by rfl, ?_⟩; intro W hSw; go_simp; try with_reducible rfl
            try simp only [Act.put, List.setIfInBounds_toArray, List.set_cons_zero, List.set_cons_succ]
            refine' wpAnyH_take (i := 1) (oi := _) (v := _) ?hiu1 (by kernel_rfl) ?hfu1 ?hru1 ?hQu1 ?hyu1 hS0 ?restu1
            case hiu1 => (simp only [List.getElem?_toArray, List.getElem?_cons_zero, List.getElem?_cons_succ]; rfl)
            case hfu1 => kernel_rfl
            case hru1 => kernel_rfl
            case hQu1 => exact fun _ _ _ h => h
            case hyu1 => refine Or.inl ⟨by rfl, ?_⟩; intro W hSw; go_simp; try with_reducible rfl
            try simp only [Act.put, List.setIfInBounds_toArray, List.set_cons_zero, List.set_cons_succ]
            refine' wpAnyH_take (i := 2) (oi := _) (v := _) ?hiu2 (by kernel_rfl) ?hfu2 ?hru2 ?hQu2 ?hyu2 hS0 ?restu2
            case hiu2 => (simp only [List.getElem?_toArray, List.getElem?_cons_zero, List.getElem?_cons_succ]; rfl)
            case hfu2 => kernel_rfl
            case hru2 => kernel_rfl
            case hQu2 => exact fun _ _ _ h => h
            case hyu2 => refine Or.inl ⟨by rfl, ?_⟩; intro W hSw; go_simp; try with_reducible rfl
            try simp only [Act.put, List.setIfInBounds_toArray, List.set_cons_zero, List.set_cons_succ]
            refine' wpAnyH_take (i := 3) (oi := _) (v := _) ?hiu3 (by kernel_rfl) ?hfu3 ?hru3 ?hQu3 ?hyu3 hS0 ?restu3
            case hiu3 => (simp only [List.getElem?_toArray, List.getElem?_cons_zero, List.getElem?_cons_succ]; rfl)
            case hfu3 => kernel_rfl
            case hru3 => kernel_rfl
            case hQu3 => exact fun _ _ _ h => h
            case hyu3 => refine Or.inl ⟨by rfl, ?_⟩; intro W hSw; go_simp; try with_reducible rfl
            try simp only [Act.put, List.setIfInBounds_toArray, List.set_cons_zero, List.set_cons_succ]
            refine' wpAnyH_take (i := 4) (oi := _) (v := sv (X)) ?hiu4 (by kernel_rfl) ?hfu4 ?hru4 ?hQu4 ?hyu4 hS0 ?restu4
            case hiu4 => (simp only [List.getElem?_toArray, List.getElem?_cons_zero, List.getElem?_cons_succ]; rfl)
            case hfu4 => kernel_rfl
            case hru4 => kernel_rfl
            case hQu4 => exact fun _ _ _ h => h
            case hyu4 => refine yields_sum ?_ (.tmp 34) rfl (ad.add (q * 32)) rfl X hlq (fun W hSw => HAt.out.1.below hSw); rfl
            try simp only [Act.put, List.setIfInBounds_toArray, List.set_cons_zero, List.set_cons_succ]
            refine' wpAnyH_take (i := 5) (oi := _) (v := _) ?hiu5 (by kernel_rfl) ?hfu5 ?hru5 ?hQu5 ?hyu5 hS0 ?restu5
            case hiu5 => (simp only [List.getElem?_toArray, List.getElem?_cons_zero, List.getElem?_cons_succ]; rfl)
            case hfu5 => kernel_rfl
            case hru5 => kernel_rfl
            case hQu5 => exact fun _ _ _ h => h
            case hyu5 => refine Or.inl ⟨by rfl, ?_⟩; intro W hSw; go_simp; try with_reducible rfl
            try simp only [Act.put, List.setIfInBounds_toArray, List.set_cons_zero, List.set_cons_succ]
            refine' wpAnyH_take (i := 6) (oi := _) (v := _) ?hiu6 (by kernel_rfl) ?hfu6 ?hru6 ?hQu6 ?hyu6 hS0 ?restu6
            case hiu6 => (simp only [List.getElem?_toArray, List.getElem?_cons_zero, List.getElem?_cons_succ]; rfl)
            case hfu6 => kernel_rfl
            case hru6 => kernel_rfl
            case hQu6 => exact fun _ _ _ h => h
            case hyu6 => refine Or.inl ⟨by rfl, ?_⟩; intro W hSw; go_simp; try with_reducible rfl
            try simp only [Act.put, List.setIfInBounds_toArray, List.set_cons_zero, List.set_cons_succ]
            refine' wpAnyH_take (i := 7) (oi := _) (v := _) ?hiu7 (by kernel_rfl) ?hfu7 ?hru7 ?hQu7 ?hyu7 hS0 ?restu7
            case hiu7 => (simp only [List.getElem?_toArray, List.getElem?_cons_zero, List.getElem?_cons_succ]; rfl)
            case hfu7 => kernel_rfl
            case hru7 => kernel_rfl
            case hQu7 => exact fun _ _ _ h => h
            case hyu7 => refine Or.inl ⟨by rfl, ?_⟩; intro W hSw; go_simp; try with_reducible rfl
            try simp only [Act.put, List.setIfInBounds_toArray, List.set_cons_zero, List.set_cons_succ]
            refine' wpAnyH_take (i := 8) (oi := _) (v := _) ?hiu8 (by kernel_rfl) ?hfu8 ?hru8 ?hQu8 ?hyu8 hS0 ?restu8
            case hiu8 => (simp only [List.getElem?_toArray, List.getElem?_cons_zero, List.getElem?_cons_succ]; rfl)
            case hfu8 => kernel_rfl
            case hru8 => kernel_rfl
            case hQu8 => exact fun _ _ _ h => h
            case hyu8 => refine Or.inl ⟨by rfl, ?_⟩; intro W hSw; go_simp; try with_reducible rfl
            try simp only [Act.put, List.setIfInBounds_toArray, List.set_cons_zero, List.set_cons_succ]
            refine' wpAnyH_take (i := 9) (oi := _) (v := sv (Y)) ?hiu9 (by kernel_rfl) ?hfu9 ?hru9 ?hQu9 ?hyu9 hS0 ?restu9
            case hiu9 => (simp only [List.getElem?_toArray, List.getElem?_cons_zero, List.getElem?_cons_succ]; rfl)
            case hfu9 => kernel_rfl
            case hru9 => kernel_rfl
            case hQu9 => exact fun _ _ _ h => h
            case hyu9 => refine yields_sum ?_ (.tmp 39) rfl (ad.add (q1 * 32)) rfl Y hlq1 (fun W hSw => HAt.out.2.below hSw); rfl
            try simp only [Act.put, List.setIfInBounds_toArray, List.set_cons_zero, List.set_cons_succ]
            refine wpAnyH_ready (rs := [10]) (by kernel_rfl) (by simp) ?_
            refine' AllReadyH.cons (o := _) ?hiu10 (fun K hK => ?_) AllReadyH.nil
            case hiu10 => (simp only [List.getElem?_toArray, List.getElem?_cons_zero, List.getElem?_cons_succ]; rfl)
            go_simp
            go_at_call 12
            refine (CN.out _ hS0).mono ?_
            rintro e W1 ⟨rfl, hb1⟩
            have hB1 : Below wo.heap.size wo W1 := hS0.trans (hb1.mono hS0.size)
            have ow1 := own_on (own_on HI0.out.1 ((Below.refl _ wr).drew)) hb1
            refine hK.out _ _ hB1 (fun _ => ?_)
            clear hK K
            try simp only [Act.put, List.setIfInBounds_toArray, List.set_cons_zero, List.set_cons_succ]
            refine wpAnyH_ready (rs := [11]) (by kernel_rfl) (by simp) ?_
            refine' AllReadyH.cons (o := _) ?hiu11 (fun K hK => ?_) AllReadyH.nil
            case hiu11 => (simp only [List.getElem?_toArray, List.getElem?_cons_zero, List.getElem?_cons_succ]; rfl)
            rw [if_pos (by rfl)]
            refine wp_sums _ [U] 1 rfl rfl (by simp <;> rfl) (by intro x hx; simp at hx; rw [hx]; exact lU) (by omega) (by omega) ?_
            have hB2 := Below.alloc hB1 (Below.size hB1) (.cells (bvs [U].flatten).toArray 24)
            have ow2 := own_on ow1 (below_alloc W1 (.cells (bvs [U].flatten).toArray 24))
            have i2 : InS (W1.alloc (.cells (bvs [U].flatten).toArray 24)) (some ⟨W1.heap.size, 0, none⟩) 1 U := ⟨by rw [lU], by have := (In.new' W1 [U].flatten 24).rd; simpa using this⟩
            refine hK.out _ _ hB2 (fun _ => ?_)
            clear hK K
            try simp only [Act.put, List.setIfInBounds_toArray, List.set_cons_zero, List.set_cons_succ]
            refine wpAnyH_ready (rs := [12]) (by kernel_rfl) (by simp) ?_
            refine' AllReadyH.cons (o := _) ?hiu12 (fun K hK => ?_) AllReadyH.nil
            case hiu12 => (simp only [List.getElem?_toArray, List.getElem?_cons_zero, List.getElem?_cons_succ]; rfl)
            refine step_sapp (by rfl) _ _ (by rfl) wo.heap.size A' j c' (upS (nth zs) m j) (by rfl) ow2 (some ⟨W1.heap.size, 0, none⟩) 1 1 U (by rfl) i2 (fun e => by cases e) (by omega) (Below.size hB2) ?_
            intro A3 c3 W3 ow3 nx3
            have hB3 : Below wo.heap.size wo W3 := nx3.below ow2 hB2 (Nat.le_refl _) (Below.size hB2)
            have HN := Lib.hid (And.intro ow3 hB3)
            clear nx3 ow2 i2 ow1 ow3
            refine hK.out _ _ hB3 (fun _ => ?_)
            clear hK K
            try simp only [Act.put, List.setIfInBounds_toArray, List.set_cons_zero, List.set_cons_succ]
            refine' wpAnyH_take (i := 13) (oi := _) (v := _) ?hiu13 (by kernel_rfl) ?hfu13 ?hru13 ?hQu13 ?hyu13 hB3 ?restu13
            case hiu13 => (simp only [List.getElem?_toArray, List.getElem?_cons_zero, List.getElem?_cons_succ]; rfl)
            case hfu13 => kernel_rfl
            case hru13 => kernel_rfl
            case hQu13 => exact fun _ _ _ h => h
            case hyu13 => refine Or.inl ⟨by rfl, ?_⟩; intro W hSw; go_simp; try with_reducible rfl
            try simp only [Act.put, List.setIfInBounds_toArray, List.set_cons_zero, List.set_cons_succ]
            refine wpAnyH_done (by kernel_rfl) ?_ _
            go_wp2_with fail
            go_roundw
            case rel =>
              refine ⟨j + 1, q + 2, A3, c3, by have := HJ.out; omega, by have := HU.out.2; omega, by go_num, rfl, ?_, HN.out.2⟩
              rw [upS_succ, HU.out.1]
              exact HN.out.1
            case measure => simp [intOf]; omega
          · have k2 : decide ((q : Int) + 1 < (m : Int)) = false := by simp; omega
            have hup : upF (nth zs) m j = X := by rw [upF, if_neg (by have := HJ.out; omega), HJ.out, hX]
            have HU := Lib.hid (And.intro hup hq1)
            have HAt := Lib.hid (hatq.below HI0.out.2)
            clear hatq hup hX hq1
            have NW : Hid (∀ (W : World), InS (W.alloc (.cells (bvs X).toArray 24)) (some ⟨W.heap.size, 0, none⟩) 1 X) := Lib.hid fun W => ⟨by rw [hlq], (In.new' W X 24).rd⟩
            have OW := Lib.hid (own_on HI0.out.1 (below_alloc wr (.cells (bvs X).toArray 24)))
            have BW := Lib.hid (HI0.out.2.alloc HI0.out.2.size (.cells (bvs X).toArray 24))
            go_wp2_with (first
              | refine wpList_load_sum rfl (.tmp 47) rfl (ad.add (q * 32)) rfl X hlq HAt.out ?_
              | (refine wpList_step fun K hK => ?_; rw [if_pos (by rfl)]; refine wp_sums (K := K) _ [X] 1 rfl rfl (by simp <;> rfl) (by intro x hx; simp at hx; rw [hx]; exact hlq) (by omega) (by omega) ?_; rw [flat_one]; refine hK _ _ ?_; clear hK K)
              | (refine wpList_step fun K hK => ?_; refine step_sapp (K := K) (by rfl) _ _ (by rfl) wo.heap.size A' j c' (upS (nth zs) m j) (by rfl) OW.out (some ⟨wr.heap.size, 0, none⟩) 1 1 X (by rfl) (NW.out wr) (fun e => by cases e) (by omega) BW.out.size ?_; intro A3 c3 W3 ow3 nx3; have HN := Lib.hid (And.intro ow3 (nx3.below OW.out BW.out (Nat.le_refl _) BW.out.size)); clear ow3 nx3; refine hK _ _ ?_; clear hK K))
            go_roundw
            case rel =>
              refine ⟨j + 1, q + 2, A3, c3, by have := HJ.out; omega, by omega, by go_num, rfl, ?_, HN.out.2⟩
              rw [upS_succ, HU.out.1]
              exact HN.out.1
            case measure => simp [intOf]; omega
        · have k1 : decide ((q : Int) < (m : Int)) = false := by simp; omega
          obtain rfl : (m + 1) / 2 = j := by have := HJ.out; omega
          have hpos : 0 < (m + 1) / 2 := by omega
          obtain ⟨au, hau⟩ := ownSome HI0.out.1 hpos
          subst hau
          have ho := HI0.out.1
          have b0 := below_on HL.out.below (Nat.le_refl _) HI0.out.2
          have L2 : Level w wr R au ((m + 1) / 2) c' (upS (nth zs) m ((m + 1) / 2)) := ⟨InS.of_own ho, upS_lt m flt.out _, own_cap ho, hpos, by omega, by rw [rt_ups (by omega) f32.out]; exact HL.out.root, b0⟩
          obtain ⟨p, hp⟩ : ∃ p, (m + 1) / 2 = p := ⟨_, rfl⟩
          rw [hp] at L2 ⊢
          have hpm : p < m := by omega
          have HL2 := Lib.hid L2
          have C1 := Lib.hid (root_any (some au) p c' _ wr L2.in_ L2.lt L2.cap (by have := L2.few; omega) (hk.below b0) (hs.below b0))
          rw [L2.root] at C1
          clear L2 hp ho b0
          go_wp2_with fail
          refine C1.out.mono ?_
          rintro e w5 ⟨rfl, hb5⟩
          have B5 := Lib.hid (below_on HL2.out.below (Nat.le_refl _) hb5)
          have C2 := Lib.hid (root_any (some ad) m c2 zs w5 (HL.out.in_.below (below_on HI0.out.2 (Nat.le_refl _) hb5)) HL.out.lt HL.out.cap (by omega) (hk.below B5.out) (hs.below B5.out))
          rw [HL.out.root] at C2
          have I5 := Lib.hid (HL2.out.in_.below hb5)
          clear C1 hb5
          go_wp2_with fail
          refine C2.out.mono ?_
          rintro e w6 ⟨rfl, hb6⟩
          have I6 := Lib.hid (I5.out.below hb6)
          have B6 := Lib.hid (below_on B5.out (Nat.le_refl _) hb6)
          have X2 := Lib.hid (And.intro HL2.out.lt (And.intro HL2.out.cap (And.intro HL2.out.one (And.intro HL2.out.few HL2.out.root))))
          clear C2 hb6
          go_wp2_with fail
          go_roundw
          case rel => exact ⟨p, c', au, _, rfl, I6.out, X2.out.1, X2.out.2.1, X2.out.2.2.1, X2.out.2.2.2.1, X2.out.2.2.2.2, B6.out⟩
          case measure => simp [slen]; omega
    · have j1 : decide ((1 : Int) < (m : Int)) = false := by simp; omega
      have hm1 := HL.out.one
      obtain rfl : m = 1 := by omega
      obtain ⟨ad', hA', hlq, hatq⟩ := HL.out.in_.at_ (show 0 < 1 by omega)
      cases hA'
      have hroot : nth zs 0 = R := by rw [← HL.out.root, rt_one]
      rw [hroot] at hatq
      have HAt := Lib.hid hatq
      have CA := Lib.hid (fun (W : World) (hW : Below wo.heap.size wo W) => later (v' := .bool true) hW rfl (alive_any W ((hk.below HL.out.below).below hW) ((hs.below HL.out.below).below hW)))
      have CG := Lib.hid (fun (W : World) (hW : Below wo.heap.size wo W) => later (v' := sv R) hW rfl (CF.out W (below_on HL.out.below (Nat.le_refl _) hW)))
      clear hatq hroot hlq hm hm1
      go_wp2_with fail
      refine wp_region_held_drew (S := fun W => Below wo.heap.size wo W) (by kernel_rfl) ((Below.refl _ _).drew) (fun hS0 => ?_)
      change wpAnyH _ _ _ _ _ _ _ _ wo.drew
      refine wpAnyH_ready (rs := [0]) (by kernel_rfl) (by simp) ?_
      refine' AllReadyH.cons (o := _) ?hiv0 (fun K hK => ?_) AllReadyH.nil
      case hiv0 => (simp only [List.getElem?_toArray, List.getElem?_cons_zero]; rfl)
      go_simp
      go_at_call 18
      refine (CA.out _ hS0).mono ?_
      rintro e Wv2 ⟨rfl, hBv1⟩
      refine hK.out _ _ hBv1 (fun _ => ?_)
      clear hK K
      try simp only [Act.put, List.setIfInBounds_toArray, List.set_cons_zero, List.set_cons_succ]
      refine' wpAnyH_take (i := 1) (oi := _) (v := _) ?hiv1 (by kernel_rfl) ?hfv1 ?hrv1 ?hQv1 ?hyv1 hBv1 ?restv1
      case hiv1 => (simp only [List.getElem?_toArray, List.getElem?_cons_zero, List.getElem?_cons_succ]; rfl)
      case hfv1 => kernel_rfl
      case hrv1 => kernel_rfl
      case hQv1 => exact fun _ _ _ h => h
      case hyv1 => refine Or.inl ⟨by rfl, ?_⟩; intro W hSw; go_simp; try with_reducible rfl
      try simp only [Act.put, List.setIfInBounds_toArray, List.set_cons_zero, List.set_cons_succ]
      refine' wpAnyH_take (i := 2) (oi := _) (v := _) ?hiv2 (by kernel_rfl) ?hfv2 ?hrv2 ?hQv2 ?hyv2 hBv1 ?restv2
      case hiv2 => (simp only [List.getElem?_toArray, List.getElem?_cons_zero, List.getElem?_cons_succ]; rfl)
      case hfv2 => kernel_rfl
      case hrv2 => kernel_rfl
      case hQv2 => exact fun _ _ _ h => h
      case hyv2 => refine Or.inl ⟨by rfl, ?_⟩; intro W hSw; go_simp; try with_reducible rfl
      try simp only [Act.put, List.setIfInBounds_toArray, List.set_cons_zero, List.set_cons_succ]
      refine' wpAnyH_take (i := 4) (oi := _) (v := _) ?hiv4 (by kernel_rfl) ?hfv4 ?hrv4 ?hQv4 ?hyv4 hBv1 ?restv4
      case hiv4 => (simp only [List.getElem?_toArray, List.getElem?_cons_zero, List.getElem?_cons_succ]; rfl)
      case hfv4 => kernel_rfl
      case hrv4 => kernel_rfl
      case hQv4 => exact fun _ _ _ h => h
      case hyv4 => refine Or.inl ⟨by rfl, ?_⟩; intro W hSw; go_simp; try with_reducible rfl
      try simp only [Act.put, List.setIfInBounds_toArray, List.set_cons_zero, List.set_cons_succ]
      refine' wpAnyH_take (i := 5) (oi := _) (v := _) ?hiv5 (by kernel_rfl) ?hfv5 ?hrv5 ?hQv5 ?hyv5 hBv1 ?restv5
      case hiv5 => (simp only [List.getElem?_toArray, List.getElem?_cons_zero, List.getElem?_cons_succ]; rfl)
      case hfv5 => kernel_rfl
      case hrv5 => kernel_rfl
      case hQv5 => exact fun _ _ _ h => h
      case hyv5 => refine Or.inl ⟨by rfl, ?_⟩; intro W hSw; go_simp; try with_reducible rfl
      try simp only [Act.put, List.setIfInBounds_toArray, List.set_cons_zero, List.set_cons_succ]
      refine' wpAnyH_take (i := 6) (oi := _) (v := sv (R)) ?hiv6 (by kernel_rfl) ?hfv6 ?hrv6 ?hQv6 ?hyv6 hBv1 ?restv6
      case hiv6 => (simp only [List.getElem?_toArray, List.getElem?_cons_zero, List.getElem?_cons_succ]; rfl)
      case hfv6 => kernel_rfl
      case hrv6 => kernel_rfl
      case hQv6 => exact fun _ _ _ h => h
      case hyv6 => refine yields_sum ?_ (.tmp 62) rfl (ad.add (0 * 32)) rfl R lR (fun W hSw => HAt.out.below hSw); rfl
      try simp only [Act.put, List.setIfInBounds_toArray, List.set_cons_zero, List.set_cons_succ]
      refine wpAnyH_ready (rs := [3]) (by kernel_rfl) (by simp) ?_
      refine' AllReadyH.cons (o := _) ?hiv3 (fun K hK => ?_) AllReadyH.nil
      case hiv3 => (simp only [List.getElem?_toArray, List.getElem?_cons_zero, List.getElem?_cons_succ]; rfl)
      go_simp
      go_at_call 14
      refine (CG.out _ hBv1).mono ?_
      rintro e Wv4 ⟨rfl, hBv3⟩
      refine hK.out _ _ hBv3 (fun _ => ?_)
      clear hK K
      try simp only [Act.put, List.setIfInBounds_toArray, List.set_cons_zero, List.set_cons_succ]
      refine' wpAnyH_take (i := 7) (oi := _) (v := _) ?hiv7 (by kernel_rfl) ?hfv7 ?hrv7 ?hQv7 ?hyv7 hBv3 ?restv7
      case hiv7 => (simp only [List.getElem?_toArray, List.getElem?_cons_zero, List.getElem?_cons_succ]; rfl)
      case hfv7 => kernel_rfl
      case hrv7 => kernel_rfl
      case hQv7 => exact fun _ _ _ h => h
      case hyv7 => refine Or.inl ⟨by rfl, ?_⟩; intro W hSw; go_simp; try with_reducible rfl
      try simp only [Act.put, List.setIfInBounds_toArray, List.set_cons_zero, List.set_cons_succ]
      refine' wpAnyH_take (i := 8) (oi := _) (v := _) ?hiv8 (by kernel_rfl) ?hfv8 ?hrv8 ?hQv8 ?hyv8 hBv3 ?restv8
      case hiv8 => (simp only [List.getElem?_toArray, List.getElem?_cons_zero, List.getElem?_cons_succ]; rfl)
      case hfv8 => kernel_rfl
      case hrv8 => kernel_rfl
      case hQv8 => exact fun _ _ _ h => h
      case hyv8 => refine Or.inl ⟨by rfl, ?_⟩; intro W hSw; go_simp; try with_reducible rfl
      try simp only [Act.put, List.setIfInBounds_toArray, List.set_cons_zero, List.set_cons_succ]
      refine' wpAnyH_take (i := 9) (oi := _) (v := _) ?hiv9 (by kernel_rfl) ?hfv9 ?hrv9 ?hQv9 ?hyv9 hBv3 ?restv9
      case hiv9 => (simp only [List.getElem?_toArray, List.getElem?_cons_zero, List.getElem?_cons_succ]; rfl)
      case hfv9 => kernel_rfl
      case hrv9 => kernel_rfl
      case hQv9 => exact fun _ _ _ h => h
      case hyv9 => refine Or.inl ⟨by rfl, ?_⟩; intro W hSw; go_simp; try with_reducible rfl
      try simp only [Act.put, List.setIfInBounds_toArray, List.set_cons_zero, List.set_cons_succ]
      refine wpAnyH_done (by kernel_rfl) ?_ _
      go_wp2
      go_ret
      exact ⟨rfl, below_on HL.out.below (Nat.le_refl _) hBv3⟩

theorem leavesPairs_law (w : World) (hk : Knows w) (hs : Starts w) {A : Option Addr} {n c : Nat} {ys : List Nat} (h : CameS w A n c ys) :
    Calls Tryd.prog 5 #[.slice A n c] w fun e w' => e = .returned (.bool true) ∧ Below w.heap.size w w' := by
  by_cases h1 : n = 0 ∨ 200 < n
  · exact pairs_else w hk hs A n c h1
  · exact pairs_some w hk hs A n c ys h (by omega) (by omega)

end Go.Proofs.YtigmbiigaiajdaaDoor
