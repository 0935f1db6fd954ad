/-
  ShasWritten: two runs that are written in turns.
-/
import Derived.Test.YtineheaiphommaaDoorShaSum
import Derived.Test.YtineheaiphommaaDoorLRow
import Derived.Laws.AppendOwn
import Derived.Lib.SlBytesConst
namespace Go.Proofs.YtineheaiphommaaDoor
open Go.RowKit

theorem RunAt.only {w w' : World} {g g' n : Nat} {S blk : List Nat} (h : RunAt w g S blk n) (ho : Only g' w w') (hne : g ≠ g') : RunAt w' g S blk n := ⟨h.s8, h.b64, ho.heap hne h.heap⟩
theorem Ran.only {w w' : World} {g g' : Nat} {xs blk : List Nat} (h : Ran w g xs blk) (ho : Only g' w w') (hne : g ≠ g') : Ran w' g xs blk := ⟨h.at_.only ho hne, h.lt, h.rest⟩
theorem Ran.below {w w' : World} {g : Nat} {xs blk : List Nat} (h : Ran w g xs blk) (hb : Below w.heap.size w w') : Ran w' g xs blk := ⟨h.at_.below hb, h.lt, h.rest⟩

/-- 's[k:k+1]'. -/
theorem run_cut1 {ad : Addr} {n c k : Nat} (hk : k < n) (hc : n ≤ c) (z z' : Int) (hz : z = (k : Int)) (hz' : z' = (k : Int) + 1) (W : World) :
    (Instr.slice 22 (.slice (some ad) n c) (some (.int .i64 z)) (some (.int .i64 z')) none).run Tryd.prog W = .ok (.slice (some (ad.add k)) 1 (c - k)) W := by
  subst hz hz'
  obtain ⟨i0, hi, hz0, hz1, hz2⟩ := info_parts infoByte
  have he : Tryd.prog.elem 22 = 5 := by kernel_rfl
  rw [run_slice_lh W 22 (some ad) n c (by rw [he]; exact Tryd.underlying22) .i64 .i64 (k : Int) ((k : Int) + 1) (by omega) (by omega) (by omega), he]
  have e1 : ((k : Int) + 1).toNat = k + 1 := by omega
  have e2 : ¬ c = k := by omega
  simp [sizeOf, typeInfo, hi, hz1, sliced, e1, e2]

theorem eql_same (s : List Nat) (hs : s.length = 32) (W : World) : (binOp .eql 51 (sv s) (sv s)).run Tryd.prog W = .ok (.bool true) W := by
  rw [run_eql_sum s s hs hs W, decide_eq_true rfl]
theorem neq_unlike (s t : List Nat) (hs : s.length = 32) (ht : t.length = 32) (hne : s ≠ t) (W : World) : (binOp .neq 51 (sv s) (sv t)).run Tryd.prog W = .ok (.bool true) W := by
  rw [run_neq_sum s t hs ht W, decide_eq_false hne]
  rfl
set_option maxRecDepth 1000000 in
theorem abc_acb : sha [97, 98, 99] ≠ sha [97, 99, 98] := by decide +kernel

theorem In.newF (W : World) (xs : List Nat) (t : TypeId) (fr : Nat × Nat) : In (W.alloc (.cells (bvs xs).toArray t fr)) (some ⟨W.heap.size, 0, none⟩) xs.length xs :=
  ⟨rfl, fun j x hx => ⟨_, rfl, by
    rw [show (⟨W.heap.size, 0, none⟩ : Addr).add j = ⟨W.heap.size, j, none⟩ from by unfold Addr.add; split <;> simp_all]
    rw [cell_of_row _ W.heap.size j _ t fr (World.alloc_heap_new W _), List.getElem?_toArray, bvs_get, hx]
    rfl⟩⟩
theorem take_next {xs : List Nat} {j x : Nat} (h : xs[j]? = some x) : xs.take (j + 1) = xs.take j ++ [x] := take_snoc_of h
theorem rev_get {ys : List Nat} {m t y : Nat} (hl : ys.length = m) (ht : t < m) (h : ys[m - 1 - t]? = some y) : ys.reverse[t]? = some y := by
  rw [List.getElem?_reverse (by omega), hl, h]

/-- One byte more is written. -/
theorem write_one (g : Nat) (xs blk : List Nat) (ad : Addr) (x c : Nat) (w : World) (hr : Ran w g xs blk) (hin : In w (some ad) 1 [x]) (hx : x < 256) (hA : ad.block ≠ g) (hc : 1 ≤ c) (hk : Knows w) (hg : g ≠ 1) (hn : xs.length ≤ 5000) :
    Calls Tryd.prog 27 #[.pointer (some ⟨g, 0, none⟩), .slice (some ad) 1 c] w fun e w' => e = .returned (.int .i64 0) ∧ (∃ blk', Ran w' g (xs ++ [x]) blk') ∧ Only g w w' :=
  write_any g xs blk (some ad) 1 c [x] w hr hin (by intro y hy; rw [List.mem_singleton] at hy; omega) (fun _ a e => by cases e; exact hA) hc hk hg (by omega)

set_option maxRecDepth 100000 in
set_option maxHeartbeats 1000000 in
theorem written_long (A B : Option Addr) (n c m d : Nat) (w : World) (h : 3000 < n ∨ 3000 < m) :
    Calls Tryd.prog 8 #[.slice A n c, .slice B m d] w fun e w' => e = .returned (.bool true) ∧ Below w.heap.size w w' := by
  by_cases h1 : 3000 < n
  · go_enter Tryd.func8, Tryd.ntmps8
    go_wp2
    go_ret
    exact ⟨rfl, Below.refl _ _⟩
  · have h2 : 3000 < m := by omega
    go_enter Tryd.func8, Tryd.ntmps8
    go_wp2
    go_ret
    exact ⟨rfl, Below.refl _ _⟩

set_option maxRecDepth 100000 in
set_option maxHeartbeats 1000000 in
theorem written_any (A B : Option Addr) (n c m d : Nat) (xs ys : List Nat) (w : World) (hx : In w A n xs) (hy : In w B m ys) (lx : ∀ x ∈ xs, x < 256) (ly : ∀ y ∈ ys, y < 256) (hc : n ≤ c) (hd : m ≤ d) (hk : Knows w) (hs : Starts w) (hn : n ≤ 3000) (hm : m ≤ 3000) :
    Calls Tryd.prog 8 #[.slice A n c, .slice B m d] w fun e w' => e = .returned (.bool true) ∧ Below w.heap.size w w' := by
  have LX := Lib.hid lx
  have LY := Lib.hid ly
  have hs' := hs.below (below_alloc w (.cells (runCells h0 zero64 0).toArray 65))
  have S1 := Lib.hid hs'
  clear lx ly hs'
  go_enter Tryd.func8, Tryd.ntmps8
  go_wp2_with fail
  refine (new_any w hs).mono ?_
  rintro e w1 ⟨rfl, rfl⟩
  go_wp2_with fail
  refine (new_any _ S1.out).mono ?_
  rintro e w2 ⟨rfl, hw2⟩
  have r1 := ran_new w
  have r2 := ran_new (w.alloc (.cells (runCells h0 zero64 0).toArray 65))
  rw [← hw2, World.size_alloc] at r2
  have b2 : Below w.heap.size w w2 := by rw [hw2]; exact (below_alloc w _).alloc (by simp) _
  have r1' : Ran w2 w.heap.size [] zero64 := r1.below (by rw [hw2]; exact below_alloc _ _)
  rw [World.size_alloc]
  have HR := Lib.hid (And.intro r1' (And.intro r2 b2))
  clear hw2 r1 r2 b2 r1'
  go_wp2
  go_loopw [7] (fun i wr => ∃ (j : Nat) (p q : List Nat), j ≤ max n m ∧ i = .int .i64 (j : Int) ∧ Ran wr w.heap.size (xs.take j) p ∧ Ran wr (w.heap.size + 1) (ys.reverse.take j) q ∧ Below w.heap.size w wr) (fun i _ => max n m - (intOf i).toNat)
  case atStart => exact ⟨0, _, _, Nat.zero_le _, rfl, HR.out.1, HR.out.2.1, HR.out.2.2⟩
  case round =>
    clear HR
    obtain ⟨j, p, q, hj, rfl, R1, R2, bel⟩ := hrel
    have gk := hk.lt
    have HR1 := Lib.hid R1
    have HR2 := Lib.hid R2
    have HB := Lib.hid bel
    clear R1 R2 bel
    by_cases hlt : j < max n m
    · go_upto_if 32 with (fail)
      go_cut [7] from 20 to 56 (fun s7 wx => s7 = .int .i64 (j : Int) ∧ ∃ p', Ran wx w.heap.size (xs.take (j + 1)) p' ∧ Ran wx (w.heap.size + 1) (ys.reverse.take j) q ∧ Below w.heap.size w wx)
      case first =>
        by_cases hjn : j < n
        · obtain ⟨ad, x, rfl, hxj, hcell⟩ := hx.at_ hjn
          have hadb : ad.block < w.heap.size := by have := World.block_lt_of_cell? w _ hcell; rwa [block_add] at this
          have hcut := run_cut1 (ad := ad) hjn hc (j : Int) ((j : Int) + 1) rfl rfl
          have hin1 : In wr (some (ad.add j)) 1 [x] := by
            have := (hx.below HB.out).drop_take (k := j) (m := 1) (by omega)
            rw [show (xs.drop j).take 1 = [x] from by rw [List.take_one, List.head?_drop, hxj]; rfl] at this
            exact this
          have C1 := Lib.hid (write_one w.heap.size (xs.take j) p (ad.add j) x (c - j) wr HR1.out hin1 (LX.out x (List.mem_of_getElem? hxj)) (by rw [block_add]; omega) (by omega) (hk.below HB.out) (by omega) (by rw [List.length_take]; omega))
          have HT := Lib.hid (take_next hxj)
          clear hxj hcell hin1
          go_wp2_with (go_at_call 27; refine C1.out.mono ?_; rintro e w3 ⟨rfl, ⟨p', r3⟩, o3⟩)
          all_goals
            rw [← HT.out] at r3
            go_meet
            case rel => exact ⟨rfl, p', r3, HR2.out.only o3 (by omega), Only.below HB.out (Nat.le_refl _) (Nat.le_refl _) o3⟩
        · go_wp2
          all_goals
           go_meet
           case rel =>
            have e1 : xs.take (j + 1) = xs.take j := by rw [List.take_of_length_le (by rw [hx.len]; omega), List.take_of_length_le (by rw [hx.len]; omega)]
            exact ⟨rfl, p, by rw [e1]; exact HR1.out, HR2.out, HB.out⟩
      case rest =>
        obtain ⟨rfl, p', R1', R2', bel'⟩ := hcut
        clear HR1 HR2 HB
        have HR1 := Lib.hid R1'
        have HR2 := Lib.hid R2'
        have HB := Lib.hid bel'
        clear R1' R2' bel'
        by_cases hjm : j < m
        · obtain ⟨k, hk1⟩ : ∃ k : Nat, m - 1 - j = k := ⟨_, rfl⟩
          obtain ⟨ad, y, rfl, hyj, hcell⟩ := hy.at_ (show k < m by omega)
          have hadb : ad.block < w.heap.size := by have := World.block_lt_of_cell? w _ hcell; rwa [block_add] at this
          have hcut := run_cut1 (ad := ad) (show k < m by omega) hd ((m : Int) - 1 - (j : Int)) ((m : Int) - (j : Int)) (by omega) (by omega)
          have hin1 : In wc (some (ad.add k)) 1 [y] := by
            have := (hy.below HB.out).drop_take (k := k) (m := 1) (by omega)
            rw [show (ys.drop k).take 1 = [y] from by rw [List.take_one, List.head?_drop, hyj]; rfl] at this
            exact this
          have C1 := Lib.hid (write_one (w.heap.size + 1) (ys.reverse.take j) q (ad.add k) y (d - k) wc HR2.out hin1 (LY.out y (List.mem_of_getElem? hyj)) (by rw [block_add]; omega) (by omega) (hk.below HB.out) (by omega) (by rw [List.length_take]; omega))
          have HT := Lib.hid (take_next (rev_get hy.len hjm (by rw [hk1]; exact hyj)))
          have HK := Lib.hid hk1
          clear hyj hcell hin1 hk1
          go_wp2_with (go_at_call 27; refine C1.out.mono ?_; rintro e w3 ⟨rfl, ⟨q', r3⟩, o3⟩)
          all_goals
           rw [← HT.out] at r3
           go_roundw
           case rel => exact ⟨j + 1, p', q', by omega, by go_num, HR1.out.only o3 (by omega), r3, Only.below HB.out (by omega) (Nat.le_refl _) o3⟩
           case measure => simp [intOf]; omega
        · go_wp2
          all_goals
           go_roundw
           case rel =>
            have e1 : ys.reverse.take (j + 1) = ys.reverse.take j := by rw [List.take_of_length_le (by rw [List.length_reverse, hy.len]; omega), List.take_of_length_le (by rw [List.length_reverse, hy.len]; omega)]
            exact ⟨j + 1, p', q, by omega, by go_num, HR1.out, by rw [e1]; exact HR2.out, HB.out⟩
           case measure => simp [intOf]; omega
    · obtain ⟨wo, rfl⟩ : ∃ wo : World, wo = wr := ⟨_, rfl⟩
      have e1 : xs.take j = xs := List.take_of_length_le (by rw [hx.len]; omega)
      have e2 : ys.reverse.take j = ys.reverse := List.take_of_length_le (by rw [List.length_reverse, hy.len]; omega)
      rw [e1] at HR1
      rw [e2] at HR2
      clear e1 e2
      have q1 := eql_same (sha xs) (sha_length xs)
      have q2 := eql_same (sha ys.reverse) (sha_length ys.reverse)
      have q3 := neq_unlike _ _ (sha_length _) (sha_length _) abc_acb
      have q4 := run_guard_eql
      have q5 := run_guard_neq
      obtain ⟨s1, hs1⟩ : ∃ s, sha xs = s := ⟨_, rfl⟩
      obtain ⟨s2, hs2⟩ : ∃ s, sha ys.reverse = s := ⟨_, rfl⟩
      obtain ⟨s3, hs3⟩ : ∃ s, sha [97, 98, 99] = s := ⟨_, rfl⟩
      obtain ⟨s4, hs4⟩ : ∃ s, sha [97, 99, 98] = s := ⟨_, rfl⟩
      rw [hs1] at q1
      rw [hs2] at q2
      rw [hs3, hs4] at q3
      have HS := Lib.hid (And.intro hs1 (And.intro hs2 (And.intro hs3 hs4)))
      clear hs1 hs2 hs3 hs4
      go_wp2
      all_goals
        go_loopw [8, 9] (fun v i wv => ∃ (t : Nat) (z : Int) (A' : Option Addr) (c' : Nat), t ≤ m ∧ z = (m : Int) - 1 - (t : Int) ∧ i = .int .i64 z ∧ v = .slice A' t c' ∧ wv.ownsRow wo.heap.size 5 1 (.slice A' t c') t (bvs (ys.reverse.take t)) ∧ Below wo.heap.size wo wv) (fun _ i _ => (intOf i + 1).toNat)
        case atStart => exact ⟨0, _, none, 0, Nat.zero_le _, by omega, rfl, rfl, ⟨rfl, .inl ⟨rfl, rfl⟩⟩, Below.refl _ _⟩
        case round =>
          obtain ⟨t, z, A', c', ht, hz, rfl, rfl, hown, hb⟩ := hrel
          by_cases htm : t < m
          · obtain ⟨k, hk1⟩ : ∃ k : Nat, m - 1 - t = k := ⟨_, rfl⟩
            obtain rfl : z = (k : Int) := by omega
            obtain ⟨ad, y, rfl, hyk, hcell⟩ := ((hy.below HB.out).below hb).at_ (show k < m by omega)
            have hkm : (k : Int) < (m : Int) := by omega
            have ib := In.new' wr [y] 5
            have ho5 := hown.alloc (.cells (bvs [y]).toArray 5)
            have HT := Lib.hid (take_next (rev_get hy.len htm (by rw [hk1]; exact hyk)))
            have HZ := Lib.hid hz
            have HK1 := Lib.hid hk1
            have z1 := hb.size
            clear hyk hz hk1
            go_wp2_with (at_builtin; refine wpList_app _ rfl (.tmp 64) (.tmp 69) rfl wo.heap.size A' t c' _ rfl ho5 (some ⟨wr.heap.size, 0, none⟩) 1 1 [y] rfl ib (fun h => by cases h) (by omega) (by simp; omega) ?_; intro A4 c4 w4 ho4 hb4)
            go_roundw
            case rel => exact ⟨t + 1, _, A4, c4, by omega, by have := HK1.out; omega, rfl, rfl, by rw [HT.out]; exact ho4, (hb.alloc z1 _).trans hb4⟩
            case measure => simp [intOf]
          · obtain rfl : t = m := by omega
            have hzn : z < 0 := by omega
            have hdz : decide (0 ≤ z) = false := by simp; omega
            rw [List.take_of_length_le (by rw [List.length_reverse, hy.len]; exact Nat.le_refl _)] at hown
            have iback : In wr A' t ys.reverse := In.of_own hown
            have lback := own_cap hown
            have bel0 : Below w.heap.size w wr := HB.out.trans (hb.mono HB.out.size)
            have ra1 := HR1.out.below hb
            have ra2 := HR2.out.below hb
            have HV := Lib.hid (And.intro iback (And.intro ra1 ra2))
            clear iback ra1 ra2 hown hb hz
            have C1 := Lib.hid (sum_any w.heap.size xs p wr HV.out.2.1 (hk.below bel0) (by rw [hx.len]; omega))
            rw [HS.out.1] at C1
            go_wp2_with fail
            refine C1.out.mono ?_
            rintro e w5 ⟨rfl, hb5⟩
            have bel5 := below_on bel0 (Nat.le_refl _) hb5
            have C2 := Lib.hid (of_any A n c xs w5 (hx.below bel5) LX.out hc (hk.below bel5) (hs.below bel5) (by omega))
            rw [HS.out.1] at C2
            go_wp2_with fail
            refine C2.out.mono ?_
            rintro e w6 ⟨rfl, hb6⟩
            have bel6 := below_on bel5 (Nat.le_refl _) hb6
            have h56 := below_on hb5 (Nat.le_refl _) hb6
            have C3 := Lib.hid (sum_any (w.heap.size + 1) ys.reverse q w6 (HV.out.2.2.below h56) (hk.below bel6) (by rw [List.length_reverse, hy.len]; omega))
            rw [HS.out.2.1] at C3
            go_wp2_with fail
            refine C3.out.mono ?_
            rintro e w7 ⟨rfl, hb7⟩
            have bel7 := below_on bel6 (Nat.le_refl _) hb7
            have h57 := below_on h56 (Nat.le_refl _) hb7
            have C4 := Lib.hid (of_any A' t c' ys.reverse w7 (HV.out.1.below h57) (fun x hx => LY.out x (List.mem_reverse.1 hx)) lback (hk.below bel7) (hs.below bel7) (by omega))
            rw [HS.out.2.1] at C4
            go_wp2_with fail
            refine C4.out.mono ?_
            rintro e w8 ⟨rfl, hb8⟩
            have bel8 := below_on bel7 (Nat.le_refl _) hb8
            have bel8' := below_on bel8 (Nat.le_refl _) (below_alloc w8 (.cells (bvs [97, 98, 99]).toArray 5 (3, 4)))
            have kc := fun (W : World) (C : Array Value) (n c : Nat) => Lib.run_convert_bytes_const (P := Tryd.prog) W 22 5 C n c Tryd.underlying22 Tryd.underlying5
            have C5 := Lib.hid (of_any _ 3 3 [97, 98, 99] _ (In.newF w8 [97, 98, 99] 5 (3, 4)) (by decide) (by omega) (hk.below bel8') (hs.below bel8') (by omega))
            rw [HS.out.2.2.1] at C5
            go_wp2_with fail
            refine C5.out.mono ?_
            rintro e w9 ⟨rfl, hb9⟩
            have bel9 := below_on bel8' (Nat.le_refl _) hb9
            have bel9' := below_on bel9 (Nat.le_refl _) (below_alloc w9 (.cells (bvs [97, 99, 98]).toArray 5 (3, 4)))
            have C6 := Lib.hid (of_any _ 3 3 [97, 99, 98] _ (In.newF w9 [97, 99, 98] 5 (3, 4)) (by decide) (by omega) (hk.below bel9') (hs.below bel9') (by omega))
            rw [HS.out.2.2.2] at C6
            go_wp2_with fail
            refine C6.out.mono ?_
            rintro e w10 ⟨rfl, hb10⟩
            go_wp2
            go_ret
            exact ⟨rfl, below_on bel9' (Nat.le_refl _) hb10⟩

theorem shasWritten_law (w : World) (hk : Knows w) (hs : Starts w) {A B : Option Addr} {n c m d : Nat} {xs ys : List Nat} (h1 : Came w A n c xs) (h2 : Came w B m d ys) :
    Calls Tryd.prog 8 #[.slice A n c, .slice B m d] w fun e w' => e = .returned (.bool true) ∧ Below w.heap.size w w' := by
  by_cases h : 3000 < n ∨ 3000 < m
  · exact written_long A B n c m d w h
  · exact written_any A B n c m d xs ys w h1.in_ h2.in_ h1.lt h2.lt h1.cap h2.cap hk hs (by omega) (by omega)

end Go.Proofs.YtineheaiphommaaDoor
