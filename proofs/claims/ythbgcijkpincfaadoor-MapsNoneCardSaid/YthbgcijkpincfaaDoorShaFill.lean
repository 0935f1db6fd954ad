/-
  shas: fill: bytes are copied into the block, and a whole block is taken.
-/
import Derived.Test.YthbgcijkpincfaaDoorShaRun
import Derived.Test.YthbgcijkpincfaaDoorShaTaken
import Derived.Test.YthbgcijkpincfaaDoorLQuietTail
namespace Go.Proofs.YthbgcijkpincfaaDoor
open Go.RowKit

theorem Knows.only {g : Nat} {w w' : World} (h : Knows w) (ho : Only g w w') (hg : g ≠ 2) : Knows w' := fun i hi => ho.cell (by exact fun e => hg e.symm) (h i hi)
theorem Knows.below {w w' : World} (h : Knows w) (hb : Below w.heap.size w w') : Knows w' := fun i hi => (hb.cell (World.block_lt_of_cell? w _ (h i hi))).trans (h i hi)

theorem RunAt.copy {w : World} {g n : Nat} {S blk : List Nat} (h : RunAt w g S blk n) (p : Nat) (zs : List Nat) (hp : p + zs.length ≤ 64) :
    RunAt (w.setRow g ((runCells S blk n).take (9 + p) ++ (bvs zs ++ (runCells S blk n).drop (9 + p + zs.length))).toArray) g S (blk.take p ++ zs ++ blk.drop (p + zs.length)) n := by
  refine ⟨h.s8, ?_, ?_⟩
  · rw [List.length_append, List.length_append, List.length_take, List.length_drop, h.b64]; omega
  · rw [setRow_heap w g _ _ _ (0, 0) h.heap, ← splice_runB h.s8 h.b64 n p zs hp, splice, bvs_length]

/-- The copy into the block. -/
theorem wpList_copy_run {ops : Array Oper} {rest : List Oper} {o : Oper} {a : Act} {Q : Exit → Act → World → Prop} {w : World} (hgd : o.guard = none) (d s : Operand)
    (ho : o.op = .call { callee := .builtin .copy, args := #[d, s], argTypes := #[24, 24] }) {g n : Nat} {S blk : List Nat} (h : RunAt w g S blk n) (p r m c : Nat) (A : Option Addr) (ys : List Nat)
    (hd : a.eval d = .slice (some ⟨g, 9 + p, none⟩) (64 - p) (64 - p)) (hs : a.eval s = .slice A r c) (hin : In w A r ys) (hp : p < 64) (hm : Nat.min r (64 - p) = m) (hr : 0 < r)
    (hK : ∀ w', RunAt w' g S (blk.take p ++ ys.take m ++ blk.drop (p + m)) n → Only g w w' → wpList Tryd.prog ops Q rest (a.put o.dst (goInt (m : Int))) w') : wpList Tryd.prog ops Q (o :: rest) a w := by
  obtain ⟨ad, x, rfl, _⟩ := hin.at_ hr
  have hm2 : m ≤ r := by rw [← hm]; exact Nat.min_le_left _ _
  have hm3 : m ≤ 64 - p := by rw [← hm]; exact Nat.min_le_right _ _
  have hl : (ys.take m).length = m := by rw [List.length_take, hin.len]; omega
  refine wpList_copy_own hgd d s 24 24 ho 5 Tryd.underlying24 sizeByte g (9 + p) (64 - p) (64 - p) ad r c hd hs (runCells S blk n).toArray 83 h.heap (bvs (ys.take m)) (by rw [bvs_length, hl, hm]) (fun j v hv => ?_) ?_ (bvs_oneCell _) ?_
  · rw [bvs_get] at hv
    obtain ⟨y, hy, rfl⟩ := Option.map_eq_some_iff.1 hv
    obtain ⟨ad', e, hc⟩ := (hin.take hm2).rd j y hy
    cases e
    exact hc
  · rw [bvs_length, hl, List.size_toArray, runCells_length h.s8 h.b64]; omega
  · have hR := h.copy p (ys.take m) (by rw [hl]; omega)
    rw [hl] at hR
    have := hK _ hR ((Only.refl g w).setRow _)
    rw [bvs_length, hl]
    exact this

theorem size64 : (Tryd.prog.info? 80).map (·.size) = some 64 := by kernel_rfl

set_option maxRecDepth 100000 in
set_option maxHeartbeats 1000000 in
theorem fill_any (g : Nat) (xs blk : List Nat) (A : Option Addr) (n c : Nat) (ys : List Nat) (w : World) (hr : Ran w g xs blk) (hin : In w A n ys) (hy : ∀ y ∈ ys, y < 256) (hA : Off A n g) (hc : n ≤ c) (hk : Knows w) (hg : g ≠ 2) (hn : xs.length + n ≤ 1000000000) :
    Calls Tryd.prog 47 #[.pointer (some ⟨g, 0, none⟩), .slice A n c] w fun e w' => e = .returned (.tuple #[]) ∧ (∃ blk', Ran w' g (xs ++ ys) blk') ∧ Only g w w' := by
  have HY := Lib.hid hy
  have HI := Lib.hid hin
  have HG := Lib.hid hg
  clear hy hg
  go_enter Tryd.func47, Tryd.ntmps47
  go_wp2
  go_loopw [1] (fun s wr => ∃ (k : Nat) (A' : Option Addr) (c' : Nat) (blk : List Nat), k ≤ n ∧ s = .slice A' (n - k) c' ∧ n - k ≤ c' ∧ In wr A' (n - k) (ys.drop k) ∧ Off A' (n - k) g ∧ Ran wr g (xs ++ ys.take k) blk ∧ Only g w wr) (fun s _ => match s with | .slice _ m _ => m | _ => 0)
  case atStart => exact ⟨0, A, c, blk, Nat.zero_le _, rfl, hc, hin, hA, by rw [List.take_zero, List.append_nil]; exact hr, Only.refl g w⟩
  case round =>
    obtain ⟨k, A', c', bl, hkn, rfl, hc', hin', hA', R, O⟩ := hrel
    obtain ⟨L, hL⟩ : ∃ L : Nat, (xs ++ ys.take k).length = L := ⟨_, rfl⟩
    have hL2 : L ≤ 1000000000 := by rw [← hL, List.length_append, List.length_take, hin.len]; omega
    by_cases hlt : k < n
    · obtain ⟨p, hp⟩ : ∃ p : Nat, L % 64 = p := ⟨_, rfl⟩
      obtain ⟨r, hr'⟩ : ∃ r : Nat, n - k = r := ⟨_, rfl⟩
      obtain ⟨m, hm⟩ : ∃ m : Nat, Nat.min r (64 - p) = m := ⟨_, rfl⟩
      rw [hr'] at hin' hc' hA' ⊢
      have num := R.at_.num
      rw [hL] at num
      have fr := R.at_.free 73
      have kp : (L : Int).tmod 64 = (p : Int) := by rw [Int.tmod_eq_emod_of_nonneg (by omega)]; omega
      have hsl := run_arr_l Tryd.underlying80 ⟨g, 9, none⟩ .u64 (p : Int) p rfl (by omega)
      rw [if_neg (by omega), Addr.add_mid] at hsl
      have r1 : 0 < r := by omega
      have r1' : (0 : Int) < (r : Int) := by omega
      have hbd : (xs ++ ys.take k ++ (ys.drop k).take m) = xs ++ ys.take (k + m) := by rw [List.append_assoc, List.take_add]
      have hm1 : 0 < m := by rw [← hm]; exact Nat.lt_min.2 ⟨r1, by omega⟩
      have hmr : m ≤ r := by rw [← hm]; exact Nat.min_le_left _ _
      have hm64 : m ≤ 64 - p := by rw [← hm]; exact Nat.min_le_right _ _
      have hmp : p + m ≤ 64 := by omega
      clear hm64
      obtain ⟨B, hB1, hB2⟩ := cut_name (A := A') (n := r) (c := c') (k := m) hmr
      have HX := Lib.hid hin'
      have HH := Lib.hid (And.intro hL (And.intro hp (And.intro hr' hm)))
      have HB2 := Lib.hid hB2
      have HR := Lib.hid R
      have HO := Lib.hid O
      have HBD := Lib.hid hbd
      clear hin' hL hp hr' hm hB2 R O hbd
      go_wp2
      go_still_tail 10, (by kernel_rfl)
      have hrun := HR.out.at_.drew
      rw [HH.out.1] at hrun
      refine wpList_copy_run (w := wr.drew) rfl (.tmp 16) (.tmp 17) rfl hrun p r m c' A' (ys.drop k) rfl rfl ⟨HX.out.len, HX.out.rd⟩ (by have := HH.out.2.1; omega) HH.out.2.2.2 r1 ?_
      intro w2 hR2 hO2
      have num2 := hR2.num
      have fr2 := hR2.free 73
      clear num fr hrun
      have hin2 : In w2 A' r (ys.drop k) := In.only (w := wr.drew) ⟨HX.out.len, HX.out.rd⟩ hO2 hA'
      have hO3 : Only g w (w2.setCell ⟨g, 73, none⟩ (.int .u64 ((L + m : Nat) : Int))) := ((HO.out.drew).trans hO2).setCell _ _
      have hin3 : In (w2.setCell ⟨g, 73, none⟩ (.int .u64 ((L + m : Nat) : Int))) B (r - m) (ys.drop (k + m)) := by
        have := (hin2.only ((Only.refl g w2).setCell 73 (.int .u64 ((L + m : Nat) : Int))) hA').cut hmr hc'
        rw [← HB2.out, List.drop_drop] at this
        exact this
      have hOff : Off B (r - m) g := by
        rw [HB2.out]
        intro _ ad he
        split at he
        · exact hA' r1 ad he
        · obtain ⟨ad', h1, rfl⟩ := Option.map_eq_some_iff.1 he
          rw [block_add]
          exact hA' r1 ad' h1
      have hR3 := hR2.setNum (L + m)
      have hl2 : ((ys.drop k).take m).length = m := by rw [List.length_take, HX.out.len]; omega
      have hpp : (xs ++ ys.take k).length % 64 = p := by rw [HH.out.1]; exact HH.out.2.1
      have hbl := ran_lt (zs := (ys.drop k).take m) p HR.out.lt (fun x hx => HY.out x (List.mem_of_mem_drop (List.mem_of_mem_take hx)))
      have hlen : (xs ++ ys.take k ++ (ys.drop k).take m).length = L + m := by rw [List.length_append, HH.out.1, hl2]
      rw [hl2] at hbl
      have e1 : n - (k + m) = r - m := by have := HH.out.2.2.1; omega
      have ecast : (L : Int) + (m : Int) = ((L + m : Nat) : Int) := by omega
      by_cases hw : p + m < 64
      · have hpart := ran_part (zs := (ys.drop k).take m) HR.out.at_.b64 HR.out.rest (by rw [hpp, hl2]; exact hw)
        rw [hpp, hl2] at hpart
        have hRan : Ran (w2.setCell ⟨g, 73, none⟩ (.int .u64 ((L + m : Nat) : Int))) g (xs ++ ys.take (k + m)) (bl.take p ++ (ys.drop k).take m ++ bl.drop (p + m)) := by
          rw [← HBD.out]
          exact ⟨by rw [hpart.1, hlen, HH.out.1]; exact hR3, hbl, hpart.2⟩
        have tst : ((((L : Int) + (m : Int)) % 64) == 0) = false := by have := HH.out.2.1; simp; omega
        have HRan := Lib.hid hRan
        clear hpart hRan hR3 hR2 hbl hlen hl2 hpp
        have HE := Lib.hid (And.intro e1 ecast)
        have HFin := Lib.hid (And.intro hO3 (And.intro hin3 hOff))
        clear e1 ecast hO3 hin3 hOff hin2
        go_wp2
        go_roundw
        case rel =>
          rw [HE.out.2]
          exact ⟨k + m, B, c' - m, _, by have := HH.out.2.2.1; omega, by rw [HE.out.1], by rw [HE.out.1]; omega, by rw [HE.out.1]; exact HFin.out.2.1, by rw [HE.out.1]; exact HFin.out.2.2, HRan.out, HFin.out.1⟩
        case measure => show r - m < r; omega
      · have hpm : p + m = 64 := by omega
        have tst : (((L : Int) + (m : Int)) % 64) = 0 := by have := HH.out.2.1; omega
        have hwhole := ran_whole (zs := (ys.drop k).take m) HR.out.at_.b64 HR.out.rest (by rw [hpp, hl2]; exact hpm)
        rw [hpp, hl2] at hwhole
        have hS := HH.out.1
        rw [hS] at hwhole
        obtain ⟨Z, hZ⟩ : ∃ Z, bl.take p ++ (ys.drop k).take m ++ bl.drop (p + m) = Z := ⟨_, rfl⟩
        obtain ⟨E, hE⟩ : ∃ E, eaten h0 (xs ++ ys.take k) (L / 64) = E := ⟨_, rfl⟩
        have hE2 : ∀ x ∈ E, x < 4294967296 := hE ▸ eaten_lt _ _ h0_lt _
        rw [hZ, hE] at hR3 hwhole
        rw [hZ] at hbl
        have HE2 := Lib.hid hE2
        clear hZ hE hE2 hS
        have HE := Lib.hid (And.intro e1 ecast)
        have HFin := Lib.hid (And.intro hO3 (And.intro hin3 hOff))
        have HR3 := Lib.hid hR3
        have HW := Lib.hid hwhole
        have HBl := Lib.hid hbl
        have HLn := Lib.hid hlen
        clear e1 ecast hO3 hin3 hOff hin2 hR3 hwhole hbl hlen hl2 hpp hR2
        go_wp2
        rw [HE.out.2]
        obtain ⟨w3, hw3⟩ : ∃ w3, w3 = w2.setCell ⟨g, 73, none⟩ (.int .u64 ((L + m : Nat) : Int)) := ⟨_, rfl⟩
        rw [← hw3] at HFin HR3 ⊢
        clear hw3
        refine wp_region_quiet_tail (C := fun w' => Below w3.heap.size w3 w') 13 (by kernel_rfl) (by kernel_rfl) ((Below.refl _ _).drew) ?_
        simp only [List.take_succ_cons, List.take_zero, List.drop_succ_cons, List.drop_zero]
        repeat (refine wpQuiet_step (fun K hK => ?_); go_simp; refine ⟨_, fun _ _ => rfl, hK _ ?_⟩; clear hK K)
        refine wpQuiet_step (fun K hK => ?_)
        refine quiet_load_mid rfl 79 (.tmp 40) rfl g 1 rfl (uvs E) _ Tryd.underlying79 rfl (by rw [uvs_length, HR3.out.s8]; exact info8) (fun W hC => (HR3.out.below hC).eight) (hK _ ?_)
        clear hK K
        repeat (refine wpQuiet_step (fun K hK => ?_); go_simp; refine ⟨_, fun _ _ => rfl, hK _ ?_⟩; clear hK K)
        refine wpQuiet_step (fun K hK => ?_)
        refine quiet_load_mid rfl 80 (.tmp 44) rfl g 9 rfl (bvs Z) _ Tryd.underlying80 rfl (by rw [bvs_length, HR3.out.b64]; exact size64) (fun W hC => (HR3.out.below hC).bytes) (hK _ ?_)
        clear hK K
        refine wpQuiet_step (fun K hK => ?_)
        go_simp
        refine ⟨.agg (uvs (words Z)).toArray, fun W hC => ?_, hK _ ?_⟩
        · exact (wordsOf_any _ W HR3.out.b64 HBl.out).mono fun e w'' ⟨he, hb⟩ => ⟨he, below_on hC (Nat.le_refl _) hb⟩
        clear hK K
        refine wpQuiet_step (fun K hK => ?_)
        go_simp
        refine ⟨.agg (uvs (take16 E (words Z))).toArray, fun W hC => ?_, hK _ ?_⟩
        · exact (taken_any _ _ W HR3.out.s8 (words_length _) HE2.out (words_lt HBl.out) ((hk.only HFin.out.1 HG.out).below hC)).mono fun e w'' ⟨he, hb⟩ => ⟨he, below_on hC (Nat.le_refl _) hb⟩
        clear hK K
        repeat (refine wpQuiet_step (fun K hK => ?_); go_simp; refine ⟨_, fun _ _ => rfl, hK _ ?_⟩; clear hK K)
        refine wpQuiet_nil ?_
        intro w4 hb4
        have hR4 := HR3.out.below hb4
        have hS8 := take16_length E (words Z) HR3.out.s8
        have HS8 := Lib.hid hS8
        have hR5 := hR4.setEight hS8
        have hth := hR4.there 1 8 (by omega)
        have HR5 := Lib.hid hR5
        clear hS8 hR5 hR4
        refine wpList_store_mid rfl 79 (.tmp 49) (.tmp 47) rfl g 1 (uvs (take16 E (words Z))).toArray rfl rfl ?_ ?_ (all_oneCell_toArray (uvs_oneCell _)) ?_
        · rw [List.size_toArray, uvs_length, HS8.out]; exact hth
        · rw [List.size_toArray, uvs_length, HS8.out]; exact info8
        go_frame
        go_wp2
        go_roundw
        case rel =>
          have hO5 : Only g w (w4.setCells g 1 (uvs (take16 E (words Z)))) := Only.setCells _ _ (HFin.out.1.trans (Only.of_below g hb4))
          refine ⟨k + m, B, c' - m, Z, by have := HH.out.2.2.1; omega, by rw [HE.out.1], by rw [HE.out.1]; omega, by rw [HE.out.1]; exact (HFin.out.2.1.below hb4).only (Only.setCells _ _ (Only.refl g w4)) HFin.out.2.2, by rw [HE.out.1]; exact HFin.out.2.2, ?_, hO5⟩
          rw [← HBD.out]
          refine ⟨?_, HBl.out, ?_⟩
          · rw [HW.out.1, HLn.out]; exact HR5.out
          · rw [HW.out.2.1, HW.out.2.2]; rfl
        case measure => show r - m < r; omega
    · obtain rfl : k = n := by omega
      rw [Nat.sub_self]
      go_wp2
      go_end0
      refine ⟨rfl, ⟨bl, ?_⟩, O⟩
      rw [List.take_of_length_le (by rw [HI.out.len]; omega)] at R
      exact R

end Go.Proofs.YthbgcijkpincfaaDoor
