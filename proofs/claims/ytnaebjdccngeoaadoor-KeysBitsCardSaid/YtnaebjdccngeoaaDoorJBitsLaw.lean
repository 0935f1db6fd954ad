/-
  almonerlaw14.KeysBits.
-/
import Derived.Test.YtnaebjdccngeoaaDoorJAlive
import Derived.Test.YtnaebjdccngeoaaDoorJBits
namespace Go.Proofs.YtnaebjdccngeoaaDoor
open Go.RowKit

/-- The memory of the law's own. -/
structure BitsM (w : World) (g : Nat) (k o b : List Nat) : Prop where
  k : BArr w g 36 k
  o : BArr w (g + 1) 36 o
  b : BArr w (g + 2) 36 b
theorem BitsM.below {w w' : World} {g : Nat} {k o b : List Nat} (h : BitsM w g k o b) (hb : Below w.heap.size w w') : BitsM w' g k o b := ⟨h.k.below hb, h.o.below hb, h.b.below hb⟩
theorem BitsM.lt {w : World} {g : Nat} {k o b : List Nat} (h : BitsM w g k o b) : g + 2 < w.heap.size := h.b.lt
theorem BitsM.set {w : World} {g : Nat} {k o b : List Nat} (h : BitsM w g k o b) (i v : Nat) : BitsM (w.setCell ⟨g + 2, i, none⟩ (.int .u8 (v : Int))) g k o (b.set i v) :=
  ⟨h.k.other _ _ (by show g ≠ g + 2; omega), h.o.other _ _ (by show g + 1 ≠ g + 2; omega), h.b.set i v⟩

theorem below_setCJ {g : Nat} {w w' : World} {a : Addr} {v : Value} (h : Below g w w') (ha : g ≤ a.block) : Below g w (w'.setCell a v) := h.setCell ha _

set_option maxRecDepth 100000 in
set_option maxHeartbeats 8000000 in
theorem keysBits_law (w : World) (hk : Knows w) (hks : Starts w) {k o : List Nat} (lk : k.length = 32) (bk : ∀ x ∈ k, x < 256) (lo : o.length = 32) (bo : ∀ x ∈ o, x < 256) :
    Calls Tryd.prog 5 #[.agg (bvs k).toArray, .agg (bvs o).toArray] w fun e w' => e = .returned (.bool true) ∧ Below w.heap.size w w' := by
  obtain ⟨g, hg⟩ : ∃ g, w.heap.size = g := ⟨_, rfl⟩
  have e0 : (bvs zero32).toArray = #[.int .u8 0, .int .u8 0, .int .u8 0, .int .u8 0, .int .u8 0, .int .u8 0, .int .u8 0, .int .u8 0, .int .u8 0, .int .u8 0, .int .u8 0, .int .u8 0, .int .u8 0, .int .u8 0, .int .u8 0, .int .u8 0, .int .u8 0, .int .u8 0, .int .u8 0, .int .u8 0, .int .u8 0, .int .u8 0, .int .u8 0, .int .u8 0, .int .u8 0, .int .u8 0, .int .u8 0, .int .u8 0, .int .u8 0, .int .u8 0, .int .u8 0, .int .u8 0] := rfl
  obtain ⟨w1, hw1⟩ : ∃ x, x = ((w.alloc (.cells (bvs k).toArray 36)).alloc (.cells (bvs o).toArray 36)).alloc (.cells #[.int .u8 0, .int .u8 0, .int .u8 0, .int .u8 0, .int .u8 0, .int .u8 0, .int .u8 0, .int .u8 0, .int .u8 0, .int .u8 0, .int .u8 0, .int .u8 0, .int .u8 0, .int .u8 0, .int .u8 0, .int .u8 0, .int .u8 0, .int .u8 0, .int .u8 0, .int .u8 0, .int .u8 0, .int .u8 0, .int .u8 0, .int .u8 0, .int .u8 0, .int .u8 0, .int .u8 0, .int .u8 0, .int .u8 0, .int .u8 0, .int .u8 0, .int .u8 0] 36) := ⟨_, rfl⟩
  have m1 : BitsM w1 g k o zero32 := by
    have f0 := ((BArr.new w 36 k).alloc (.cells (bvs o).toArray 36)).alloc (.cells (bvs zero32).toArray 36)
    have f1 := (BArr.new (w.alloc (.cells (bvs k).toArray 36)) 36 o).alloc (.cells (bvs zero32).toArray 36)
    have f2 := BArr.new ((w.alloc (.cells (bvs k).toArray 36)).alloc (.cells (bvs o).toArray 36)) 36 zero32
    rw [World.size_alloc] at f1
    rw [World.size_alloc, World.size_alloc] at f2
    rw [e0, ← hw1, hg] at f0 f1 f2
    exact ⟨f0, f1, f2⟩
  have b1 : Below w.heap.size w w1 := by rw [hw1]; exact ((below_alloc w _).alloc (by simp) _).alloc (by simp; omega) _
  have HW := Lib.hid hw1
  rw [hg] at b1
  have HG := Lib.hid hg
  have CA := Lib.hid (fun (W : World) (hW : Below g w W) => jalive_any W (hk.below (by rw [hg]; exact hW)) (hks.below (by rw [hg]; exact hW)))
  have CB := Lib.hid (fun (l : List Nat) (hl : l.length = 32) (hb : ∀ x ∈ l, x < 256) (d : Nat) (hd : d < 256) (W : World) => show Calls Tryd.prog 19 #[sv l, .int .i64 (d : Int)] W fun e w' => e = .returned (.int .i64 (bitN l d : Int)) ∧ Below W.heap.size W w' from by
    have h := jbit_any l (d : Int) W hl hb (by omega)
    rw [show bitZ l (d : Int) = bitN l d by unfold bitZ; rw [if_neg (by omega)]; rfl] at h
    exact h)
  have HL := Lib.hid (And.intro bk bo)
  have HP := Lib.hid (part_all lk bk lo bo)
  have HBA := Lib.hid (back_all lk bk)
  have M1 := Lib.hid (And.intro m1 b1)
  rw [hg]
  have HLK := Lib.hid (And.intro lk lo)
  clear e0 hw1 m1 b1 hg hk hks bk bo lk lo
  go_enter Tryd.func5, Tryd.ntmps5
  go_upto_region 2 with fail
  rw [← HW.out]
  rw [HG.out]
  rw [show g + 1 + 1 = g + 2 from rfl]
  go_wp2
  go_loopw [6, 7] (fun i j wr => ∃ d : Nat, d ≤ 256 ∧ i = .bool (partB k o d) ∧ j = .int .i64 (d : Int) ∧ BitsM wr g k o (backL k d) ∧ Below g w wr) (fun _ j _ => 256 - (intOf j).toNat)
  case atStart => exact ⟨0, by omega, rfl, rfl, M1.out.1, M1.out.2⟩
  case round =>
    obtain ⟨d, hd, rfl, rfl, m, bel⟩ := hrel
    by_cases hlt : d < 256
    · have c1 := Lib.hid (CB.out k HLK.out.1 HL.out.1 d hlt wr)
      have hz : (d : Int) < 256 := by omega
      have HD := Lib.hid (And.intro hd hlt)
      have HM := Lib.hid m
      have HB := Lib.hid bel
      clear m bel hd hlt
      go_wp2_with (with_reducible refine wpList_load_sum rfl (.tmp 2) rfl ⟨g, 0, none⟩ rfl k HLK.out.1 HM.out.k.at_ ?_)
      refine c1.out.mono ?_
      rintro e w2 ⟨rfl, hb2⟩
      have hb2lt := bitN_lt k d
      have hstep : partB k o (d + 1) = (partB k o d || bitN k d != bitN o d) := rfl
      have hstepB : backL k (d + 1) = (backL k d).set (d / 8) ((backL k d).getD (d / 8) 0 * 2 % 256 + bitN k d) := rfl
      have hxlt := back_lt HL.out.1 d HD.out.1 (d / 8)
      have hlt := HD.out.2
      have mm := HM.out.below hb2
      have cc := mm.b.cell (i := d / 8) (by rw [backL_length]; omega)
      obtain ⟨b, hb⟩ : ∃ b, bitN k d = b := ⟨_, rfl⟩
      obtain ⟨b', hb'⟩ : ∃ b, bitN o d = b := ⟨_, rfl⟩
      have hb2lt' := bitN_lt o d
      obtain ⟨x, hx⟩ : ∃ x, (backL k d).getD (d / 8) 0 = x := ⟨_, rfl⟩
      rw [hx] at hxlt hstepB cc
      rw [hb, hb'] at hstep
      rw [hb] at hb2lt hstepB ⊢
      rw [hb'] at hb2lt'
      have hor := or_bit hxlt hb2lt
      obtain ⟨q, hq⟩ : ∃ q, d / 8 = q := ⟨_, rfl⟩
      rw [hq] at cc hstepB
      have m2 : Int.tdiv (d : Int) 8 = (q : Int) := by rw [← hq]; rfl
      have m5 : (d : Int) / 8 = (q : Int) := by omega
      have hq32 : (q : Int) < 32 := by omega
      obtain ⟨x2, hx2⟩ : ∃ y, x * 2 % 256 = y := ⟨_, rfl⟩
      rw [hx2] at hor hstepB
      have hsh : IntKind.u8.wrap ((x : Int) * 2) = (x2 : Int) := by rw [IntKind.wrap_u8]; omega
      obtain ⟨y, hy⟩ : ∃ y, x2 + b = y := ⟨_, rfl⟩
      rw [hy] at hor hstepB
      have ff := mm.b.free q
      have CO := Lib.hid (fun (W : World) => show Calls Tryd.prog 19 #[sv o, .int .i64 (d : Int)] W fun e w' => e = .returned (.int .i64 (b' : Int)) ∧ Below W.heap.size W w' from by rw [← hb']; exact CB.out o HLK.out.2 HL.out.2 d HD.out.2 W)
      have HMM := Lib.hid (And.intro mm (below_on HB.out (Nat.le_of_eq HG.out.symm) hb2))
      have HST := Lib.hid (And.intro hstep hstepB)
      obtain ⟨pb, hpb⟩ : ∃ p, partB k o d = p := ⟨_, rfl⟩
      rw [hpb] at HST ⊢
      have HBC := Lib.hid (show b' = 0 ∨ b' = 1 by omega)
      have hbc : b = 0 ∨ b = 1 := by omega
      clear hb2 mm hstep hstepB hb hb' hx hq hx2 hy hxlt c1 HM HB hpb hlt hb2lt hb2lt'
      rcases hbc with rfl | rfl
      · skip
        have hor1 : bits BinOp.or IntKind.u8 (x2 : Int) 0 = (y : Int) := hor
        clear hor
        go_upto_region 10 with fail
        have ms := HMM.out.1.set q y
        have bs : Below g w (w2.setCell ⟨g + 2, q, none⟩ (.int .u8 (y : Int))) := below_setCJ HMM.out.2 (by show g ≤ g + 2; omega)
        generalize w2.setCell ⟨g + 2, q, none⟩ (.int .u8 (y : Int)) = ws at ms bs ⊢
        have HMS := Lib.hid (And.intro ms bs)
        clear ms bs cc ff m2 m5 hq32 hsh hor1
        cases pb with
        | true =>
          go_wp2_with fail
          go_roundw
          case rel =>
            refine ⟨d + 1, by have := HD.out.2; omega, ?_, by go_num, ?_, ?_⟩
            · rw [HST.out.1]; rfl
            · rw [HST.out.2]; exact HMS.out.1
            · exact HMS.out.2
          case measure => have := HD.out.2; simp [intOf]; omega
        | false =>
          go_wp2_with (with_reducible refine wpList_load_sum_g rfl (.tmp 3) rfl ⟨g + 1, 0, none⟩ rfl o HLK.out.2 HMS.out.1.o.at_ ?_)
          refine (CO.out ws).mono ?_
          rintro e w3 ⟨rfl, hb3⟩
          have HM3 := Lib.hid (And.intro (HMS.out.1.below hb3) (below_on HMS.out.2 (Nat.le_of_eq HG.out.symm) hb3))
          clear hb3
          have hbc' := HBC.out
          clear HBC
          rcases hbc' with rfl | rfl
          · skip
            go_wp2_with fail
            go_roundw
            case rel =>
              refine ⟨d + 1, by have := HD.out.2; omega, ?_, by go_num, ?_, ?_⟩
              · rw [HST.out.1]; rfl
              · rw [HST.out.2]; exact HM3.out.1
              · exact HM3.out.2
            case measure => have := HD.out.2; simp [intOf]; omega
          · skip
            go_wp2_with fail
            go_roundw
            case rel =>
              refine ⟨d + 1, by have := HD.out.2; omega, ?_, by go_num, ?_, ?_⟩
              · rw [HST.out.1]; rfl
              · rw [HST.out.2]; exact HM3.out.1
              · exact HM3.out.2
            case measure => have := HD.out.2; simp [intOf]; omega
      · skip
        have hor1 : bits BinOp.or IntKind.u8 (x2 : Int) 1 = (y : Int) := hor
        clear hor
        go_upto_region 10 with fail
        have ms := HMM.out.1.set q y
        have bs : Below g w (w2.setCell ⟨g + 2, q, none⟩ (.int .u8 (y : Int))) := below_setCJ HMM.out.2 (by show g ≤ g + 2; omega)
        generalize w2.setCell ⟨g + 2, q, none⟩ (.int .u8 (y : Int)) = ws at ms bs ⊢
        have HMS := Lib.hid (And.intro ms bs)
        clear ms bs cc ff m2 m5 hq32 hsh hor1
        cases pb with
        | true =>
          go_wp2_with fail
          go_roundw
          case rel =>
            refine ⟨d + 1, by have := HD.out.2; omega, ?_, by go_num, ?_, ?_⟩
            · rw [HST.out.1]; rfl
            · rw [HST.out.2]; exact HMS.out.1
            · exact HMS.out.2
          case measure => have := HD.out.2; simp [intOf]; omega
        | false =>
          go_wp2_with (with_reducible refine wpList_load_sum_g rfl (.tmp 3) rfl ⟨g + 1, 0, none⟩ rfl o HLK.out.2 HMS.out.1.o.at_ ?_)
          refine (CO.out ws).mono ?_
          rintro e w3 ⟨rfl, hb3⟩
          have HM3 := Lib.hid (And.intro (HMS.out.1.below hb3) (below_on HMS.out.2 (Nat.le_of_eq HG.out.symm) hb3))
          clear hb3
          have hbc' := HBC.out
          clear HBC
          rcases hbc' with rfl | rfl
          · skip
            go_wp2_with fail
            go_roundw
            case rel =>
              refine ⟨d + 1, by have := HD.out.2; omega, ?_, by go_num, ?_, ?_⟩
              · rw [HST.out.1]; rfl
              · rw [HST.out.2]; exact HM3.out.1
              · exact HM3.out.2
            case measure => have := HD.out.2; simp [intOf]; omega
          · skip
            go_wp2_with fail
            go_roundw
            case rel =>
              refine ⟨d + 1, by have := HD.out.2; omega, ?_, by go_num, ?_, ?_⟩
              · rw [HST.out.1]; rfl
              · rw [HST.out.2]; exact HM3.out.1
              · exact HM3.out.2
            case measure => have := HD.out.2; simp [intOf]; omega
    · skip
      obtain rfl : d = 256 := by omega
      have hz : ¬ ((256 : Nat) : Int) < 256 := by omega
      rw [HP.out]
      rw [HBA.out] at m
      have q1 := jeql_run k HLK.out.1
      have q2 := run_guard_eql
      have q3 := run_guard_neq
      have q4 := run_neq_sum k o HLK.out.1 HLK.out.2
      obtain ⟨dd, hdd⟩ : ∃ b, decide (k = o) = b := ⟨_, rfl⟩
      rw [hdd] at q4 ⊢
      clear hdd
      have HM := Lib.hid m
      have bl := bel
      clear m hd hlt
      go_wp2_with fail
      refine (CA.out wr bl).mono ?_
      rintro e w3 ⟨rfl, hb3⟩
      have HM3 := Lib.hid (HM.out.below hb3)
      have HB3 := Lib.hid (below_on bl (Nat.le_of_eq HG.out.symm) hb3)
      clear hb3 bl bel
      cases dd
      all_goals
        go_wp2_with (first
          | (with_reducible refine wpList_load_sum_g rfl (.tmp 5) rfl ⟨g + 2, 0, none⟩ rfl k HLK.out.1 HM3.out.b.at_ ?_)
          | (with_reducible refine wpList_load_sum_g rfl (.tmp 2) rfl ⟨g, 0, none⟩ rfl k HLK.out.1 HM3.out.k.at_ ?_)
          | (with_reducible refine wpList_load_sum_g rfl (.tmp 3) rfl ⟨g + 1, 0, none⟩ rfl o HLK.out.2 HM3.out.o.at_ ?_))
        go_ret
        exact ⟨rfl, HB3.out⟩

end Go.Proofs.YtnaebjdccngeoaaDoor
