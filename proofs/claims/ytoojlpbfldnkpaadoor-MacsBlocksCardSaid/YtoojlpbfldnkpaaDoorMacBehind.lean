/-
  macs.behind: the sum of a block and of all parts behind it.
-/
import Derived.Test.YtoojlpbfldnkpaaDoorMacFill
import Derived.Test.YtoojlpbfldnkpaaDoorLFlat
namespace Go.Proofs.YtoojlpbfldnkpaaDoor
open Go.RowKit

theorem flat_lt {w : World} {Ao : Option Addr} {no : Nat} {rows : List (List Nat)} (h : CameRows w Ao no rows) : ∀ x ∈ rows.flatten, x < 256 := by
  have := rows_lt h no
  rwa [List.take_of_length_le (by rw [h.len]; omega)] at this

set_option maxRecDepth 100000 in
set_option maxHeartbeats 2000000 in
theorem behind_any (bs : List Nat) (Ao : Option Addr) (no co : Nat) (rows : List (List Nat)) (w : World) (h64 : bs.length = 64) (lb : ∀ x ∈ bs, x < 256) (hr : CameRows w Ao no rows) (hk : Knows w) (hs : Starts w) (ht : tot rows ≤ 800000000) (hno : no ≤ 1000000) :
    Calls Tryd.prog 62 #[.agg (bvs bs).toArray, .slice Ao no co] w fun e w' => e = .returned (sv (sha (bs ++ rows.flatten))) ∧ Below w.heap.size w w' := by
  have e0 : (bvs zero32).toArray = #[.int .u8 0, .int .u8 0, .int .u8 0, .int .u8 0, .int .u8 0, .int .u8 0, .int .u8 0, .int .u8 0, .int .u8 0, .int .u8 0, .int .u8 0, .int .u8 0, .int .u8 0, .int .u8 0, .int .u8 0, .int .u8 0, .int .u8 0, .int .u8 0, .int .u8 0, .int .u8 0, .int .u8 0, .int .u8 0, .int .u8 0, .int .u8 0, .int .u8 0, .int .u8 0, .int .u8 0, .int .u8 0, .int .u8 0, .int .u8 0, .int .u8 0, .int .u8 0] := rfl
  have f0 := (BArr.new w 58 bs).alloc (.cells (bvs zero32).toArray 54)
  have f1 := BArr.new (w.alloc (.cells (bvs bs).toArray 58)) 54 zero32
  have b1 : Below w.heap.size w ((w.alloc (.cells (bvs bs).toArray 58)).alloc (.cells (bvs zero32).toArray 54)) := (below_alloc w _).alloc (by simp) _
  have s1 : ((w.alloc (.cells (bvs bs).toArray 58)).alloc (.cells (bvs zero32).toArray 54)).heap.size = w.heap.size + 2 := by simp
  rw [World.size_alloc] at f1
  rw [e0] at f0 f1 b1 s1
  clear e0
  have HF := Lib.hid (And.intro f0 (And.intro f1 (And.intro b1 s1)))
  have HL := Lib.hid (And.intro h64 lb)
  have hsl := run_arr_all Tryd.underlying58
  clear f0 f1 b1 s1 h64 lb
  go_enter Tryd.func62, Tryd.ntmps62
  go_wp2_with fail
  obtain ⟨w1, hw1⟩ : ∃ w1, w1 = (w.alloc (.cells (bvs bs).toArray 58)).alloc (.cells #[.int .u8 0, .int .u8 0, .int .u8 0, .int .u8 0, .int .u8 0, .int .u8 0, .int .u8 0, .int .u8 0, .int .u8 0, .int .u8 0, .int .u8 0, .int .u8 0, .int .u8 0, .int .u8 0, .int .u8 0, .int .u8 0, .int .u8 0, .int .u8 0, .int .u8 0, .int .u8 0, .int .u8 0, .int .u8 0, .int .u8 0, .int .u8 0, .int .u8 0, .int .u8 0, .int .u8 0, .int .u8 0, .int .u8 0, .int .u8 0, .int .u8 0, .int .u8 0] 54) := ⟨_, rfl⟩
  rw [← hw1] at HF ⊢
  clear hw1
  refine (new_any w1 (hs.below HF.out.2.2.1)).mono ?_
  rintro e w2 ⟨rfl, hw2⟩
  have b2 : Below w1.heap.size w1 w2 := by rw [hw2]; exact below_alloc _ _
  have r2 := ran_new w1
  have z2 := HF.out.2.2.2
  rw [← hw2, z2] at r2
  rw [z2] at b2 ⊢
  have f2 : BArr w2 (w.heap.size + 1) 54 zero32 := HF.out.2.1.below (z2 ▸ b2)
  have i2 : In w2 (some ⟨w.heap.size, 0, none⟩) 64 bs := ⟨HL.out.1, fun j x hx => ⟨_, rfl, ((HF.out.1.at_).below (z2 ▸ b2)) j x hx⟩⟩
  have bel2 : Below w.heap.size w w2 := HF.out.2.2.1.trans (b2.mono (by omega))
  have C2 := Lib.hid (write_any (w.heap.size + 2) [] zero64 (some ⟨w.heap.size, 0, none⟩) 64 64 bs w2 r2 i2 HL.out.2 (fun _ ad he => by cases he; show w.heap.size ≠ w.heap.size + 2; omega) (Nat.le_refl _) (hk.below bel2) (by have := hk.lt; omega) (by simp))
  have HF2 := Lib.hid (And.intro f2 bel2)
  clear hw2 b2 r2 z2 f2 i2 bel2 HF
  go_wp2_with fail
  refine C2.out.mono ?_
  rintro e w3 ⟨rfl, ran3, ho3⟩
  have f3 : BArr w3 (w.heap.size + 1) 54 zero32 := ho3.heap (by omega) HF2.out.1
  have bel3 : Below w.heap.size w w3 := Only.below HF2.out.2 (by omega) (Nat.le_refl _) ho3
  rw [List.nil_append] at ran3
  have H3 := Lib.hid (And.intro ran3 (And.intro f3 bel3))
  clear ran3 f3 bel3 ho3 C2 HF2
  go_wp2
  go_loopw [14] (fun i wr => ∃ j : Nat, j ≤ no ∧ i = .int .i64 (j : Int) ∧ (∃ blk, Ran wr (w.heap.size + 2) (bs ++ (rows.take j).flatten) blk) ∧ BArr wr (w.heap.size + 1) 54 zero32 ∧ Below w.heap.size w wr) (fun i _ => no - (intOf i).toNat)
  case atStart => exact ⟨0, by omega, rfl, by simpa using H3.out.1, H3.out.2.1, H3.out.2.2⟩
  case round =>
    clear H3
    obtain ⟨j, hj, rfl, ⟨blk, ran⟩, f, bel⟩ := hrel
    by_cases hlt : j < no
    · obtain ⟨xs, hxs⟩ : ∃ xs, rows[j]? = some xs := ⟨_, List.getElem?_eq_getElem (by rw [hr.len]; exact hlt)⟩
      obtain ⟨ad, A, n, c, rfl, hcell0, hcame, _⟩ := hr.row j xs hxs
      have hcell : wr.cell? (ad.add j) = some (.slice A n c) := (bel.cell (World.block_lt_of_cell? w _ hcell0)).trans hcell0
      have hoff : Off A n (w.heap.size + 2) := fun h0 a' he => by
        obtain ⟨ad', x, e', _, hcell'⟩ := hcame.in_.at_ h0
        rw [he] at e'
        cases e'
        have := World.block_lt_of_cell? w _ hcell'
        rw [block_add] at this
        omega
      have hle : (bs ++ (rows.take j).flatten).length + n ≤ 1000000000 := by
        have h1 := tot_take rows (j + 1)
        rw [rows_snoc hxs, tot_snoc, hcame.in_.len] at h1
        rw [List.length_append, flat_length, HL.out.1]
        omega
      have C := Lib.hid (write_any (w.heap.size + 2) (bs ++ (rows.take j).flatten) blk A n c xs wr ran (hcame.in_.below bel) hcame.lt hoff hcame.cap (hk.below bel) (by have := hk.lt; omega) hle)
      have hji : (j : Int) < (no : Int) := by omega
      have HN := Lib.hid (flat_snoc hxs)
      have HB := Lib.hid (And.intro f bel)
      clear hxs hcell0 hcame hoff hle ran f bel
      go_wp2_with fail
      refine C.out.mono ?_
      rintro e w4 ⟨rfl, ran4, ho4⟩
      have H4 := Lib.hid (And.intro ran4 ho4)
      clear ran4 ho4 C hcell
      go_wp2
      go_roundw
      case rel =>
        refine ⟨j + 1, by omega, by go_num, ?_, H4.out.2.heap (by omega) HB.out.1, Only.below HB.out.2 (by omega) (Nat.le_refl _) H4.out.2⟩
        rw [HN.out, ← List.append_assoc]
        exact H4.out.1
      case measure => simp [intOf]; omega
    · obtain rfl : j = no := by omega
      have hji : decide ((j : Int) < (j : Int)) = false := by simp
      rw [List.take_of_length_le (by rw [hr.len]; omega)] at ran
      have C3 := Lib.hid (sum_any (w.heap.size + 2) (bs ++ rows.flatten) blk wr ran (hk.below bel) (by rw [List.length_append, flat_length, HL.out.1]; omega))
      have hl32 := sha_length (bs ++ rows.flatten)
      have HZ32 := Lib.hid (show zero32.length = 32 from rfl)
      have HB := Lib.hid (And.intro f bel)
      clear ran f bel
      go_wp2_with fail
      refine C3.out.mono ?_
      rintro e w4 ⟨rfl, hb4⟩
      have f4 := HB.out.1.below hb4
      go_wp2_with (with_reducible refine wpList_store_sum rfl (.tmp 4) (.tmp 23) rfl (w.heap.size + 1) rfl zero32 (sha (bs ++ rows.flatten)) HZ32 hl32 f4 rfl ?_)
      refine bodyPost_ret_by (results_cell_row (p := 4) (ty := 54) (by kernel_rfl) _ _ (w.heap.size + 1) 54 (bvs (sha (bs ++ rows.flatten))).toArray (0, 0) _ rfl (f4.setRow _) Tryd.underlying54 rfl (by rw [List.size_toArray, bvs_length, hl32]; exact sizeSum)) rfl ?_
      exact ⟨rfl, below_setRow (below_on HB.out.2 (Nat.le_refl _) hb4) (by omega) _⟩

end Go.Proofs.YtoojlpbfldnkpaaDoor
