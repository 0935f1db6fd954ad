/-
  leaves.marked: the sum of a mark and of all parts behind it.
-/
import Derived.Test.YtnaebjdccngeoaaDoorVPure
import Derived.Test.YtnaebjdccngeoaaDoorLTot
namespace Go.Proofs.YtnaebjdccngeoaaDoor
open Go.RowKit

theorem cell_new1 (W : World) (v : Value) (t : TypeId) : (W.alloc (.cells #[v] t)).cell? ⟨W.heap.size, 0, none⟩ = some v := (cell_of_row _ _ 0 _ _ (0, 0) (World.alloc_heap_new W _)).trans rfl

set_option maxRecDepth 100000 in
set_option maxHeartbeats 2000000 in
theorem marked_any (k : Nat) (Ao : Option Addr) (no co : Nat) (rows : List (List Nat)) (w : World) (hk0 : k < 256) (hr : CameRows w Ao no rows) (hk : Knows w) (hs : Starts w) (ht : tot rows ≤ 800000000) (hno : no ≤ 1000000) :
    Calls Tryd.prog 63 #[.int .u8 (k : Int), .slice Ao no co] w fun e w' => e = .returned (sv (sha (k :: rows.flatten))) ∧ Below w.heap.size w w' := by
  have e0 : (bvs zero32).toArray = #[.int .u8 0, .int .u8 0, .int .u8 0, .int .u8 0, .int .u8 0, .int .u8 0, .int .u8 0, .int .u8 0, .int .u8 0, .int .u8 0, .int .u8 0, .int .u8 0, .int .u8 0, .int .u8 0, .int .u8 0, .int .u8 0, .int .u8 0, .int .u8 0, .int .u8 0, .int .u8 0, .int .u8 0, .int .u8 0, .int .u8 0, .int .u8 0, .int .u8 0, .int .u8 0, .int .u8 0, .int .u8 0, .int .u8 0, .int .u8 0, .int .u8 0, .int .u8 0] := rfl
  have f1 := BArr.new w 36 zero32
  have b1 := below_alloc w (.cells (bvs zero32).toArray 36)
  have s1 : (w.alloc (.cells (bvs zero32).toArray 36)).heap.size = w.heap.size + 1 := World.size_alloc _ _
  rw [e0] at f1 b1 s1
  clear e0
  have HF := Lib.hid (And.intro f1 (And.intro b1 s1))
  have HR := Lib.hid hr
  clear f1 b1 s1
  go_enter Tryd.func63, Tryd.ntmps63
  go_wp2_with fail
  obtain ⟨w1, hw1⟩ : ∃ w1, w1 = w.alloc (.cells #[.int .u8 0, .int .u8 0, .int .u8 0, .int .u8 0, .int .u8 0, .int .u8 0, .int .u8 0, .int .u8 0, .int .u8 0, .int .u8 0, .int .u8 0, .int .u8 0, .int .u8 0, .int .u8 0, .int .u8 0, .int .u8 0, .int .u8 0, .int .u8 0, .int .u8 0, .int .u8 0, .int .u8 0, .int .u8 0, .int .u8 0, .int .u8 0, .int .u8 0, .int .u8 0, .int .u8 0, .int .u8 0, .int .u8 0, .int .u8 0, .int .u8 0, .int .u8 0] 36) := ⟨_, rfl⟩
  rw [← hw1] at HF ⊢
  clear hw1
  refine (new_any w1 (hs.below HF.out.2.1)).mono ?_
  rintro e w2 ⟨rfl, hw2⟩
  have b2 : Below w1.heap.size w1 w2 := by rw [hw2]; exact below_alloc _ _
  have r2 := ran_new w1
  have z2 := HF.out.2.2
  have s2 : w2.heap.size = w.heap.size + 2 := by rw [hw2, World.size_alloc, z2]
  rw [← hw2, z2] at r2
  rw [z2] at b2 ⊢
  have f2 : BArr w2 w.heap.size 36 zero32 := HF.out.1.below (z2 ▸ b2)
  have bel2 : Below w.heap.size w w2 := HF.out.2.1.trans (b2.mono (by omega))
  clear hw2
  go_wp2_with fail
  obtain ⟨w3, hw3⟩ : ∃ w3, w3 = w2.alloc (.cells #[.int .u8 (k : Int)] 5) := ⟨_, rfl⟩
  have i3 : In w3 (some ⟨w.heap.size + 2, 0, none⟩) 1 [k] := by rw [hw3, ← s2]; exact In.new' w2 [k] _
  have b3 : Below w2.heap.size w2 w3 := by rw [hw3]; exact below_alloc _ _
  have r3 : Ran w3 (w.heap.size + 1) [] zero64 := ⟨r2.at_.below b3, r2.lt, r2.rest⟩
  have f3 := f2.below b3
  have bel3 := below_on bel2 (by omega) b3
  have C3 := Lib.hid (write_any (w.heap.size + 1) [] zero64 (some ⟨w.heap.size + 2, 0, none⟩) 1 1 [k] w3 r3 i3 (by intro y hy; simp at hy; omega) (fun _ ad he => by cases he; show w.heap.size + 2 ≠ w.heap.size + 1; omega) (Nat.le_refl _) (hk.below bel3) (by have := hk.lt; omega) (by simp))
  have HF2 := Lib.hid (And.intro f3 bel3)
  rw [← hw3]
  clear hw3 i3 b3 r3 f3 bel3 b2 r2 z2 s2 f2 bel2 HF
  refine C3.out.mono ?_
  rintro e w4 ⟨rfl, ran4, ho4⟩
  have f4 : BArr w4 w.heap.size 36 zero32 := ho4.heap (by omega) HF2.out.1
  have bel4 : Below w.heap.size w w4 := Only.below HF2.out.2 (by omega) (Nat.le_refl _) ho4
  rw [List.nil_append] at ran4
  have H4 := Lib.hid (And.intro ran4 (And.intro f4 bel4))
  clear ran4 f4 bel4 ho4 C3 HF2
  go_wp2
  go_loopw [15] (fun i wr => ∃ j : Nat, j ≤ no ∧ i = .int .i64 (j : Int) ∧ (∃ blk, Ran wr (w.heap.size + 1) ([k] ++ (rows.take j).flatten) blk) ∧ BArr wr w.heap.size 36 zero32 ∧ Below w.heap.size w wr) (fun i _ => no - (intOf i).toNat)
  case atStart => exact ⟨0, by omega, rfl, by simpa using H4.out.1, H4.out.2.1, H4.out.2.2⟩
  case round =>
    clear H4
    obtain ⟨j, hj, rfl, ⟨blk, ran⟩, f, bel⟩ := hrel
    by_cases hlt : j < no
    · obtain ⟨xs, hxs⟩ : ∃ xs, rows[j]? = some xs := ⟨_, List.getElem?_eq_getElem (by rw [hr.len]; exact hlt)⟩
      obtain ⟨ad, A, n, c, rfl, hcell0, hcame, _⟩ := hr.row j xs hxs
      have hcell : wr.cell? (ad.add j) = some (.slice A n c) := (bel.cell (World.block_lt_of_cell? w _ hcell0)).trans hcell0
      have hoff : Off A n (w.heap.size + 1) := fun h0 a' he => by
        obtain ⟨ad', x, e', _, hcell'⟩ := hcame.in_.at_ h0
        rw [he] at e'
        cases e'
        have := World.block_lt_of_cell? w _ hcell'
        rw [block_add] at this
        omega
      have hle : ([k] ++ (rows.take j).flatten).length + n ≤ 1000000000 := by
        have h1 := tot_take rows (j + 1)
        rw [rows_snoc hxs, tot_snoc, hcame.in_.len] at h1
        rw [List.length_append, flat_length, List.length_singleton]
        omega
      have C := Lib.hid (write_any (w.heap.size + 1) ([k] ++ (rows.take j).flatten) blk A n c xs wr ran (hcame.in_.below bel) hcame.lt hoff hcame.cap (hk.below bel) (by have := hk.lt; omega) hle)
      have hji : (j : Int) < (no : Int) := by omega
      have HN := Lib.hid (flat_snoc hxs)
      have HB := Lib.hid (And.intro f bel)
      clear hxs hcell0 hcame hoff hle ran f bel
      go_wp2_with fail
      refine C.out.mono ?_
      rintro e w4 ⟨rfl, ran4, ho4⟩
      have H4 := Lib.hid (And.intro ran4 ho4)
      clear ran4 ho4 C hcell
      go_wp2
      go_roundw
      case rel =>
        refine ⟨j + 1, by omega, by go_num, ?_, H4.out.2.heap (by omega) HB.out.1, Only.below HB.out.2 (by omega) (Nat.le_refl _) H4.out.2⟩
        rw [HN.out, ← List.append_assoc]
        exact H4.out.1
      case measure => simp [intOf]; omega
    · obtain rfl : j = no := by omega
      have hji : decide ((j : Int) < (j : Int)) = false := by simp
      rw [List.take_of_length_le (by rw [hr.len]; omega)] at ran
      have C3 := Lib.hid (sum_any (w.heap.size + 1) ([k] ++ rows.flatten) blk wr ran (hk.below bel) (by rw [List.length_append, flat_length, List.length_singleton]; omega))
      have hl32 := sha_length ([k] ++ rows.flatten)
      have HZ32 := Lib.hid (show zero32.length = 32 from rfl)
      have HB := Lib.hid (And.intro f bel)
      clear ran f bel
      go_wp2_with fail
      refine C3.out.mono ?_
      rintro e w4 ⟨rfl, hb4⟩
      have f4 := HB.out.1.below hb4
      go_wp2_with (with_reducible refine wpList_store_sum rfl (.tmp 4) (.tmp 24) rfl w.heap.size rfl zero32 (sha ([k] ++ rows.flatten)) HZ32 hl32 f4 rfl ?_)
      refine bodyPost_ret_by (results_cell_row (p := 4) (ty := 36) (by kernel_rfl) _ _ w.heap.size 36 (bvs (sha ([k] ++ rows.flatten))).toArray (0, 0) _ rfl (f4.setRow _) Tryd.underlying36 rfl (by rw [List.size_toArray, bvs_length, hl32]; exact sizeSum)) rfl ?_
      exact ⟨rfl, below_setRow (below_on HB.out.2 (Nat.le_refl _) hb4) (by omega) _⟩

end Go.Proofs.YtnaebjdccngeoaaDoor
