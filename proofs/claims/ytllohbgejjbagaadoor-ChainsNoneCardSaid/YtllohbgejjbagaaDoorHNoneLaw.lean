/-
  almonerlaw12.ChainsNone.
-/
import Derived.Test.YtllohbgejjbagaaDoorHNo
import Derived.Test.YtllohbgejjbagaaDoorLRow
namespace Go.Proofs.YtllohbgejjbagaaDoor
open Go.RowKit

/-- Both chains that are none. -/
structure NoneH (w W : World) : Prop where
  c0 : W.cell? ⟨w.heap.size + 1, 0, none⟩ = some (.pointer none)
  c1 : W.cell? ⟨w.heap.size + 1, 1, none⟩ = some (.pointer (some ⟨w.heap.size, 0, none⟩))
  no : NoChain W (some ⟨w.heap.size, 0, none⟩)
  bel : Below w.heap.size w W
theorem NoneH.below {w W W' : World} (h : NoneH w W) (hb : Below W.heap.size W W') : NoneH w W' :=
  ⟨(hb.cell (World.block_lt_of_cell? W _ h.c0)).trans h.c0, (hb.cell (World.block_lt_of_cell? W _ h.c1)).trans h.c1, h.no.below hb, below_on h.bel (Nat.le_refl _) hb⟩
theorem npair (W : World) (u v : Value) (t : TypeId) : (W.alloc (.cells #[u, v] t)).cell? ⟨W.heap.size, 0, none⟩ = some u ∧ (W.alloc (.cells #[u, v] t)).cell? ⟨W.heap.size, 1, none⟩ = some v :=
  ⟨(cell_of_row _ _ 0 _ _ (0, 0) (World.alloc_heap_new W _)).trans rfl, (cell_of_row _ _ 1 _ _ (0, 0) (World.alloc_heap_new W _)).trans rfl⟩

set_option maxRecDepth 100000 in
set_option maxHeartbeats 4000000 in
theorem chainsNone_law (w : World) {A : Option Addr} {nb c : Nat} {b : List Nat} (_hb : Came w A nb c b) {m n : Nat} (_hm : m < 18446744073709551616) (_hn : n < 18446744073709551616) :
    Calls Tryd.prog 3 #[.slice A nb c, .int .u64 (m : Int), .int .u64 (n : Int)] w fun e w' => e = .returned (.bool true) ∧ Below w.heap.size w w' := by
  obtain ⟨w1, hw1⟩ : ∃ w1, w1 = (w.alloc (.cells #[.pointer none, .slice none 0 0] 28)).alloc (.cells #[.pointer none, .pointer (some ⟨w.heap.size, 0, none⟩)] 24) := ⟨_, rfl⟩
  have n1 : NoneH w w1 := by
    have a := npair w (.pointer none) (.slice none 0 0) 28
    have b := npair (w.alloc (.cells #[.pointer none, .slice none 0 0] 28)) (.pointer none) (.pointer (some ⟨w.heap.size, 0, none⟩)) 24
    rw [World.size_alloc] at b
    rw [← hw1] at b
    have b2 : Below (w.alloc (.cells #[.pointer none, .slice none 0 0] 28)).heap.size (w.alloc (.cells #[.pointer none, .slice none 0 0] 28)) w1 := by rw [hw1]; exact below_alloc _ _
    exact ⟨b.1, b.2, .inr ⟨_, rfl, (b2.cell (World.block_lt_of_cell? _ _ a.1)).trans a.1⟩, below_on (below_alloc w _) (Nat.le_refl _) b2⟩
  have HW := Lib.hid hw1
  have H1 := Lib.hid n1
  clear hw1 n1
  go_enter Tryd.func3, Tryd.ntmps3
  go_upto_region 2 with fail
  rw [← HW.out]
  go_wp2
  go_loopw [8] (fun i wr => ∃ j : Nat, j ≤ 2 ∧ i = .int .i64 (j : Int) ∧ Hid (NoneH w wr)) (fun i _ => 2 - (intOf i).toNat)
  case atStart => exact ⟨0, by omega, rfl, H1⟩
  case round =>
    obtain ⟨j, hj, rfl, HR⟩ := hrel
    by_cases h2 : j = 2
    · subst h2
      go_wp2
      go_ret
      exact ⟨rfl, HR.out.bel⟩
    · obtain ⟨P, hP, hcell⟩ : ∃ P, NoChain wr P ∧ ∀ W, Below wr.heap.size wr W → W.cell? ⟨w.heap.size + 1, j, none⟩ = some (.pointer P) := by
        obtain rfl | rfl : j = 0 ∨ j = 1 := by omega
        · exact ⟨none, .inl rfl, fun W hW => (HR.out.below hW).c0⟩
        · exact ⟨_, HR.out.no, fun W hW => (HR.out.below hW).c1⟩
      have hjl : (j : Int) < 2 := by omega
      have hjn : ¬ ((2 : Int) ≤ (j : Int)) := by omega
      obtain ⟨z, hz⟩ : ∃ z, z = zero32 := ⟨_, rfl⟩
      have hzl : z.length = 32 := by rw [hz]; rfl
      have CM := Lib.hid (fun (W : World) (n : Value) (hN : NoChain W P) => no_mark P n W hN)
      have CR := Lib.hid (fun (W : World) (n : Value) (hN : NoChain W P) => no_root P n W hN)
      rw [← hz] at CM CR
      clear hz
      have HC := Lib.hid hcell
      have HP := Lib.hid hP
      have hc0 := hcell wr (Below.refl _ _)
      clear hcell hP
      go_wp2_with fail
      refine (no_entry P _ wr HP.out).mono ?_
      rintro e W1 ⟨rfl, b⟩
      have B1 := Lib.hid (b)
      clear b hc0
      have hc1 := HC.out W1 B1.out
      go_wp2_with fail
      refine (CM.out W1 _ (HP.out.below B1.out)).mono ?_
      rintro e W2 ⟨rfl, b⟩
      have B2 := Lib.hid (below_on B1.out (Nat.le_refl _) b)
      clear b hc1
      have hc2 := HC.out W2 B2.out
      have ht3 : Hid (Below wr.heap.size wr (W2.alloc (.cells (bvs z).toArray 34))) := Lib.hid (below_on B2.out (Nat.le_refl _) (below_alloc W2 _))
      have hc3 := HC.out _ ht3.out
      obtain ⟨W3, hW3⟩ : ∃ W3, W3 = W2.alloc (.cells (bvs z).toArray 34) := ⟨_, rfl⟩
      rw [← hW3] at ht3 hc3
      have HV3 := Lib.hid hW3
      clear hW3 hc2
      go_wp2_with (with_reducible refine wpList_store_new W2 _ (by simp) rfl (.tmp 11) (.tmp 44) rfl rfl z hzl rfl ?_; rw [← HV3.out])
      refine (CR.out W3 _ (HP.out.below ht3.out)).mono ?_
      rintro e W4 ⟨rfl, b⟩
      have B4 := Lib.hid (below_on ht3.out (Nat.le_refl _) b)
      clear b hc3
      have hc4 := HC.out W4 B4.out
      have ht5 : Hid (Below wr.heap.size wr (W4.alloc (.cells (bvs z).toArray 34))) := Lib.hid (below_on B4.out (Nat.le_refl _) (below_alloc W4 _))
      have hc5 := HC.out _ ht5.out
      obtain ⟨W5, hW5⟩ : ∃ W5, W5 = W4.alloc (.cells (bvs z).toArray 34) := ⟨_, rfl⟩
      rw [← hW5] at ht5 hc5
      have HV5 := Lib.hid hW5
      clear hW5 hc4
      go_wp2_with (with_reducible refine wpList_store_new W4 _ (by simp) rfl (.tmp 13) (.tmp 53) rfl rfl z hzl rfl ?_; rw [← HV5.out])
      refine (no_path P _ _ W5 (HP.out.below ht5.out)).mono ?_
      rintro e W6 ⟨rfl, b⟩
      have B6 := Lib.hid (below_on ht5.out (Nat.le_refl _) b)
      clear b hc5
      have hc6 := HC.out W6 B6.out
      go_wp2_with fail
      refine (no_link P _ _ W6 (HP.out.below B6.out)).mono ?_
      rintro e W7 ⟨rfl, b⟩
      have B7 := Lib.hid (below_on B6.out (Nat.le_refl _) b)
      clear b hc6
      have hc7 := HC.out W7 B7.out
      go_wp2_with fail
      refine (no_add P _ W7 (HP.out.below B7.out)).mono ?_
      rintro e W8 ⟨rfl, b⟩
      have B8 := Lib.hid (below_on B7.out (Nat.le_refl _) b)
      clear b hc7
      have hc8 := HC.out W8 B8.out
      go_wp2_with fail
      refine (no_size P W8 (HP.out.below B8.out)).mono ?_
      rintro e W9 ⟨rfl, b⟩
      have B9 := Lib.hid (below_on B8.out (Nat.le_refl _) b)
      clear b hc8
      have hc9 := HC.out W9 B9.out
      go_wp2_with fail
      go_roundw
      case rel => exact ⟨j + 1, by omega, by go_num, Lib.hid (HR.out.below B9.out)⟩
      case measure => simp [intOf]; omega

end Go.Proofs.YtllohbgejjbagaaDoor
