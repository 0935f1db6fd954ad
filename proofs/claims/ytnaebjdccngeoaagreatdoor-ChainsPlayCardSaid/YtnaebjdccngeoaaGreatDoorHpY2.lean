/-
  Several texts in one: HAdd, HTell, WLen64, WLeft, WPath, WOf, KLeft, KLink, KOf, HPath, HCalls, LMark, LBookAt, LFill, LSumAt, LFillS, LGrowS, LGrow, LGrow2, LGrow2S, LLook, LLookS, LNil.
-/
import Derived.Test.YtnaebjdccngeoaaGreatDoorHpY1
import Derived.Deep.CutRange
import Derived.Deep.AppendLies
import Derived.Test.YtnaebjdccngeoaaGreatDoorVLen
import Derived.Test.YtnaebjdccngeoaaGreatDoorVSApp
import Derived.Test.YtnaebjdccngeoaaGreatDoorLOnly
import Derived.Deep.RegionHeld3
import Derived.Laws.Pointers
import Derived.StillTactics
import Derived.Test.YtnaebjdccngeoaaGreatDoorLTot
import Derived.Laws.CopyRow
import Derived.Test.YtnaebjdccngeoaaGreatDoorLSums
import Derived.Test.YtnaebjdccngeoaaGreatDoorLQuietTail
import Derived.Test.YtnaebjdccngeoaaGreatDoorLApp2
import Derived.Great.BuildSlice
import Derived.Test.YtnaebjdccngeoaaGreatDoorLMem
import Derived.Deep.QuietTactic
import Derived.BigQuiet
/-
  chains.Add.
-/
namespace Go.Proofs.YtnaebjdccngeoaaGreatDoor
open Go.RowKit

section
variable {w : World} {g : Nat} {G : Nat → Prop} {l : List (List Nat)}

set_option maxRecDepth 100000 in
theorem hadd_long (h : Chain w g G l) {A : Option Addr} {n c : Nat} (hn : 16384 < n) :
    Calls Tryz.prog 8 #[.pointer (some ⟨g, 0, none⟩), .slice A n c] w fun e w' => e = .returned (.int .i64 3) ∧ w' = w := by
  obtain ⟨⟨gf, fA, fc, v, E, h⟩, hG⟩ := h
  have C := Lib.hid (hthere_at h)
  have hi : (16384 : Int) < (n : Int) := by omega
  clear h hG
  go_enter Tryz.func8, Tryz.ntmps8
  go_wp2_with fail
  refine C.out.mono ?_
  rintro e w' ⟨rfl, rfl⟩
  go_wp2_with fail
  go_ret
  exact ⟨rfl, rfl⟩

/-- Two slices in a row of two. -/
theorem hpair_cells (W : World) (u v : Value) (t : TypeId) : (W.alloc (.cells #[u, v] t)).cell? ⟨W.heap.size, 0, none⟩ = some u ∧ (W.alloc (.cells #[u, v] t)).cell? ⟨W.heap.size, 1, none⟩ = some v :=
  ⟨(cell_of_row _ _ 0 _ _ (0, 0) (World.alloc_heap_new W _)).trans rfl, (cell_of_row _ _ 1 _ _ (0, 0) (World.alloc_heap_new W _)).trans rfl⟩

set_option maxRecDepth 100000 in
set_option maxHeartbeats 4000000 in
theorem hadd_yes (h : Chain w g G l) (hl : l.length ≤ 60000) {A : Option Addr} {n c : Nat} {b : List Nat} (hx : Came w A n c b) (hn : n ≤ 16384) (ha : Away G) (hk : Knows w) (hs : Starts w) :
    Calls Tryz.prog 8 #[.pointer (some ⟨g, 0, none⟩), .slice A n c] w fun e w' => e = .returned (.int .i64 0) ∧ Grew w g G (l ++ [b]) w' := by
  obtain ⟨⟨gf, fA, fc, v, E, h⟩, hG⟩ := h
  have C := Lib.hid (hthere_at h)
  have D := Lib.hid (leaf_any A n c b w hx hk hs (by omega))
  have HH := Lib.hid (And.intro h (And.intro hG (And.intro hx (And.intro hk hs))))
  obtain ⟨s, hs0⟩ : ∃ s, leafL b = s := ⟨_, rfl⟩
  have hsl : s.length = 32 := by rw [← hs0]; exact leafL_length b
  have hsb : ∀ x ∈ s, x < 256 := by rw [← hs0]; exact leafL_lt b
  obtain ⟨m, hm0⟩ : ∃ m, markL l = m := ⟨_, rfl⟩
  have hml : m.length = 32 := by rw [← hm0]; exact markL_length l
  have hmb : ∀ x ∈ m, x < 256 := by rw [← hm0]; exact markL_lt l
  obtain ⟨mk, hk0⟩ : ∃ mk, markL (l ++ [b]) = mk := ⟨_, rfl⟩
  have hkl : mk.length = 32 := by rw [← hk0]; exact markL_length _
  have hke : sha (m ++ s) = mk := by rw [← hk0, markL_snoc, hm0, hs0]
  rw [hs0] at D
  obtain ⟨L, hL⟩ : ∃ L, l.length = L := ⟨_, rfl⟩
  have HL := Lib.hid (And.intro hs0 (And.intro hm0 (And.intro hk0 (And.intro hL hke))))
  have HS := Lib.hid (And.intro hsb hmb)
  have hni : ¬ ((16384 : Int) < (n : Int)) := by omega
  have HZ32 := Lib.hid (show zero32.length = 32 from rfl)
  have L6 : L ≤ 60000 := by omega
  have hglt := h.lt
  clear h hG hx hk hs hs0 hm0 hk0 hke hL hsb hmb hl
  go_enter Tryz.func8, Tryz.ntmps8
  go_wp2_with fail
  refine C.out.mono ?_
  rintro e w' ⟨rfl, e1⟩
  obtain rfl := e1.symm
  clear e1
  go_wp2_with fail
  refine D.out.mono ?_
  rintro e w1 ⟨rfl, b1⟩
  have h1 := HH.out.1.below HH.out.2.1 b1
  have Z := Lib.hid (hsize_at h1)
  have M := Lib.hid (hmark_in h1 (n := l.length) (Nat.le_refl _) (by have := HL.out.2.2.2.1; omega))
  rw [List.take_of_length_le (Nat.le_refl _), HL.out.2.1, HL.out.2.2.2.1] at M
  rw [HL.out.2.2.2.1] at Z
  have HB1 := Lib.hid b1
  clear h1 b1 C D
  go_wp2_with fail
  refine Z.out.mono ?_
  rintro e w' ⟨rfl, e1⟩
  obtain rfl := e1.symm
  clear e1
  go_wp2_with fail
  refine M.out.mono ?_
  rintro e w2 ⟨rfl, b2⟩
  have HB2 := Lib.hid (below_on HB1.out (Nat.le_refl _) b2)
  clear b2 Z M HB1
  have f5 : BArr ((w2.alloc (.cells #[.int .u8 0, .int .u8 0, .int .u8 0, .int .u8 0, .int .u8 0, .int .u8 0, .int .u8 0, .int .u8 0, .int .u8 0, .int .u8 0, .int .u8 0, .int .u8 0, .int .u8 0, .int .u8 0, .int .u8 0, .int .u8 0, .int .u8 0, .int .u8 0, .int .u8 0, .int .u8 0, .int .u8 0, .int .u8 0, .int .u8 0, .int .u8 0, .int .u8 0, .int .u8 0, .int .u8 0, .int .u8 0, .int .u8 0, .int .u8 0, .int .u8 0, .int .u8 0] 50)).alloc (.cells #[.int .u8 0, .int .u8 0, .int .u8 0, .int .u8 0, .int .u8 0, .int .u8 0, .int .u8 0, .int .u8 0, .int .u8 0, .int .u8 0, .int .u8 0, .int .u8 0, .int .u8 0, .int .u8 0, .int .u8 0, .int .u8 0, .int .u8 0, .int .u8 0, .int .u8 0, .int .u8 0, .int .u8 0, .int .u8 0, .int .u8 0, .int .u8 0, .int .u8 0, .int .u8 0, .int .u8 0, .int .u8 0, .int .u8 0, .int .u8 0, .int .u8 0, .int .u8 0] 50)) w2.heap.size 50 zero32 := (BArr.new w2 50 zero32).alloc (.cells (bvs zero32).toArray 50)
  have z6 : BArr ((w2.alloc (.cells #[.int .u8 0, .int .u8 0, .int .u8 0, .int .u8 0, .int .u8 0, .int .u8 0, .int .u8 0, .int .u8 0, .int .u8 0, .int .u8 0, .int .u8 0, .int .u8 0, .int .u8 0, .int .u8 0, .int .u8 0, .int .u8 0, .int .u8 0, .int .u8 0, .int .u8 0, .int .u8 0, .int .u8 0, .int .u8 0, .int .u8 0, .int .u8 0, .int .u8 0, .int .u8 0, .int .u8 0, .int .u8 0, .int .u8 0, .int .u8 0, .int .u8 0, .int .u8 0] 50)).alloc (.cells #[.int .u8 0, .int .u8 0, .int .u8 0, .int .u8 0, .int .u8 0, .int .u8 0, .int .u8 0, .int .u8 0, .int .u8 0, .int .u8 0, .int .u8 0, .int .u8 0, .int .u8 0, .int .u8 0, .int .u8 0, .int .u8 0, .int .u8 0, .int .u8 0, .int .u8 0, .int .u8 0, .int .u8 0, .int .u8 0, .int .u8 0, .int .u8 0, .int .u8 0, .int .u8 0, .int .u8 0, .int .u8 0, .int .u8 0, .int .u8 0, .int .u8 0, .int .u8 0] 50)) (w2.heap.size + 1) 50 zero32 := by
    have h0 := BArr.new (w2.alloc (.cells #[.int .u8 0, .int .u8 0, .int .u8 0, .int .u8 0, .int .u8 0, .int .u8 0, .int .u8 0, .int .u8 0, .int .u8 0, .int .u8 0, .int .u8 0, .int .u8 0, .int .u8 0, .int .u8 0, .int .u8 0, .int .u8 0, .int .u8 0, .int .u8 0, .int .u8 0, .int .u8 0, .int .u8 0, .int .u8 0, .int .u8 0, .int .u8 0, .int .u8 0, .int .u8 0, .int .u8 0, .int .u8 0, .int .u8 0, .int .u8 0, .int .u8 0, .int .u8 0] 50)) 50 zero32
    rw [World.size_alloc] at h0
    exact h0
  have sz5 : ((w2.alloc (.cells #[.int .u8 0, .int .u8 0, .int .u8 0, .int .u8 0, .int .u8 0, .int .u8 0, .int .u8 0, .int .u8 0, .int .u8 0, .int .u8 0, .int .u8 0, .int .u8 0, .int .u8 0, .int .u8 0, .int .u8 0, .int .u8 0, .int .u8 0, .int .u8 0, .int .u8 0, .int .u8 0, .int .u8 0, .int .u8 0, .int .u8 0, .int .u8 0, .int .u8 0, .int .u8 0, .int .u8 0, .int .u8 0, .int .u8 0, .int .u8 0, .int .u8 0, .int .u8 0] 50)).alloc (.cells #[.int .u8 0, .int .u8 0, .int .u8 0, .int .u8 0, .int .u8 0, .int .u8 0, .int .u8 0, .int .u8 0, .int .u8 0, .int .u8 0, .int .u8 0, .int .u8 0, .int .u8 0, .int .u8 0, .int .u8 0, .int .u8 0, .int .u8 0, .int .u8 0, .int .u8 0, .int .u8 0, .int .u8 0, .int .u8 0, .int .u8 0, .int .u8 0, .int .u8 0, .int .u8 0, .int .u8 0, .int .u8 0, .int .u8 0, .int .u8 0, .int .u8 0, .int .u8 0] 50)).heap.size = w2.heap.size + 2 := by rw [World.size_alloc, World.size_alloc]
  have b5 : Below w2.heap.size w2 ((w2.alloc (.cells #[.int .u8 0, .int .u8 0, .int .u8 0, .int .u8 0, .int .u8 0, .int .u8 0, .int .u8 0, .int .u8 0, .int .u8 0, .int .u8 0, .int .u8 0, .int .u8 0, .int .u8 0, .int .u8 0, .int .u8 0, .int .u8 0, .int .u8 0, .int .u8 0, .int .u8 0, .int .u8 0, .int .u8 0, .int .u8 0, .int .u8 0, .int .u8 0, .int .u8 0, .int .u8 0, .int .u8 0, .int .u8 0, .int .u8 0, .int .u8 0, .int .u8 0, .int .u8 0] 50)).alloc (.cells #[.int .u8 0, .int .u8 0, .int .u8 0, .int .u8 0, .int .u8 0, .int .u8 0, .int .u8 0, .int .u8 0, .int .u8 0, .int .u8 0, .int .u8 0, .int .u8 0, .int .u8 0, .int .u8 0, .int .u8 0, .int .u8 0, .int .u8 0, .int .u8 0, .int .u8 0, .int .u8 0, .int .u8 0, .int .u8 0, .int .u8 0, .int .u8 0, .int .u8 0, .int .u8 0, .int .u8 0, .int .u8 0, .int .u8 0, .int .u8 0, .int .u8 0, .int .u8 0] 50)) := (below_alloc w2 _).alloc (by rw [World.size_alloc]; omega) _
  have f6 := z6.setRow_other w2.heap.size (by omega) (bvs s).toArray
  have r5 : BArr ((((w2.alloc (.cells #[.int .u8 0, .int .u8 0, .int .u8 0, .int .u8 0, .int .u8 0, .int .u8 0, .int .u8 0, .int .u8 0, .int .u8 0, .int .u8 0, .int .u8 0, .int .u8 0, .int .u8 0, .int .u8 0, .int .u8 0, .int .u8 0, .int .u8 0, .int .u8 0, .int .u8 0, .int .u8 0, .int .u8 0, .int .u8 0, .int .u8 0, .int .u8 0, .int .u8 0, .int .u8 0, .int .u8 0, .int .u8 0, .int .u8 0, .int .u8 0, .int .u8 0, .int .u8 0] 50)).alloc (.cells #[.int .u8 0, .int .u8 0, .int .u8 0, .int .u8 0, .int .u8 0, .int .u8 0, .int .u8 0, .int .u8 0, .int .u8 0, .int .u8 0, .int .u8 0, .int .u8 0, .int .u8 0, .int .u8 0, .int .u8 0, .int .u8 0, .int .u8 0, .int .u8 0, .int .u8 0, .int .u8 0, .int .u8 0, .int .u8 0, .int .u8 0, .int .u8 0, .int .u8 0, .int .u8 0, .int .u8 0, .int .u8 0, .int .u8 0, .int .u8 0, .int .u8 0, .int .u8 0] 50)).setRow w2.heap.size (bvs s).toArray).setRow (w2.heap.size + 1) (bvs m).toArray) w2.heap.size 50 s := (f5.setRow s).setRow_other _ (by omega) _
  have r6 : BArr ((((w2.alloc (.cells #[.int .u8 0, .int .u8 0, .int .u8 0, .int .u8 0, .int .u8 0, .int .u8 0, .int .u8 0, .int .u8 0, .int .u8 0, .int .u8 0, .int .u8 0, .int .u8 0, .int .u8 0, .int .u8 0, .int .u8 0, .int .u8 0, .int .u8 0, .int .u8 0, .int .u8 0, .int .u8 0, .int .u8 0, .int .u8 0, .int .u8 0, .int .u8 0, .int .u8 0, .int .u8 0, .int .u8 0, .int .u8 0, .int .u8 0, .int .u8 0, .int .u8 0, .int .u8 0] 50)).alloc (.cells #[.int .u8 0, .int .u8 0, .int .u8 0, .int .u8 0, .int .u8 0, .int .u8 0, .int .u8 0, .int .u8 0, .int .u8 0, .int .u8 0, .int .u8 0, .int .u8 0, .int .u8 0, .int .u8 0, .int .u8 0, .int .u8 0, .int .u8 0, .int .u8 0, .int .u8 0, .int .u8 0, .int .u8 0, .int .u8 0, .int .u8 0, .int .u8 0, .int .u8 0, .int .u8 0, .int .u8 0, .int .u8 0, .int .u8 0, .int .u8 0, .int .u8 0, .int .u8 0] 50)).setRow w2.heap.size (bvs s).toArray).setRow (w2.heap.size + 1) (bvs m).toArray) (w2.heap.size + 1) 50 m := f6.setRow m
  have b6 : Below w2.heap.size w2 ((((w2.alloc (.cells #[.int .u8 0, .int .u8 0, .int .u8 0, .int .u8 0, .int .u8 0, .int .u8 0, .int .u8 0, .int .u8 0, .int .u8 0, .int .u8 0, .int .u8 0, .int .u8 0, .int .u8 0, .int .u8 0, .int .u8 0, .int .u8 0, .int .u8 0, .int .u8 0, .int .u8 0, .int .u8 0, .int .u8 0, .int .u8 0, .int .u8 0, .int .u8 0, .int .u8 0, .int .u8 0, .int .u8 0, .int .u8 0, .int .u8 0, .int .u8 0, .int .u8 0, .int .u8 0] 50)).alloc (.cells #[.int .u8 0, .int .u8 0, .int .u8 0, .int .u8 0, .int .u8 0, .int .u8 0, .int .u8 0, .int .u8 0, .int .u8 0, .int .u8 0, .int .u8 0, .int .u8 0, .int .u8 0, .int .u8 0, .int .u8 0, .int .u8 0, .int .u8 0, .int .u8 0, .int .u8 0, .int .u8 0, .int .u8 0, .int .u8 0, .int .u8 0, .int .u8 0, .int .u8 0, .int .u8 0, .int .u8 0, .int .u8 0, .int .u8 0, .int .u8 0, .int .u8 0, .int .u8 0] 50)).setRow w2.heap.size (bvs s).toArray).setRow (w2.heap.size + 1) (bvs m).toArray) := below_setRow (below_setRow b5 (Nat.le_refl _) _) (by omega) _
  have HF := Lib.hid (And.intro f5 (And.intro f6 (And.intro r5 (And.intro r6 b6))))
  clear f5 z6 sz5 b5 f6 r5 r6 b6
  go_upto_region 6 with (first
    | (with_reducible refine wpList_store_sum rfl (.tmp 5) (.tmp 17) rfl w2.heap.size rfl zero32 s HZ32 hsl HF.out.1 rfl ?_)
    | (with_reducible refine wpList_store_sum rfl (.tmp 6) (.tmp 21) rfl (w2.heap.size + 1) rfl zero32 m HZ32 hml HF.out.2.1 rfl ?_))
  obtain ⟨w5, hw5⟩ : ∃ w5, w5 = ((((w2.alloc (.cells #[.int .u8 0, .int .u8 0, .int .u8 0, .int .u8 0, .int .u8 0, .int .u8 0, .int .u8 0, .int .u8 0, .int .u8 0, .int .u8 0, .int .u8 0, .int .u8 0, .int .u8 0, .int .u8 0, .int .u8 0, .int .u8 0, .int .u8 0, .int .u8 0, .int .u8 0, .int .u8 0, .int .u8 0, .int .u8 0, .int .u8 0, .int .u8 0, .int .u8 0, .int .u8 0, .int .u8 0, .int .u8 0, .int .u8 0, .int .u8 0, .int .u8 0, .int .u8 0] 50)).alloc (.cells #[.int .u8 0, .int .u8 0, .int .u8 0, .int .u8 0, .int .u8 0, .int .u8 0, .int .u8 0, .int .u8 0, .int .u8 0, .int .u8 0, .int .u8 0, .int .u8 0, .int .u8 0, .int .u8 0, .int .u8 0, .int .u8 0, .int .u8 0, .int .u8 0, .int .u8 0, .int .u8 0, .int .u8 0, .int .u8 0, .int .u8 0, .int .u8 0, .int .u8 0, .int .u8 0, .int .u8 0, .int .u8 0, .int .u8 0, .int .u8 0, .int .u8 0, .int .u8 0] 50)).setRow w2.heap.size (bvs s).toArray).setRow (w2.heap.size + 1) (bvs m).toArray) := ⟨_, rfl⟩
  rw [← hw5]
  rw [← hw5] at HF
  have H5 := Lib.hid (And.intro HF.out.2.2.1 (And.intro HF.out.2.2.2.1 (below_on HB2.out (Nat.le_refl _) HF.out.2.2.2.2)))
  have g5w := Lib.hid HB2.out.size
  have w5w := Lib.hid H5.out.2.2.size
  clear hw5 HF
  obtain ⟨q, hq⟩ : ∃ q, w2.heap.size = q := ⟨_, rfl⟩
  rw [hq] at H5 g5w ⊢
  clear hq
  simp only [Act.put]
  go_cut [7] from 22 to 26 (fun s7 wx => ∃ p, s7 = .pointer (some ⟨p, 0, none⟩) ∧ w5.heap.size ≤ p ∧ BArr wx p 50 mk ∧ Below w5.heap.size w5 wx)
  case first =>
    have hsa := run_arr_all Tryz.underlying50
    have CC := Lib.hid (fun (W : World) (p : Nat) (hW : Below w5.heap.size w5 W) (c1 : W.cell? ⟨p, 0, none⟩ = some (.slice (some ⟨q + 1, 0, none⟩) 32 32)) (c2 : W.cell? ⟨p, 1, none⟩ = some (.slice (some ⟨q, 0, none⟩) 32 32)) =>
      (concatB_any p (some ⟨q + 1, 0, none⟩) (some ⟨q, 0, none⟩) 32 32 32 32 m s W c1 c2 ⟨hml, fun j x hj => ⟨_, rfl, (H5.out.2.1.below hW).at_ j x hj⟩⟩ ⟨hsl, fun j x hj => ⟨_, rfl, (H5.out.1.below hW).at_ j x hj⟩⟩ (fun e => by cases e) (fun e => by cases e) (by omega) (by omega)).mono (R' := fun e w' => ∃ A' c', e = .returned (.slice A' 64 c') ∧ In w' A' 64 (m ++ s) ∧ 64 ≤ c' ∧ Below w5.heap.size w5 w' ∧ Below W.heap.size W w') fun e w' ⟨A', c', he, ho, hb⟩ => ⟨A', c', he, In.of_own ho, own_cap ho, below_on hW (Nat.le_refl _) hb, hb⟩)
    have CO := Lib.hid (fun (W : World) (A' : Option Addr) (c' : Nat) (hW : Below w5.heap.size w5 W) (hin : In W A' 64 (m ++ s)) (hc : 64 ≤ c') =>
      (of_any A' 64 c' (m ++ s) W hin (bytes_append HS.out.2 HS.out.1) hc (HH.out.2.2.2.1.below (below_on H5.out.2.2 (Nat.le_refl _) hW)) (HH.out.2.2.2.2.below (below_on H5.out.2.2 (Nat.le_refl _) hW)) (by omega)).mono (R' := fun e w' => e = .returned (sv mk) ∧ Below w5.heap.size w5 w' ∧ Below W.heap.size W w') fun e w' ⟨he, hb⟩ => ⟨by rw [he, HL.out.2.2.2.2], below_on hW (Nat.le_refl _) hb, hb⟩)
    unfold sv at CO
    have hst : ∀ (W : World) (p : Nat), BArr W p 50 zero32 → (storeCells ⟨p, 0, none⟩ (bvs mk)).run Tryz.prog W = .ok () (W.setRow p (bvs mk).toArray) := fun W p hW => by
      have := run_storeCells_from (P := Tryz.prog) p 50 (bvs mk) 0 _ W hW (by rw [bvs_length, hkl]; rfl) (bvs_oneCell mk)
      simpa using this
    have hbR : (bvs mk).length = 32 := by rw [bvs_length, hkl]
    have HE0 := Lib.hid (show #[.int .u8 0, .int .u8 0, .int .u8 0, .int .u8 0, .int .u8 0, .int .u8 0, .int .u8 0, .int .u8 0, .int .u8 0, .int .u8 0, .int .u8 0, .int .u8 0, .int .u8 0, .int .u8 0, .int .u8 0, .int .u8 0, .int .u8 0, .int .u8 0, .int .u8 0, .int .u8 0, .int .u8 0, .int .u8 0, .int .u8 0, .int .u8 0, .int .u8 0, .int .u8 0, .int .u8 0, .int .u8 0, .int .u8 0, .int .u8 0, .int .u8 0, .int .u8 0] = (bvs zero32).toArray from rfl)
    refine wp_region_held_drew (S := fun W => Below w5.heap.size w5 W) (by kernel_rfl) ((Below.refl _ _).drew) (fun hS0 => ?_)
    change wpAnyH _ _ _ _ _ _ _ _ w5.drew
    generalize w5.drew = w6 at hS0 ⊢
    refine' wpAnyH_take (i := 0) (oi := _) (v := _) ?hia0 (by kernel_rfl) ?hfa0 ?hra0 ?hQa0 ?hya0 hS0 ?resta0
    case hia0 => (simp only [List.getElem?_toArray, List.getElem?_cons_zero]; rfl)
    case hfa0 => kernel_rfl
    case hra0 => kernel_rfl
    case hQa0 => exact fun _ _ _ h => h
    case hya0 => refine Or.inl ⟨by rfl, ?_⟩; intro W hSw; go_simp; try with_reducible rfl
    try simp only [Act.put, List.setIfInBounds_toArray, List.set_cons_zero, List.set_cons_succ]
    refine' wpAnyH_take (i := 1) (oi := _) (v := _) ?hia1 (by kernel_rfl) ?hfa1 ?hra1 ?hQa1 ?hya1 hS0 ?resta1
    case hia1 => (simp only [List.getElem?_toArray, List.getElem?_cons_zero, List.getElem?_cons_succ]; rfl)
    case hfa1 => kernel_rfl
    case hra1 => kernel_rfl
    case hQa1 => exact fun _ _ _ h => h
    case hya1 => refine Or.inl ⟨by rfl, ?_⟩; intro W hSw; go_simp; try with_reducible rfl
    try simp only [Act.put, List.setIfInBounds_toArray, List.set_cons_zero, List.set_cons_succ]
    refine wpAnyH_ready (rs := [2, 5]) (by kernel_rfl) (by simp) ?_
    refine' AllReadyH.cons (o := _) ?hib2 (fun K hK => ?_) (AllReadyH.cons (o := _) ?hib5 (fun K hK => ?_) AllReadyH.nil)
    case hib2 => (simp only [List.getElem?_toArray, List.getElem?_cons_zero, List.getElem?_cons_succ]; rfl)
    case hib5 => (simp only [List.getElem?_toArray, List.getElem?_cons_zero, List.getElem?_cons_succ]; rfl)
    · skip
      go_simp
      have hB1 := Below.alloc hS0 (Below.size hS0) (.cells #[.slice (some ⟨q + 1, 0, none⟩) 32 32, .slice (some ⟨q, 0, none⟩) 32 32] 38)
      have hPc := hpair_cells w6 (.slice (some ⟨q + 1, 0, none⟩) 32 32) (.slice (some ⟨q, 0, none⟩) 32 32) 38
      refine hK.out _ _ hB1 (fun _ => ?_)
      clear hK K
      try simp only [Act.put, List.setIfInBounds_toArray, List.set_cons_zero, List.set_cons_succ]
      generalize (w6.alloc (.cells #[.slice (some ⟨q + 1, 0, none⟩) 32 32, .slice (some ⟨q, 0, none⟩) 32 32] 38)) = W1 at hB1 hPc ⊢
      refine wpAnyH_ready (rs := [3, 5]) (by kernel_rfl) (by simp) ?_
      refine' AllReadyH.cons (o := _) ?hibx3 (fun K hK => ?_) (AllReadyH.cons (o := _) ?hibx5 (fun K hK => ?_) AllReadyH.nil)
      case hibx3 => (simp only [List.getElem?_toArray, List.getElem?_cons_zero, List.getElem?_cons_succ]; rfl)
      case hibx5 => (simp only [List.getElem?_toArray, List.getElem?_cons_zero, List.getElem?_cons_succ]; rfl)
      · skip
        go_simp
        go_at_call 49
        refine (CC.out _ _ hB1 hPc.1 hPc.2).mono ?_
        rintro e W2 ⟨A2, c2, rfl, hi2, hc2, hB2, hb2⟩
        refine hK.out _ _ hB2 (fun _ => ?_)
        clear hK K
        try simp only [Act.put, List.setIfInBounds_toArray, List.set_cons_zero, List.set_cons_succ]
        refine wpAnyH_ready (rs := [4, 5]) (by kernel_rfl) (by simp) ?_
        refine' AllReadyH.cons (o := _) ?hibxx4 (fun K hK => ?_) (AllReadyH.cons (o := _) ?hibxx5 (fun K hK => ?_) AllReadyH.nil)
        case hibxx4 => (simp only [List.getElem?_toArray, List.getElem?_cons_zero, List.getElem?_cons_succ]; rfl)
        case hibxx5 => (simp only [List.getElem?_toArray, List.getElem?_cons_zero, List.getElem?_cons_succ]; rfl)
        · skip
          go_simp
          go_at_call 48
          refine (CO.out _ _ _ hB2 hi2 hc2).mono ?_
          rintro e W3 ⟨rfl, hB3, hb3⟩
          refine hK.out _ _ hB3 (fun _ => ?_)
          clear hK K
          try simp only [Act.put, List.setIfInBounds_toArray, List.set_cons_zero, List.set_cons_succ]
          refine wpAnyH_ready (rs := [5]) (by kernel_rfl) (by simp) ?_
          refine' AllReadyH.cons (o := _) ?hibxxx5 (fun K hK => ?_) AllReadyH.nil
          case hibxxx5 => (simp only [List.getElem?_toArray, List.getElem?_cons_zero, List.getElem?_cons_succ]; rfl)
          go_simp
          have hB4 := Below.alloc hB3 (Below.size hB3) (.cells (bvs zero32).toArray 50)
          have hz4 := BArr.new W3 50 zero32
          rw [← HE0.out] at hB4 hz4
          refine hK.out _ _ hB4 (fun _ => ?_)
          clear hK K
          try simp only [Act.put, List.setIfInBounds_toArray, List.set_cons_zero, List.set_cons_succ]
          generalize (W3.alloc (.cells #[.int .u8 0, .int .u8 0, .int .u8 0, .int .u8 0, .int .u8 0, .int .u8 0, .int .u8 0, .int .u8 0, .int .u8 0, .int .u8 0, .int .u8 0, .int .u8 0, .int .u8 0, .int .u8 0, .int .u8 0, .int .u8 0, .int .u8 0, .int .u8 0, .int .u8 0, .int .u8 0, .int .u8 0, .int .u8 0, .int .u8 0, .int .u8 0, .int .u8 0, .int .u8 0, .int .u8 0, .int .u8 0, .int .u8 0, .int .u8 0, .int .u8 0, .int .u8 0] 50)) = W4 at hB4 hz4 ⊢
          have hZ3 : BArr _ _ 50 zero32 := hz4
          refine wpAnyH_ready (rs := [6]) (by kernel_rfl) (by simp) ?_
          refine' AllReadyH.cons (o := _) ?hibxxx6 (fun K hK => ?_) AllReadyH.nil
          case hibxxx6 => (simp only [List.getElem?_toArray, List.getElem?_cons_zero, List.getElem?_cons_succ]; rfl)
          go_simp
          refine hK.out _ _ (below_setRow hB4 (Below.size hB3) _) (fun _ => ?_)
          clear hK K
          refine wpAnyH_done (by kernel_rfl) ?_ _
          go_wp2_with fail
          go_meet
          case rel => exact ⟨_, rfl, Below.size hB3, hZ3.setRow mk, below_setRow hB4 (Below.size hB3) _⟩
        · skip
          go_simp
          have hB3 := Below.alloc hB2 (Below.size hB2) (.cells (bvs zero32).toArray 50)
          have hz3 := BArr.new W2 50 zero32
          rw [← HE0.out] at hB3 hz3
          have hin3 := In.below hi2 (below_alloc W2 (.cells #[.int .u8 0, .int .u8 0, .int .u8 0, .int .u8 0, .int .u8 0, .int .u8 0, .int .u8 0, .int .u8 0, .int .u8 0, .int .u8 0, .int .u8 0, .int .u8 0, .int .u8 0, .int .u8 0, .int .u8 0, .int .u8 0, .int .u8 0, .int .u8 0, .int .u8 0, .int .u8 0, .int .u8 0, .int .u8 0, .int .u8 0, .int .u8 0, .int .u8 0, .int .u8 0, .int .u8 0, .int .u8 0, .int .u8 0, .int .u8 0, .int .u8 0, .int .u8 0] 50))
          refine hK.out _ _ hB3 (fun _ => ?_)
          clear hK K
          try simp only [Act.put, List.setIfInBounds_toArray, List.set_cons_zero, List.set_cons_succ]
          generalize (W2.alloc (.cells #[.int .u8 0, .int .u8 0, .int .u8 0, .int .u8 0, .int .u8 0, .int .u8 0, .int .u8 0, .int .u8 0, .int .u8 0, .int .u8 0, .int .u8 0, .int .u8 0, .int .u8 0, .int .u8 0, .int .u8 0, .int .u8 0, .int .u8 0, .int .u8 0, .int .u8 0, .int .u8 0, .int .u8 0, .int .u8 0, .int .u8 0, .int .u8 0, .int .u8 0, .int .u8 0, .int .u8 0, .int .u8 0, .int .u8 0, .int .u8 0, .int .u8 0, .int .u8 0] 50)) = W3 at hB3 hz3 hin3 ⊢
          refine wpAnyH_ready (rs := [4]) (by kernel_rfl) (by simp) ?_
          refine' AllReadyH.cons (o := _) ?hibxxy4 (fun K hK => ?_) AllReadyH.nil
          case hibxxy4 => (simp only [List.getElem?_toArray, List.getElem?_cons_zero, List.getElem?_cons_succ]; rfl)
          go_simp
          go_at_call 48
          refine (CO.out _ _ _ hB3 hin3 hc2).mono ?_
          rintro e W4 ⟨rfl, hB4, hb4⟩
          have hz4 := hz3.below hb4
          refine hK.out _ _ hB4 (fun _ => ?_)
          clear hK K
          try simp only [Act.put, List.setIfInBounds_toArray, List.set_cons_zero, List.set_cons_succ]
          have hZ3 : BArr _ _ 50 zero32 := hz4
          refine wpAnyH_ready (rs := [6]) (by kernel_rfl) (by simp) ?_
          refine' AllReadyH.cons (o := _) ?hibxxy6 (fun K hK => ?_) AllReadyH.nil
          case hibxxy6 => (simp only [List.getElem?_toArray, List.getElem?_cons_zero, List.getElem?_cons_succ]; rfl)
          go_simp
          refine hK.out _ _ (below_setRow hB4 (Below.size hB2) _) (fun _ => ?_)
          clear hK K
          refine wpAnyH_done (by kernel_rfl) ?_ _
          go_wp2_with fail
          go_meet
          case rel => exact ⟨_, rfl, Below.size hB2, hZ3.setRow mk, below_setRow hB4 (Below.size hB2) _⟩
      · skip
        go_simp
        have hB2 := Below.alloc hB1 (Below.size hB1) (.cells (bvs zero32).toArray 50)
        have hz2 := BArr.new W1 50 zero32
        rw [← HE0.out] at hB2 hz2
        have hPa := (World.cell?_alloc_lt W1 (.cells #[.int .u8 0, .int .u8 0, .int .u8 0, .int .u8 0, .int .u8 0, .int .u8 0, .int .u8 0, .int .u8 0, .int .u8 0, .int .u8 0, .int .u8 0, .int .u8 0, .int .u8 0, .int .u8 0, .int .u8 0, .int .u8 0, .int .u8 0, .int .u8 0, .int .u8 0, .int .u8 0, .int .u8 0, .int .u8 0, .int .u8 0, .int .u8 0, .int .u8 0, .int .u8 0, .int .u8 0, .int .u8 0, .int .u8 0, .int .u8 0, .int .u8 0, .int .u8 0] 50) _ (World.block_lt_of_cell? _ _ hPc.1)).trans hPc.1
        have hPb := (World.cell?_alloc_lt W1 (.cells #[.int .u8 0, .int .u8 0, .int .u8 0, .int .u8 0, .int .u8 0, .int .u8 0, .int .u8 0, .int .u8 0, .int .u8 0, .int .u8 0, .int .u8 0, .int .u8 0, .int .u8 0, .int .u8 0, .int .u8 0, .int .u8 0, .int .u8 0, .int .u8 0, .int .u8 0, .int .u8 0, .int .u8 0, .int .u8 0, .int .u8 0, .int .u8 0, .int .u8 0, .int .u8 0, .int .u8 0, .int .u8 0, .int .u8 0, .int .u8 0, .int .u8 0, .int .u8 0] 50) _ (World.block_lt_of_cell? _ _ hPc.2)).trans hPc.2
        refine hK.out _ _ hB2 (fun _ => ?_)
        clear hK K
        try simp only [Act.put, List.setIfInBounds_toArray, List.set_cons_zero, List.set_cons_succ]
        generalize (W1.alloc (.cells #[.int .u8 0, .int .u8 0, .int .u8 0, .int .u8 0, .int .u8 0, .int .u8 0, .int .u8 0, .int .u8 0, .int .u8 0, .int .u8 0, .int .u8 0, .int .u8 0, .int .u8 0, .int .u8 0, .int .u8 0, .int .u8 0, .int .u8 0, .int .u8 0, .int .u8 0, .int .u8 0, .int .u8 0, .int .u8 0, .int .u8 0, .int .u8 0, .int .u8 0, .int .u8 0, .int .u8 0, .int .u8 0, .int .u8 0, .int .u8 0, .int .u8 0, .int .u8 0] 50)) = W2 at hB2 hz2 hPa hPb ⊢
        refine wpAnyH_ready (rs := [3]) (by kernel_rfl) (by simp) ?_
        refine' AllReadyH.cons (o := _) ?hibxy3 (fun K hK => ?_) AllReadyH.nil
        case hibxy3 => (simp only [List.getElem?_toArray, List.getElem?_cons_zero, List.getElem?_cons_succ]; rfl)
        go_simp
        go_at_call 49
        refine (CC.out _ _ hB2 hPa hPb).mono ?_
        rintro e W3 ⟨A3, c3, rfl, hi3, hc3, hB3, hb3⟩
        have hz3 := hz2.below hb3
        refine hK.out _ _ hB3 (fun _ => ?_)
        clear hK K
        try simp only [Act.put, List.setIfInBounds_toArray, List.set_cons_zero, List.set_cons_succ]
        refine wpAnyH_ready (rs := [4]) (by kernel_rfl) (by simp) ?_
        refine' AllReadyH.cons (o := _) ?hibxy4 (fun K hK => ?_) AllReadyH.nil
        case hibxy4 => (simp only [List.getElem?_toArray, List.getElem?_cons_zero, List.getElem?_cons_succ]; rfl)
        go_simp
        go_at_call 48
        refine (CO.out _ _ _ hB3 hi3 hc3).mono ?_
        rintro e W4 ⟨rfl, hB4, hb4⟩
        have hz4 := hz3.below hb4
        refine hK.out _ _ hB4 (fun _ => ?_)
        clear hK K
        try simp only [Act.put, List.setIfInBounds_toArray, List.set_cons_zero, List.set_cons_succ]
        have hZ3 : BArr _ _ 50 zero32 := hz4
        refine wpAnyH_ready (rs := [6]) (by kernel_rfl) (by simp) ?_
        refine' AllReadyH.cons (o := _) ?hibxy6 (fun K hK => ?_) AllReadyH.nil
        case hibxy6 => (simp only [List.getElem?_toArray, List.getElem?_cons_zero, List.getElem?_cons_succ]; rfl)
        go_simp
        refine hK.out _ _ (below_setRow hB4 (Below.size hB1) _) (fun _ => ?_)
        clear hK K
        refine wpAnyH_done (by kernel_rfl) ?_ _
        go_wp2_with fail
        go_meet
        case rel => exact ⟨_, rfl, Below.size hB1, hZ3.setRow mk, below_setRow hB4 (Below.size hB1) _⟩
    · skip
      go_simp
      have hB1 := Below.alloc hS0 (Below.size hS0) (.cells (bvs zero32).toArray 50)
      have hz1 := BArr.new w6 50 zero32
      rw [← HE0.out] at hB1 hz1
      refine hK.out _ _ hB1 (fun _ => ?_)
      clear hK K
      try simp only [Act.put, List.setIfInBounds_toArray, List.set_cons_zero, List.set_cons_succ]
      generalize (w6.alloc (.cells #[.int .u8 0, .int .u8 0, .int .u8 0, .int .u8 0, .int .u8 0, .int .u8 0, .int .u8 0, .int .u8 0, .int .u8 0, .int .u8 0, .int .u8 0, .int .u8 0, .int .u8 0, .int .u8 0, .int .u8 0, .int .u8 0, .int .u8 0, .int .u8 0, .int .u8 0, .int .u8 0, .int .u8 0, .int .u8 0, .int .u8 0, .int .u8 0, .int .u8 0, .int .u8 0, .int .u8 0, .int .u8 0, .int .u8 0, .int .u8 0, .int .u8 0, .int .u8 0] 50)) = W1 at hB1 hz1 ⊢
      refine wpAnyH_ready (rs := [2]) (by kernel_rfl) (by simp) ?_
      refine' AllReadyH.cons (o := _) ?hiby2 (fun K hK => ?_) AllReadyH.nil
      case hiby2 => (simp only [List.getElem?_toArray, List.getElem?_cons_zero, List.getElem?_cons_succ]; rfl)
      go_simp
      have hB2 := Below.alloc hB1 (Below.size hB1) (.cells #[.slice (some ⟨q + 1, 0, none⟩) 32 32, .slice (some ⟨q, 0, none⟩) 32 32] 38)
      have hPc := hpair_cells W1 (.slice (some ⟨q + 1, 0, none⟩) 32 32) (.slice (some ⟨q, 0, none⟩) 32 32) 38
      have hz2 := BArr.alloc hz1 (.cells #[.slice (some ⟨q + 1, 0, none⟩) 32 32, .slice (some ⟨q, 0, none⟩) 32 32] 38)
      refine hK.out _ _ hB2 (fun _ => ?_)
      clear hK K
      try simp only [Act.put, List.setIfInBounds_toArray, List.set_cons_zero, List.set_cons_succ]
      generalize (W1.alloc (.cells #[.slice (some ⟨q + 1, 0, none⟩) 32 32, .slice (some ⟨q, 0, none⟩) 32 32] 38)) = W2 at hB2 hPc hz2 ⊢
      refine wpAnyH_ready (rs := [3]) (by kernel_rfl) (by simp) ?_
      refine' AllReadyH.cons (o := _) ?hiby3 (fun K hK => ?_) AllReadyH.nil
      case hiby3 => (simp only [List.getElem?_toArray, List.getElem?_cons_zero, List.getElem?_cons_succ]; rfl)
      go_simp
      go_at_call 49
      refine (CC.out _ _ hB2 hPc.1 hPc.2).mono ?_
      rintro e W3 ⟨A3, c3, rfl, hi3, hc3, hB3, hb3⟩
      have hz3 := hz2.below hb3
      refine hK.out _ _ hB3 (fun _ => ?_)
      clear hK K
      try simp only [Act.put, List.setIfInBounds_toArray, List.set_cons_zero, List.set_cons_succ]
      refine wpAnyH_ready (rs := [4]) (by kernel_rfl) (by simp) ?_
      refine' AllReadyH.cons (o := _) ?hiby4 (fun K hK => ?_) AllReadyH.nil
      case hiby4 => (simp only [List.getElem?_toArray, List.getElem?_cons_zero, List.getElem?_cons_succ]; rfl)
      go_simp
      go_at_call 48
      refine (CO.out _ _ _ hB3 hi3 hc3).mono ?_
      rintro e W4 ⟨rfl, hB4, hb4⟩
      have hz4 := hz3.below hb4
      refine hK.out _ _ hB4 (fun _ => ?_)
      clear hK K
      try simp only [Act.put, List.setIfInBounds_toArray, List.set_cons_zero, List.set_cons_succ]
      have hZ3 : BArr _ _ 50 zero32 := hz4
      refine wpAnyH_ready (rs := [6]) (by kernel_rfl) (by simp) ?_
      refine' AllReadyH.cons (o := _) ?hiby6 (fun K hK => ?_) AllReadyH.nil
      case hiby6 => (simp only [List.getElem?_toArray, List.getElem?_cons_zero, List.getElem?_cons_succ]; rfl)
      go_simp
      refine hK.out _ _ (below_setRow hB4 (Below.size hS0) _) (fun _ => ?_)
      clear hK K
      refine wpAnyH_done (by kernel_rfl) ?_ _
      go_wp2_with fail
      go_meet
      case rel => exact ⟨_, rfl, Below.size hS0, hZ3.setRow mk, below_setRow hB4 (Below.size hS0) _⟩
  case rest =>
    obtain ⟨p, rfl, hpw, hp, hb7⟩ := hcut
    have H7 := Lib.hid (And.intro hp (And.intro (H5.out.1.below hb7) (below_on H5.out.2.2 (Nat.le_refl _) hb7)))
    clear hp hb7 H5
    have h7 := HH.out.1.below HH.out.2.1 H7.out.2.2
    have hgl := h7.lt
    have HC := Lib.hid h7
    clear h7
    go_upto_region 7 with fail
    go_cut [] from 27 to 41 (fun wx => ∃ v' u, Hid (HStep w wx g gf q v v' u E l b))
    case first =>
      have b8 : Below wc.heap.size wc wc.drew := (Below.refl _ _).drew
      refine wp_region_held_drew (S := fun W => BArr W q 50 s ∧ BArr W p 50 mk) (by kernel_rfl) ⟨H7.out.2.1.below b8, H7.out.1.below b8⟩ (fun hS0 => ?_)
      change wpAnyH _ _ _ _ _ _ _ _ wc.drew
      generalize wc.drew = w8 at hS0 b8 ⊢
      have bw8 := below_on H7.out.2.2 (Nat.le_refl _) b8
      have h8 := HH.out.1.below HH.out.2.1 bw8
      have c18 := h8.c1
      have hbl : b.length = n := HH.out.2.2.1.in_.len
      have CL := Lib.hid (clone_b A n c b w8 (HH.out.2.2.1.in_.below bw8) HH.out.2.2.1.nil HH.out.2.2.1.cap (by omega))
      have H8 := Lib.hid (And.intro h8 (And.intro bw8 hbl))
      have l6 : l.length ≤ 60000 := by rw [HL.out.2.2.2.1]; exact L6
      have hqw : w.heap.size ≤ q := Nat.le_trans g5w.out (Nat.le_refl _)
      have hpw2 : w.heap.size ≤ p := Nat.le_trans w5w.out hpw
      obtain ⟨i0, hi, hz0, hz1, hz2⟩ := info_parts infoEnt
      clear h8 hbl b8
      refine' wpAnyH_take (i := 0) (oi := _) (v := _) ?hie0 (by kernel_rfl) ?hfe0 ?hre0 ?hQe0 ?hye0 hS0 ?reste0
      case hie0 => (simp only [List.getElem?_toArray, List.getElem?_cons_zero]; rfl)
      case hfe0 => kernel_rfl
      case hre0 => kernel_rfl
      case hQe0 => exact fun _ _ _ h => h
      case hye0 => refine Or.inl ⟨by rfl, ?_⟩; intro W hSw; go_simp; try with_reducible rfl
      try simp only [Act.put, List.setIfInBounds_toArray, List.set_cons_zero, List.set_cons_succ]
      refine' wpAnyH_take (i := 1) (oi := _) (v := _) ?hie1 (by kernel_rfl) ?hfe1 ?hre1 ?hQe1 ?hye1 hS0 ?reste1
      case hie1 => (simp only [List.getElem?_toArray, List.getElem?_cons_zero, List.getElem?_cons_succ]; rfl)
      case hfe1 => kernel_rfl
      case hre1 => kernel_rfl
      case hQe1 => exact fun _ _ _ h => h
      case hye1 => refine Or.inl ⟨by rfl, ?_⟩; intro W hSw; go_simp; try with_reducible rfl
      try simp only [Act.put, List.setIfInBounds_toArray, List.set_cons_zero, List.set_cons_succ]
      refine' wpAnyH_take (i := 2) (oi := _) (v := _) ?hie2 (by kernel_rfl) ?hfe2 ?hre2 ?hQe2 ?hye2 hS0 ?reste2
      case hie2 => (simp only [List.getElem?_toArray, List.getElem?_cons_zero, List.getElem?_cons_succ]; rfl)
      case hfe2 => kernel_rfl
      case hre2 => kernel_rfl
      case hQe2 => exact fun _ _ _ h => h
      case hye2 => refine Or.inl ⟨by rfl, ?_⟩; intro W hSw; go_simp; try with_reducible rfl
      try simp only [Act.put, List.setIfInBounds_toArray, List.set_cons_zero, List.set_cons_succ]
      refine' wpAnyH_take (i := 3) (oi := _) (v := _) ?hie3 (by kernel_rfl) ?hfe3 ?hre3 ?hQe3 ?hye3 hS0 ?reste3
      case hie3 => (simp only [List.getElem?_toArray, List.getElem?_cons_zero, List.getElem?_cons_succ]; rfl)
      case hfe3 => kernel_rfl
      case hre3 => kernel_rfl
      case hQe3 => exact fun _ _ _ h => h
      case hye3 => refine Or.inl ⟨by rfl, ?_⟩; intro W hSw; go_simp; try with_reducible rfl
      try simp only [Act.put, List.setIfInBounds_toArray, List.set_cons_zero, List.set_cons_succ]
      refine' wpAnyH_take (i := 5) (oi := _) (v := sv s) ?hie5 (by kernel_rfl) ?hfe5 ?hre5 ?hQe5 ?hye5 hS0 ?reste5
      case hie5 => (simp only [List.getElem?_toArray, List.getElem?_cons_zero, List.getElem?_cons_succ]; rfl)
      case hfe5 => kernel_rfl
      case hre5 => kernel_rfl
      case hQe5 => exact fun _ _ _ h => h
      case hye5 => refine yields_sum ?_ (.tmp 5) rfl ⟨q, 0, none⟩ rfl s hsl (fun W hSw => hSw.1.at_); rfl
      try simp only [Act.put, List.setIfInBounds_toArray, List.set_cons_zero, List.set_cons_succ]
      refine' wpAnyH_take (i := 6) (oi := _) (v := sv mk) ?hie6 (by kernel_rfl) ?hfe6 ?hre6 ?hQe6 ?hye6 hS0 ?reste6
      case hie6 => (simp only [List.getElem?_toArray, List.getElem?_cons_zero, List.getElem?_cons_succ]; rfl)
      case hfe6 => kernel_rfl
      case hre6 => kernel_rfl
      case hQe6 => exact fun _ _ _ h => h
      case hye6 => refine yields_sum ?_ (.tmp 7) rfl ⟨p, 0, none⟩ rfl mk hkl (fun W hSw => hSw.2.at_); rfl
      try simp only [Act.put, List.setIfInBounds_toArray, List.set_cons_zero, List.set_cons_succ]
      refine' wpAnyH_take (i := 7) (oi := _) (v := .agg (bvs s ++ bvs mk).toArray) ?hie7 (by kernel_rfl) ?hfe7 ?hre7 ?hQe7 ?hye7 hS0 ?reste7
      case hie7 => (simp only [List.getElem?_toArray, List.getElem?_cons_zero, List.getElem?_cons_succ]; rfl)
      case hfe7 => kernel_rfl
      case hre7 => kernel_rfl
      case hQe7 => exact fun _ _ _ h => h
      case hye7 => refine yields_build_sums ?_ (.tmp 32) (.tmp 33) rfl s mk rfl rfl hsl hkl; rfl
      try simp only [Act.put, List.setIfInBounds_toArray, List.set_cons_zero, List.set_cons_succ]
      refine' wpAnyH_take (i := 8) (oi := _) (v := _) ?hie8 (by kernel_rfl) ?hfe8 ?hre8 ?hQe8 ?hye8 hS0 ?reste8
      case hie8 => (simp only [List.getElem?_toArray, List.getElem?_cons_zero, List.getElem?_cons_succ]; rfl)
      case hfe8 => kernel_rfl
      case hre8 => kernel_rfl
      case hQe8 => exact fun _ _ _ h => h
      case hye8 => refine Or.inl ⟨by rfl, ?_⟩; intro W hSw; go_simp; try with_reducible rfl
      try simp only [Act.put, List.setIfInBounds_toArray, List.set_cons_zero, List.set_cons_succ]
      refine wpAnyH_ready (rs := [4, 9]) (by kernel_rfl) (by simp) ?_
      refine' AllReadyH.cons (o := _) ?hie4 (fun K hK => ?_) (AllReadyH.cons (o := _) ?hie9 (fun K hK => ?_) AllReadyH.nil)
      case hie4 => (simp only [List.getElem?_toArray, List.getElem?_cons_zero, List.getElem?_cons_succ]; rfl)
      case hie9 => (simp only [List.getElem?_toArray, List.getElem?_cons_zero, List.getElem?_cons_succ]; rfl)
      · skip
        go_simp
        refine hK.out _ _ hS0 (fun _ => ?_)
        clear hK K
        try simp only [Act.put, List.setIfInBounds_toArray, List.set_cons_zero, List.set_cons_succ]
        refine wpAnyH_ready (rs := [9]) (by kernel_rfl) (by simp) ?_
        refine' AllReadyH.cons (o := _) ?hif9 (fun K hK => ?_) AllReadyH.nil
        case hif9 => (simp only [List.getElem?_toArray, List.getElem?_cons_zero, List.getElem?_cons_succ]; rfl)
        go_simp
        go_at_call 50
        refine CL.out.mono ?_
        rintro e W9 ⟨u, rfl, ho9, hb9⟩
        obtain ⟨B, d, rfl⟩ := own_form ho9
        have hS9 : BArr W9 q 50 s ∧ BArr W9 p 50 mk := ⟨hS0.1.below hb9, hS0.2.below hb9⟩
        have c19 : W9.cell? ⟨g, 1, none⟩ = some v := (hb9.cell (World.block_lt_of_cell? _ _ c18)).trans c18
        have h9 := H8.out.1.below (fun x hx => Nat.lt_of_lt_of_le (HH.out.2.1 x hx) H8.out.2.1.size) hb9
        have H9 := Lib.hid (And.intro ho9 (And.intro (below_on H8.out.2.1 (Nat.le_refl _) hb9) h9))
        clear ho9 hb9 h9
        refine hK.out _ _ hS9 (fun _ => ?_)
        clear hK K
        try simp only [Act.put, List.setIfInBounds_toArray, List.set_cons_zero, List.set_cons_succ]
        refine' wpAnyH_take (i := 10) (oi := _) (v := .agg (ecell s mk (.slice B n d)).toArray) ?hif10 (by kernel_rfl) ?hff10 ?hrf10 ?hQf10 ?hyf10 hS9 ?restf10
        case hif10 => (simp only [List.getElem?_toArray, List.getElem?_cons_zero, List.getElem?_cons_succ]; rfl)
        case hff10 => kernel_rfl
        case hrf10 => kernel_rfl
        case hQf10 => exact fun _ _ _ h => h
        case hyf10 => refine yields_build_ent ?_ (.tmp 34) (.tmp 36) rfl s mk B n d rfl rfl hsl hkl; rfl
        try simp only [Act.put, List.setIfInBounds_toArray, List.set_cons_zero, List.set_cons_succ]
        refine wpAnyH_ready (rs := [11]) (by kernel_rfl) (by simp) ?_
        refine' AllReadyH.cons (o := _) ?hif11 (fun K hK => ?_) AllReadyH.nil
        case hif11 => (simp only [List.getElem?_toArray, List.getElem?_cons_zero, List.getElem?_cons_succ]; rfl)
        rw [if_pos (by rfl)]
        have hel : (ecell s mk (.slice B n d)).length = 65 := ecell_length hsl hkl _
        have hSa : BArr (W9.alloc (Obj.cells (ecell s mk (.slice B n d)).toArray 92)) q 50 s ∧ BArr (W9.alloc (Obj.cells (ecell s mk (.slice B n d)).toArray 92)) p 50 mk := ⟨hS9.1.alloc _, hS9.2.alloc _⟩
        have hrow := own_block (w' := (W9.alloc (Obj.cells (ecell s mk (.slice B n d)).toArray 92))) H9.out.2.2.row (fun x hx => heap_alloc_old W9 _ (own_lt H9.out.2.2.row hx))
        have hnews := World.news_of_block (w := (W9.alloc (Obj.cells (ecell s mk (.slice B n d)).toArray 92))) (World.alloc_heap_new W9 _)
        have szA : (W9.alloc (Obj.cells (ecell s mk (.slice B n d)).toArray 92)).heap.size = W9.heap.size + 1 := World.size_alloc _ _
        have hg9 : g < W9.heap.size := World.block_lt_of_cell? _ _ c19
        have ca : (W9.alloc (Obj.cells (ecell s mk (.slice B n d)).toArray 92)).cell? ⟨g, 1, none⟩ = some v := (World.cell?_alloc_lt _ _ _ hg9).trans c19
        have fa : (W9.alloc (Obj.cells (ecell s mk (.slice B n d)).toArray 92)).frozen? ⟨g, 1, none⟩ = false := (World.frozen?_alloc_past _ _ _ hg9).trans (H9.out.2.2.fz 1)
        have hvq : v.ownBlock ≠ some q := fun e => by have := own_lt HH.out.1.row e; omega
        have hvp : v.ownBlock ≠ some p := fun e => by have := own_lt HH.out.1.row e; omega
        have hvg : v.ownBlock ≠ some g := fun e => by
          obtain ⟨cur, hc⟩ := own_type HH.out.1.row e
          exact hblock_ne HH.out.1.head hc tne_ce rfl
        have hgA : g < (W9.alloc (Obj.cells (ecell s mk (.slice B n d)).toArray 92)).heap.size := by omega
        refine wp_one 83 92 (.tmp 37) rfl i0 _ 65 (ecell s mk (.slice B n d)) rfl Tryz.underlying83 hi hz0 hz1 (by decide) (by decide) hel ?_
        refine hK.out _ _ hSa (fun _ => ?_)
        clear hK K
        try simp only [Act.put, List.setIfInBounds_toArray, List.set_cons_zero, List.set_cons_succ]
        refine wpAnyH_ready (rs := [12]) (by kernel_rfl) (by simp) ?_
        refine' AllReadyH.cons (o := _) ?hif12 (fun K hK => ?_) AllReadyH.nil
        case hif12 => (simp only [List.getElem?_toArray, List.getElem?_cons_zero, List.getElem?_cons_succ]; rfl)
        refine step_append_lies _ (by rfl) _ _ _ (by rfl) 0 92 i0 _ 65 88 Tryz.underlying83 hi hz0 hz1 hz2 (by rfl) (by decide) v l.length E.flatten (by rfl) hrow ⟨W9.heap.size, 0, none⟩ 1 1 (ecell s mk (.slice B n d)) (by rfl) (by rw [hel]) hnews (ecell_one rfl) (by decide) (by unfold maxLen; omega) (by omega) (Nat.zero_le _) _ rfl ?_
        intro gg cap w12 hown hgrow hat hlt
        have c12 : w12.cell? ⟨g, 1, none⟩ = some v := (hgrow.cell_far _ hgA (fun e => hvg e.symm)).trans ca
        have f12 : w12.frozen? ⟨g, 1, none⟩ = false := (hgrow.frozen_far _ hgA (fun e => hvg e.symm)).trans fa
        have hS12 : BArr w12 q 50 s ∧ BArr w12 p 50 mk := ⟨(hgrow.block q hSa.1.lt (fun e => hvq e.symm)).trans hSa.1, (hgrow.block p hSa.2.lt (fun e => hvp e.symm)).trans hSa.2⟩
        have hgq : g ≠ q := by omega
        have hgp : g ≠ p := by omega
        refine hK.out _ _ hS12 (fun _ => ?_)
        clear hK K
        try simp only [Act.put, List.setIfInBounds_toArray, List.set_cons_zero, List.set_cons_succ]
        refine' wpAnyH_take (i := 13) (oi := _) (v := _) ?hif13 (by kernel_rfl) ?hff13 ?hrf13 ?hQf13 ?hyf13 hS12 ?restf13
        case hif13 => (simp only [List.getElem?_toArray, List.getElem?_cons_zero, List.getElem?_cons_succ]; rfl)
        case hff13 => kernel_rfl
        case hrf13 => kernel_rfl
        case hQf13 => exact fun _ _ _ h => h
        case hyf13 => refine Or.inl ⟨by rfl, ?_⟩; intro W hSw; go_simp; try with_reducible rfl
        try simp only [Act.put, List.setIfInBounds_toArray, List.set_cons_zero, List.set_cons_succ]
        refine' wpAnyH_take (i := 14) (oi := _) (v := _) ?hif14 (by kernel_rfl) ?hff14 ?hrf14 ?hQf14 ?hyf14 hS12 ?restf14
        case hif14 => (simp only [List.getElem?_toArray, List.getElem?_cons_zero, List.getElem?_cons_succ]; rfl)
        case hff14 => kernel_rfl
        case hrf14 => kernel_rfl
        case hQf14 => exact fun _ _ _ h => h
        case hyf14 => refine Or.inl ⟨by rfl, ?_⟩; intro W hSw; go_simp; try with_reducible rfl
        try simp only [Act.put, List.setIfInBounds_toArray, List.set_cons_zero, List.set_cons_succ]
        refine wpAnyH_ready (rs := [15]) (by kernel_rfl) (by simp) ?_
        refine' AllReadyH.cons (o := _) ?hif15 (fun K hK => ?_) AllReadyH.nil
        case hif15 => (simp only [List.getElem?_toArray, List.getElem?_cons_zero, List.getElem?_cons_succ]; rfl)
        go_simp
        refine hK.out _ _ ⟨hS12.1.other _ _ (fun e => hgq e.symm), hS12.2.other _ _ (fun e => hgp e.symm)⟩ (fun _ => ?_)
        clear hK K
        refine wpAnyH_done (by kernel_rfl) ?_ _
        go_wp2_with fail
        go_meet
        case rel =>
          have ho9 := own_base H9.out.1
          rw [← H8.out.2.2] at ho9
          have e1 : leafL b = s := HL.out.1
          have e2 : markL (l ++ [b]) = mk := HL.out.2.2.1
          refine ⟨_, .slice B b.length d, Lib.hid (hstep_of (cs := (ecell s mk (.slice B n d)).toArray) HH.out.1 H9.out.2.1 ho9 (fun x hx => Nat.le_trans H8.out.2.1.size (H9.out.1.lt x (by rw [H8.out.2.2] at hx; exact hx)).1) (by rw [e1]; exact hS9.1) hqw ?_ hgrow hat)⟩
          rw [e1, e2, H8.out.2.2]
          exact hown
      · skip
        go_simp
        go_at_call 50
        refine CL.out.mono ?_
        rintro e W9 ⟨u, rfl, ho9, hb9⟩
        obtain ⟨B, d, rfl⟩ := own_form ho9
        have hS9 : BArr W9 q 50 s ∧ BArr W9 p 50 mk := ⟨hS0.1.below hb9, hS0.2.below hb9⟩
        have c19 : W9.cell? ⟨g, 1, none⟩ = some v := (hb9.cell (World.block_lt_of_cell? _ _ c18)).trans c18
        have h9 := H8.out.1.below (fun x hx => Nat.lt_of_lt_of_le (HH.out.2.1 x hx) H8.out.2.1.size) hb9
        have H9 := Lib.hid (And.intro ho9 (And.intro (below_on H8.out.2.1 (Nat.le_refl _) hb9) h9))
        clear ho9 hb9 h9
        refine hK.out _ _ hS9 (fun _ => ?_)
        clear hK K
        try simp only [Act.put, List.setIfInBounds_toArray, List.set_cons_zero, List.set_cons_succ]
        refine' wpAnyH_take (i := 10) (oi := _) (v := .agg (ecell s mk (.slice B n d)).toArray) ?hig10 (by kernel_rfl) ?hfg10 ?hrg10 ?hQg10 ?hyg10 hS9 ?restg10
        case hig10 => (simp only [List.getElem?_toArray, List.getElem?_cons_zero, List.getElem?_cons_succ]; rfl)
        case hfg10 => kernel_rfl
        case hrg10 => kernel_rfl
        case hQg10 => exact fun _ _ _ h => h
        case hyg10 => refine yields_build_ent ?_ (.tmp 34) (.tmp 36) rfl s mk B n d rfl rfl hsl hkl; rfl
        try simp only [Act.put, List.setIfInBounds_toArray, List.set_cons_zero, List.set_cons_succ]
        refine wpAnyH_ready (rs := [4, 11]) (by kernel_rfl) (by simp) ?_
        refine' AllReadyH.cons (o := _) ?hig4 (fun K hK => ?_) (AllReadyH.cons (o := _) ?hig11 (fun K hK => ?_) AllReadyH.nil)
        case hig4 => (simp only [List.getElem?_toArray, List.getElem?_cons_zero, List.getElem?_cons_succ]; rfl)
        case hig11 => (simp only [List.getElem?_toArray, List.getElem?_cons_zero, List.getElem?_cons_succ]; rfl)
        · skip
          go_simp
          refine hK.out _ _ hS9 (fun _ => ?_)
          clear hK K
          try simp only [Act.put, List.setIfInBounds_toArray, List.set_cons_zero, List.set_cons_succ]
          refine wpAnyH_ready (rs := [11]) (by kernel_rfl) (by simp) ?_
          refine' AllReadyH.cons (o := _) ?hih11 (fun K hK => ?_) AllReadyH.nil
          case hih11 => (simp only [List.getElem?_toArray, List.getElem?_cons_zero, List.getElem?_cons_succ]; rfl)
          rw [if_pos (by rfl)]
          have hel : (ecell s mk (.slice B n d)).length = 65 := ecell_length hsl hkl _
          have hSa : BArr (W9.alloc (Obj.cells (ecell s mk (.slice B n d)).toArray 92)) q 50 s ∧ BArr (W9.alloc (Obj.cells (ecell s mk (.slice B n d)).toArray 92)) p 50 mk := ⟨hS9.1.alloc _, hS9.2.alloc _⟩
          have hrow := own_block (w' := (W9.alloc (Obj.cells (ecell s mk (.slice B n d)).toArray 92))) H9.out.2.2.row (fun x hx => heap_alloc_old W9 _ (own_lt H9.out.2.2.row hx))
          have hnews := World.news_of_block (w := (W9.alloc (Obj.cells (ecell s mk (.slice B n d)).toArray 92))) (World.alloc_heap_new W9 _)
          have szA : (W9.alloc (Obj.cells (ecell s mk (.slice B n d)).toArray 92)).heap.size = W9.heap.size + 1 := World.size_alloc _ _
          have hg9 : g < W9.heap.size := World.block_lt_of_cell? _ _ c19
          have ca : (W9.alloc (Obj.cells (ecell s mk (.slice B n d)).toArray 92)).cell? ⟨g, 1, none⟩ = some v := (World.cell?_alloc_lt _ _ _ hg9).trans c19
          have fa : (W9.alloc (Obj.cells (ecell s mk (.slice B n d)).toArray 92)).frozen? ⟨g, 1, none⟩ = false := (World.frozen?_alloc_past _ _ _ hg9).trans (H9.out.2.2.fz 1)
          have hvq : v.ownBlock ≠ some q := fun e => by have := own_lt HH.out.1.row e; omega
          have hvp : v.ownBlock ≠ some p := fun e => by have := own_lt HH.out.1.row e; omega
          have hvg : v.ownBlock ≠ some g := fun e => by
            obtain ⟨cur, hc⟩ := own_type HH.out.1.row e
            exact hblock_ne HH.out.1.head hc tne_ce rfl
          have hgA : g < (W9.alloc (Obj.cells (ecell s mk (.slice B n d)).toArray 92)).heap.size := by omega
          refine wp_one 83 92 (.tmp 37) rfl i0 _ 65 (ecell s mk (.slice B n d)) rfl Tryz.underlying83 hi hz0 hz1 (by decide) (by decide) hel ?_
          refine hK.out _ _ hSa (fun _ => ?_)
          clear hK K
          try simp only [Act.put, List.setIfInBounds_toArray, List.set_cons_zero, List.set_cons_succ]
          refine wpAnyH_ready (rs := [12]) (by kernel_rfl) (by simp) ?_
          refine' AllReadyH.cons (o := _) ?hih12 (fun K hK => ?_) AllReadyH.nil
          case hih12 => (simp only [List.getElem?_toArray, List.getElem?_cons_zero, List.getElem?_cons_succ]; rfl)
          refine step_append_lies _ (by rfl) _ _ _ (by rfl) 0 92 i0 _ 65 88 Tryz.underlying83 hi hz0 hz1 hz2 (by rfl) (by decide) v l.length E.flatten (by rfl) hrow ⟨W9.heap.size, 0, none⟩ 1 1 (ecell s mk (.slice B n d)) (by rfl) (by rw [hel]) hnews (ecell_one rfl) (by decide) (by unfold maxLen; omega) (by omega) (Nat.zero_le _) _ rfl ?_
          intro gg cap w12 hown hgrow hat hlt
          have c12 : w12.cell? ⟨g, 1, none⟩ = some v := (hgrow.cell_far _ hgA (fun e => hvg e.symm)).trans ca
          have f12 : w12.frozen? ⟨g, 1, none⟩ = false := (hgrow.frozen_far _ hgA (fun e => hvg e.symm)).trans fa
          have hS12 : BArr w12 q 50 s ∧ BArr w12 p 50 mk := ⟨(hgrow.block q hSa.1.lt (fun e => hvq e.symm)).trans hSa.1, (hgrow.block p hSa.2.lt (fun e => hvp e.symm)).trans hSa.2⟩
          have hgq : g ≠ q := by omega
          have hgp : g ≠ p := by omega
          refine hK.out _ _ hS12 (fun _ => ?_)
          clear hK K
          try simp only [Act.put, List.setIfInBounds_toArray, List.set_cons_zero, List.set_cons_succ]
          refine' wpAnyH_take (i := 13) (oi := _) (v := _) ?hih13 (by kernel_rfl) ?hfh13 ?hrh13 ?hQh13 ?hyh13 hS12 ?resth13
          case hih13 => (simp only [List.getElem?_toArray, List.getElem?_cons_zero, List.getElem?_cons_succ]; rfl)
          case hfh13 => kernel_rfl
          case hrh13 => kernel_rfl
          case hQh13 => exact fun _ _ _ h => h
          case hyh13 => refine Or.inl ⟨by rfl, ?_⟩; intro W hSw; go_simp; try with_reducible rfl
          try simp only [Act.put, List.setIfInBounds_toArray, List.set_cons_zero, List.set_cons_succ]
          refine' wpAnyH_take (i := 14) (oi := _) (v := _) ?hih14 (by kernel_rfl) ?hfh14 ?hrh14 ?hQh14 ?hyh14 hS12 ?resth14
          case hih14 => (simp only [List.getElem?_toArray, List.getElem?_cons_zero, List.getElem?_cons_succ]; rfl)
          case hfh14 => kernel_rfl
          case hrh14 => kernel_rfl
          case hQh14 => exact fun _ _ _ h => h
          case hyh14 => refine Or.inl ⟨by rfl, ?_⟩; intro W hSw; go_simp; try with_reducible rfl
          try simp only [Act.put, List.setIfInBounds_toArray, List.set_cons_zero, List.set_cons_succ]
          refine wpAnyH_ready (rs := [15]) (by kernel_rfl) (by simp) ?_
          refine' AllReadyH.cons (o := _) ?hih15 (fun K hK => ?_) AllReadyH.nil
          case hih15 => (simp only [List.getElem?_toArray, List.getElem?_cons_zero, List.getElem?_cons_succ]; rfl)
          go_simp
          refine hK.out _ _ ⟨hS12.1.other _ _ (fun e => hgq e.symm), hS12.2.other _ _ (fun e => hgp e.symm)⟩ (fun _ => ?_)
          clear hK K
          refine wpAnyH_done (by kernel_rfl) ?_ _
          go_wp2_with fail
          go_meet
          case rel =>
            have ho9 := own_base H9.out.1
            rw [← H8.out.2.2] at ho9
            have e1 : leafL b = s := HL.out.1
            have e2 : markL (l ++ [b]) = mk := HL.out.2.2.1
            refine ⟨_, .slice B b.length d, Lib.hid (hstep_of (cs := (ecell s mk (.slice B n d)).toArray) HH.out.1 H9.out.2.1 ho9 (fun x hx => Nat.le_trans H8.out.2.1.size (H9.out.1.lt x (by rw [H8.out.2.2] at hx; exact hx)).1) (by rw [e1]; exact hS9.1) hqw ?_ hgrow hat)⟩
            rw [e1, e2, H8.out.2.2]
            exact hown
        · skip
          rw [if_pos (by rfl)]
          have hel : (ecell s mk (.slice B n d)).length = 65 := ecell_length hsl hkl _
          have hSa : BArr (W9.alloc (Obj.cells (ecell s mk (.slice B n d)).toArray 92)) q 50 s ∧ BArr (W9.alloc (Obj.cells (ecell s mk (.slice B n d)).toArray 92)) p 50 mk := ⟨hS9.1.alloc _, hS9.2.alloc _⟩
          have hrow := own_block (w' := (W9.alloc (Obj.cells (ecell s mk (.slice B n d)).toArray 92))) H9.out.2.2.row (fun x hx => heap_alloc_old W9 _ (own_lt H9.out.2.2.row hx))
          have hnews := World.news_of_block (w := (W9.alloc (Obj.cells (ecell s mk (.slice B n d)).toArray 92))) (World.alloc_heap_new W9 _)
          have szA : (W9.alloc (Obj.cells (ecell s mk (.slice B n d)).toArray 92)).heap.size = W9.heap.size + 1 := World.size_alloc _ _
          have hg9 : g < W9.heap.size := World.block_lt_of_cell? _ _ c19
          have ca : (W9.alloc (Obj.cells (ecell s mk (.slice B n d)).toArray 92)).cell? ⟨g, 1, none⟩ = some v := (World.cell?_alloc_lt _ _ _ hg9).trans c19
          have fa : (W9.alloc (Obj.cells (ecell s mk (.slice B n d)).toArray 92)).frozen? ⟨g, 1, none⟩ = false := (World.frozen?_alloc_past _ _ _ hg9).trans (H9.out.2.2.fz 1)
          have hvq : v.ownBlock ≠ some q := fun e => by have := own_lt HH.out.1.row e; omega
          have hvp : v.ownBlock ≠ some p := fun e => by have := own_lt HH.out.1.row e; omega
          have hvg : v.ownBlock ≠ some g := fun e => by
            obtain ⟨cur, hc⟩ := own_type HH.out.1.row e
            exact hblock_ne HH.out.1.head hc tne_ce rfl
          have hgA : g < (W9.alloc (Obj.cells (ecell s mk (.slice B n d)).toArray 92)).heap.size := by omega
          refine wp_one 83 92 (.tmp 37) rfl i0 _ 65 (ecell s mk (.slice B n d)) rfl Tryz.underlying83 hi hz0 hz1 (by decide) (by decide) hel ?_
          refine hK.out _ _ hSa (fun _ => ?_)
          clear hK K
          try simp only [Act.put, List.setIfInBounds_toArray, List.set_cons_zero, List.set_cons_succ]
          refine wpAnyH_ready (rs := [4]) (by kernel_rfl) (by simp) ?_
          refine' AllReadyH.cons (o := _) ?hii4 (fun K hK => ?_) AllReadyH.nil
          case hii4 => (simp only [List.getElem?_toArray, List.getElem?_cons_zero, List.getElem?_cons_succ]; rfl)
          go_simp
          refine hK.out _ _ hSa (fun _ => ?_)
          clear hK K
          try simp only [Act.put, List.setIfInBounds_toArray, List.set_cons_zero, List.set_cons_succ]
          refine wpAnyH_ready (rs := [12]) (by kernel_rfl) (by simp) ?_
          refine' AllReadyH.cons (o := _) ?hii12 (fun K hK => ?_) AllReadyH.nil
          case hii12 => (simp only [List.getElem?_toArray, List.getElem?_cons_zero, List.getElem?_cons_succ]; rfl)
          refine step_append_lies _ (by rfl) _ _ _ (by rfl) 0 92 i0 _ 65 88 Tryz.underlying83 hi hz0 hz1 hz2 (by rfl) (by decide) v l.length E.flatten (by rfl) hrow ⟨W9.heap.size, 0, none⟩ 1 1 (ecell s mk (.slice B n d)) (by rfl) (by rw [hel]) hnews (ecell_one rfl) (by decide) (by unfold maxLen; omega) (by omega) (Nat.zero_le _) _ rfl ?_
          intro gg cap w12 hown hgrow hat hlt
          have c12 : w12.cell? ⟨g, 1, none⟩ = some v := (hgrow.cell_far _ hgA (fun e => hvg e.symm)).trans ca
          have f12 : w12.frozen? ⟨g, 1, none⟩ = false := (hgrow.frozen_far _ hgA (fun e => hvg e.symm)).trans fa
          have hS12 : BArr w12 q 50 s ∧ BArr w12 p 50 mk := ⟨(hgrow.block q hSa.1.lt (fun e => hvq e.symm)).trans hSa.1, (hgrow.block p hSa.2.lt (fun e => hvp e.symm)).trans hSa.2⟩
          have hgq : g ≠ q := by omega
          have hgp : g ≠ p := by omega
          refine hK.out _ _ hS12 (fun _ => ?_)
          clear hK K
          try simp only [Act.put, List.setIfInBounds_toArray, List.set_cons_zero, List.set_cons_succ]
          refine' wpAnyH_take (i := 13) (oi := _) (v := _) ?hii13 (by kernel_rfl) ?hfi13 ?hri13 ?hQi13 ?hyi13 hS12 ?resti13
          case hii13 => (simp only [List.getElem?_toArray, List.getElem?_cons_zero, List.getElem?_cons_succ]; rfl)
          case hfi13 => kernel_rfl
          case hri13 => kernel_rfl
          case hQi13 => exact fun _ _ _ h => h
          case hyi13 => refine Or.inl ⟨by rfl, ?_⟩; intro W hSw; go_simp; try with_reducible rfl
          try simp only [Act.put, List.setIfInBounds_toArray, List.set_cons_zero, List.set_cons_succ]
          refine' wpAnyH_take (i := 14) (oi := _) (v := _) ?hii14 (by kernel_rfl) ?hfi14 ?hri14 ?hQi14 ?hyi14 hS12 ?resti14
          case hii14 => (simp only [List.getElem?_toArray, List.getElem?_cons_zero, List.getElem?_cons_succ]; rfl)
          case hfi14 => kernel_rfl
          case hri14 => kernel_rfl
          case hQi14 => exact fun _ _ _ h => h
          case hyi14 => refine Or.inl ⟨by rfl, ?_⟩; intro W hSw; go_simp; try with_reducible rfl
          try simp only [Act.put, List.setIfInBounds_toArray, List.set_cons_zero, List.set_cons_succ]
          refine wpAnyH_ready (rs := [15]) (by kernel_rfl) (by simp) ?_
          refine' AllReadyH.cons (o := _) ?hii15 (fun K hK => ?_) AllReadyH.nil
          case hii15 => (simp only [List.getElem?_toArray, List.getElem?_cons_zero, List.getElem?_cons_succ]; rfl)
          go_simp
          refine hK.out _ _ ⟨hS12.1.other _ _ (fun e => hgq e.symm), hS12.2.other _ _ (fun e => hgp e.symm)⟩ (fun _ => ?_)
          clear hK K
          refine wpAnyH_done (by kernel_rfl) ?_ _
          go_wp2_with fail
          go_meet
          case rel =>
            have ho9 := own_base H9.out.1
            rw [← H8.out.2.2] at ho9
            have e1 : leafL b = s := HL.out.1
            have e2 : markL (l ++ [b]) = mk := HL.out.2.2.1
            refine ⟨_, .slice B b.length d, Lib.hid (hstep_of (cs := (ecell s mk (.slice B n d)).toArray) HH.out.1 H9.out.2.1 ho9 (fun x hx => Nat.le_trans H8.out.2.1.size (H9.out.1.lt x (by rw [H8.out.2.2] at hx; exact hx)).1) (by rw [e1]; exact hS9.1) hqw ?_ hgrow hat)⟩
            rw [e1, e2, H8.out.2.2]
            exact hown
    case rest =>
      obtain ⟨v', u, HT⟩ := hcut
      have c0 : wc.cell? ⟨g, 0, none⟩ = some (.pointer (some ⟨gf, 0, none⟩)) := by rw [cell_of_row _ g 0 _ _ (0, 0) HT.out.head]; rfl
      go_upto_region 8 with fail
      have b8 : Below wc.heap.size wc wc.drew := (Below.refl _ _).drew
      have HT8 := Lib.hid (HT.out.below b8)
      refine wp_region_held_drew (S := fun W => BArr W q 50 s ∧ W.cell? ⟨g, 0, none⟩ = some (.pointer (some ⟨gf, 0, none⟩))) (by kernel_rfl) ⟨HL.out.1 ▸ HT8.out.leaf, c0⟩ (fun hS0 => ?_)
      change wpAnyH _ _ _ _ _ _ _ _ wc.drew
      generalize wc.drew = w8 at hS0 b8 HT8 ⊢
      have l6 : l.length ≤ 60000 := by rw [HL.out.2.2.2.1]; exact L6
      have hk8 : Knows w8 := HH.out.2.2.2.1.but HT8.out.but (fun e => e.elim (fun e => (ha _ HH.out.1.gg).1 e.symm) (fun e => (ha _ (HH.out.1.gv _ e)).1 rfl))
      have hs8 : Starts w8 := HH.out.2.2.2.2.but HT8.out.but (fun e => e.elim (fun e => (ha _ HH.out.1.gg).2 e.symm) (fun e => (ha _ (HH.out.1.gv _ e)).2 rfl))
      have CF0 := add_front_at (HT8.out.front2 HH.out.1 HH.out.2.1) (lf32 _ _) (by omega) hk8 hs8
      rw [lf_snoc, HL.out.1] at CF0
      have CF := Lib.hid CF0
      have hggf : g ≠ gf := hblock_ne HH.out.1.head HH.out.1.front.row tne_cf
      have hqgf : q ≠ gf := fun e => by have := HH.out.1.front.lt; have := g5w.out; omega
      clear CF0 hk8 hs8
      refine' wpAnyH_take (i := 0) (oi := _) (v := _) ?hik0 (by kernel_rfl) ?hfk0 ?hrk0 ?hQk0 ?hyk0 hS0 ?restk0
      case hik0 => (simp only [List.getElem?_toArray, List.getElem?_cons_zero]; rfl)
      case hfk0 => kernel_rfl
      case hrk0 => kernel_rfl
      case hQk0 => exact fun _ _ _ h => h
      case hyk0 => refine Or.inl ⟨by rfl, ?_⟩; intro W hSw; go_simp; try with_reducible rfl
      try simp only [Act.put, List.setIfInBounds_toArray, List.set_cons_zero, List.set_cons_succ]
      refine' wpAnyH_take (i := 1) (oi := _) (v := _) ?hik1 (by kernel_rfl) ?hfk1 ?hrk1 ?hQk1 ?hyk1 hS0 ?restk1
      case hik1 => (simp only [List.getElem?_toArray, List.getElem?_cons_zero, List.getElem?_cons_succ]; rfl)
      case hfk1 => kernel_rfl
      case hrk1 => kernel_rfl
      case hQk1 => exact fun _ _ _ h => h
      case hyk1 => refine Or.inl ⟨by rfl, ?_⟩; intro W hSw; go_simp; try with_reducible rfl
      try simp only [Act.put, List.setIfInBounds_toArray, List.set_cons_zero, List.set_cons_succ]
      refine' wpAnyH_take (i := 2) (oi := _) (v := _) ?hik2 (by kernel_rfl) ?hfk2 ?hrk2 ?hQk2 ?hyk2 hS0 ?restk2
      case hik2 => (simp only [List.getElem?_toArray, List.getElem?_cons_zero, List.getElem?_cons_succ]; rfl)
      case hfk2 => kernel_rfl
      case hrk2 => kernel_rfl
      case hQk2 => exact fun _ _ _ h => h
      case hyk2 => refine Or.inl ⟨by rfl, ?_⟩; intro W hSw; go_simp; try with_reducible rfl
      try simp only [Act.put, List.setIfInBounds_toArray, List.set_cons_zero, List.set_cons_succ]
      refine' wpAnyH_take (i := 3) (oi := _) (v := .pointer (some ⟨gf, 0, none⟩)) ?hik3 (by kernel_rfl) ?hfk3 ?hrk3 ?hQk3 ?hyk3 hS0 ?restk3
      case hik3 => (simp only [List.getElem?_toArray, List.getElem?_cons_zero, List.getElem?_cons_succ]; rfl)
      case hfk3 => kernel_rfl
      case hrk3 => kernel_rfl
      case hQk3 => exact fun _ _ _ h => h
      case hyk3 => refine Or.inl ⟨by rfl, ?_⟩; intro W hSw; have hcc := hSw.2; go_simp; try with_reducible rfl
      try simp only [Act.put, List.setIfInBounds_toArray, List.set_cons_zero, List.set_cons_succ]
      refine' wpAnyH_take (i := 4) (oi := _) (v := sv s) ?hik4 (by kernel_rfl) ?hfk4 ?hrk4 ?hQk4 ?hyk4 hS0 ?restk4
      case hik4 => (simp only [List.getElem?_toArray, List.getElem?_cons_zero, List.getElem?_cons_succ]; rfl)
      case hfk4 => kernel_rfl
      case hrk4 => kernel_rfl
      case hQk4 => exact fun _ _ _ h => h
      case hyk4 => refine yields_sum ?_ (.tmp 5) rfl ⟨q, 0, none⟩ rfl s hsl (fun W hSw => hSw.1.at_); rfl
      try simp only [Act.put, List.setIfInBounds_toArray, List.set_cons_zero, List.set_cons_succ]
      refine wpAnyH_ready (rs := [5]) (by kernel_rfl) (by simp) ?_
      refine' AllReadyH.cons (o := _) ?hik5 (fun K hK => ?_) AllReadyH.nil
      case hik5 => (simp only [List.getElem?_toArray, List.getElem?_cons_zero, List.getElem?_cons_succ]; rfl)
      go_simp
      go_at_call 51
      refine CF.out.mono ?_
      rintro e W9 ⟨rfl, ⟨fA', fc', hf9, hnew⟩, hb9⟩
      have hS9 : BArr W9 q 50 s ∧ W9.cell? ⟨g, 0, none⟩ = some (.pointer (some ⟨gf, 0, none⟩)) := ⟨(hb9.block q hS0.1.lt hqgf).trans hS0.1, (World.cell?_of_block (hb9.block g (World.block_lt_of_cell? _ _ hS0.2) hggf)).trans hS0.2⟩
      have H9 := Lib.hid (And.intro hf9 (And.intro hnew hb9))
      clear hf9 hnew hb9
      refine hK.out _ _ hS9 (fun _ => ?_)
      clear hK K
      try simp only [Act.put, List.setIfInBounds_toArray, List.set_cons_zero, List.set_cons_succ]
      refine' wpAnyH_take (i := 6) (oi := _) (v := _) ?hik6 (by kernel_rfl) ?hfk6 ?hrk6 ?hQk6 ?hyk6 hS9 ?restk6
      case hik6 => (simp only [List.getElem?_toArray, List.getElem?_cons_zero, List.getElem?_cons_succ]; rfl)
      case hfk6 => kernel_rfl
      case hrk6 => kernel_rfl
      case hQk6 => exact fun _ _ _ h => h
      case hyk6 => refine Or.inl ⟨by rfl, ?_⟩; intro W hSw; go_simp; try with_reducible rfl
      try simp only [Act.put, List.setIfInBounds_toArray, List.set_cons_zero, List.set_cons_succ]
      refine wpAnyH_done (by kernel_rfl) ?_ _
      go_wp2_with fail
      go_ret
      have hbl : b.length ≤ 16384 ∧ ∀ x ∈ b, x < 256 := ⟨by rw [HH.out.2.2.1.in_.len]; exact hn, HH.out.2.2.1.lt⟩
      exact ⟨rfl, hstep_done HT8.out HH.out.1 HH.out.2.1 hbl H9.out.1 H9.out.2.1 H9.out.2.2⟩
end

end Go.Proofs.YtnaebjdccngeoaaGreatDoor

/-
  chains: Entry, Mark, Root.
-/
namespace Go.Proofs.YtnaebjdccngeoaaGreatDoor
open Go.RowKit

section
variable {w w' : World} {g gf fc : Nat} {fA : Option Addr} {v : Value} {E : List (List Value)} {G : Nat → Prop} {l : List (List Nat)}

set_option maxRecDepth 100000 in
set_option maxHeartbeats 1000000 in
theorem hentry_yes (h : ChainAt w g gf fA fc v E G l) {n : Nat} {b : List Nat} (hb : l[n]? = some b) :
    Calls Tryz.prog 12 #[.pointer (some ⟨g, 0, none⟩), .int .u64 (n : Int)] w fun e w' => ∃ u, e = .returned (.tuple #[u, .int .i64 0]) ∧ w'.ownsRow w.heap.size 5 1 u b.length (bvs b) ∧ Below w.heap.size w w' := by
  have hn := (List.getElem?_eq_some_iff.1 hb).1
  have C := Lib.hid (hthere_at h)
  have D := Lib.hid (hsize_at h)
  have hbl := (h.ok b (List.mem_of_getElem? hb)).1
  obtain ⟨ge, c, u, rfl, hc, hr, ho⟩ := h.range hb
  have c1 := h.c1
  obtain ⟨_, _, hu⟩ := ecell_at hr (leafL_length _) (markL_length _)
  obtain ⟨B, d, rfl⟩ := own_form ho
  have CC := Lib.hid (clone_b B b.length d b w (In.of_own ho) (own_nil ho) (own_cap ho) (by omega))
  obtain ⟨L, hL⟩ : ∃ L, l.length = L := ⟨_, rfl⟩
  rw [hL] at hn hc c1 D
  have hi : ¬ ((L : Int) ≤ (n : Int)) := by omega
  clear h hb hr ho hL
  go_enter Tryz.func12, Tryz.ntmps12
  go_wp2_with fail
  refine C.out.mono ?_
  rintro e w' ⟨rfl, rfl⟩
  go_wp2_with fail
  refine D.out.mono ?_
  rintro e w' ⟨rfl, rfl⟩
  go_wp2_with fail
  refine CC.out.mono ?_
  rintro e w2 ⟨u2, rfl, ho2, hb2⟩
  go_wp2_with fail
  go_ret2
  exact ⟨u2, rfl, ho2, hb2⟩

set_option maxRecDepth 100000 in
theorem hentry_no (h : ChainAt w g gf fA fc v E G l) {n : Nat} (hn : l.length ≤ n) :
    Calls Tryz.prog 12 #[.pointer (some ⟨g, 0, none⟩), .int .u64 (n : Int)] w fun e w' => e = .returned (.tuple #[.slice none 0 0, .int .i64 1]) ∧ w' = w := by
  have C := Lib.hid (hthere_at h)
  have D := Lib.hid (hsize_at h)
  have hi : (l.length : Int) ≤ (n : Int) := by omega
  clear h
  go_enter Tryz.func12, Tryz.ntmps12
  go_wp2_with fail
  refine C.out.mono ?_
  rintro e w' ⟨rfl, rfl⟩
  go_wp2_with fail
  refine D.out.mono ?_
  rintro e w' ⟨rfl, rfl⟩
  go_wp2_with fail
  go_ret2
  exact ⟨rfl, rfl⟩

/-- Behind the result's variable. -/
theorem res_in (w : World) : ∃ w1, w1 = w.alloc (.cells #[.int .u8 0, .int .u8 0, .int .u8 0, .int .u8 0, .int .u8 0, .int .u8 0, .int .u8 0, .int .u8 0, .int .u8 0, .int .u8 0, .int .u8 0, .int .u8 0, .int .u8 0, .int .u8 0, .int .u8 0, .int .u8 0, .int .u8 0, .int .u8 0, .int .u8 0, .int .u8 0, .int .u8 0, .int .u8 0, .int .u8 0, .int .u8 0, .int .u8 0, .int .u8 0, .int .u8 0, .int .u8 0, .int .u8 0, .int .u8 0, .int .u8 0, .int .u8 0] 50) ∧ Below w.heap.size w w1 ∧ BArr w1 w.heap.size 50 zero32 ∧ w1.heap[w.heap.size]? = some (.cells #[.int .u8 0, .int .u8 0, .int .u8 0, .int .u8 0, .int .u8 0, .int .u8 0, .int .u8 0, .int .u8 0, .int .u8 0, .int .u8 0, .int .u8 0, .int .u8 0, .int .u8 0, .int .u8 0, .int .u8 0, .int .u8 0, .int .u8 0, .int .u8 0, .int .u8 0, .int .u8 0, .int .u8 0, .int .u8 0, .int .u8 0, .int .u8 0, .int .u8 0, .int .u8 0, .int .u8 0, .int .u8 0, .int .u8 0, .int .u8 0, .int .u8 0, .int .u8 0] 50 (0, 0)) :=
  ⟨_, rfl, below_alloc _ _, BArr.new w _ zero32, World.alloc_heap_new w _⟩

set_option maxRecDepth 100000 in
set_option maxHeartbeats 1000000 in
theorem hmark_yes (h : ChainAt w g gf fA fc v E G l) (hG : ∀ x, G x → x < w.heap.size) {n : Nat} (hn : n ≤ l.length) (hl : l.length ≤ 65536) :
    Calls Tryz.prog 13 #[.pointer (some ⟨g, 0, none⟩), .int .u64 (n : Int)] w fun e w' => e = .returned (.tuple #[sv (markL (l.take n)), .int .i64 0]) ∧ Below w.heap.size w w' := by
  obtain ⟨w1, hw1, b1, r1, g1⟩ := res_in w
  have h1 := h.below hG b1
  have C := Lib.hid (hhas_at h1 n)
  rw [hasE, if_pos hn] at C
  have D := Lib.hid (hmark_in h1 hn hl)
  have HW := Lib.hid hw1
  have H1 := Lib.hid (And.intro b1 r1)
  have hml := markL_length (l.take n)
  obtain ⟨m, hm⟩ : ∃ m, markL (l.take n) = m := ⟨_, rfl⟩
  rw [hm] at D hml ⊢
  clear h h1 hw1 b1 r1 g1 hm
  go_enter Tryz.func13, Tryz.ntmps13
  go_upto_region 1 with fail
  rw [← HW.out]
  go_wp2_with fail
  refine C.out.mono ?_
  rintro e w' ⟨rfl, e1⟩
  obtain rfl := e1.symm
  clear e1
  go_wp2_with fail
  refine D.out.mono ?_
  rintro e w2 ⟨rfl, hb2⟩
  have f2 := H1.out.2.below hb2
  have HB := Lib.hid hb2
  have HZ32 := Lib.hid (show zero32.length = 32 from rfl)
  clear hb2
  go_wp2_with (with_reducible refine wpList_store_sum rfl (.tmp 4) (.tmp 16) rfl w.heap.size rfl zero32 m HZ32 hml f2 rfl ?_)
  have r3 := f2.setRow m
  refine bodyPost_ret_by (results_cell_tmp (p := 4) (q := 5) (ty := 50) (by kernel_rfl) _ _ ⟨w.heap.size, 0, none⟩ (sv m) rfl (run_load_sum _ _ m hml r3.at_)) rfl ?_
  exact ⟨rfl, below_setRow (below_on H1.out.1 (Nat.le_refl _) HB.out) (Nat.le_refl _) _⟩

set_option maxRecDepth 100000 in
set_option maxHeartbeats 1000000 in
theorem hmark_no (h : ChainAt w g gf fA fc v E G l) (hG : ∀ x, G x → x < w.heap.size) {n : Nat} (hn : ¬ n ≤ l.length) :
    Calls Tryz.prog 13 #[.pointer (some ⟨g, 0, none⟩), .int .u64 (n : Int)] w fun e w' => e = .returned (.tuple #[sv zero32, .int .i64 1]) ∧ Below w.heap.size w w' := by
  obtain ⟨w1, hw1, b1, r1, g1⟩ := res_in w
  have h1 := h.below hG b1
  have C := Lib.hid (hhas_at h1 n)
  rw [hasE, if_neg hn] at C
  have HW := Lib.hid hw1
  have H1 := Lib.hid (And.intro b1 g1)
  clear h h1 hw1 b1 r1 g1
  go_enter Tryz.func13, Tryz.ntmps13
  go_upto_region 1 with fail
  rw [← HW.out]
  go_wp2_with fail
  refine C.out.mono ?_
  rintro e w' ⟨rfl, e1⟩
  obtain rfl := e1.symm
  clear e1
  have HZ32 := Lib.hid (show zero32.length = 32 from rfl)
  go_wp2_with (with_reducible refine wpList_store_nought rfl (.tmp 4) (.tmp 12) rfl w.heap.size rfl H1.out.2 rfl ?_; intro w4 r4 o4)
  refine bodyPost_ret_by (results_cell_tmp (p := 4) (q := 5) (ty := 50) (by kernel_rfl) _ _ ⟨w.heap.size, 0, none⟩ (sv zero32) rfl (run_load_sum _ _ zero32 rfl r4.at_)) rfl ?_
  exact ⟨rfl, Only.below H1.out.1 (Nat.le_refl _) (Nat.le_refl _) o4⟩

set_option maxRecDepth 100000 in
set_option maxHeartbeats 1000000 in
theorem hroot_no (h : ChainAt w g gf fA fc v E G l) (hG : ∀ x, G x → x < w.heap.size) {n : Nat} (hn : ¬ n ≤ l.length) :
    Calls Tryz.prog 14 #[.pointer (some ⟨g, 0, none⟩), .int .u64 (n : Int)] w fun e w' => e = .returned (.tuple #[sv zero32, .int .i64 1]) ∧ Below w.heap.size w w' := by
  obtain ⟨w1, hw1, b1, r1, g1⟩ := res_in w
  have h1 := h.below hG b1
  have C := Lib.hid (hhas_at h1 n)
  rw [hasE, if_neg hn] at C
  have HW := Lib.hid hw1
  have H1 := Lib.hid (And.intro b1 g1)
  clear h h1 hw1 b1 r1 g1
  go_enter Tryz.func14, Tryz.ntmps14
  go_upto_region 1 with fail
  rw [← HW.out]
  go_wp2_with fail
  refine C.out.mono ?_
  rintro e w' ⟨rfl, e1⟩
  obtain rfl := e1.symm
  clear e1
  have HZ32 := Lib.hid (show zero32.length = 32 from rfl)
  go_wp2_with (with_reducible refine wpList_store_nought rfl (.tmp 4) (.tmp 13) rfl w.heap.size rfl H1.out.2 rfl ?_; intro w4 r4 o4)
  refine bodyPost_ret_by (results_cell_tmp (p := 4) (q := 5) (ty := 50) (by kernel_rfl) _ _ ⟨w.heap.size, 0, none⟩ (sv zero32) rfl (run_load_sum _ _ zero32 rfl r4.at_)) rfl ?_
  exact ⟨rfl, Only.below H1.out.1 (Nat.le_refl _) (Nat.le_refl _) o4⟩

set_option maxRecDepth 100000 in
set_option maxHeartbeats 1000000 in
/-- firsts.root, as it is called by a method value. -/
theorem hfroot_any (A : Option Addr) (n c : Nat) (ys : List Nat) (w : World) (hin : InS w A n ys) (hx : ∀ x ∈ ys, x < 256) (hc : n ≤ c) (hn : n ≤ 65536) (hk : Knows w) (hs : Starts w) :
    Calls Tryz.prog 57 #[.slice A n c] w fun e w' => e = .returned (sv (rt (nth ys) 0 n)) ∧ Below w.heap.size w w' := by
  obtain ⟨w1, hw1, b1, r1, g1⟩ := res_in w
  have C := Lib.hid (root_any A n c ys w1 (hin.below b1) hx hc hn (hk.below b1) (hs.below b1))
  have hml := rt_length (nth ys) 0 n fun j hj => by rw [Nat.zero_add]; exact nth_length hin.len hj
  obtain ⟨m, hm⟩ : ∃ m, rt (nth ys) 0 n = m := ⟨_, rfl⟩
  rw [hm] at C hml ⊢
  have HW := Lib.hid hw1
  have H1 := Lib.hid (And.intro b1 r1)
  clear hin hx hc hn hk hs hw1 b1 r1 g1 hm
  go_enter Tryz.func57, Tryz.ntmps57
  go_upto_region 1 with fail
  rw [← HW.out]
  go_wp2_with fail
  refine C.out.mono ?_
  rintro e w2 ⟨rfl, hb2⟩
  have f2 := H1.out.2.below hb2
  have HB := Lib.hid hb2
  have HZ32 := Lib.hid (show zero32.length = 32 from rfl)
  clear hb2
  go_wp2_with (with_reducible refine wpList_store_sum rfl (.tmp 2) (.tmp 4) rfl w.heap.size rfl zero32 m HZ32 hml f2 rfl ?_)
  refine bodyPost_ret_by (results_cell_row (p := 2) (ty := 50) (by kernel_rfl) _ _ w.heap.size 50 (bvs m).toArray (0, 0) _ rfl (f2.setRow _) Tryz.underlying50 rfl (by rw [List.size_toArray, bvs_length, hml]; exact sizeSum)) rfl ?_
  exact ⟨rfl, below_setRow (below_on H1.out.1 (Nat.le_refl _) HB.out) (Nat.le_refl _) _⟩

set_option maxRecDepth 100000 in
set_option maxHeartbeats 2000000 in
theorem hroot_yes (h : ChainAt w g gf fA fc v E G l) (hG : ∀ x, G x → x < w.heap.size) {n : Nat} (hn : n ≤ l.length) (hl : l.length ≤ 65536) (hk : Knows w) (hs : Starts w) :
    Calls Tryz.prog 14 #[.pointer (some ⟨g, 0, none⟩), .int .u64 (n : Int)] w fun e w' => e = .returned (.tuple #[sv (rt (lf l) 0 n), .int .i64 0]) ∧ Below w.heap.size w w' := by
  obtain ⟨w1, hw1, b1, r1, g1⟩ := res_in w
  have h1 := h.below hG b1
  have hk1 := hk.below b1
  have hs1 := hs.below b1
  have C := Lib.hid (hhas_at h1 n)
  rw [hasE, if_pos hn] at C
  have Z := Lib.hid (hsize_at h1)
  have c0 := h1.c0
  have HW := Lib.hid hw1
  have H1 := Lib.hid (And.intro b1 r1)
  have hml := rt_length (lf l) 0 n fun j hj => lf_length l _
  have hmf : ∀ (fn : Fn) (first cap : Array Value) (w : World), (Instr.makeFunc fn first cap).run Tryz.prog w = .ok (.func fn first cap) w := fun _ _ _ _ => rfl
  have HZ32 := Lib.hid (show zero32.length = 32 from rfl)
  by_cases hlt : n < l.length
  · have hli : (n : Int) < (l.length : Int) := by omega
    have F := Lib.hid (hfirst_at h1 hn hl)
    have R := Lib.hid (fun (A : Option Addr) (c : Nat) (w2 : World) (ho : w2.ownsRow w1.heap.size 50 32 (.slice A n c) n (bvs (leavesL (l.take n)))) (hb : Below w1.heap.size w1 w2) =>
      (root_first l hn) ▸ hfroot_any A n c (leavesL (l.take n)) w2 (InS.of_own ho) (leavesL_lt _) (own_cap ho) (by omega) (hk1.below hb) (hs1.below hb))
    obtain ⟨m, hm⟩ : ∃ m, rt (lf l) 0 n = m := ⟨_, rfl⟩
    rw [hm] at R hml ⊢
    clear h h1 hw1 b1 r1 g1 hk hs hk1 hs1 hm
    go_enter Tryz.func14, Tryz.ntmps14
    go_upto_region 1 with fail
    rw [← HW.out]
    go_wp2_with fail
    refine C.out.mono ?_
    rintro e w' ⟨rfl, e1⟩
    obtain rfl := e1.symm
    clear e1
    go_wp2_with fail
    refine Z.out.mono ?_
    rintro e w' ⟨rfl, e1⟩
    obtain rfl := e1.symm
    clear e1
    go_wp2_with fail
    refine F.out.mono ?_
    rintro e w2 ⟨A, c, rfl, ho, hb⟩
    have R2 := Lib.hid (R.out A c w2 ho hb)
    have H2 := Lib.hid (below_on H1.out.1 (Nat.le_refl _) hb)
    have f2 := H1.out.2.below hb
    clear ho hb
    go_wp2_with fail
    refine R2.out.mono ?_
    rintro e w3 ⟨rfl, hb3⟩
    have f3 := f2.below hb3
    have HB := Lib.hid (below_on H2.out (Nat.le_refl _) hb3)
    clear hb3 f2
    go_wp2_with (with_reducible refine wpList_store_sum rfl (.tmp 4) (.tmp 29) rfl w.heap.size rfl zero32 m HZ32 hml f3 rfl ?_)
    have r3 := f3.setRow m
    refine bodyPost_ret_by (results_cell_tmp (p := 4) (q := 5) (ty := 50) (by kernel_rfl) _ _ ⟨w.heap.size, 0, none⟩ (sv m) rfl (run_load_sum _ _ m hml r3.at_)) rfl ?_
    exact ⟨rfl, below_setRow HB.out (Nat.le_refl _) _⟩
  · obtain rfl : n = l.length := by omega
    have R := Lib.hid (root_front h1.frontF (lf32 l _) (by omega) hk1 hs1)
    obtain ⟨m, hm⟩ : ∃ m, rt (lf l) 0 l.length = m := ⟨_, rfl⟩
    rw [hm] at R hml ⊢
    clear h h1 hw1 b1 r1 g1 hk hs hk1 hs1 hm
    go_enter Tryz.func14, Tryz.ntmps14
    go_upto_region 1 with fail
    rw [← HW.out]
    go_wp2_with fail
    refine C.out.mono ?_
    rintro e w' ⟨rfl, e1⟩
    obtain rfl := e1.symm
    clear e1
    go_wp2_with fail
    refine Z.out.mono ?_
    rintro e w' ⟨rfl, e1⟩
    obtain rfl := e1.symm
    clear e1
    go_wp2_with fail
    refine R.out.mono ?_
    rintro e w3 ⟨rfl, hb3⟩
    have f3 := H1.out.2.below hb3
    have HB := Lib.hid (below_on H1.out.1 (Nat.le_refl _) hb3)
    clear hb3
    go_wp2_with (with_reducible refine wpList_store_sum rfl (.tmp 4) (.tmp 29) rfl w.heap.size rfl zero32 m HZ32 hml f3 rfl ?_)
    have r3 := f3.setRow m
    refine bodyPost_ret_by (results_cell_tmp (p := 4) (q := 5) (ty := 50) (by kernel_rfl) _ _ ⟨w.heap.size, 0, none⟩ (sv m) rfl (run_load_sum _ _ m hml r3.at_)) rfl ?_
    exact ⟨rfl, below_setRow HB.out (Nat.le_refl _) _⟩
end

end Go.Proofs.YtnaebjdccngeoaaGreatDoor

/-
  How many bits a number of 64 bits has; how many leaves a left side has.
-/
namespace Go.Proofs.YtnaebjdccngeoaaGreatDoor
open Go.RowKit

set_option maxRecDepth 100000 in
set_option maxHeartbeats 1000000 in
theorem len64_010 (x : Nat) (w : World) (hx : x < 18446744073709551616) (hA : x < 4294967296) (hB : 65536 ≤ x) (hC : x / 65536 < 256) :
    Calls Tryz.prog 203 #[.int .u64 (x : Int)] w fun e w' => e = .returned (.int .i64 (Lib.bitLen x)) ∧ w' = w := by
  have h1 : decide (4294967296 ≤ (x : Int)) = false := by simp; omega
  have h2 : decide (65536 ≤ (x : Int)) = true := by simp; omega
  have h3 : decide (256 ≤ (x : Int) / 65536) = false := by simp; omega
  have hq : x / 65536 < 256 := by omega
  have hv := tab_len ⟨x / 65536, hq⟩
  have hle := Lib.bitLen_le8 ⟨x / 65536, hq⟩
  have HS := Lib.hid (show Lib.bitLen x = 16 + Lib.bitLen (x / 65536) from by rw [Lib.bitLen_shift16 (x) hB (by omega)])
  dsimp only at hv hle
  have HV := Lib.hid (And.intro hv hle)
  clear hv hle
  go_enter Tryz.func203, Tryz.ntmps203
  go_wp2
  · go_ret
    refine ⟨congrArg Ending.returned (congrArg (Value.int IntKind.i64) ?_), rfl⟩
    have hv := HV.out.1
    have hle := HV.out.2
    rw [hv, HS.out]
    have _u := hC
    clear _u
    revert hle
    generalize Lib.bitLen (x / 65536) = q
    clear h1 h2 h3 hq hv HS HV hA hB hC hx
    intro hle
    simp only [wrap64]
    omega
  · exfalso
    rename_i hh
    have := Lib.len8tab_size
    omega

set_option maxRecDepth 100000 in
set_option maxHeartbeats 1000000 in
theorem len64_011 (x : Nat) (w : World) (hx : x < 18446744073709551616) (hA : x < 4294967296) (hB : 65536 ≤ x) (hC : 256 ≤ x / 65536) :
    Calls Tryz.prog 203 #[.int .u64 (x : Int)] w fun e w' => e = .returned (.int .i64 (Lib.bitLen x)) ∧ w' = w := by
  have h1 : decide (4294967296 ≤ (x : Int)) = false := by simp; omega
  have h2 : decide (65536 ≤ (x : Int)) = true := by simp; omega
  have h3 : decide (256 ≤ (x : Int) / 65536) = true := by simp; omega
  have hq : x / 65536 / 256 < 256 := by omega
  have hv := tab_len ⟨x / 65536 / 256, hq⟩
  have hle := Lib.bitLen_le8 ⟨x / 65536 / 256, hq⟩
  have HS := Lib.hid (show Lib.bitLen x = 24 + Lib.bitLen (x / 65536 / 256) from by rw [Lib.bitLen_shift16 (x) hB (by omega), Lib.bitLen_shift8 (x / 65536) hC (by omega)]; omega)
  dsimp only at hv hle
  have HV := Lib.hid (And.intro hv hle)
  clear hv hle
  go_enter Tryz.func203, Tryz.ntmps203
  go_wp2
  · go_ret
    refine ⟨congrArg Ending.returned (congrArg (Value.int IntKind.i64) ?_), rfl⟩
    have hv := HV.out.1
    have hle := HV.out.2
    rw [hv, HS.out]
    have _u := hC
    clear _u
    revert hle
    generalize Lib.bitLen (x / 65536 / 256) = q
    clear h1 h2 h3 hq hv HS HV hA hB hC hx
    intro hle
    simp only [wrap64]
    omega
  · exfalso
    rename_i hh
    have := Lib.len8tab_size
    omega

set_option maxRecDepth 100000 in
set_option maxHeartbeats 1000000 in
theorem len64_100 (x : Nat) (w : World) (hx : x < 18446744073709551616) (hA : 4294967296 ≤ x) (hB : x / 4294967296 < 65536) (hC : x / 4294967296 < 256) :
    Calls Tryz.prog 203 #[.int .u64 (x : Int)] w fun e w' => e = .returned (.int .i64 (Lib.bitLen x)) ∧ w' = w := by
  have h1 : decide (4294967296 ≤ (x : Int)) = true := by simp; omega
  have h2 : decide (65536 ≤ (x : Int) / 4294967296) = false := by simp; omega
  have h3 : decide (256 ≤ (x : Int) / 4294967296) = false := by simp; omega
  have hq : x / 4294967296 < 256 := by omega
  have hv := tab_len ⟨x / 4294967296, hq⟩
  have hle := Lib.bitLen_le8 ⟨x / 4294967296, hq⟩
  have HS := Lib.hid (show Lib.bitLen x = 32 + Lib.bitLen (x / 4294967296) from by rw [Lib.bitLen_shift32 x hA hx])
  dsimp only at hv hle
  have HV := Lib.hid (And.intro hv hle)
  clear hv hle
  go_enter Tryz.func203, Tryz.ntmps203
  go_wp2
  · go_ret
    refine ⟨congrArg Ending.returned (congrArg (Value.int IntKind.i64) ?_), rfl⟩
    have hv := HV.out.1
    have hle := HV.out.2
    rw [hv, HS.out]
    have _u := hB
    clear _u
    revert hle
    generalize Lib.bitLen (x / 4294967296) = q
    clear h1 h2 h3 hq hv HS HV hA hB hC hx
    intro hle
    simp only [wrap64]
    omega
  · exfalso
    rename_i hh
    have := Lib.len8tab_size
    omega

set_option maxRecDepth 100000 in
set_option maxHeartbeats 1000000 in
theorem len64_101 (x : Nat) (w : World) (hx : x < 18446744073709551616) (hA : 4294967296 ≤ x) (hB : x / 4294967296 < 65536) (hC : 256 ≤ x / 4294967296) :
    Calls Tryz.prog 203 #[.int .u64 (x : Int)] w fun e w' => e = .returned (.int .i64 (Lib.bitLen x)) ∧ w' = w := by
  have h1 : decide (4294967296 ≤ (x : Int)) = true := by simp; omega
  have h2 : decide (65536 ≤ (x : Int) / 4294967296) = false := by simp; omega
  have h3 : decide (256 ≤ (x : Int) / 4294967296) = true := by simp; omega
  have hq : x / 4294967296 / 256 < 256 := by omega
  have hv := tab_len ⟨x / 4294967296 / 256, hq⟩
  have hle := Lib.bitLen_le8 ⟨x / 4294967296 / 256, hq⟩
  have HS := Lib.hid (show Lib.bitLen x = 40 + Lib.bitLen (x / 4294967296 / 256) from by rw [Lib.bitLen_shift32 x hA hx, Lib.bitLen_shift8 (x / 4294967296) hC (by omega)]; omega)
  dsimp only at hv hle
  have HV := Lib.hid (And.intro hv hle)
  clear hv hle
  go_enter Tryz.func203, Tryz.ntmps203
  go_wp2
  · go_ret
    refine ⟨congrArg Ending.returned (congrArg (Value.int IntKind.i64) ?_), rfl⟩
    have hv := HV.out.1
    have hle := HV.out.2
    rw [hv, HS.out]
    have _u := hC
    clear _u
    revert hle
    generalize Lib.bitLen (x / 4294967296 / 256) = q
    clear h1 h2 h3 hq hv HS HV hA hB hC hx
    intro hle
    simp only [wrap64]
    omega
  · exfalso
    rename_i hh
    have := Lib.len8tab_size
    omega

set_option maxRecDepth 100000 in
set_option maxHeartbeats 1000000 in
theorem len64_110 (x : Nat) (w : World) (hx : x < 18446744073709551616) (hA : 4294967296 ≤ x) (hB : 65536 ≤ x / 4294967296) (hC : x / 4294967296 / 65536 < 256) :
    Calls Tryz.prog 203 #[.int .u64 (x : Int)] w fun e w' => e = .returned (.int .i64 (Lib.bitLen x)) ∧ w' = w := by
  have h1 : decide (4294967296 ≤ (x : Int)) = true := by simp; omega
  have h2 : decide (65536 ≤ (x : Int) / 4294967296) = true := by simp; omega
  have h3 : decide (256 ≤ (x : Int) / 4294967296 / 65536) = false := by simp; omega
  have hq : x / 4294967296 / 65536 < 256 := by omega
  have hv := tab_len ⟨x / 4294967296 / 65536, hq⟩
  have hle := Lib.bitLen_le8 ⟨x / 4294967296 / 65536, hq⟩
  have HS := Lib.hid (show Lib.bitLen x = 48 + Lib.bitLen (x / 4294967296 / 65536) from by rw [Lib.bitLen_shift32 x hA hx, Lib.bitLen_shift16 (x / 4294967296) hB (by omega)]; omega)
  dsimp only at hv hle
  have HV := Lib.hid (And.intro hv hle)
  clear hv hle
  go_enter Tryz.func203, Tryz.ntmps203
  go_wp2
  · go_ret
    refine ⟨congrArg Ending.returned (congrArg (Value.int IntKind.i64) ?_), rfl⟩
    have hv := HV.out.1
    have hle := HV.out.2
    rw [hv, HS.out]
    have _u := hC
    clear _u
    revert hle
    generalize Lib.bitLen (x / 4294967296 / 65536) = q
    clear h1 h2 h3 hq hv HS HV hA hB hC hx
    intro hle
    simp only [wrap64]
    omega
  · exfalso
    rename_i hh
    have := Lib.len8tab_size
    omega

set_option maxRecDepth 100000 in
set_option maxHeartbeats 1000000 in
theorem len64_111 (x : Nat) (w : World) (hx : x < 18446744073709551616) (hA : 4294967296 ≤ x) (hB : 65536 ≤ x / 4294967296) (hC : 256 ≤ x / 4294967296 / 65536) :
    Calls Tryz.prog 203 #[.int .u64 (x : Int)] w fun e w' => e = .returned (.int .i64 (Lib.bitLen x)) ∧ w' = w := by
  have h1 : decide (4294967296 ≤ (x : Int)) = true := by simp; omega
  have h2 : decide (65536 ≤ (x : Int) / 4294967296) = true := by simp; omega
  have h3 : decide (256 ≤ (x : Int) / 4294967296 / 65536) = true := by simp; omega
  have hq : x / 4294967296 / 65536 / 256 < 256 := by omega
  have hv := tab_len ⟨x / 4294967296 / 65536 / 256, hq⟩
  have hle := Lib.bitLen_le8 ⟨x / 4294967296 / 65536 / 256, hq⟩
  have HS := Lib.hid (show Lib.bitLen x = 56 + Lib.bitLen (x / 4294967296 / 65536 / 256) from by rw [Lib.bitLen_shift32 x hA hx, Lib.bitLen_shift16 (x / 4294967296) hB (by omega), Lib.bitLen_shift8 (x / 4294967296 / 65536) hC (by omega)]; omega)
  dsimp only at hv hle
  have HV := Lib.hid (And.intro hv hle)
  clear hv hle
  go_enter Tryz.func203, Tryz.ntmps203
  go_wp2
  · go_ret
    refine ⟨congrArg Ending.returned (congrArg (Value.int IntKind.i64) ?_), rfl⟩
    have hv := HV.out.1
    have hle := HV.out.2
    rw [hv, HS.out]
    have _u := hC
    clear _u
    revert hle
    generalize Lib.bitLen (x / 4294967296 / 65536 / 256) = q
    clear h1 h2 h3 hq hv HS HV hA hB hC hx
    intro hle
    simp only [wrap64]
    omega
  · exfalso
    rename_i hh
    have := Lib.len8tab_size
    omega

theorem len64_all (x : Nat) (w : World) (hx : x < 18446744073709551616) :
    Calls Tryz.prog 203 #[.int .u64 (x : Int)] w fun e w' => e = .returned (.int .i64 (Lib.bitLen x)) ∧ w' = w := by
  by_cases h0 : x < 65536
  · exact len64_any x w h0
  · by_cases hA : x < 4294967296
    · by_cases hC : x / 65536 < 256
      · exact len64_010 x w hx hA (by omega) hC
      · exact len64_011 x w hx hA (by omega) (by omega)
    · by_cases hB : x / 4294967296 < 65536
      · by_cases hC : x / 4294967296 < 256
        · exact len64_100 x w hx (by omega) hB hC
        · exact len64_101 x w hx (by omega) hB (by omega)
      · by_cases hC : x / 4294967296 / 65536 < 256
        · exact len64_110 x w hx (by omega) (by omega) hC
        · exact len64_111 x w hx (by omega) (by omega) (by omega)

theorem wrapU_pow {b : Nat} (h : 2 ^ b < 18446744073709551616) : IntKind.u64.wrap ((2 : Int) ^ b) = ((2 ^ b : Nat) : Int) := by
  have e : (2 : Int) ^ b = ((2 ^ b : Nat) : Int) := by simp
  rw [e]
  generalize 2 ^ b = q at h
  rw [IntKind.wrap_u64]
  omega

end Go.Proofs.YtnaebjdccngeoaaGreatDoor

/-
  How many leaves a left side has.
-/
namespace Go.Proofs.YtnaebjdccngeoaaGreatDoor
open Go.RowKit

set_option maxRecDepth 100000 in
set_option maxHeartbeats 1000000 in
theorem pleft_any (m : Nat) (w : World) (h2 : 2 ≤ m) (hm : m < 18446744073709551616) :
    Calls Tryz.prog 199 #[.int .u64 (m : Int)] w fun e w' => e = .returned (.int .u64 (cutN m : Int)) ∧ w' = w := by
  have C := Lib.hid (len64_all (m - 1) w (by omega))
  obtain ⟨b, hb0⟩ : ∃ b, Nat.log2 (m - 1) = b := ⟨_, rfl⟩
  have hb : Lib.bitLen (m - 1) = b + 1 := by rw [bitLen_log (by omega) (by omega), hb0]
  have hb64 : b < 64 := by rw [← hb0]; exact (Nat.log2_lt (by omega)).2 (by omega)
  rw [hb] at C
  have hcut : cutN m = 2 ^ b := by rw [cutN, hb0]
  have hm1 : (m : Int) - 1 = ((m - 1 : Nat) : Int) := by omega
  have hlt : 2 ^ b < 18446744073709551616 := Nat.lt_of_lt_of_le (Nat.pow_lt_pow_right (by omega) hb64) (Nat.le_refl (2 ^ 64))
  have HC := Lib.hid (And.intro hcut hlt)
  have HL := Lib.hid hb64
  clear hcut hb hb0 hlt
  go_enter Tryz.func199, Tryz.ntmps199
  go_wp2_with fail
  refine C.out.mono ?_
  rintro e w1 ⟨rfl, rfl⟩
  have hb64' : b < 64 := HL.out
  go_wp2_with fail
  go_ret
  exact ⟨by rw [HC.out.1, wrapU_pow HC.out.2]; rfl, rfl⟩

end Go.Proofs.YtnaebjdccngeoaaGreatDoor

/-
  paths.pathTo, paths.Of.
-/
namespace Go.Proofs.YtnaebjdccngeoaaGreatDoor
open Go.RowKit

section
variable {w : World} {n c at_ : Nat} {A : Option Addr} {ys : List Nat}

set_option maxRecDepth 100000 in
set_option maxHeartbeats 1000000 in
theorem path_one : Calls Tryz.prog 179 #[.slice A 1 c, .int .i64 (at_ : Int)] w (GivesS w.heap.size w 0 []) := by
  go_enter Tryz.func179, Tryz.ntmps179
  go_wp2_with fail
  go_ret
  exact ⟨none, 0, rfl, own_none _ _ _ _, Below.refl _ _⟩

set_option maxRecDepth 100000 in
set_option maxHeartbeats 2000000 in
theorem path_low {ad : Addr} {k m d : Nat} {L R : List Nat} (hc : n ≤ c) (hn : n ≤ 65536) (h2 : 2 ≤ n) (hk0 : cutN n = k) (hm0 : n - k = m) (ha : at_ < k) (hd : d ≤ 64) (hRl : R.length = 32)
    (ci : Calls Tryz.prog 179 #[.slice (some ad) k c, .int .i64 (at_ : Int)] w.drew (GivesS w.heap.size w d L))
    (cr : ∀ W : World, Below w.heap.size w W → Calls Tryz.prog 128 #[.slice (some (ad.add (k * 32))) m (c - k)] W fun e w' => e = .returned (sv R) ∧ Below W.heap.size W w') :
    Calls Tryz.prog 179 #[.slice (some ad) n c, .int .i64 (at_ : Int)] w (GivesS w.heap.size w (d + 1) (L ++ R)) := by
  have hcl := cutN_lt h2
  have hcp := cutN_pos n
  rw [hk0] at hcl hcp
  have hai : ¬ (k : Int) ≤ (at_ : Int) := by omega
  have CM := Lib.hid (pleft_any n w h2 (by omega))
  rw [hk0] at CM
  have ht := run_take_sums (ad := ad) (n := n) (c := c) (k := k) (by omega) hc
  have hr := run_drop_sums (ad := ad) (n := n) (c := c) (k := k) hcl hc
  rw [hm0] at hr
  have CI := Lib.hid ci
  have CR := Lib.hid cr
  have HD := Lib.hid hd
  have HX := Lib.hid (And.intro hc (And.intro hn (And.intro h2 (And.intro hk0 hm0))))
  have hd9 : d + 1 ≤ 1000000000 := by omega
  have n1 : ((n : Int) == 1) = false := by simp; omega
  have wn : IntKind.u64.wrap (n : Int) = (n : Int) := by rw [IntKind.wrap_u64]; omega
  have wk : IntKind.i64.wrap (k : Int) = (k : Int) := by rw [IntKind.wrap_i64]; omega
  have wk2 : wrap64 (k : Int) = (k : Int) := by simp only [wrap64]; omega
  clear ci cr hcl hcp hc hn h2 hk0 hm0 hd ha
  go_enter Tryz.func179, Tryz.ntmps179
  go_wp2_with fail
  refine CM.out.mono ?_
  rintro e w1 ⟨rfl, rfl⟩
  go_upto_region 4 with fail
  refine wp_region_held (S := fun _ => True) (by kernel_rfl) ?_
  change wpAnyH _ _ _ _ _ _ _ _ w1.drew
  refine' wpAnyH_take (i := 0) (oi := _) (v := _) ?hi0 (by kernel_rfl) ?hf0 ?hr0 ?hQ0 ?hy0 trivial ?rest0
  case hi0 => (simp only [List.getElem?_toArray, List.getElem?_cons_zero]; rfl)
  case hf0 => kernel_rfl
  case hr0 => kernel_rfl
  case hQ0 => exact fun _ _ _ h => h
  case hy0 =>
    refine Or.inl ⟨by rfl, ?_⟩
    intro W _
    go_simp
    try with_reducible rfl
  simp only [Act.put, List.setIfInBounds_toArray, List.set_cons_zero, List.set_cons_succ]
  refine' wpAnyH_take (i := 1) (oi := _) (v := _) ?hi1 (by kernel_rfl) ?hf1 ?hr1 ?hQ1 ?hy1 trivial ?rest1
  case hi1 => (simp only [List.getElem?_toArray, List.getElem?_cons_zero, List.getElem?_cons_succ]; rfl)
  case hf1 => kernel_rfl
  case hr1 => kernel_rfl
  case hQ1 => exact fun _ _ _ h => h
  case hy1 =>
    refine Or.inl ⟨by rfl, ?_⟩
    intro W _
    go_simp
    try with_reducible rfl
  simp only [Act.put, List.setIfInBounds_toArray, List.set_cons_zero, List.set_cons_succ]
  refine' wpAnyH_take (i := 2) (oi := _) (v := _) ?hi2 (by kernel_rfl) ?hf2 ?hr2 ?hQ2 ?hy2 trivial ?rest2
  case hi2 => (simp only [List.getElem?_toArray, List.getElem?_cons_zero, List.getElem?_cons_succ]; rfl)
  case hf2 => kernel_rfl
  case hr2 => kernel_rfl
  case hQ2 => exact fun _ _ _ h => h
  case hy2 =>
    refine Or.inl ⟨by rfl, ?_⟩
    intro W _
    go_simp
    try with_reducible rfl
  simp only [Act.put, List.setIfInBounds_toArray, List.set_cons_zero, List.set_cons_succ]
  refine' wpAnyH_take (i := 3) (oi := _) (v := _) ?hi3 (by kernel_rfl) ?hf3 ?hr3 ?hQ3 ?hy3 trivial ?rest3
  case hi3 => (simp only [List.getElem?_toArray, List.getElem?_cons_zero, List.getElem?_cons_succ]; rfl)
  case hf3 => kernel_rfl
  case hr3 => kernel_rfl
  case hQ3 => exact fun _ _ _ h => h
  case hy3 =>
    refine Or.inl ⟨by rfl, ?_⟩
    intro W _
    go_simp
    try with_reducible rfl
  simp only [Act.put, List.setIfInBounds_toArray, List.set_cons_zero, List.set_cons_succ]
  refine' wpAnyH_take (i := 4) (oi := _) (v := _) ?hi4 (by kernel_rfl) ?hf4 ?hr4 ?hQ4 ?hy4 trivial ?rest4
  case hi4 => (simp only [List.getElem?_toArray, List.getElem?_cons_zero, List.getElem?_cons_succ]; rfl)
  case hf4 => kernel_rfl
  case hr4 => kernel_rfl
  case hQ4 => exact fun _ _ _ h => h
  case hy4 =>
    refine Or.inl ⟨by rfl, ?_⟩
    intro W _
    go_simp
    try with_reducible rfl
  simp only [Act.put, List.setIfInBounds_toArray, List.set_cons_zero, List.set_cons_succ]
  refine' wpAnyH_take (i := 5) (oi := _) (v := _) ?hi5 (by kernel_rfl) ?hf5 ?hr5 ?hQ5 ?hy5 trivial ?rest5
  case hi5 => (simp only [List.getElem?_toArray, List.getElem?_cons_zero, List.getElem?_cons_succ]; rfl)
  case hf5 => kernel_rfl
  case hr5 => kernel_rfl
  case hQ5 => exact fun _ _ _ h => h
  case hy5 =>
    refine Or.inl ⟨by rfl, ?_⟩
    intro W _
    go_simp
    try with_reducible rfl
  simp only [Act.put, List.setIfInBounds_toArray, List.set_cons_zero, List.set_cons_succ]
  refine' wpAnyH_take (i := 6) (oi := _) (v := _) ?hi6 (by kernel_rfl) ?hf6 ?hr6 ?hQ6 ?hy6 trivial ?rest6
  case hi6 => (simp only [List.getElem?_toArray, List.getElem?_cons_zero, List.getElem?_cons_succ]; rfl)
  case hf6 => kernel_rfl
  case hr6 => kernel_rfl
  case hQ6 => exact fun _ _ _ h => h
  case hy6 =>
    refine Or.inl ⟨by rfl, ?_⟩
    intro W _
    go_simp
    try with_reducible rfl
  simp only [Act.put, List.setIfInBounds_toArray, List.set_cons_zero, List.set_cons_succ]
  refine' wpAnyH_take (i := 7) (oi := _) (v := _) ?hi7 (by kernel_rfl) ?hf7 ?hr7 ?hQ7 ?hy7 trivial ?rest7
  case hi7 => (simp only [List.getElem?_toArray, List.getElem?_cons_zero, List.getElem?_cons_succ]; rfl)
  case hf7 => kernel_rfl
  case hr7 => kernel_rfl
  case hQ7 => exact fun _ _ _ h => h
  case hy7 =>
    refine Or.inl ⟨by rfl, ?_⟩
    intro W _
    go_simp
    try with_reducible rfl
  simp only [Act.put, List.setIfInBounds_toArray, List.set_cons_zero, List.set_cons_succ]
  refine wpAnyH_done (by kernel_rfl) ?_ _
  go_wp2_with fail
  refine CI.out.mono ?_
  rintro e w2 ⟨A2, c2, rfl, ho2, hb2⟩
  have HO2 := Lib.hid (And.intro ho2 hb2)
  clear ho2 hb2
  go_wp2_with fail
  refine (CR.out w2 HO2.out.2).mono ?_
  rintro e w3 ⟨rfl, hb3⟩
  have b3 := below_on HO2.out.2 (Nat.le_refl _) hb3
  have o3 := own_on HO2.out.1 hb3
  have o4 := own_on o3 (below_alloc w3 (.cells (bvs R).toArray 50))
  have b4 := b3.alloc b3.size (.cells (bvs R).toArray 50)
  have i4 : InS (w3.alloc (.cells (bvs R).toArray 50)) (some ⟨w3.heap.size, 0, none⟩) 1 R := InS.of_own (own_sum w3 R 0 hRl (Nat.zero_le _))
  have H4 := Lib.hid (And.intro o4 (And.intro b4 i4))
  clear b3 o3 o4 b4 i4 hb3
  go_wp2_with (first
    | (refine wpList_one_sum rfl _ R rfl (by simp <;> rfl) hRl ?_)
    | (refine wpList_step fun K hK => ?_; refine step_sapp (K := K) (by rfl) _ _ (by rfl) w1.heap.size A2 d c2 L (by rfl) H4.out.1 (some ⟨w3.heap.size, 0, none⟩) 1 1 R (by rfl) H4.out.2.2 (fun h => by cases h) hd9 H4.out.2.1.size ?_; intro A5 c5 w5 o5 nx5; refine hK _ _ ?_; clear hK K))
  go_ret
  exact ⟨A5, c5, rfl, o5, nx5.below H4.out.1 H4.out.2.1 (Nat.le_refl _) H4.out.2.1.size⟩

set_option maxRecDepth 100000 in
set_option maxHeartbeats 2000000 in
theorem path_high {ad : Addr} {k m a d : Nat} {L R : List Nat} (hc : n ≤ c) (hn : n ≤ 65536) (h2 : 2 ≤ n) (hk0 : cutN n = k) (hm0 : n - k = m) (ha : ¬ at_ < k) (ha0 : at_ - k = a) (hat : at_ < n) (hd : d ≤ 64) (hRl : R.length = 32)
    (ci : Calls Tryz.prog 179 #[.slice (some (ad.add (k * 32))) m (c - k), .int .i64 (a : Int)] w.drew (GivesS w.heap.size w d L))
    (cr : ∀ W : World, Below w.heap.size w W → Calls Tryz.prog 128 #[.slice (some ad) k c] W fun e w' => e = .returned (sv R) ∧ Below W.heap.size W w') :
    Calls Tryz.prog 179 #[.slice (some ad) n c, .int .i64 (at_ : Int)] w (GivesS w.heap.size w (d + 1) (L ++ R)) := by
  have hcl := cutN_lt h2
  have hcp := cutN_pos n
  rw [hk0] at hcl hcp
  have hai : (k : Int) ≤ (at_ : Int) := by omega
  have CM := Lib.hid (pleft_any n w h2 (by omega))
  rw [hk0] at CM
  have ht := run_take_sums (ad := ad) (n := n) (c := c) (k := k) (by omega) hc
  have hr := run_drop_sums (ad := ad) (n := n) (c := c) (k := k) hcl hc
  rw [hm0] at hr
  have CI := Lib.hid ci
  have CR := Lib.hid cr
  have HD := Lib.hid hd
  have HX := Lib.hid (And.intro hc (And.intro hn (And.intro h2 (And.intro hk0 hm0))))
  have hd9 : d + 1 ≤ 1000000000 := by omega
  have n1 : ((n : Int) == 1) = false := by simp; omega
  have wn : IntKind.u64.wrap (n : Int) = (n : Int) := by rw [IntKind.wrap_u64]; omega
  have wk : IntKind.i64.wrap (k : Int) = (k : Int) := by rw [IntKind.wrap_i64]; omega
  have ea : (at_ : Int) - (k : Int) = (a : Int) := by omega
  have wa : wrap64 (a : Int) = (a : Int) := by simp only [wrap64]; omega
  have wk2 : wrap64 (k : Int) = (k : Int) := by simp only [wrap64]; omega
  clear ci cr hcl hcp hc hn h2 hk0 hm0 hd ha ha0 hat
  go_enter Tryz.func179, Tryz.ntmps179
  go_wp2_with fail
  refine CM.out.mono ?_
  rintro e w1 ⟨rfl, rfl⟩
  go_upto_region 4 with fail
  refine wp_region_held (S := fun _ => True) (by kernel_rfl) ?_
  change wpAnyH _ _ _ _ _ _ _ _ w1.drew
  refine' wpAnyH_take (i := 0) (oi := _) (v := _) ?hi0 (by kernel_rfl) ?hf0 ?hr0 ?hQ0 ?hy0 trivial ?rest0
  case hi0 => (simp only [List.getElem?_toArray, List.getElem?_cons_zero]; rfl)
  case hf0 => kernel_rfl
  case hr0 => kernel_rfl
  case hQ0 => exact fun _ _ _ h => h
  case hy0 =>
    refine Or.inl ⟨by rfl, ?_⟩
    intro W _
    go_simp
    try with_reducible rfl
  simp only [Act.put, List.setIfInBounds_toArray, List.set_cons_zero, List.set_cons_succ]
  refine' wpAnyH_take (i := 1) (oi := _) (v := _) ?hi1 (by kernel_rfl) ?hf1 ?hr1 ?hQ1 ?hy1 trivial ?rest1
  case hi1 => (simp only [List.getElem?_toArray, List.getElem?_cons_zero, List.getElem?_cons_succ]; rfl)
  case hf1 => kernel_rfl
  case hr1 => kernel_rfl
  case hQ1 => exact fun _ _ _ h => h
  case hy1 =>
    refine Or.inl ⟨by rfl, ?_⟩
    intro W _
    go_simp
    try with_reducible rfl
  simp only [Act.put, List.setIfInBounds_toArray, List.set_cons_zero, List.set_cons_succ]
  refine' wpAnyH_take (i := 2) (oi := _) (v := _) ?hi2 (by kernel_rfl) ?hf2 ?hr2 ?hQ2 ?hy2 trivial ?rest2
  case hi2 => (simp only [List.getElem?_toArray, List.getElem?_cons_zero, List.getElem?_cons_succ]; rfl)
  case hf2 => kernel_rfl
  case hr2 => kernel_rfl
  case hQ2 => exact fun _ _ _ h => h
  case hy2 =>
    refine Or.inl ⟨by rfl, ?_⟩
    intro W _
    go_simp
    try with_reducible rfl
  simp only [Act.put, List.setIfInBounds_toArray, List.set_cons_zero, List.set_cons_succ]
  refine' wpAnyH_take (i := 3) (oi := _) (v := _) ?hi3 (by kernel_rfl) ?hf3 ?hr3 ?hQ3 ?hy3 trivial ?rest3
  case hi3 => (simp only [List.getElem?_toArray, List.getElem?_cons_zero, List.getElem?_cons_succ]; rfl)
  case hf3 => kernel_rfl
  case hr3 => kernel_rfl
  case hQ3 => exact fun _ _ _ h => h
  case hy3 =>
    refine Or.inl ⟨by rfl, ?_⟩
    intro W _
    go_simp
    try with_reducible rfl
  simp only [Act.put, List.setIfInBounds_toArray, List.set_cons_zero, List.set_cons_succ]
  refine' wpAnyH_take (i := 4) (oi := _) (v := _) ?hi4 (by kernel_rfl) ?hf4 ?hr4 ?hQ4 ?hy4 trivial ?rest4
  case hi4 => (simp only [List.getElem?_toArray, List.getElem?_cons_zero, List.getElem?_cons_succ]; rfl)
  case hf4 => kernel_rfl
  case hr4 => kernel_rfl
  case hQ4 => exact fun _ _ _ h => h
  case hy4 =>
    refine Or.inl ⟨by rfl, ?_⟩
    intro W _
    go_simp
    try with_reducible rfl
  simp only [Act.put, List.setIfInBounds_toArray, List.set_cons_zero, List.set_cons_succ]
  refine' wpAnyH_take (i := 5) (oi := _) (v := _) ?hi5 (by kernel_rfl) ?hf5 ?hr5 ?hQ5 ?hy5 trivial ?rest5
  case hi5 => (simp only [List.getElem?_toArray, List.getElem?_cons_zero, List.getElem?_cons_succ]; rfl)
  case hf5 => kernel_rfl
  case hr5 => kernel_rfl
  case hQ5 => exact fun _ _ _ h => h
  case hy5 =>
    refine Or.inl ⟨by rfl, ?_⟩
    intro W _
    go_simp
    try with_reducible rfl
  simp only [Act.put, List.setIfInBounds_toArray, List.set_cons_zero, List.set_cons_succ]
  refine' wpAnyH_take (i := 6) (oi := _) (v := _) ?hi6 (by kernel_rfl) ?hf6 ?hr6 ?hQ6 ?hy6 trivial ?rest6
  case hi6 => (simp only [List.getElem?_toArray, List.getElem?_cons_zero, List.getElem?_cons_succ]; rfl)
  case hf6 => kernel_rfl
  case hr6 => kernel_rfl
  case hQ6 => exact fun _ _ _ h => h
  case hy6 =>
    refine Or.inl ⟨by rfl, ?_⟩
    intro W _
    go_simp
    try with_reducible rfl
  simp only [Act.put, List.setIfInBounds_toArray, List.set_cons_zero, List.set_cons_succ]
  refine' wpAnyH_take (i := 7) (oi := _) (v := _) ?hi7 (by kernel_rfl) ?hf7 ?hr7 ?hQ7 ?hy7 trivial ?rest7
  case hi7 => (simp only [List.getElem?_toArray, List.getElem?_cons_zero, List.getElem?_cons_succ]; rfl)
  case hf7 => kernel_rfl
  case hr7 => kernel_rfl
  case hQ7 => exact fun _ _ _ h => h
  case hy7 =>
    refine Or.inl ⟨by rfl, ?_⟩
    intro W _
    go_simp
    try with_reducible rfl
  simp only [Act.put, List.setIfInBounds_toArray, List.set_cons_zero, List.set_cons_succ]
  refine wpAnyH_done (by kernel_rfl) ?_ _
  go_wp2_with fail
  refine CI.out.mono ?_
  rintro e w2 ⟨A2, c2, rfl, ho2, hb2⟩
  have HO2 := Lib.hid (And.intro ho2 hb2)
  clear ho2 hb2
  go_wp2_with fail
  refine (CR.out w2 HO2.out.2).mono ?_
  rintro e w3 ⟨rfl, hb3⟩
  have b3 := below_on HO2.out.2 (Nat.le_refl _) hb3
  have o3 := own_on HO2.out.1 hb3
  have o4 := own_on o3 (below_alloc w3 (.cells (bvs R).toArray 50))
  have b4 := b3.alloc b3.size (.cells (bvs R).toArray 50)
  have i4 : InS (w3.alloc (.cells (bvs R).toArray 50)) (some ⟨w3.heap.size, 0, none⟩) 1 R := InS.of_own (own_sum w3 R 0 hRl (Nat.zero_le _))
  have H4 := Lib.hid (And.intro o4 (And.intro b4 i4))
  clear b3 o3 o4 b4 i4 hb3
  go_wp2_with (first
    | (refine wpList_one_sum rfl _ R rfl (by simp <;> rfl) hRl ?_)
    | (refine wpList_step fun K hK => ?_; refine step_sapp (K := K) (by rfl) _ _ (by rfl) w1.heap.size A2 d c2 L (by rfl) H4.out.1 (some ⟨w3.heap.size, 0, none⟩) 1 1 R (by rfl) H4.out.2.2 (fun h => by cases h) hd9 H4.out.2.1.size ?_; intro A5 c5 w5 o5 nx5; refine hK _ _ ?_; clear hK K))
  go_ret
  exact ⟨A5, c5, rfl, o5, nx5.below H4.out.1 H4.out.2.1 (Nat.le_refl _) H4.out.2.1.size⟩

end

end Go.Proofs.YtnaebjdccngeoaaGreatDoor

/-
  paths.pathTo whole; paths.Of.
-/
namespace Go.Proofs.YtnaebjdccngeoaaGreatDoor
open Go.RowKit

theorem path_any : ∀ (n at_ : Nat) (A : Option Addr) (c : Nat) (ys : List Nat) (w : World), InS w A n ys → (∀ x ∈ ys, x < 256) → n ≤ c → n ≤ 65536 → at_ < n → Knows w → Starts w →
    Calls Tryz.prog 179 #[.slice A n c, .int .i64 (at_ : Int)] w (GivesS w.heap.size w (dep at_ n) (pathL (nth ys) 0 n at_).flatten) := by
  intro n
  induction n using Nat.strongRecOn with
  | ind n ih =>
    intro at_ A c ys w hin hy hc hn hat hk hs
    by_cases h1 : n < 2
    · obtain rfl : n = 1 := by omega
      rw [dep_one h1, pathL_one _ h1]
      exact path_one
    · have hcl := cutN_lt (m := n) (by omega)
      have hcp := cutN_pos n
      obtain ⟨ad, rfl⟩ := hin.some_ (by omega)
      have hd := dep_64 (n := n) (at_ := at_) hat (by omega)
      have lk : ∀ {i m : Nat}, i + m ≤ n → (rt (nth ys) i m).length = 32 := fun {i m} h => rt_length _ i m fun j hj => nth_length hin.len (by omega)
      have dr : Below w.heap.size w w.drew := (Below.refl _ w).drew
      have ytake : ∀ x ∈ ys.take (32 * cutN n), x < 256 := fun x hx => hy x (List.mem_of_mem_take hx)
      have ydrop : ∀ x ∈ ys.drop (32 * cutN n), x < 256 := fun x hx => hy x (List.mem_of_mem_drop hx)
      by_cases ha : at_ < cutN n
      · rw [dep_low (by omega) ha] at hd ⊢
        rw [pathL_low _ (by omega) ha, List.flatten_append, List.flatten_singleton, Nat.zero_add]
        refine path_low hc hn (by omega) rfl rfl ha (by omega) (lk (by omega)) ?_ ?_
        · have := ih (cutN n) hcl at_ (some ad) c (ys.take (32 * cutN n)) w.drew ((hin.take (k := cutN n) (by omega)).below dr) ytake (by omega) (by omega) ha (hk.below dr) (hs.below dr)
          rw [pathL_congr (nth (ys.take (32 * cutN n))) (nth ys) (cutN n) 0 0 at_ (fun j hj => by rw [Nat.zero_add]; exact nth_take hj)] at this
          exact this.mono fun e w' ⟨A', c', he, ho, hb⟩ => ⟨A', c', he, ho, dr.trans hb⟩
        · intro W hW
          have := root_any (some (ad.add (cutN n * 32))) (n - cutN n) (c - cutN n) (ys.drop (32 * cutN n)) W ((hin.drop_ _ (by omega)).below hW) ydrop (by omega) (by omega) (hk.below hW) (hs.below hW)
          rw [rt_drop] at this
          exact this
      · rw [dep_high (by omega) ha] at hd ⊢
        rw [pathL_high _ (by omega) ha, List.flatten_append, List.flatten_singleton, Nat.zero_add]
        refine path_high hc hn (by omega) rfl rfl ha rfl hat (by omega) (lk (by omega)) ?_ ?_
        · have := ih (n - cutN n) (by omega) (at_ - cutN n) (some (ad.add (cutN n * 32))) (c - cutN n) (ys.drop (32 * cutN n)) w.drew ((hin.drop_ (cutN n) (by omega)).below dr) ydrop (by omega) (by omega) (by omega) (hk.below dr) (hs.below dr)
          rw [pathL_congr (nth (ys.drop (32 * cutN n))) (nth ys) (n - cutN n) 0 (cutN n) (at_ - cutN n) (fun j hj => by rw [Nat.zero_add]; exact nth_drop _ _ _)] at this
          exact this.mono fun e w' ⟨A', c', he, ho, hb⟩ => ⟨A', c', he, ho, dr.trans hb⟩
        · intro W hW
          have := root_any (some ad) (cutN n) c (ys.take (32 * cutN n)) W ((hin.take (by omega)).below hW) ytake (by omega) (by omega) (hk.below hW) (hs.below hW)
          rw [rt_take] at this
          exact this

set_option maxRecDepth 100000 in
set_option maxHeartbeats 1000000 in
/-- paths.Of at a place that there is not. -/
theorem pof_no {w : World} {n c : Nat} {A : Option Addr} (z : Int) (h : z < 0 ∨ (n : Int) ≤ z) :
    Calls Tryz.prog 129 #[.slice A n c, .int .i64 z] w fun e w' => e = .returned (.tuple #[.slice none 0 0, .int .i64 1]) ∧ w' = w := by
  by_cases h0 : z < 0
  · go_enter Tryz.func129, Tryz.ntmps129
    go_wp2_with fail
    go_ret2
    exact ⟨rfl, rfl⟩
  · have h1 : (n : Int) ≤ z := by omega
    go_enter Tryz.func129, Tryz.ntmps129
    go_wp2_with fail
    go_ret2
    exact ⟨rfl, rfl⟩

set_option maxRecDepth 100000 in
set_option maxHeartbeats 1000000 in
/-- paths.Of. -/
theorem pof_yes {w : World} {n c at_ : Nat} {A : Option Addr} {ys : List Nat} (hin : InS w A n ys) (hy : ∀ x ∈ ys, x < 256) (hc : n ≤ c) (hn : n ≤ 65536) (hat : at_ < n) (hk : Knows w) (hs : Starts w) :
    Calls Tryz.prog 129 #[.slice A n c, .int .i64 (at_ : Int)] w fun e w' => ∃ A' c', e = .returned (.tuple #[.slice A' (dep at_ n) c', .int .i64 0]) ∧ w'.ownsRow w.heap.size 50 32 (.slice A' (dep at_ n) c') (dep at_ n) (bvs (pathL (nth ys) 0 n at_).flatten) ∧ Below w.heap.size w w' := by
  have C := Lib.hid (path_any n at_ A c ys w hin hy hc hn hat hk hs)
  have h0 : ¬ (at_ : Int) < 0 := by omega
  have h1 : ¬ (n : Int) ≤ (at_ : Int) := by omega
  clear hin hy hc hn hat hk hs
  go_enter Tryz.func129, Tryz.ntmps129
  go_wp2_with fail
  refine C.out.mono ?_
  rintro e w1 ⟨A', c', rfl, ho, hb⟩
  go_wp2_with fail
  go_ret2
  exact ⟨A', c', rfl, ho, hb⟩

end Go.Proofs.YtnaebjdccngeoaaGreatDoor

/-
  links.left: how many leaves a left side has.
-/
namespace Go.Proofs.YtnaebjdccngeoaaGreatDoor
open Go.RowKit

set_option maxRecDepth 100000 in
set_option maxHeartbeats 1000000 in
theorem kleft_any (m : Nat) (w : World) (h2 : 2 ≤ m) (hm : m < 18446744073709551616) :
    Calls Tryz.prog 191 #[.int .u64 (m : Int)] w fun e w' => e = .returned (.int .u64 (cutN m : Int)) ∧ w' = w := by
  have C := Lib.hid (len64_all (m - 1) w (by omega))
  obtain ⟨b, hb0⟩ : ∃ b, Nat.log2 (m - 1) = b := ⟨_, rfl⟩
  have hb : Lib.bitLen (m - 1) = b + 1 := by rw [bitLen_log (by omega) (by omega), hb0]
  have hb64 : b < 64 := by rw [← hb0]; exact (Nat.log2_lt (by omega)).2 (by omega)
  rw [hb] at C
  have hcut : cutN m = 2 ^ b := by rw [cutN, hb0]
  have hm1 : (m : Int) - 1 = ((m - 1 : Nat) : Int) := by omega
  have hlt : 2 ^ b < 18446744073709551616 := Nat.lt_of_lt_of_le (Nat.pow_lt_pow_right (by omega) hb64) (Nat.le_refl (2 ^ 64))
  have HC := Lib.hid (And.intro hcut hlt)
  have HL := Lib.hid hb64
  clear hcut hb hb0 hlt
  go_enter Tryz.func191, Tryz.ntmps191
  go_wp2_with fail
  refine C.out.mono ?_
  rintro e w1 ⟨rfl, rfl⟩
  have hb64' : b < 64 := HL.out
  go_wp2_with fail
  go_ret
  exact ⟨by rw [HC.out.1, wrapU_pow HC.out.2]; rfl, rfl⟩

end Go.Proofs.YtnaebjdccngeoaaGreatDoor

/-
  links.linkOf, one step.
-/
namespace Go.Proofs.YtnaebjdccngeoaaGreatDoor
open Go.RowKit

theorem kwrap64 {k : Nat} (h : k ≤ 65536) : wrap64 (k : Int) = (k : Int) := by simp only [wrap64]; omega
theorem kwrapI {k : Nat} (h : k ≤ 65536) : IntKind.i64.wrap (k : Int) = (k : Int) := by rw [IntKind.wrap_i64]; omega

section
variable {w : World} {n c from_ : Nat} {A : Option Addr} {ys : List Nat} {edge : Bool}

set_option maxRecDepth 100000 in
set_option maxHeartbeats 1000000 in
theorem klink_edge (hf : from_ = n) : Calls Tryz.prog 180 #[.slice A n c, .int .i64 (from_ : Int), .bool true] w (GivesS w.heap.size w 0 []) := by
  subst hf
  have hq : ((from_ : Int) == (from_ : Int)) = true := by simp
  go_enter Tryz.func180, Tryz.ntmps180
  go_wp2_with fail
  go_ret
  exact ⟨none, 0, rfl, own_none _ _ _ _, Below.refl _ _⟩

set_option maxRecDepth 100000 in
set_option maxHeartbeats 1000000 in
theorem klink_root {R : List Nat} (hf : from_ = n) (hRl : R.length = 32) (cr : Calls Tryz.prog 128 #[.slice A n c] w fun e w' => e = .returned (sv R) ∧ Below w.heap.size w w') :
    Calls Tryz.prog 180 #[.slice A n c, .int .i64 (from_ : Int), .bool false] w (GivesS w.heap.size w 1 R) := by
  subst hf
  have hq : ((from_ : Int) == (from_ : Int)) = true := by simp
  go_enter Tryz.func180, Tryz.ntmps180
  go_wp2_with fail
  refine cr.mono ?_
  rintro e w1 ⟨rfl, hb1⟩
  have HB := Lib.hid hb1
  clear hb1
  go_wp2_with (refine wpList_one_sum rfl _ R rfl (by simp <;> rfl) hRl ?_)
  go_ret
  exact ⟨some ⟨w1.heap.size, 0, none⟩, 1, rfl, own_sum w1 R w.heap.size hRl HB.out.size, below_on HB.out (Nat.le_refl _) (below_alloc w1 _)⟩

set_option maxRecDepth 100000 in
set_option maxHeartbeats 4000000 in
theorem klink_low {ad : Addr} {k m d : Nat} {L R : List Nat} (hc : n ≤ c) (hn : n ≤ 65536) (h2 : 2 ≤ n) (hfn : from_ < n) (hk0 : cutN n = k) (hm0 : n - k = m) (ha : from_ ≤ k) (hd : d ≤ 100) (hRl : R.length = 32)
    (ci : Calls Tryz.prog 180 #[.slice (some ad) k c, .int .i64 (from_ : Int), .bool edge] w.drew (GivesS w.heap.size w d L))
    (cr : ∀ W : World, Below w.heap.size w W → Calls Tryz.prog 128 #[.slice (some (ad.add (k * 32))) m (c - k)] W fun e w' => e = .returned (sv R) ∧ Below W.heap.size W w') :
    Calls Tryz.prog 180 #[.slice (some ad) n c, .int .i64 (from_ : Int), .bool edge] w (GivesS w.heap.size w (d + 1) (L ++ R)) := by
  have hcl := cutN_lt h2
  have hcp := cutN_pos n
  rw [hk0] at hcl hcp
  have hk65 : k ≤ 65536 := by omega
  have hne : ((from_ : Int) == (n : Int)) = false := by simp; omega
  have hai : (from_ : Int) ≤ (k : Int) := by omega
  have CM := Lib.hid (kleft_any n w h2 (by omega))
  rw [hk0] at CM
  have ht := run_take_sums (ad := ad) (n := n) (c := c) (k := k) (by omega) hc
  have hr := run_drop_sums (ad := ad) (n := n) (c := c) (k := k) hcl hc
  rw [hm0] at hr
  have CI := Lib.hid ci
  have CR := Lib.hid cr
  have HD := Lib.hid hd
  have hd9 : d + 1 ≤ 1000000000 := by omega
  have wn : IntKind.u64.wrap (n : Int) = (n : Int) := by rw [IntKind.wrap_u64]; omega
  have wk : IntKind.i64.wrap (k : Int) = (k : Int) := kwrapI hk65
  have wk2 : wrap64 (k : Int) = (k : Int) := kwrap64 hk65
  clear ci cr hcl hcp hc hn h2 hk0 hm0 hd ha hfn hk65
  go_enter Tryz.func180, Tryz.ntmps180
  go_wp2_with fail
  refine CM.out.mono ?_
  rintro e w1 ⟨rfl, rfl⟩
  go_upto_region 7 with fail
  refine wp_region_held (S := fun _ => True) (by kernel_rfl) ?_
  change wpAnyH _ _ _ _ _ _ _ _ w1.drew
  refine' wpAnyH_take (i := 0) (oi := _) (v := _) ?hi0 (by kernel_rfl) ?hf0 ?hr0 ?hQ0 ?hy0 trivial ?rest0
  case hi0 => (simp only [List.getElem?_toArray, List.getElem?_cons_zero]; rfl)
  case hf0 => kernel_rfl
  case hr0 => kernel_rfl
  case hQ0 => exact fun _ _ _ h => h
  case hy0 =>
    refine Or.inl ⟨by rfl, ?_⟩
    intro W _
    go_simp
    try with_reducible rfl
  try simp only [Act.put, List.setIfInBounds_toArray, List.set_cons_zero, List.set_cons_succ]
  refine' wpAnyH_take (i := 1) (oi := _) (v := _) ?hi1 (by kernel_rfl) ?hf1 ?hr1 ?hQ1 ?hy1 trivial ?rest1
  case hi1 => (simp only [List.getElem?_toArray, List.getElem?_cons_zero, List.getElem?_cons_succ]; rfl)
  case hf1 => kernel_rfl
  case hr1 => kernel_rfl
  case hQ1 => exact fun _ _ _ h => h
  case hy1 =>
    refine Or.inl ⟨by rfl, ?_⟩
    intro W _
    go_simp
    try with_reducible rfl
  try simp only [Act.put, List.setIfInBounds_toArray, List.set_cons_zero, List.set_cons_succ]
  refine' wpAnyH_take (i := 2) (oi := _) (v := _) ?hi2 (by kernel_rfl) ?hf2 ?hr2 ?hQ2 ?hy2 trivial ?rest2
  case hi2 => (simp only [List.getElem?_toArray, List.getElem?_cons_zero, List.getElem?_cons_succ]; rfl)
  case hf2 => kernel_rfl
  case hr2 => kernel_rfl
  case hQ2 => exact fun _ _ _ h => h
  case hy2 =>
    refine Or.inl ⟨by rfl, ?_⟩
    intro W _
    go_simp
    try with_reducible rfl
  try simp only [Act.put, List.setIfInBounds_toArray, List.set_cons_zero, List.set_cons_succ]
  refine' wpAnyH_take (i := 3) (oi := _) (v := _) ?hi3 (by kernel_rfl) ?hf3 ?hr3 ?hQ3 ?hy3 trivial ?rest3
  case hi3 => (simp only [List.getElem?_toArray, List.getElem?_cons_zero, List.getElem?_cons_succ]; rfl)
  case hf3 => kernel_rfl
  case hr3 => kernel_rfl
  case hQ3 => exact fun _ _ _ h => h
  case hy3 =>
    refine Or.inl ⟨by rfl, ?_⟩
    intro W _
    go_simp
    try with_reducible rfl
  try simp only [Act.put, List.setIfInBounds_toArray, List.set_cons_zero, List.set_cons_succ]
  refine' wpAnyH_take (i := 4) (oi := _) (v := _) ?hi4 (by kernel_rfl) ?hf4 ?hr4 ?hQ4 ?hy4 trivial ?rest4
  case hi4 => (simp only [List.getElem?_toArray, List.getElem?_cons_zero, List.getElem?_cons_succ]; rfl)
  case hf4 => kernel_rfl
  case hr4 => kernel_rfl
  case hQ4 => exact fun _ _ _ h => h
  case hy4 =>
    refine Or.inl ⟨by rfl, ?_⟩
    intro W _
    go_simp
    try with_reducible rfl
  try simp only [Act.put, List.setIfInBounds_toArray, List.set_cons_zero, List.set_cons_succ]
  refine' wpAnyH_take (i := 6) (oi := _) (v := _) ?hi6 (by kernel_rfl) ?hf6 ?hr6 ?hQ6 ?hy6 trivial ?rest6
  case hi6 => (simp only [List.getElem?_toArray, List.getElem?_cons_zero, List.getElem?_cons_succ]; rfl)
  case hf6 => kernel_rfl
  case hr6 => kernel_rfl
  case hQ6 => exact fun _ _ _ h => h
  case hy6 =>
    refine Or.inl ⟨by rfl, ?_⟩
    intro W _
    go_simp
    try with_reducible rfl
  try simp only [Act.put, List.setIfInBounds_toArray, List.set_cons_zero, List.set_cons_succ]
  refine' wpAnyH_take (i := 7) (oi := _) (v := _) ?hi7 (by kernel_rfl) ?hf7 ?hr7 ?hQ7 ?hy7 trivial ?rest7
  case hi7 => (simp only [List.getElem?_toArray, List.getElem?_cons_zero, List.getElem?_cons_succ]; rfl)
  case hf7 => kernel_rfl
  case hr7 => kernel_rfl
  case hQ7 => exact fun _ _ _ h => h
  case hy7 =>
    refine Or.inl ⟨by rfl, ?_⟩
    intro W _
    go_simp
    try with_reducible rfl
  try simp only [Act.put, List.setIfInBounds_toArray, List.set_cons_zero, List.set_cons_succ]
  refine' wpAnyH_take (i := 8) (oi := _) (v := _) ?hi8 (by kernel_rfl) ?hf8 ?hr8 ?hQ8 ?hy8 trivial ?rest8
  case hi8 => (simp only [List.getElem?_toArray, List.getElem?_cons_zero, List.getElem?_cons_succ]; rfl)
  case hf8 => kernel_rfl
  case hr8 => kernel_rfl
  case hQ8 => exact fun _ _ _ h => h
  case hy8 =>
    refine Or.inl ⟨by rfl, ?_⟩
    intro W _
    go_simp
    try with_reducible rfl
  try simp only [Act.put, List.setIfInBounds_toArray, List.set_cons_zero, List.set_cons_succ]
  refine wpAnyH_ready (rs := [5]) (by kernel_rfl) (by simp) ?_
  refine' AllReadyH.cons (o := _) ?hi5 (fun K hK => ?_) AllReadyH.nil
  case hi5 => (simp only [List.getElem?_toArray, List.getElem?_cons_zero, List.getElem?_cons_succ]; rfl)
  go_simp
  refine CI.out.mono ?_
  rintro e w2 ⟨A2, c2, rfl, ho2, hb2⟩
  have HO2 := Lib.hid (And.intro ho2 hb2)
  clear ho2 hb2
  refine hK.out _ _ trivial (fun _ => ?_)
  clear hK K
  try simp only [Act.put, List.setIfInBounds_toArray, List.set_cons_zero, List.set_cons_succ]
  refine wpAnyH_ready (rs := [9]) (by kernel_rfl) (by simp) ?_
  refine' AllReadyH.cons (o := _) ?hi9 (fun K hK => ?_) AllReadyH.nil
  case hi9 => (simp only [List.getElem?_toArray, List.getElem?_cons_zero, List.getElem?_cons_succ]; rfl)
  go_simp
  refine (CR.out w2 HO2.out.2).mono ?_
  rintro e w3 ⟨rfl, hb3⟩
  have b3 := below_on HO2.out.2 (Nat.le_refl _) hb3
  have o3 := own_on HO2.out.1 hb3
  have o4 := own_on o3 (below_alloc w3 (.cells (bvs R).toArray 50))
  have b4 := b3.alloc b3.size (.cells (bvs R).toArray 50)
  have i4 : InS (w3.alloc (.cells (bvs R).toArray 50)) (some ⟨w3.heap.size, 0, none⟩) 1 R := InS.of_own (own_sum w3 R 0 hRl (Nat.zero_le _))
  have H4 := Lib.hid (And.intro o4 (And.intro b4 i4))
  clear b3 o3 o4 b4 i4 hb3
  refine hK.out _ _ trivial (fun _ => ?_)
  clear hK K
  try simp only [Act.put, List.setIfInBounds_toArray, List.set_cons_zero, List.set_cons_succ]
  refine wpAnyH_ready (rs := [10]) (by kernel_rfl) (by simp) ?_
  refine' AllReadyH.cons (o := _) ?hi10 (fun K hK => ?_) AllReadyH.nil
  case hi10 => (simp only [List.getElem?_toArray, List.getElem?_cons_zero, List.getElem?_cons_succ]; rfl)
  rw [if_pos (by rfl)]
  refine wp_sums _ [R] 1 rfl rfl (by simp <;> rfl) (by intro q hq; simp at hq; rw [hq]; exact hRl) (by omega) (by omega) ?_
  rw [show [R].flatten = R by simp]
  refine hK.out _ _ trivial (fun _ => ?_)
  clear hK K
  try simp only [Act.put, List.setIfInBounds_toArray, List.set_cons_zero, List.set_cons_succ]
  refine wpAnyH_ready (rs := [11]) (by kernel_rfl) (by simp) ?_
  refine' AllReadyH.cons (o := _) ?hi11 (fun K hK => ?_) AllReadyH.nil
  case hi11 => (simp only [List.getElem?_toArray, List.getElem?_cons_zero, List.getElem?_cons_succ]; rfl)
  refine step_sapp (K := K) (by rfl) _ _ (by rfl) w1.heap.size A2 d c2 L (by rfl) H4.out.1 (some ⟨w3.heap.size, 0, none⟩) 1 1 R (by rfl) H4.out.2.2 (fun h => by cases h) hd9 H4.out.2.1.size ?_
  intro A5 c5 w5 o5 nx5
  refine hK.out _ _ trivial (fun _ => ?_)
  clear hK K
  try simp only [Act.put, List.setIfInBounds_toArray, List.set_cons_zero, List.set_cons_succ]
  refine' wpAnyH_take (i := 12) (oi := _) (v := _) ?hi12 (by kernel_rfl) ?hf12 ?hr12 ?hQ12 ?hy12 trivial ?rest12
  case hi12 => (simp only [List.getElem?_toArray, List.getElem?_cons_zero, List.getElem?_cons_succ]; rfl)
  case hf12 => kernel_rfl
  case hr12 => kernel_rfl
  case hQ12 => exact fun _ _ _ h => h
  case hy12 =>
    refine Or.inl ⟨by rfl, ?_⟩
    intro W _
    go_simp
    try with_reducible rfl
  try simp only [Act.put, List.setIfInBounds_toArray, List.set_cons_zero, List.set_cons_succ]
  refine wpAnyH_done (by kernel_rfl) ?_ _
  go_wp2
  go_ret
  exact ⟨A5, c5, rfl, o5, nx5.below H4.out.1 H4.out.2.1 (Nat.le_refl _) H4.out.2.1.size⟩

set_option maxRecDepth 100000 in
set_option maxHeartbeats 4000000 in
theorem klink_high {ad : Addr} {k m a d : Nat} {L R : List Nat} (hc : n ≤ c) (hn : n ≤ 65536) (h2 : 2 ≤ n) (hfn : from_ < n) (hk0 : cutN n = k) (hm0 : n - k = m) (ha : ¬ from_ ≤ k) (ha0 : from_ - k = a) (hd : d ≤ 100) (hRl : R.length = 32)
    (ci : Calls Tryz.prog 180 #[.slice (some (ad.add (k * 32))) m (c - k), .int .i64 (a : Int), .bool false] w.drew (GivesS w.heap.size w d L))
    (cr : ∀ W : World, Below w.heap.size w W → Calls Tryz.prog 128 #[.slice (some ad) k c] W fun e w' => e = .returned (sv R) ∧ Below W.heap.size W w') :
    Calls Tryz.prog 180 #[.slice (some ad) n c, .int .i64 (from_ : Int), .bool edge] w (GivesS w.heap.size w (d + 1) (L ++ R)) := by
  have hcl := cutN_lt h2
  have hcp := cutN_pos n
  rw [hk0] at hcl hcp
  have hk65 : k ≤ 65536 := by omega
  have ha65 : a ≤ 65536 := by omega
  have hne : ((from_ : Int) == (n : Int)) = false := by simp; omega
  have hai : ¬ (from_ : Int) ≤ (k : Int) := by omega
  have CM := Lib.hid (kleft_any n w h2 (by omega))
  rw [hk0] at CM
  have ht := run_take_sums (ad := ad) (n := n) (c := c) (k := k) (by omega) hc
  have hr := run_drop_sums (ad := ad) (n := n) (c := c) (k := k) hcl hc
  rw [hm0] at hr
  have CI := Lib.hid ci
  have CR := Lib.hid cr
  have HD := Lib.hid hd
  have hd9 : d + 1 ≤ 1000000000 := by omega
  have wn : IntKind.u64.wrap (n : Int) = (n : Int) := by rw [IntKind.wrap_u64]; omega
  have wk : IntKind.i64.wrap (k : Int) = (k : Int) := kwrapI hk65
  have ea : (from_ : Int) - (k : Int) = (a : Int) := by omega
  have wa : wrap64 (a : Int) = (a : Int) := kwrap64 ha65
  have wa2 : IntKind.i64.wrap (a : Int) = (a : Int) := kwrapI ha65
  have wk2 : wrap64 (k : Int) = (k : Int) := kwrap64 hk65
  clear ci cr hcl hcp hc hn h2 hk0 hm0 hd ha hfn hk65 ha0 ha65
  go_enter Tryz.func180, Tryz.ntmps180
  go_wp2_with fail
  refine CM.out.mono ?_
  rintro e w1 ⟨rfl, rfl⟩
  go_upto_region 8 with fail
  refine wp_region_held (S := fun _ => True) (by kernel_rfl) ?_
  change wpAnyH _ _ _ _ _ _ _ _ w1.drew
  refine' wpAnyH_take (i := 0) (oi := _) (v := _) ?hi0 (by kernel_rfl) ?hf0 ?hr0 ?hQ0 ?hy0 trivial ?rest0
  case hi0 => (simp only [List.getElem?_toArray, List.getElem?_cons_zero]; rfl)
  case hf0 => kernel_rfl
  case hr0 => kernel_rfl
  case hQ0 => exact fun _ _ _ h => h
  case hy0 =>
    refine Or.inl ⟨by rfl, ?_⟩
    intro W _
    go_simp
    try with_reducible rfl
  try simp only [Act.put, List.setIfInBounds_toArray, List.set_cons_zero, List.set_cons_succ]
  refine' wpAnyH_take (i := 1) (oi := _) (v := _) ?hi1 (by kernel_rfl) ?hf1 ?hr1 ?hQ1 ?hy1 trivial ?rest1
  case hi1 => (simp only [List.getElem?_toArray, List.getElem?_cons_zero, List.getElem?_cons_succ]; rfl)
  case hf1 => kernel_rfl
  case hr1 => kernel_rfl
  case hQ1 => exact fun _ _ _ h => h
  case hy1 =>
    refine Or.inl ⟨by rfl, ?_⟩
    intro W _
    go_simp
    try with_reducible rfl
  try simp only [Act.put, List.setIfInBounds_toArray, List.set_cons_zero, List.set_cons_succ]
  refine' wpAnyH_take (i := 2) (oi := _) (v := _) ?hi2 (by kernel_rfl) ?hf2 ?hr2 ?hQ2 ?hy2 trivial ?rest2
  case hi2 => (simp only [List.getElem?_toArray, List.getElem?_cons_zero, List.getElem?_cons_succ]; rfl)
  case hf2 => kernel_rfl
  case hr2 => kernel_rfl
  case hQ2 => exact fun _ _ _ h => h
  case hy2 =>
    refine Or.inl ⟨by rfl, ?_⟩
    intro W _
    go_simp
    try with_reducible rfl
  try simp only [Act.put, List.setIfInBounds_toArray, List.set_cons_zero, List.set_cons_succ]
  refine' wpAnyH_take (i := 3) (oi := _) (v := _) ?hi3 (by kernel_rfl) ?hf3 ?hr3 ?hQ3 ?hy3 trivial ?rest3
  case hi3 => (simp only [List.getElem?_toArray, List.getElem?_cons_zero, List.getElem?_cons_succ]; rfl)
  case hf3 => kernel_rfl
  case hr3 => kernel_rfl
  case hQ3 => exact fun _ _ _ h => h
  case hy3 =>
    refine Or.inl ⟨by rfl, ?_⟩
    intro W _
    go_simp
    try with_reducible rfl
  try simp only [Act.put, List.setIfInBounds_toArray, List.set_cons_zero, List.set_cons_succ]
  refine' wpAnyH_take (i := 4) (oi := _) (v := _) ?hi4 (by kernel_rfl) ?hf4 ?hr4 ?hQ4 ?hy4 trivial ?rest4
  case hi4 => (simp only [List.getElem?_toArray, List.getElem?_cons_zero, List.getElem?_cons_succ]; rfl)
  case hf4 => kernel_rfl
  case hr4 => kernel_rfl
  case hQ4 => exact fun _ _ _ h => h
  case hy4 =>
    refine Or.inl ⟨by rfl, ?_⟩
    intro W _
    go_simp
    try with_reducible rfl
  try simp only [Act.put, List.setIfInBounds_toArray, List.set_cons_zero, List.set_cons_succ]
  refine' wpAnyH_take (i := 5) (oi := _) (v := _) ?hi5 (by kernel_rfl) ?hf5 ?hr5 ?hQ5 ?hy5 trivial ?rest5
  case hi5 => (simp only [List.getElem?_toArray, List.getElem?_cons_zero, List.getElem?_cons_succ]; rfl)
  case hf5 => kernel_rfl
  case hr5 => kernel_rfl
  case hQ5 => exact fun _ _ _ h => h
  case hy5 =>
    refine Or.inl ⟨by rfl, ?_⟩
    intro W _
    go_simp
    try with_reducible rfl
  try simp only [Act.put, List.setIfInBounds_toArray, List.set_cons_zero, List.set_cons_succ]
  refine' wpAnyH_take (i := 7) (oi := _) (v := _) ?hi7 (by kernel_rfl) ?hf7 ?hr7 ?hQ7 ?hy7 trivial ?rest7
  case hi7 => (simp only [List.getElem?_toArray, List.getElem?_cons_zero, List.getElem?_cons_succ]; rfl)
  case hf7 => kernel_rfl
  case hr7 => kernel_rfl
  case hQ7 => exact fun _ _ _ h => h
  case hy7 =>
    refine Or.inl ⟨by rfl, ?_⟩
    intro W _
    go_simp
    try with_reducible rfl
  try simp only [Act.put, List.setIfInBounds_toArray, List.set_cons_zero, List.set_cons_succ]
  refine' wpAnyH_take (i := 8) (oi := _) (v := _) ?hi8 (by kernel_rfl) ?hf8 ?hr8 ?hQ8 ?hy8 trivial ?rest8
  case hi8 => (simp only [List.getElem?_toArray, List.getElem?_cons_zero, List.getElem?_cons_succ]; rfl)
  case hf8 => kernel_rfl
  case hr8 => kernel_rfl
  case hQ8 => exact fun _ _ _ h => h
  case hy8 =>
    refine Or.inl ⟨by rfl, ?_⟩
    intro W _
    go_simp
    try with_reducible rfl
  try simp only [Act.put, List.setIfInBounds_toArray, List.set_cons_zero, List.set_cons_succ]
  refine' wpAnyH_take (i := 9) (oi := _) (v := _) ?hi9 (by kernel_rfl) ?hf9 ?hr9 ?hQ9 ?hy9 trivial ?rest9
  case hi9 => (simp only [List.getElem?_toArray, List.getElem?_cons_zero, List.getElem?_cons_succ]; rfl)
  case hf9 => kernel_rfl
  case hr9 => kernel_rfl
  case hQ9 => exact fun _ _ _ h => h
  case hy9 =>
    refine Or.inl ⟨by rfl, ?_⟩
    intro W _
    go_simp
    try with_reducible rfl
  try simp only [Act.put, List.setIfInBounds_toArray, List.set_cons_zero, List.set_cons_succ]
  refine wpAnyH_ready (rs := [6]) (by kernel_rfl) (by simp) ?_
  refine' AllReadyH.cons (o := _) ?hi6 (fun K hK => ?_) AllReadyH.nil
  case hi6 => (simp only [List.getElem?_toArray, List.getElem?_cons_zero, List.getElem?_cons_succ]; rfl)
  go_simp
  refine CI.out.mono ?_
  rintro e w2 ⟨A2, c2, rfl, ho2, hb2⟩
  have HO2 := Lib.hid (And.intro ho2 hb2)
  clear ho2 hb2
  refine hK.out _ _ trivial (fun _ => ?_)
  clear hK K
  try simp only [Act.put, List.setIfInBounds_toArray, List.set_cons_zero, List.set_cons_succ]
  refine wpAnyH_ready (rs := [10]) (by kernel_rfl) (by simp) ?_
  refine' AllReadyH.cons (o := _) ?hi10 (fun K hK => ?_) AllReadyH.nil
  case hi10 => (simp only [List.getElem?_toArray, List.getElem?_cons_zero, List.getElem?_cons_succ]; rfl)
  go_simp
  refine (CR.out w2 HO2.out.2).mono ?_
  rintro e w3 ⟨rfl, hb3⟩
  have b3 := below_on HO2.out.2 (Nat.le_refl _) hb3
  have o3 := own_on HO2.out.1 hb3
  have o4 := own_on o3 (below_alloc w3 (.cells (bvs R).toArray 50))
  have b4 := b3.alloc b3.size (.cells (bvs R).toArray 50)
  have i4 : InS (w3.alloc (.cells (bvs R).toArray 50)) (some ⟨w3.heap.size, 0, none⟩) 1 R := InS.of_own (own_sum w3 R 0 hRl (Nat.zero_le _))
  have H4 := Lib.hid (And.intro o4 (And.intro b4 i4))
  clear b3 o3 o4 b4 i4 hb3
  refine hK.out _ _ trivial (fun _ => ?_)
  clear hK K
  try simp only [Act.put, List.setIfInBounds_toArray, List.set_cons_zero, List.set_cons_succ]
  refine wpAnyH_ready (rs := [11]) (by kernel_rfl) (by simp) ?_
  refine' AllReadyH.cons (o := _) ?hi11 (fun K hK => ?_) AllReadyH.nil
  case hi11 => (simp only [List.getElem?_toArray, List.getElem?_cons_zero, List.getElem?_cons_succ]; rfl)
  rw [if_pos (by rfl)]
  refine wp_sums _ [R] 1 rfl rfl (by simp <;> rfl) (by intro q hq; simp at hq; rw [hq]; exact hRl) (by omega) (by omega) ?_
  rw [show [R].flatten = R by simp]
  refine hK.out _ _ trivial (fun _ => ?_)
  clear hK K
  try simp only [Act.put, List.setIfInBounds_toArray, List.set_cons_zero, List.set_cons_succ]
  refine wpAnyH_ready (rs := [12]) (by kernel_rfl) (by simp) ?_
  refine' AllReadyH.cons (o := _) ?hi12 (fun K hK => ?_) AllReadyH.nil
  case hi12 => (simp only [List.getElem?_toArray, List.getElem?_cons_zero, List.getElem?_cons_succ]; rfl)
  refine step_sapp (K := K) (by rfl) _ _ (by rfl) w1.heap.size A2 d c2 L (by rfl) H4.out.1 (some ⟨w3.heap.size, 0, none⟩) 1 1 R (by rfl) H4.out.2.2 (fun h => by cases h) hd9 H4.out.2.1.size ?_
  intro A5 c5 w5 o5 nx5
  refine hK.out _ _ trivial (fun _ => ?_)
  clear hK K
  try simp only [Act.put, List.setIfInBounds_toArray, List.set_cons_zero, List.set_cons_succ]
  refine' wpAnyH_take (i := 13) (oi := _) (v := _) ?hi13 (by kernel_rfl) ?hf13 ?hr13 ?hQ13 ?hy13 trivial ?rest13
  case hi13 => (simp only [List.getElem?_toArray, List.getElem?_cons_zero, List.getElem?_cons_succ]; rfl)
  case hf13 => kernel_rfl
  case hr13 => kernel_rfl
  case hQ13 => exact fun _ _ _ h => h
  case hy13 =>
    refine Or.inl ⟨by rfl, ?_⟩
    intro W _
    go_simp
    try with_reducible rfl
  try simp only [Act.put, List.setIfInBounds_toArray, List.set_cons_zero, List.set_cons_succ]
  refine wpAnyH_done (by kernel_rfl) ?_ _
  go_wp2
  go_ret
  exact ⟨A5, c5, rfl, o5, nx5.below H4.out.1 H4.out.2.1 (Nat.le_refl _) H4.out.2.1.size⟩

end

end Go.Proofs.YtnaebjdccngeoaaGreatDoor

/-
  links.linkOf whole; links.Of.
-/
namespace Go.Proofs.YtnaebjdccngeoaaGreatDoor
open Go.RowKit

theorem klink_any : ∀ (n from_ : Nat) (edge : Bool) (A : Option Addr) (c : Nat) (ys : List Nat) (w : World), InS w A n ys → (∀ x ∈ ys, x < 256) → n ≤ c → n ≤ 65536 → 1 ≤ from_ → from_ ≤ n → Knows w → Starts w →
    Calls Tryz.prog 180 #[.slice A n c, .int .i64 (from_ : Int), .bool edge] w (GivesS w.heap.size w (ldep from_ n edge) (linkL (nth ys) 0 n from_ edge).flatten) := by
  intro n
  induction n using Nat.strongRecOn with
  | ind n ih =>
    intro from_ edge A c ys w hin hy hc hn h1 hfn hk hs
    by_cases h2 : n < 2 ∨ from_ = n
    · have hf : from_ = n := by omega
      rw [ldep_all h2, linkL_all _ h2]
      cases edge with
      | true => exact klink_edge hf
      | false =>
        simp only [Bool.false_eq_true, if_false, List.flatten_singleton]
        exact klink_root hf (rt_length _ 0 n fun j hj => nth_length hin.len (by omega)) (root_any A n c ys w hin hy hc (by omega) hk hs)
    · have hcl := cutN_lt (m := n) (by omega)
      have hcp := cutN_pos n
      obtain ⟨ad, rfl⟩ := hin.some_ (by omega)
      have hd := ldep_64 (n := n) (by omega) from_ edge
      have lk : ∀ {i m : Nat}, i + m ≤ n → (rt (nth ys) i m).length = 32 := fun {i m} h => rt_length _ i m fun j hj => nth_length hin.len (by omega)
      have dr : Below w.heap.size w w.drew := (Below.refl _ w).drew
      have ytake : ∀ x ∈ ys.take (32 * cutN n), x < 256 := fun x hx => hy x (List.mem_of_mem_take hx)
      have ydrop : ∀ x ∈ ys.drop (32 * cutN n), x < 256 := fun x hx => hy x (List.mem_of_mem_drop hx)
      by_cases ha : from_ ≤ cutN n
      · rw [ldep_low h2 ha] at hd ⊢
        rw [linkL_low _ h2 ha, List.flatten_append, List.flatten_singleton, Nat.zero_add]
        refine klink_low hc hn (by omega) (by omega) rfl rfl ha (by omega) (lk (by omega)) ?_ ?_
        · have := ih (cutN n) hcl from_ edge (some ad) c (ys.take (32 * cutN n)) w.drew ((hin.take (k := cutN n) (by omega)).below dr) ytake (by omega) (by omega) h1 ha (hk.below dr) (hs.below dr)
          rw [linkL_congr (nth (ys.take (32 * cutN n))) (nth ys) (cutN n) 0 0 from_ edge (fun j hj => by rw [Nat.zero_add]; exact nth_take hj)] at this
          exact this.mono fun e w' ⟨A', c', he, ho, hb⟩ => ⟨A', c', he, ho, dr.trans hb⟩
        · intro W hW
          have := root_any (some (ad.add (cutN n * 32))) (n - cutN n) (c - cutN n) (ys.drop (32 * cutN n)) W ((hin.drop_ _ (by omega)).below hW) ydrop (by omega) (by omega) (hk.below hW) (hs.below hW)
          rw [rt_drop] at this
          exact this
      · rw [ldep_high h2 ha] at hd ⊢
        rw [linkL_high _ h2 ha, List.flatten_append, List.flatten_singleton, Nat.zero_add]
        refine klink_high hc hn (by omega) (by omega) rfl rfl ha rfl (by omega) (lk (by omega)) ?_ ?_
        · have := ih (n - cutN n) (by omega) (from_ - cutN n) false (some (ad.add (cutN n * 32))) (c - cutN n) (ys.drop (32 * cutN n)) w.drew ((hin.drop_ (cutN n) (by omega)).below dr) ydrop (by omega) (by omega) (by omega) (by omega) (hk.below dr) (hs.below dr)
          rw [linkL_congr (nth (ys.drop (32 * cutN n))) (nth ys) (n - cutN n) 0 (cutN n) (from_ - cutN n) false (fun j hj => by rw [Nat.zero_add]; exact nth_drop _ _ _)] at this
          exact this.mono fun e w' ⟨A', c', he, ho, hb⟩ => ⟨A', c', he, ho, dr.trans hb⟩
        · intro W hW
          have := root_any (some ad) (cutN n) c (ys.take (32 * cutN n)) W ((hin.take (by omega)).below hW) ytake (by omega) (by omega) (hk.below hW) (hs.below hW)
          rw [rt_take] at this
          exact this

set_option maxRecDepth 100000 in
set_option maxHeartbeats 1000000 in
/-- links.Of of no beginning. -/
theorem kof_no {w : World} {n c : Nat} {A : Option Addr} (z : Int) (h : z < 1 ∨ (n : Int) < z) :
    Calls Tryz.prog 130 #[.slice A n c, .int .i64 z] w fun e w' => e = .returned (.tuple #[.slice none 0 0, .int .i64 1]) ∧ w' = w := by
  by_cases h0 : z < 1
  · go_enter Tryz.func130, Tryz.ntmps130
    go_wp2_with fail
    go_ret2
    exact ⟨rfl, rfl⟩
  · have h1 : (n : Int) < z := by omega
    have hd : decide (z < 1) = false := by simp; omega
    go_enter Tryz.func130, Tryz.ntmps130
    go_wp2_with fail
    go_ret2
    exact ⟨rfl, rfl⟩

set_option maxRecDepth 100000 in
set_option maxHeartbeats 1000000 in
/-- links.Of. -/
theorem kof_yes {w : World} {n c from_ : Nat} {A : Option Addr} {ys : List Nat} (hin : InS w A n ys) (hy : ∀ x ∈ ys, x < 256) (hc : n ≤ c) (hn : n ≤ 65536) (h1 : 1 ≤ from_) (hfn : from_ ≤ n) (hk : Knows w) (hs : Starts w) :
    Calls Tryz.prog 130 #[.slice A n c, .int .i64 (from_ : Int)] w fun e w' => ∃ A' c', e = .returned (.tuple #[.slice A' (ldep from_ n true) c', .int .i64 0]) ∧ w'.ownsRow w.heap.size 50 32 (.slice A' (ldep from_ n true) c') (ldep from_ n true) (bvs (linkL (nth ys) 0 n from_ true).flatten) ∧ Below w.heap.size w w' := by
  have C := Lib.hid (klink_any n from_ true A c ys w hin hy hc hn h1 hfn hk hs)
  have h0 : ¬ (from_ : Int) < 1 := by omega
  have hd : decide ((from_ : Int) < 1) = false := by simp; omega
  have h2 : ¬ (n : Int) < (from_ : Int) := by omega
  clear hin hy hc hn h1 hfn hk hs
  go_enter Tryz.func130, Tryz.ntmps130
  go_wp2_with fail
  refine C.out.mono ?_
  rintro e w1 ⟨A', c', rfl, ho, hb⟩
  go_wp2_with fail
  go_ret2
  exact ⟨A', c', rfl, ho, hb⟩

end Go.Proofs.YtnaebjdccngeoaaGreatDoor

/-
  chains: Path, Link.
-/
namespace Go.Proofs.YtnaebjdccngeoaaGreatDoor
open Go.RowKit

section
variable {w w' : World} {g gf fc : Nat} {fA : Option Addr} {v : Value} {E : List (List Value)} {G : Nat → Prop} {l : List (List Nat)}

set_option maxRecDepth 100000 in
theorem hfpath_of {w : World} {s z : Value} {R : Value → Value → World → Prop} (h : Calls Tryz.prog 129 #[s, z] w fun e w' => ∃ u c, e = .returned (.tuple #[u, c]) ∧ R u c w') :
    Calls Tryz.prog 59 #[s, z] w fun e w' => ∃ u c, e = .returned (.tuple #[u, c]) ∧ R u c w' := by
  have C := Lib.hid h
  clear h
  go_enter Tryz.func59, Tryz.ntmps59
  go_wp2_with fail
  refine C.out.mono ?_
  rintro e w2 ⟨u, c, rfl, hr⟩
  have HR := Lib.hid hr
  clear hr
  go_wp2_with fail
  go_ret2
  exact ⟨u, c, rfl, HR.out⟩

set_option maxRecDepth 100000 in
theorem hflink_of {w : World} {s z : Value} {R : Value → Value → World → Prop} (h : Calls Tryz.prog 130 #[s, z] w fun e w' => ∃ u c, e = .returned (.tuple #[u, c]) ∧ R u c w') :
    Calls Tryz.prog 60 #[s, z] w fun e w' => ∃ u c, e = .returned (.tuple #[u, c]) ∧ R u c w' := by
  have C := Lib.hid h
  clear h
  go_enter Tryz.func60, Tryz.ntmps60
  go_wp2_with fail
  refine C.out.mono ?_
  rintro e w2 ⟨u, c, rfl, hr⟩
  have HR := Lib.hid hr
  clear hr
  go_wp2_with fail
  go_ret2
  exact ⟨u, c, rfl, HR.out⟩

set_option maxRecDepth 100000 in
theorem htold_path {w : World} {s : Value} {a n q : Nat} (hn : n ≤ 65536) (hq : min a (n + 1) = q) {R : Value → Value → World → Prop} (h : Calls Tryz.prog 59 #[s, .int .i64 (q : Int)] w fun e w' => ∃ u c, e = .returned (.tuple #[u, c]) ∧ R u c w') :
    Calls Tryz.prog 58 #[.func (.func 59) #[s] #[], .int .u64 (a : Int), .int .u64 (n : Int)] w fun e w' => ∃ u c, e = .returned (.tuple #[u, c]) ∧ R u c w' := by
  have C := Lib.hid h
  have hqi := Lib.hid (show min (a : Int) ((n : Int) + 1) = (q : Int) by omega)
  clear h hq
  go_enter Tryz.func58, Tryz.ntmps58
  go_wp2_with fail
  rw [hqi.out]
  refine C.out.mono ?_
  rintro e w2 ⟨u, c, rfl, hr⟩
  have HR := Lib.hid hr
  clear hr
  go_wp2_with fail
  go_ret2
  exact ⟨u, c, rfl, HR.out⟩

set_option maxRecDepth 100000 in
set_option maxHeartbeats 1000000 in
theorem hpath_gen (h : ChainAt w g gf fA fc v E G l) {n a : Nat} (hn : n ≤ l.length) (hl : l.length ≤ 65536) {R : Value → Value → World → Prop}
    (hR : ∀ A c w2, w2.ownsRow w.heap.size 50 32 (.slice A n c) n (bvs (leavesL (l.take n))) → Below w.heap.size w w2 → Calls Tryz.prog 129 #[.slice A n c, .int .i64 ((min a (n + 1) : Nat) : Int)] w2 fun e w' => ∃ u c, e = .returned (.tuple #[u, c]) ∧ R u c w') :
    Calls Tryz.prog 15 #[.pointer (some ⟨g, 0, none⟩), .int .u64 (a : Int), .int .u64 (n : Int)] w fun e w' => ∃ u c, e = .returned (.tuple #[u, c]) ∧ R u c w' := by
  have C := Lib.hid (hhas_at h n)
  rw [hasE, if_pos hn] at C
  have F := Lib.hid (hfirst_at h hn hl)
  have hmf : ∀ (fn : Fn) (first cap : Array Value) (w : World), (Instr.makeFunc fn first cap).run Tryz.prog w = .ok (.func fn first cap) w := fun _ _ _ _ => rfl
  have HR := Lib.hid (fun A c w2 ho hb => htold_path (a := a) (n := n) (by omega) rfl (hfpath_of (hR A c w2 ho hb)))
  clear h hn hl hR
  go_enter Tryz.func15, Tryz.ntmps15
  go_wp2_with fail
  refine C.out.mono ?_
  rintro e w' ⟨rfl, rfl⟩
  go_wp2_with fail
  refine F.out.mono ?_
  rintro e w2 ⟨A, c, rfl, ho, hb⟩
  have H2 := Lib.hid (HR.out A c w2 ho hb)
  clear ho hb
  go_wp2_with fail
  refine H2.out.mono ?_
  rintro e w3 ⟨u, c3, rfl, hr⟩
  have HR3 := Lib.hid hr
  clear hr
  go_wp2_with fail
  go_ret2
  exact ⟨u, c3, rfl, HR3.out⟩

set_option maxRecDepth 100000 in
set_option maxHeartbeats 1000000 in
theorem hpath_far (h : ChainAt w g gf fA fc v E G l) {n : Nat} (hn : ¬ n ≤ l.length) (a : Nat) :
    Calls Tryz.prog 15 #[.pointer (some ⟨g, 0, none⟩), .int .u64 (a : Int), .int .u64 (n : Int)] w fun e w' => e = .returned (.tuple #[.slice none 0 0, .int .i64 1]) ∧ w' = w := by
  have C := Lib.hid (hhas_at h n)
  rw [hasE, if_neg hn] at C
  clear h hn
  go_enter Tryz.func15, Tryz.ntmps15
  go_wp2_with fail
  refine C.out.mono ?_
  rintro e w' ⟨rfl, rfl⟩
  go_wp2_with fail
  go_ret2
  exact ⟨rfl, rfl⟩

set_option maxRecDepth 100000 in
theorem htold_link {w : World} {s : Value} {a n q : Nat} (hn : n ≤ 65536) (hq : min a (n + 1) = q) {R : Value → Value → World → Prop} (h : Calls Tryz.prog 60 #[s, .int .i64 (q : Int)] w fun e w' => ∃ u c, e = .returned (.tuple #[u, c]) ∧ R u c w') :
    Calls Tryz.prog 58 #[.func (.func 60) #[s] #[], .int .u64 (a : Int), .int .u64 (n : Int)] w fun e w' => ∃ u c, e = .returned (.tuple #[u, c]) ∧ R u c w' := by
  have C := Lib.hid h
  have hqi := Lib.hid (show min (a : Int) ((n : Int) + 1) = (q : Int) by omega)
  clear h hq
  go_enter Tryz.func58, Tryz.ntmps58
  go_wp2_with fail
  rw [hqi.out]
  refine C.out.mono ?_
  rintro e w2 ⟨u, c, rfl, hr⟩
  have HR := Lib.hid hr
  clear hr
  go_wp2_with fail
  go_ret2
  exact ⟨u, c, rfl, HR.out⟩

set_option maxRecDepth 100000 in
set_option maxHeartbeats 1000000 in
theorem hlink_gen (h : ChainAt w g gf fA fc v E G l) {n a : Nat} (hn : n ≤ l.length) (hl : l.length ≤ 65536) {R : Value → Value → World → Prop}
    (hR : ∀ A c w2, w2.ownsRow w.heap.size 50 32 (.slice A n c) n (bvs (leavesL (l.take n))) → Below w.heap.size w w2 → Calls Tryz.prog 130 #[.slice A n c, .int .i64 ((min a (n + 1) : Nat) : Int)] w2 fun e w' => ∃ u c, e = .returned (.tuple #[u, c]) ∧ R u c w') :
    Calls Tryz.prog 16 #[.pointer (some ⟨g, 0, none⟩), .int .u64 (a : Int), .int .u64 (n : Int)] w fun e w' => ∃ u c, e = .returned (.tuple #[u, c]) ∧ R u c w' := by
  have C := Lib.hid (hhas_at h n)
  rw [hasE, if_pos hn] at C
  have F := Lib.hid (hfirst_at h hn hl)
  have hmf : ∀ (fn : Fn) (first cap : Array Value) (w : World), (Instr.makeFunc fn first cap).run Tryz.prog w = .ok (.func fn first cap) w := fun _ _ _ _ => rfl
  have HR := Lib.hid (fun A c w2 ho hb => htold_link (a := a) (n := n) (by omega) rfl (hflink_of (hR A c w2 ho hb)))
  clear h hn hl hR
  go_enter Tryz.func16, Tryz.ntmps16
  go_wp2_with fail
  refine C.out.mono ?_
  rintro e w' ⟨rfl, rfl⟩
  go_wp2_with fail
  refine F.out.mono ?_
  rintro e w2 ⟨A, c, rfl, ho, hb⟩
  have H2 := Lib.hid (HR.out A c w2 ho hb)
  clear ho hb
  go_wp2_with fail
  refine H2.out.mono ?_
  rintro e w3 ⟨u, c3, rfl, hr⟩
  have HR3 := Lib.hid hr
  clear hr
  go_wp2_with fail
  go_ret2
  exact ⟨u, c3, rfl, HR3.out⟩

set_option maxRecDepth 100000 in
set_option maxHeartbeats 1000000 in
theorem hlink_far (h : ChainAt w g gf fA fc v E G l) {n : Nat} (hn : ¬ n ≤ l.length) (a : Nat) :
    Calls Tryz.prog 16 #[.pointer (some ⟨g, 0, none⟩), .int .u64 (a : Int), .int .u64 (n : Int)] w fun e w' => e = .returned (.tuple #[.slice none 0 0, .int .i64 1]) ∧ w' = w := by
  have C := Lib.hid (hhas_at h n)
  rw [hasE, if_neg hn] at C
  clear h hn
  go_enter Tryz.func16, Tryz.ntmps16
  go_wp2_with fail
  refine C.out.mono ?_
  rintro e w' ⟨rfl, rfl⟩
  go_wp2_with fail
  go_ret2
  exact ⟨rfl, rfl⟩

theorem hpath_yes (h : ChainAt w g gf fA fc v E G l) {n a : Nat} (hn : n ≤ l.length) (hl : l.length ≤ 65536) (ha : a < n) (hk : Knows w) (hs : Starts w) :
    Calls Tryz.prog 15 #[.pointer (some ⟨g, 0, none⟩), .int .u64 (a : Int), .int .u64 (n : Int)] w fun e w' => ∃ u c, e = .returned (.tuple #[u, c]) ∧
      (∃ A' c', u = .slice A' (dep a n) c' ∧ c = .int .i64 0 ∧ w'.ownsRow w.heap.size 50 32 (.slice A' (dep a n) c') (dep a n) (bvs (pathL (lf l) 0 n a).flatten) ∧ Below w.heap.size w w') := by
  refine hpath_gen (R := fun u c w' => ∃ A' c', u = .slice A' (dep a n) c' ∧ c = .int .i64 0 ∧ w'.ownsRow w.heap.size 50 32 (.slice A' (dep a n) c') (dep a n) (bvs (pathL (lf l) 0 n a).flatten) ∧ Below w.heap.size w w') h hn hl fun A c w2 ho hb => ?_
  rw [Nat.min_eq_left (show a ≤ n + 1 by omega)]
  refine (pof_yes (InS.of_own ho) (leavesL_lt _) (own_cap ho) (by omega) ha (hk.below hb) (hs.below hb)).mono ?_
  rintro e w3 ⟨A', c', rfl, ho3, hb3⟩
  rw [path_first l hn] at ho3
  exact ⟨_, _, rfl, A', c', rfl, rfl, own_rebase ho3 (fun b e => Nat.le_trans hb.size (ho3.lt b e).1), below_on hb (Nat.le_refl _) hb3⟩
theorem hpath_no (h : ChainAt w g gf fA fc v E G l) {n a : Nat} (hn : n ≤ l.length) (hl : l.length ≤ 65536) (ha : ¬ a < n) :
    Calls Tryz.prog 15 #[.pointer (some ⟨g, 0, none⟩), .int .u64 (a : Int), .int .u64 (n : Int)] w fun e w' => ∃ u c, e = .returned (.tuple #[u, c]) ∧ (u = .slice none 0 0 ∧ c = .int .i64 1 ∧ Below w.heap.size w w') := by
  refine hpath_gen (R := fun u c w' => u = .slice none 0 0 ∧ c = .int .i64 1 ∧ Below w.heap.size w w') h hn hl fun A c w2 ho hb => ?_
  refine (pof_no _ (.inr (by omega))).mono ?_
  rintro e w3 ⟨rfl, rfl⟩
  exact ⟨_, _, rfl, rfl, rfl, hb⟩
theorem hlink_yes (h : ChainAt w g gf fA fc v E G l) {n a : Nat} (hn : n ≤ l.length) (hl : l.length ≤ 65536) (h1 : 1 ≤ a) (ha : a ≤ n) (hk : Knows w) (hs : Starts w) :
    Calls Tryz.prog 16 #[.pointer (some ⟨g, 0, none⟩), .int .u64 (a : Int), .int .u64 (n : Int)] w fun e w' => ∃ u c, e = .returned (.tuple #[u, c]) ∧
      (∃ A' c', u = .slice A' (ldep a n true) c' ∧ c = .int .i64 0 ∧ w'.ownsRow w.heap.size 50 32 (.slice A' (ldep a n true) c') (ldep a n true) (bvs (linkL (lf l) 0 n a true).flatten) ∧ Below w.heap.size w w') := by
  refine hlink_gen (R := fun u c w' => ∃ A' c', u = .slice A' (ldep a n true) c' ∧ c = .int .i64 0 ∧ w'.ownsRow w.heap.size 50 32 (.slice A' (ldep a n true) c') (ldep a n true) (bvs (linkL (lf l) 0 n a true).flatten) ∧ Below w.heap.size w w') h hn hl fun A c w2 ho hb => ?_
  rw [Nat.min_eq_left (show a ≤ n + 1 by omega)]
  refine (kof_yes (InS.of_own ho) (leavesL_lt _) (own_cap ho) (by omega) h1 ha (hk.below hb) (hs.below hb)).mono ?_
  rintro e w3 ⟨A', c', rfl, ho3, hb3⟩
  rw [link_first l hn] at ho3
  exact ⟨_, _, rfl, A', c', rfl, rfl, own_rebase ho3 (fun b e => Nat.le_trans hb.size (ho3.lt b e).1), below_on hb (Nat.le_refl _) hb3⟩
theorem hlink_no (h : ChainAt w g gf fA fc v E G l) {n a : Nat} (hn : n ≤ l.length) (hl : l.length ≤ 65536) (ha : ¬ (1 ≤ a ∧ a ≤ n)) :
    Calls Tryz.prog 16 #[.pointer (some ⟨g, 0, none⟩), .int .u64 (a : Int), .int .u64 (n : Int)] w fun e w' => ∃ u c, e = .returned (.tuple #[u, c]) ∧ (u = .slice none 0 0 ∧ c = .int .i64 1 ∧ Below w.heap.size w w') := by
  refine hlink_gen (R := fun u c w' => u = .slice none 0 0 ∧ c = .int .i64 1 ∧ Below w.heap.size w w') h hn hl fun A c w2 ho hb => ?_
  refine (kof_no _ (by omega)).mono ?_
  rintro e w3 ⟨rfl, rfl⟩
  exact ⟨_, _, rfl, rfl, rfl, hb⟩
end

end Go.Proofs.YtnaebjdccngeoaaGreatDoor

/-
  chains: what each call answers, whatever is asked, as functions of the entries.
-/
namespace Go.Proofs.YtnaebjdccngeoaaGreatDoor
open Go.RowKit

def markV (l : List (List Nat)) (n : Nat) : List Nat := if n ≤ l.length then markL (l.take n) else zero32
def rootV (l : List (List Nat)) (n : Nat) : List Nat := if n ≤ l.length then rt (lf l) 0 n else zero32
def pathOk (l : List (List Nat)) (a n : Nat) : Prop := n ≤ l.length ∧ a < n
def linkOk (l : List (List Nat)) (a n : Nat) : Prop := n ≤ l.length ∧ 1 ≤ a ∧ a ≤ n
instance (l : List (List Nat)) (a n : Nat) : Decidable (pathOk l a n) := inferInstanceAs (Decidable (_ ∧ _))
instance (l : List (List Nat)) (a n : Nat) : Decidable (linkOk l a n) := inferInstanceAs (Decidable (_ ∧ _))
def pathE (l : List (List Nat)) (a n : Nat) : Int := if pathOk l a n then 0 else 1
def linkE (l : List (List Nat)) (a n : Nat) : Int := if linkOk l a n then 0 else 1
def pathN (l : List (List Nat)) (a n : Nat) : Nat := if pathOk l a n then dep a n else 0
def linkN (l : List (List Nat)) (a n : Nat) : Nat := if linkOk l a n then ldep a n true else 0
def pathS (l : List (List Nat)) (a n : Nat) : List Nat := if pathOk l a n then (pathL (lf l) 0 n a).flatten else []
def linkS (l : List (List Nat)) (a n : Nat) : List Nat := if linkOk l a n then (linkL (lf l) 0 n a true).flatten else []

theorem markV_length (l : List (List Nat)) (n : Nat) : (markV l n).length = 32 := by unfold markV; split; exact markL_length _; rfl
theorem markV_lt (l : List (List Nat)) (n : Nat) : ∀ x ∈ markV l n, x < 256 := by unfold markV; split; exact markL_lt _; exact zero32_lt
theorem rootV_length (l : List (List Nat)) (n : Nat) : (rootV l n).length = 32 := by
  unfold rootV; split
  · exact rt_length (lf l) 0 n fun j _ => lf_length l _
  · rfl
theorem rootV_lt (l : List (List Nat)) (n : Nat) : ∀ x ∈ rootV l n, x < 256 := by
  unfold rootV; split
  · exact rt_lt (lf l) 0 n fun j _ => lf_lt l _
  · exact zero32_lt
theorem pathS_lt (l : List (List Nat)) (a n : Nat) : ∀ x ∈ pathS l a n, x < 256 := by
  unfold pathS; split
  · intro x hx
    obtain ⟨q, hq, hxq⟩ := List.mem_flatten.1 hx
    exact pathL_of (P := fun q => ∀ x ∈ q, x < 256) (lf l) n 0 a (fun i m => rt_lt (lf l) i m fun j _ => lf_lt l _) q hq x hxq
  · intro x hx; cases hx
theorem linkS_lt (l : List (List Nat)) (a n : Nat) : ∀ x ∈ linkS l a n, x < 256 := by
  unfold linkS; split
  · intro x hx
    obtain ⟨q, hq, hxq⟩ := List.mem_flatten.1 hx
    exact linkL_of (P := fun q => ∀ x ∈ q, x < 256) (lf l) n 0 a true (fun i m => rt_lt (lf l) i m fun j _ => lf_lt l _) q hq x hxq
  · intro x hx; cases hx

section
variable {w : World} {g : Nat} {G : Nat → Prop} {l : List (List Nat)}
theorem c_size (h : Chain w g G l) : Calls Tryz.prog 11 #[.pointer (some ⟨g, 0, none⟩)] w fun e w' => e = .returned (.int .u64 (l.length : Int)) ∧ w' = w := by
  obtain ⟨⟨gf, fA, fc, v, E, h⟩, hG⟩ := h
  exact hsize_at h
theorem c_mark (h : Chain w g G l) (hl : l.length ≤ 65536) (n : Nat) :
    Calls Tryz.prog 13 #[.pointer (some ⟨g, 0, none⟩), .int .u64 (n : Int)] w fun e w' => e = .returned (.tuple #[sv (markV l n), .int .i64 (hasE l n)]) ∧ Below w.heap.size w w' := by
  obtain ⟨⟨gf, fA, fc, v, E, h⟩, hG⟩ := h
  unfold markV hasE
  by_cases hn : n ≤ l.length
  · rw [if_pos hn, if_pos hn]; exact hmark_yes h hG hn hl
  · rw [if_neg hn, if_neg hn]; exact hmark_no h hG hn
theorem c_root (h : Chain w g G l) (hl : l.length ≤ 65536) (n : Nat) (hk : Knows w) (hs : Starts w) :
    Calls Tryz.prog 14 #[.pointer (some ⟨g, 0, none⟩), .int .u64 (n : Int)] w fun e w' => e = .returned (.tuple #[sv (rootV l n), .int .i64 (hasE l n)]) ∧ Below w.heap.size w w' := by
  obtain ⟨⟨gf, fA, fc, v, E, h⟩, hG⟩ := h
  unfold rootV hasE
  by_cases hn : n ≤ l.length
  · rw [if_pos hn, if_pos hn]; exact hroot_yes h hG hn hl hk hs
  · rw [if_neg hn, if_neg hn]; exact hroot_no h hG hn
theorem c_path (h : Chain w g G l) (hl : l.length ≤ 65536) (a n : Nat) (hk : Knows w) (hs : Starts w) :
    Calls Tryz.prog 15 #[.pointer (some ⟨g, 0, none⟩), .int .u64 (a : Int), .int .u64 (n : Int)] w fun e w' => ∃ A c, e = .returned (.tuple #[.slice A (pathN l a n) c, .int .i64 (pathE l a n)]) ∧
      w'.ownsRow w.heap.size 50 32 (.slice A (pathN l a n) c) (pathN l a n) (bvs (pathS l a n)) ∧ Below w.heap.size w w' := by
  obtain ⟨⟨gf, fA, fc, v, E, h⟩, hG⟩ := h
  unfold pathE pathN pathS
  by_cases hn : n ≤ l.length
  · by_cases ha : a < n
    · have ok : pathOk l a n := ⟨hn, ha⟩
      rw [if_pos ok, if_pos ok, if_pos ok]
      refine (hpath_yes h hn hl ha hk hs).mono ?_
      rintro e w' ⟨u, c, rfl, A, c', rfl, rfl, ho, hb⟩
      exact ⟨A, c', rfl, ho, hb⟩
    · have ok : ¬ pathOk l a n := fun h => ha h.2
      rw [if_neg ok, if_neg ok, if_neg ok]
      refine (hpath_no h hn hl ha).mono ?_
      rintro e w' ⟨u, c, rfl, rfl, rfl, hb⟩
      exact ⟨none, 0, rfl, own_none _ _ _ _, hb⟩
  · have ok : ¬ pathOk l a n := fun h => hn h.1
    rw [if_neg ok, if_neg ok, if_neg ok]
    refine (hpath_far h hn a).mono ?_
    rintro e w' ⟨rfl, rfl⟩
    exact ⟨none, 0, rfl, own_none _ _ _ _, Below.refl _ _⟩
theorem c_link (h : Chain w g G l) (hl : l.length ≤ 65536) (a n : Nat) (hk : Knows w) (hs : Starts w) :
    Calls Tryz.prog 16 #[.pointer (some ⟨g, 0, none⟩), .int .u64 (a : Int), .int .u64 (n : Int)] w fun e w' => ∃ A c, e = .returned (.tuple #[.slice A (linkN l a n) c, .int .i64 (linkE l a n)]) ∧
      w'.ownsRow w.heap.size 50 32 (.slice A (linkN l a n) c) (linkN l a n) (bvs (linkS l a n)) ∧ Below w.heap.size w w' := by
  obtain ⟨⟨gf, fA, fc, v, E, h⟩, hG⟩ := h
  unfold linkE linkN linkS
  by_cases hn : n ≤ l.length
  · by_cases ha : 1 ≤ a ∧ a ≤ n
    · have ok : linkOk l a n := ⟨hn, ha⟩
      rw [if_pos ok, if_pos ok, if_pos ok]
      refine (hlink_yes h hn hl ha.1 ha.2 hk hs).mono ?_
      rintro e w' ⟨u, c, rfl, A, c', rfl, rfl, ho, hb⟩
      exact ⟨A, c', rfl, ho, hb⟩
    · have ok : ¬ linkOk l a n := fun h => ha h.2
      rw [if_neg ok, if_neg ok, if_neg ok]
      refine (hlink_no h hn hl ha).mono ?_
      rintro e w' ⟨u, c, rfl, rfl, rfl, hb⟩
      exact ⟨none, 0, rfl, own_none _ _ _ _, hb⟩
  · have ok : ¬ linkOk l a n := fun h => hn h.1
    rw [if_neg ok, if_neg ok, if_neg ok]
    refine (hlink_far h hn a).mono ?_
    rintro e w' ⟨rfl, rfl⟩
    exact ⟨none, 0, rfl, own_none _ _ _ _, Below.refl _ _⟩
/-- An entry, or none. -/
theorem c_entry (h : Chain w g G l) (n : Nat) :
    Calls Tryz.prog 12 #[.pointer (some ⟨g, 0, none⟩), .int .u64 (n : Int)] w fun e w' => ∃ A c, e = .returned (.tuple #[.slice A (l.getD n []).length c, .int .i64 (if n < l.length then 0 else 1)]) ∧
      w'.ownsRow w.heap.size 5 1 (.slice A (l.getD n []).length c) (l.getD n []).length (bvs (l.getD n [])) ∧ Below w.heap.size w w' := by
  obtain ⟨⟨gf, fA, fc, v, E, h⟩, hG⟩ := h
  by_cases hn : n < l.length
  · rw [if_pos hn, List.getD_eq_getElem?_getD, List.getElem?_eq_getElem hn]
    refine (hentry_yes h (List.getElem?_eq_getElem hn)).mono ?_
    rintro e w' ⟨u, rfl, ho, hb⟩
    obtain ⟨A, c, rfl⟩ := own_form ho
    exact ⟨A, c, rfl, ho, hb⟩
  · rw [if_neg hn, List.getD_eq_getElem?_getD, List.getElem?_eq_none (by omega)]
    refine (hentry_no h (by omega)).mono ?_
    rintro e w' ⟨rfl, rfl⟩
    exact ⟨none, 0, rfl, own_none _ _ _ _, Below.refl _ _⟩
end

end Go.Proofs.YtnaebjdccngeoaaGreatDoor

/-
  The mark of a number as a sum.
-/
namespace Go.Proofs.YtnaebjdccngeoaaGreatDoor
open Go.RowKit

/-- The bytes of a mark. -/
def mark32 (num : Nat) : List Nat := (num % 256) :: List.replicate 31 0
theorem mark32_length (num : Nat) : (mark32 num).length = 32 := rfl
theorem mark32_lt (num : Nat) : ∀ y ∈ mark32 num, y < 256 := by
  intro y hy
  rcases List.mem_cons.1 hy with rfl | hy
  · exact Nat.mod_lt _ (by decide)
  · rw [List.eq_of_mem_replicate hy]; decide
theorem mark_head (num : Nat) : Value.int .u8 ((num : Int) % 256) = bv (num % 256) := by
  show Value.int .u8 ((num : Int) % 256) = .int .u8 (((num % 256 : Nat)) : Int)
  rw [Int.natCast_emod]
  rfl
theorem lit32_tail (v : Value) : (#[v, .int .u8 0, .int .u8 0, .int .u8 0, .int .u8 0, .int .u8 0, .int .u8 0, .int .u8 0, .int .u8 0, .int .u8 0, .int .u8 0, .int .u8 0, .int .u8 0, .int .u8 0, .int .u8 0, .int .u8 0, .int .u8 0, .int .u8 0, .int .u8 0, .int .u8 0, .int .u8 0, .int .u8 0, .int .u8 0, .int .u8 0, .int .u8 0, .int .u8 0, .int .u8 0, .int .u8 0, .int .u8 0, .int .u8 0, .int .u8 0, .int .u8 0] : Array Value) = (v :: bvs (List.replicate 31 0)).toArray := rfl
theorem lit32_mark (num : Nat) : (Value.agg #[.int .u8 ((num : Int) % 256), .int .u8 0, .int .u8 0, .int .u8 0, .int .u8 0, .int .u8 0, .int .u8 0, .int .u8 0, .int .u8 0, .int .u8 0, .int .u8 0, .int .u8 0, .int .u8 0, .int .u8 0, .int .u8 0, .int .u8 0, .int .u8 0, .int .u8 0, .int .u8 0, .int .u8 0, .int .u8 0, .int .u8 0, .int .u8 0, .int .u8 0, .int .u8 0, .int .u8 0, .int .u8 0, .int .u8 0, .int .u8 0, .int .u8 0, .int .u8 0, .int .u8 0]) = sv (mark32 num) := by
  rw [lit32_tail, mark_head]
  rfl
/-- A mark into a variable of noughts. -/
theorem wpList_store_mark {ops : Array Oper} {rest : List Oper} {o : Oper} {a : Act} {w : World} {Q : Exit → Act → World → Prop} (num : Nat) (hgd : o.guard = none) (x y : Operand) (ho : o.op = .store 50 x y)
    (g : Nat) (hx : a.eval x = .pointer (some ⟨g, 0, none⟩)) (hg : w.heap[g]? = some (.cells #[.int .u8 0, .int .u8 0, .int .u8 0, .int .u8 0, .int .u8 0, .int .u8 0, .int .u8 0, .int .u8 0, .int .u8 0, .int .u8 0, .int .u8 0, .int .u8 0, .int .u8 0, .int .u8 0, .int .u8 0, .int .u8 0, .int .u8 0, .int .u8 0, .int .u8 0, .int .u8 0, .int .u8 0, .int .u8 0, .int .u8 0, .int .u8 0, .int .u8 0, .int .u8 0, .int .u8 0, .int .u8 0, .int .u8 0, .int .u8 0, .int .u8 0, .int .u8 0] 50 (0, 0))) (hy : a.eval y = .agg #[.int .u8 ((num : Int) % 256), .int .u8 0, .int .u8 0, .int .u8 0, .int .u8 0, .int .u8 0, .int .u8 0, .int .u8 0, .int .u8 0, .int .u8 0, .int .u8 0, .int .u8 0, .int .u8 0, .int .u8 0, .int .u8 0, .int .u8 0, .int .u8 0, .int .u8 0, .int .u8 0, .int .u8 0, .int .u8 0, .int .u8 0, .int .u8 0, .int .u8 0, .int .u8 0, .int .u8 0, .int .u8 0, .int .u8 0, .int .u8 0, .int .u8 0, .int .u8 0, .int .u8 0])
    (h : ∀ w', BArr w' g 50 (mark32 num) → Only g w w' → wpList Tryz.prog ops Q rest (a.put o.dst undef) w') : wpList Tryz.prog ops Q (o :: rest) a w := by
  rw [lit32_mark] at hy
  exact wpList_store_row hgd 50 x y ho g (bvs (mark32 num)).toArray hx hy 50 (bvs zero32).toArray hg sizeSum rfl (all_oneCell_toArray (bvs_oneCell (mark32 num))) (h _ (setRow_heap w g _ _ _ (0, 0) hg) ((Only.refl g w).setRow _))

set_option maxRecDepth 100000 in
set_option maxHeartbeats 1000000 in
theorem markSum_any (num : Nat) (w : World) :
    Calls Tryz.prog 142 #[.int .i64 (num : Int)] w fun e w' => e = .returned (sv (mark32 num)) ∧ Below w.heap.size w w' := by
  go_enter Tryz.func142, Tryz.ntmps142
  go_wp2_with (with_reducible refine wpList_store_mark num rfl (.tmp 2) (.tmp 5) rfl w.heap.size rfl (World.alloc_heap_new w _) rfl ?_)
  intro w2 hb2 ho2
  go_wp2
  exact bodyPost_ret_by (results_cell_row (p := 2) (ty := 50) (by kernel_rfl) _ _ w.heap.size 50 (bvs (mark32 num)).toArray (0, 0) _ rfl hb2 Tryz.underlying50 rfl sizeSum) rfl ⟨rfl, Only.below (below_alloc w _) (Nat.le_refl _) (Nat.le_refl _) ho2⟩

theorem eql_mark (num : Nat) (s : List Nat) (hs : s = mark32 num) (w : World) : (binOp .eql 50 (sv s) (.agg #[.int .u8 ((num : Int) % 256), .int .u8 0, .int .u8 0, .int .u8 0, .int .u8 0, .int .u8 0, .int .u8 0, .int .u8 0, .int .u8 0, .int .u8 0, .int .u8 0, .int .u8 0, .int .u8 0, .int .u8 0, .int .u8 0, .int .u8 0, .int .u8 0, .int .u8 0, .int .u8 0, .int .u8 0, .int .u8 0, .int .u8 0, .int .u8 0, .int .u8 0, .int .u8 0, .int .u8 0, .int .u8 0, .int .u8 0, .int .u8 0, .int .u8 0, .int .u8 0, .int .u8 0])).run Tryz.prog w = .ok (.bool true) w := by
  rw [lit32_mark, hs, run_eql_sum _ _ (mark32_length num) (mark32_length num) w, decide_eq_true rfl]
theorem guard_mark (num : Nat) (x y : Operand) (s : List Nat) (w : World) : (eqGuard .eql 50 x y (sv s) (.agg #[.int .u8 ((num : Int) % 256), .int .u8 0, .int .u8 0, .int .u8 0, .int .u8 0, .int .u8 0, .int .u8 0, .int .u8 0, .int .u8 0, .int .u8 0, .int .u8 0, .int .u8 0, .int .u8 0, .int .u8 0, .int .u8 0, .int .u8 0, .int .u8 0, .int .u8 0, .int .u8 0, .int .u8 0, .int .u8 0, .int .u8 0, .int .u8 0, .int .u8 0, .int .u8 0, .int .u8 0, .int .u8 0, .int .u8 0, .int .u8 0, .int .u8 0, .int .u8 0, .int .u8 0])).run Tryz.prog w = .ok () w := by
  rw [lit32_mark]
  exact run_guard_eql x y s (mark32 num) w

set_option maxRecDepth 100000 in
set_option maxHeartbeats 1000000 in
theorem isSum_any (num : Nat) (s : List Nat) (hs : s = mark32 num) (w : World) :
    Calls Tryz.prog 151 #[sv s, .int .i64 (num : Int)] w fun e w' => e = .returned (.bool true) ∧ Below w.heap.size w w' := by
  have q1 := eql_mark num s hs
  have q2 := fun x y => guard_mark num x y s
  have hl : s.length = 32 := by rw [hs]; rfl
  clear hs
  show Calls Tryz.prog 151 #[.agg (bvs s).toArray, .int .i64 (num : Int)] w _
  go_enter Tryz.func151, Tryz.ntmps151
  go_wp2_with (with_reducible refine wpList_load_sum rfl (.tmp 2) rfl ⟨w.heap.size, 0, none⟩ rfl s hl (BArr.new w 50 s).at_ ?_)
  go_ret
  exact ⟨rfl, below_alloc w _⟩

end Go.Proofs.YtnaebjdccngeoaaGreatDoor

/-
  The Book of the statements: what it is in memory.
-/
namespace Go.Proofs.YtnaebjdccngeoaaGreatDoor
open Go.RowKit

/-- Block kb is a Book that has counted N lists: bs is its row of lists of bytes, ss that of lists of sums; it has no other. -/
def BookAt (w : World) (kb N : Nat) (bs ss : Value) : Prop :=
  w.heap[kb]? = some (.cells #[.int .i64 (N : Int), bs, .slice none 0 0, .slice none 0 0, .slice none 0 0, ss, .slice none 0 0, .slice none 0 0, .slice none 0 0, .slice none 0 0] 37 (0, 0))

theorem BookAt.lt {w : World} {kb N : Nat} {bs ss : Value} (h : BookAt w kb N bs ss) : kb < w.heap.size := (Array.getElem?_eq_some_iff.1 h).1
theorem BookAt.n {w : World} {kb N : Nat} {bs ss : Value} (h : BookAt w kb N bs ss) : w.cell? ⟨kb, 0, none⟩ = some (.int .i64 (N : Int)) := by rw [cell_of_row _ kb 0 _ _ (0, 0) h]; rfl
theorem BookAt.b {w : World} {kb N : Nat} {bs ss : Value} (h : BookAt w kb N bs ss) : w.cell? ⟨kb, 1, none⟩ = some bs := by rw [cell_of_row _ kb 1 _ _ (0, 0) h]; rfl
theorem BookAt.s {w : World} {kb N : Nat} {bs ss : Value} (h : BookAt w kb N bs ss) : w.cell? ⟨kb, 5, none⟩ = some ss := by rw [cell_of_row _ kb 5 _ _ (0, 0) h]; rfl
theorem BookAt.fz {w : World} {kb N : Nat} {bs ss : Value} (h : BookAt w kb N bs ss) (i : Nat) : w.frozen? ⟨kb, i, none⟩ = false := frozen_of_row _ kb i _ _ h
theorem BookAt.other {w : World} {kb N : Nat} {bs ss : Value} (h : BookAt w kb N bs ss) {base : Nat} {e : TypeId} {size n : Nat} {v : Value} {xs : List Value} (he : e ≠ 37) (ho : w.ownsRow base e size v n xs) : v.ownBlock ≠ some kb := by
  rcases ho.2 with ⟨rfl, _⟩ | ⟨g, cap, cur, rfl, _, hg, _⟩
  · simp [Value.ownBlock]
  · intro e'
    obtain rfl : g = kb := by simpa [Value.ownBlock] using e'
    have := (show w.heap[g]? = _ from h).symm.trans hg
    simp at this
    exact he this.2.symm
theorem BookAt.grown {w w' : World} {kb N : Nat} {bs ss : Value} {row : Option Nat} (h : BookAt w kb N bs ss) (hg : w.grownBy w' row) (hne : row ≠ some kb) : BookAt w' kb N bs ss := (hg.block kb h.lt hne.symm).trans h
theorem BookAt.below {w w' : World} {kb N : Nat} {bs ss : Value} (h : BookAt w kb N bs ss) (hb : Below w.heap.size w w') : BookAt w' kb N bs ss := (hb.block kb h.lt).trans h

theorem BookAt.setN {w : World} {kb N : Nat} {bs ss : Value} (h : BookAt w kb N bs ss) (M : Nat) : BookAt (w.setCell ⟨kb, 0, none⟩ (.int .i64 (M : Int))) kb M bs ss := by
  have := heap_setCell_same w kb 0 _ _ (.int .i64 (M : Int)) h
  exact this
theorem BookAt.setB {w : World} {kb N : Nat} {bs ss : Value} (h : BookAt w kb N bs ss) (v : Value) : BookAt (w.setCell ⟨kb, 1, none⟩ v) kb N v ss := by
  have := heap_setCell_same w kb 1 _ _ v h
  exact this
theorem BookAt.setS {w : World} {kb N : Nat} {bs ss : Value} (h : BookAt w kb N bs ss) (v : Value) : BookAt (w.setCell ⟨kb, 5, none⟩ v) kb N bs v := by
  have := heap_setCell_same w kb 5 _ _ v h
  exact this
theorem grown_set (w : World) (b i : Nat) (v : Value) : w.grownBy (w.setCell ⟨b, i, none⟩ v) (some b) :=
  ⟨rfl, rfl, rfl, by simp [World.setCell], fun k _ hk => Below.heap_setCell _ _ _ k (fun e => hk (by rw [e]))⟩

theorem infoHeldByte : (Tryz.prog.info? 131).map (fun i => (i.zero, i.size, i.bytes)) = some (some (.agg #[.slice none 0 0, .slice none 0 0, .int .i64 0]), 3, 56) := by kernel_rfl

end Go.Proofs.YtnaebjdccngeoaaGreatDoor

/-
  The Book of the statements: marks are written into every list of bytes.
-/
namespace Go.Proofs.YtnaebjdccngeoaaGreatDoor
open Go.RowKit

/-- A list that is kept: its value, the longer one, how many elements it has, its number. -/
structure Held where
  A : Option Addr
  len : Nat
  c : Nat
  A2 : Option Addr
  len2 : Nat
  c2 : Nat
  num : Nat

def Held.v (h : Held) : Value := .slice h.A h.len h.c
def Held.long (h : Held) : Value := .slice h.A2 h.len2 h.c2

/-- The cells of a row of such. -/
def heldCells (hs : List Held) : List Value := hs.flatMap fun h => [h.v, h.long, .int .i64 (h.num : Int)]

theorem heldCells_cons (h : Held) (hs : List Held) : heldCells (h :: hs) = h.v :: h.long :: .int .i64 (h.num : Int) :: heldCells hs := rfl
theorem heldCells_append (hs ks : List Held) : heldCells (hs ++ ks) = heldCells hs ++ heldCells ks := by simp [heldCells]
theorem heldCells_length (hs : List Held) : (heldCells hs).length = hs.length * 3 := by
  induction hs with
  | nil => rfl
  | cons h hs ih => rw [heldCells_cons]; simp [ih]; omega
theorem heldCells_get {hs : List Held} {i : Nat} {h : Held} (hi : hs[i]? = some h) : (heldCells hs)[i * 3]? = some h.v ∧ (heldCells hs)[i * 3 + 1]? = some h.long ∧ (heldCells hs)[i * 3 + 2]? = some (.int .i64 (h.num : Int)) := by
  induction hs generalizing i with
  | nil => simp at hi
  | cons k hs ih =>
    cases i with
    | zero => simp at hi; subst hi; simp [heldCells_cons]
    | succ i =>
      have := ih (i := i) (by simpa using hi)
      rw [heldCells_cons, show (i + 1) * 3 = i * 3 + 1 + 1 + 1 by omega]
      exact this

/-- Rows of unlike element types lie in unlike blocks. -/
theorem rows_ne {w : World} {b1 b2 : Nat} {e1 e2 : TypeId} {s1 s2 n1 n2 : Nat} {v1 v2 : Value} {x1 x2 : List Value} (he : e1 ≠ e2) (h1 : w.ownsRow b1 e1 s1 v1 n1 x1) (h2 : w.ownsRow b2 e2 s2 v2 n2 x2) : v1.ownBlock = none ∨ v1.ownBlock ≠ v2.ownBlock := by
  rcases h1.2 with ⟨rfl, _⟩ | ⟨g, cap, cur, rfl, _, hg, _⟩
  · left; rfl
  · right
    rcases h2.2 with ⟨rfl, _⟩ | ⟨g2, cap2, cur2, rfl, _, hg2, _⟩
    · simp [Value.ownBlock]
    · simp only [Value.ownBlock]
      intro e
      injection e with e
      have e : g = g2 := e
      subst e
      rw [hg] at hg2
      simp at hg2
      exact he hg2.2

theorem own_kept_but {S : Nat → Prop} {w w' : World} {base : Nat} {e : TypeId} {size n : Nat} {v : Value} {xs : List Value} (h : w.ownsRow base e size v n xs) (hb : But S w w') (hn : ∀ b, v.ownBlock = some b → ¬ S b) : w'.ownsRow base e size v n xs := by
  refine ⟨h.1, ?_⟩
  rcases h.2 with hn' | ⟨g, cap, cur, rfl, hbb, hgg, rest⟩
  · exact .inl hn'
  · exact .inr ⟨g, cap, cur, rfl, hbb, (hb.block g (Array.getElem?_eq_some_iff.1 hgg).1 (hn g rfl)).trans hgg, rest⟩
theorem BookAt.but {S : Nat → Prop} {w w' : World} {kb N : Nat} {bs ss : Value} (h : BookAt w kb N bs ss) (hb : But S w w') (hn : ¬ S kb) : BookAt w' kb N bs ss := (hb.block kb h.lt hn).trans h

/-- The mark of a number. -/
def mk (num : Nat) : Value := .int .u8 ((num : Int) % 256)

set_option maxRecDepth 100000 in
set_option maxHeartbeats 400000 in
theorem markByte_any (num : Nat) (w : World) : Calls Tryz.prog 138 #[.int .i64 (num : Int)] w fun e w' => e = .returned (.int .u8 ((num : Int) % 256)) ∧ w = w' := by
  go_enter Tryz.func138, Tryz.ntmps138
  go_wp2
  go_ret
  exact ⟨rfl, rfl⟩

/-- One element more of an owned row of bytes is written. -/
theorem own_set {w : World} {base g len cap k : Nat} {xs : List Value} {u : Value} (h : w.ownsRow base 5 1 (.slice (some ⟨g, 0, none⟩) len cap) len xs) (hk : k < len) (ht : xs.take k = List.replicate k u) :
    ∃ ys, (w.setCell ⟨g, k, none⟩ u).ownsRow base 5 1 (.slice (some ⟨g, 0, none⟩) len cap) len ys ∧ ys.take (k + 1) = List.replicate (k + 1) u := by
  rcases h.2 with ⟨e, _⟩ | ⟨g', cap', cur, e, hb, hg, hle, hm, hs, htk⟩
  · cases e
  · cases e
    have hl := h.1
    refine ⟨xs.set k u, ⟨by simpa using hl, .inr ⟨g, cap, cur.setIfInBounds k u, rfl, hb, heap_setCell_same w g k cur _ u hg, hle, hm, by simp [hs], ?_⟩⟩, ?_⟩
    · rw [Array.toList_setIfInBounds, List.take_set, htk]
    · have e1 : (xs.set k u).take k = xs.take k := by rw [List.take_set, List.set_eq_of_length_le (by rw [List.length_take]; omega)]
      have e2 : (xs.set k u)[k]? = some u := by rw [List.getElem?_set_self]; omega
      rw [List.take_add_one, e1, e2, ht, List.replicate_succ']
      rfl
theorem own_cellAt {w : World} {base g len cap k : Nat} {xs : List Value} {e : TypeId} (h : w.ownsRow base e 1 (.slice (some ⟨g, 0, none⟩) len cap) len xs) (hk : k < len) : (∃ u, w.cell? ⟨g, k, none⟩ = some u) ∧ w.frozen? ⟨g, k, none⟩ = false := by
  rcases h.2 with ⟨e, _⟩ | ⟨g', cap', cur, e, hb, hg, hle, hm, hs, htk⟩
  · cases e
  · cases e
    exact ⟨⟨cur[k]'(by omega), by rw [cell_of_row _ g k _ _ (0, 0) hg]; exact Array.getElem?_eq_getElem (by omega)⟩, frozen_of_row _ g k _ _ hg⟩

/-- What is asked of the lists of bytes of a Book: each owns its row; no two the same block. -/
structure Lists (w : World) (base : Nat) (hs : List Held) : Prop where
  own : ∀ (i : Nat) (h : Held), hs[i]? = some h → ∃ xs, w.ownsRow base 5 1 h.v h.len xs
  apart : ∀ (i j : Nat) (h k : Held), hs[i]? = some h → hs[j]? = some k → i ≠ j → h.v.ownBlock = none ∨ h.v.ownBlock ≠ k.v.ownBlock

/-- The blocks of the lists. -/
def inLists (hs : List Held) (b : Nat) : Prop := ∃ (i : Nat) (h : Held), hs[i]? = some h ∧ h.v.ownBlock = some b

/-- The first i lists have their marks. -/
def Filled (w : World) (base : Nat) (hs : List Held) (i : Nat) : Prop :=
  ∀ (j : Nat) (h : Held), hs[j]? = some h → ∃ xs, w.ownsRow base 5 1 h.v h.len xs ∧ (j < i → xs = List.replicate h.len (mk h.num))

theorem own_form3 {w : World} {base : Nat} {e : TypeId} {size n : Nat} {v : Value} {xs : List Value} (h : w.ownsRow base e size v n xs) : ∃ A c, v = .slice A n c := by
  rcases h.2 with ⟨rfl, rfl⟩ | ⟨g, cap, cur, rfl, _⟩
  · exact ⟨_, _, rfl⟩
  · exact ⟨_, _, rfl⟩

set_option maxRecDepth 100000 in
set_option maxHeartbeats 2000000 in
theorem fillByte_any (kb N base K : Nat) (bs ss : Value) (hs : List Held) (w : World) (hbk : BookAt w kb N bs ss) (hown : w.ownsRow base 131 3 bs K (heldCells hs)) (hlist : Lists w base hs)
    (hK : K ≤ 1000000) (hlen : ∀ (i : Nat) (h : Held), hs[i]? = some h → h.len ≤ 1000000000) :
    Calls Tryz.prog 69 #[.pointer (some ⟨kb, 0, none⟩)] w fun e w' => e = .returned (.tuple #[]) ∧
      Filled w' base hs K ∧ But (inLists hs) w w' := by
  have hKl : hs.length = K := by have := hown.1; rw [heldCells_length] at this; omega
  have HKl := Lib.hid hKl
  clear hKl
  obtain ⟨Ab, cb, rfl⟩ := own_form3 hown
  have h1 := hbk.b
  go_enter Tryz.func69, Tryz.ntmps69
  go_wp2
  go_loopw [2] (fun i wr => ∃ j : Nat, j ≤ K ∧ i = .int .i64 (j : Int) ∧ Filled wr base hs j ∧ But (inLists hs) w wr) (fun i _ => K - (intOf i).toNat)
  case atStart => exact ⟨0, Nat.zero_le _, rfl, fun j h hj => by obtain ⟨xs, hx⟩ := hlist.own j h hj; exact ⟨xs, hx, fun h => by omega⟩, But.refl _ _⟩
  case round =>
    obtain ⟨j, hj, rfl, hfl, hbut⟩ := hrel
    obtain ⟨wo, rfl⟩ : ∃ wo : World, wo = wr := ⟨_, rfl⟩
    have nokb : ¬ inLists hs kb := by
      rintro ⟨i, h, hi, he⟩
      obtain ⟨xs, hx⟩ := hlist.own i h hi
      exact hbk.other (by decide) hx he
    have hbk2 := hbk.but hbut nokb
    have hown2 := own_kept_but hown hbut (by
      rintro b hb ⟨i, h, hi, he⟩
      obtain ⟨xs, hx⟩ := hlist.own i h hi
      rcases rows_ne (by decide) hx hown with h0 | h0
      · rw [h0] at he; cases he
      · exact h0 (he.trans hb.symm))
    have h2 := hbk2.b
    by_cases hlt : j < K
    · obtain ⟨h, hh⟩ : ∃ h, hs[j]? = some h := ⟨_, List.getElem?_eq_getElem (by rw [HKl.out]; exact hlt)⟩
      obtain ⟨g1, g2, g3⟩ := heldCells_get hh
      rcases hown2.2 with ⟨e, h0⟩ | ⟨gb, cap, cur, e, hbb, hgb, hle, hm, hsz, htk⟩
      · omega
      · cases e
        have p1 : wo.cell? ⟨gb, j * 3, none⟩ = some h.v := by
          have := hown2.cells (g := gb) rfl _ _ g1
          rwa [Addr.add_lit, Nat.zero_add] at this
        have p2 : wo.cell? ⟨gb, j * 3 + 1, none⟩ = some h.long := by
          have := hown2.cells (g := gb) rfl _ _ g2
          rwa [Addr.add_lit, Nat.zero_add] at this
        have p3 : wo.cell? ⟨gb, j * 3 + 2, none⟩ = some (.int .i64 (h.num : Int)) := by
          have := hown2.cells (g := gb) rfl _ _ g3
          rwa [Addr.add_lit, Nat.zero_add] at this
        have i1 : (j : Int) < (K : Int) := by omega
        obtain ⟨xs0, hx0, _⟩ := hfl j h hh
        have hl0 := hlen j h hh
        have hin0 : ∀ b, h.v.ownBlock = some b → inLists hs b := fun b hb => ⟨j, h, hh, hb⟩
        have hrest : ∀ wi, But (fun b => h.v.ownBlock = some b) wo wi → (∃ xs, wi.ownsRow base 5 1 h.v h.len xs ∧ xs = List.replicate h.len (mk h.num)) → Filled wi base hs (j + 1) := by
          intro wi hbi hrow j' h' hj'
          by_cases e : j' = j
          · subst e
            rw [hh] at hj'
            cases hj'
            obtain ⟨xs, r1, r2⟩ := hrow
            exact ⟨xs, r1, fun _ => r2⟩
          · obtain ⟨xs, r1, r2⟩ := hfl j' h' hj'
            refine ⟨xs, own_kept_but r1 hbi (fun b hb hb' => ?_), fun hlt' => r2 (by omega)⟩
            rcases hlist.apart j' j h' h hj' hh e with h0 | h0
            · rw [h0] at hb; cases hb
            · exact h0 (hb.trans hb'.symm)
        have HR := Lib.hid hrest
        have HI := Lib.hid hin0
        have HF := Lib.hid hfl
        clear hrest hin0 hfl g1 g2 g3 hh
        obtain ⟨A, n, c, A2, n2, c2, num⟩ := h
        simp only [Held.v, Held.long] at p1 p2 p3 hx0 hl0
        go_wp2
        have hx1 := hx0.alloc (.cells #[.slice A n c, .slice A2 n2 c2, .int .i64 (num : Int)] 131)
        have hlt0 := hx0.lt
        obtain ⟨wa, hwa⟩ : ∃ wa, wo.alloc (.cells #[.slice A n c, .slice A2 n2 c2, .int .i64 (num : Int)] 131) = wa := ⟨_, rfl⟩
        have hba : But (fun b => (Value.slice A n c).ownBlock = some b) wo wa := by rw [← hwa]; exact (But.refl _ _).alloc _
        have hha : wa.heap[wo.heap.size]? = some (.cells #[.slice A n c, .slice A2 n2 c2, .int .i64 (num : Int)] 131 (0, 0)) := by rw [← hwa]; exact World.alloc_heap_new wo _
        rw [hwa] at hx1 ⊢
        have HH := Lib.hid hha
        clear hwa hha
        go_loopw [4] (fun i wi => ∃ (k : Nat) (xs : List Value), k ≤ n ∧ i = .int .i64 (k : Int) ∧ wi.ownsRow base 5 1 (.slice A n c) n xs ∧ xs.take k = List.replicate k (mk num) ∧ But (fun b => (Value.slice A n c).ownBlock = some b) wa wi) (fun i _ => n - (intOf i).toNat)
        case atStart => exact ⟨0, xs0, Nat.zero_le _, rfl, hx1, by simp, But.refl _ _⟩
        case round =>
          obtain ⟨k, xs, hk, rfl, hox, htx, hbi⟩ := hrel
          have hhi : wr.heap[wo.heap.size]? = some (.cells #[.slice A n c, .slice A2 n2 c2, .int .i64 (num : Int)] 131 (0, 0)) :=
            (hbi.block _ (Array.getElem?_eq_some_iff.1 HH.out).1 (fun e => by have := (hlt0 _ e).2; omega)).trans HH.out
          have q0 : wr.cell? ⟨wo.heap.size, 0, none⟩ = some (.slice A n c) := by rw [cell_of_row _ _ 0 _ _ (0, 0) hhi]; rfl
          have q2 : wr.cell? ⟨wo.heap.size, 2, none⟩ = some (.int .i64 (num : Int)) := by rw [cell_of_row _ _ 2 _ _ (0, 0) hhi]; rfl
          clear hhi
          have HT := Lib.hid htx
          clear htx
          by_cases hlt2 : k < n
          · obtain ⟨g, rfl⟩ : ∃ g, A = some ⟨g, 0, none⟩ := by
              rcases hox.2 with ⟨e, h0⟩ | ⟨g, cap, cur, e, _⟩
              · omega
              · cases e; exact ⟨g, rfl⟩
            obtain ⟨⟨u, hcu⟩, hfu⟩ := own_cellAt hox hlt2
            obtain ⟨ys, hoy, hty⟩ := own_set hox hlt2 HT.out
            have HY := Lib.hid hty
            clear hty
            have i2 : (k : Int) < (n : Int) := by omega
            go_wp2
            go_region_law ((go_simp; go_at_call 138; refine (markByte_any num _).mono ?_; rintro e w' ⟨rfl, rfl⟩))
            all_goals
              go_wp2
              go_roundw
              case rel => exact ⟨k + 1, ys, by omega, by go_num, hoy.drew, HY.out, (hbi.set k _ (fun _ => rfl)).drew⟩
              case measure => simp [intOf]; omega
          · obtain rfl : k = n := by omega
            have hfin : Filled wr base hs (j + 1) := HR.out wr (hba.trans hbi) ⟨xs, hox, by
              have e := HT.out
              rwa [List.take_of_length_le (by have := hox.1; omega)] at e⟩
            have hbo : But (inLists hs) w wr := hbut.trans ((hba.trans hbi).mono (fun b _ hb => HI.out b hb))
            clear HR HI HF
            go_wp2
            go_roundw
            case rel => exact ⟨j + 1, by omega, by go_num, hfin, hbo⟩
            case measure => simp [intOf]; omega
    · obtain rfl : j = K := by omega
      go_wp2
      go_end0
      exact ⟨rfl, hfl, hbut⟩

end Go.Proofs.YtnaebjdccngeoaaGreatDoor

/-
  Rows of sums of the call's own: one sum is written; a sum is read; marks.
-/
namespace Go.Proofs.YtnaebjdccngeoaaGreatDoor
open Go.RowKit

theorem take_splice {α : Type} (l c : List α) (o n : Nat) (h : o + c.length ≤ n) (hn : n ≤ l.length) : (splice l o c).take n = splice (l.take n) o c := by
  unfold splice
  have h1 : (l.take o).length = o := by rw [List.length_take]; omega
  rw [List.take_append, List.take_append, h1, List.take_take, List.take_take, List.drop_take]
  rw [show min n o = o by omega, show min o n = o by omega, List.take_of_length_le (show c.length ≤ n - o by omega), show n - o - c.length = n - (o + c.length) by omega]

/-- n marks of a number, one behind the other. -/
def marks (n num : Nat) : List Value := bvs (List.replicate n (mark32 num)).flatten
theorem marks_length (n num : Nat) : (marks n num).length = n * 32 := by
  unfold marks
  rw [bvs_length, List.length_flatten, List.map_replicate, List.sum_replicate_nat, mark32_length]
theorem marks_snoc (n num : Nat) : marks (n + 1) num = marks n num ++ bvs (mark32 num) := by
  unfold marks
  rw [List.replicate_succ', List.flatten_append, bvs_append]
  simp
theorem marks_add (n m num : Nat) : marks (n + m) num = marks n num ++ marks m num := by
  unfold marks
  rw [← List.replicate_append_replicate, List.flatten_append, bvs_append]
theorem marks_oneCell (n num : Nat) : ∀ v ∈ marks n num, v.oneCell' = true := bvs_oneCell _
theorem marks_at (n num k : Nat) (hk : k < n) : ∀ j x, (mark32 num)[j]? = some x → (marks n num)[k * 32 + j]? = some (bv x) := by
  intro j x hx
  obtain ⟨m, rfl⟩ : ∃ m, n = k + (1 + m) := ⟨n - k - 1, by omega⟩
  have hj := (List.getElem?_eq_some_iff.1 hx).1
  rw [mark32_length] at hj
  rw [marks_add, List.getElem?_append_right (by rw [marks_length]; omega), marks_length, Nat.add_sub_cancel_left, marks_add, List.getElem?_append_left (by rw [marks_length]; omega)]
  have : marks 1 num = bvs (mark32 num) := by unfold marks; simp
  rw [this, bvs_get, hx]
  rfl

/-- A sum of a row of the call's own is written. -/
theorem own_put {w : World} {base g len cap k : Nat} {xs cs : List Value} {e : TypeId} (h : w.ownsRow base e 32 (.slice (some ⟨g, 0, none⟩) len cap) len xs) (hk : k < len) (hc : cs.length = 32) :
    ∃ cur : List Value, w.heap[g]? = some (.cells cur.toArray e (0, 0)) ∧ k * 32 + 32 ≤ cur.length ∧ (w.setRow g (splice cur (k * 32) cs).toArray).ownsRow base e 32 (.slice (some ⟨g, 0, none⟩) len cap) len (splice xs (k * 32) cs) := by
  rcases h.2 with ⟨e, _⟩ | ⟨g', cap', cur, e, hb, hg, hle, hm, hs, htk⟩
  · cases e
  · cases e
    have hl : cur.toList.length = cap * 32 := by rw [Array.length_toList, hs]
    have hxl := h.1
    refine ⟨cur.toList, by simpa using hg, by omega, ⟨by rw [length_splice _ _ _ (by omega)]; exact hxl, .inr ⟨g, cap, _, rfl, hb, setRow_heap w g cur _ _ (0, 0) hg, hle, hm, by rw [List.size_toArray, length_splice _ _ _ (by omega), hl], ?_⟩⟩⟩
    rw [List.toList_toArray, take_splice _ _ _ _ (by omega) (by omega), htk]

theorem But.setRow {S : Nat → Prop} {a w : World} (h : But S a w) {b : Nat} (cs : Array Value) (hb : b < a.heap.size → S b) : But S a (w.setRow b cs) :=
  h.grown (row := some b) ⟨rfl, rfl, rfl, by rw [size_setRow]; exact Nat.le_refl _, fun k _ hk => setRow_other w b k _ (fun e => hk (by rw [e]))⟩ (fun k e hk => by cases e; exact hb hk)

/-- A value of as many cells as its variable has goes into a block from an offset on. -/
theorem wpList_store_at {ops : Array Oper} {rest : List Oper} {o : Oper} {a : Act} {w : World} {Q : Exit → Act → World → Prop} (hgd : o.guard = none) (ty : TypeId) (x y : Operand) (ho : o.op = .store ty x y)
    (g off : Nat) (cs cur : List Value) (t : TypeId) (hx : a.eval x = .pointer (some ⟨g, off, none⟩)) (hy : a.eval y = .agg cs.toArray) (hg : w.heap[g]? = some (.cells cur.toArray t (0, 0)))
    (hi : (Tryz.prog.info? ty).map (·.size) = some cs.length) (hfit : off + cs.length ≤ cur.length) (h1 : ∀ v ∈ cs, v.oneCell' = true)
    (h : wpList Tryz.prog ops Q rest (a.put o.dst undef) (w.setRow g (splice cur off cs).toArray)) : wpList Tryz.prog ops Q (o :: rest) a w := by
  refine wpList_plain hgd fun K hK => ?_
  have hst := run_storeCells_at Tryz.prog g off t cs 0 cur.toArray w hg (by simpa using hfit) h1
  simp only [Nat.add_zero] at hst
  cases hq : Tryz.prog.info? ty with
  | none => simp [hq] at hi
  | some i =>
    have hs : cs.length = i.size := by simp [hq] at hi; omega
    have hrun : (storeVar ty ⟨g, off, none⟩ (.agg cs.toArray)).run Tryz.prog w = .ok () (w.setRow g (splice cur off cs).toArray) := by
      simp [storeVar, sizeOf, typeInfo, hq, Value.cells, hs, hst, splice]
    unfold Oper.wp execOp
    simp only [ho, hx, hy, Instr.storeAt, Instr.sureAddr, Sem.run_bind, Sem.run_pure, Result.andThen_ok, hrun]
    exact hK _ _ h

/-- One cell is read, in every world of a class. -/
theorem quiet_load_cell {ops : Array Oper} {o : Oper} {a : Act} {C : World → Prop} {K : Act → Prop} {E : Prop} (hw : Region.wanted o (yielded ops a.tmps) = true) (ty : TypeId) (hagg : ∀ w, (isAgg ty).run Tryz.prog w = .ok false w) (x : Operand) (ho : o.op = .load ty x)
    (ad : Addr) (hx : a.eval x = .pointer (some ad)) (v : Value) (hc : ∀ w, C w → w.cell? ad = some v) (h : K (a.put o.dst v)) :
    if Region.wanted o (yielded ops a.tmps) = true then o.quiet Tryz.prog a C K else E := by
  rw [if_pos hw]
  refine ⟨v, fun w hC => ?_, h⟩
  unfold Oper.quietAt execOp
  have hl : (loadVar ty ad).run Tryz.prog w = .ok v w := by simp [loadVar, Sem.run_bind, hagg, hc w hC]
  simp only [ho, hx, Instr.loadAt, Instr.sureAddr, Sem.run_bind, Sem.run_pure, Result.andThen_ok, hl]
  exact ⟨rfl, rfl⟩
theorem agg_sums (w : World) : (isAgg 53).run Tryz.prog w = .ok false w := by
  unfold isAgg
  rw [Sem.run_bind, run_underlying Tryz.underlying53 w]
  rfl
theorem agg_int (w : World) : (isAgg 3).run Tryz.prog w = .ok false w := by
  unfold isAgg
  rw [Sem.run_bind, run_underlying Tryz.underlying3 w]
  rfl

/-- One mark more of an owned row of sums. -/
theorem own_mark_put {w : World} {base g len cap k num : Nat} {xs : List Value} (h : w.ownsRow base 50 32 (.slice (some ⟨g, 0, none⟩) len cap) len xs) (hk : k < len) (ht : xs.take (k * 32) = marks k num) :
    ∃ cur : List Value, w.heap[g]? = some (.cells cur.toArray 50 (0, 0)) ∧ k * 32 + 32 ≤ cur.length ∧ ∃ ys, (w.setRow g (splice cur (k * 32) (bvs (mark32 num))).toArray).ownsRow base 50 32 (.slice (some ⟨g, 0, none⟩) len cap) len ys ∧ ys.take ((k + 1) * 32) = marks (k + 1) num := by
  obtain ⟨cur, h1, h2, h3⟩ := own_put (cs := bvs (mark32 num)) h hk (by rw [bvs_length, mark32_length])
  refine ⟨cur, h1, h2, _, h3, ?_⟩
  have hl := h.1
  have hm : (bvs (mark32 num)).length = 32 := by rw [bvs_length, mark32_length]
  unfold splice
  have e1 : (xs.take (k * 32)).length = k * 32 := by rw [List.length_take]; omega
  rw [← List.append_assoc, List.take_append_of_le_length (by rw [List.length_append, e1, hm]; omega), List.take_of_length_le (by rw [List.length_append, e1, hm]; omega), ht, ← marks_snoc]

end Go.Proofs.YtnaebjdccngeoaaGreatDoor

/-
  The Book of the statements: marks are written into every list of sums.
-/
namespace Go.Proofs.YtnaebjdccngeoaaGreatDoor
open Go.RowKit

/-- What is asked of the lists of sums of a Book: each owns its row; no two the same block. -/
structure ListsS (w : World) (base : Nat) (hs : List Held) : Prop where
  own : ∀ (i : Nat) (h : Held), hs[i]? = some h → ∃ xs, w.ownsRow base 50 32 h.v h.len xs
  apart : ∀ (i j : Nat) (h k : Held), hs[i]? = some h → hs[j]? = some k → i ≠ j → h.v.ownBlock = none ∨ h.v.ownBlock ≠ k.v.ownBlock

/-- The first i lists have their marks. -/
def FilledS (w : World) (base : Nat) (hs : List Held) (i : Nat) : Prop :=
  ∀ (j : Nat) (h : Held), hs[j]? = some h → ∃ xs, w.ownsRow base 50 32 h.v h.len xs ∧ (j < i → xs = marks h.len h.num)

set_option maxRecDepth 100000 in
set_option maxHeartbeats 2000000 in
theorem fillSum_any (kb N base K : Nat) (bs ss : Value) (hs : List Held) (w : World) (hbk : BookAt w kb N bs ss) (hown : w.ownsRow base 142 3 ss K (heldCells hs)) (hlist : ListsS w base hs)
    (hK : K ≤ 1000000) (hlen : ∀ (i : Nat) (h : Held), hs[i]? = some h → h.len ≤ 1000000000) :
    Calls Tryz.prog 73 #[.pointer (some ⟨kb, 0, none⟩)] w fun e w' => e = .returned (.tuple #[]) ∧
      FilledS w' base hs K ∧ But (inLists hs) w w' := by
  have hKl : hs.length = K := by have := hown.1; rw [heldCells_length] at this; omega
  have HKl := Lib.hid hKl
  clear hKl
  obtain ⟨Ab, cb, rfl⟩ := own_form3 hown
  have h1 := hbk.s
  go_enter Tryz.func73, Tryz.ntmps73
  go_wp2
  go_loopw [2] (fun i wr => ∃ j : Nat, j ≤ K ∧ i = .int .i64 (j : Int) ∧ FilledS wr base hs j ∧ But (inLists hs) w wr) (fun i _ => K - (intOf i).toNat)
  case atStart => exact ⟨0, Nat.zero_le _, rfl, fun j h hj => by obtain ⟨xs, hx⟩ := hlist.own j h hj; exact ⟨xs, hx, fun h => by omega⟩, But.refl _ _⟩
  case round =>
    obtain ⟨j, hj, rfl, hfl, hbut⟩ := hrel
    obtain ⟨wo, rfl⟩ : ∃ wo : World, wo = wr := ⟨_, rfl⟩
    have nokb : ¬ inLists hs kb := by
      rintro ⟨i, h, hi, he⟩
      obtain ⟨xs, hx⟩ := hlist.own i h hi
      exact hbk.other (by decide) hx he
    have hbk2 := hbk.but hbut nokb
    have hown2 := own_kept_but hown hbut (by
      rintro b hb ⟨i, h, hi, he⟩
      obtain ⟨xs, hx⟩ := hlist.own i h hi
      rcases rows_ne (by decide) hx hown with h0 | h0
      · rw [h0] at he; cases he
      · exact h0 (he.trans hb.symm))
    have h2 := hbk2.s
    by_cases hlt : j < K
    · obtain ⟨h, hh⟩ : ∃ h, hs[j]? = some h := ⟨_, List.getElem?_eq_getElem (by rw [HKl.out]; exact hlt)⟩
      obtain ⟨g1, g2, g3⟩ := heldCells_get hh
      rcases hown2.2 with ⟨e, h0⟩ | ⟨gb, cap, cur, e, hbb, hgb, hle, hm, hsz, htk⟩
      · omega
      · cases e
        have p1 : wo.cell? ⟨gb, j * 3, none⟩ = some h.v := by
          have := hown2.cells (g := gb) rfl _ _ g1
          rwa [Addr.add_lit, Nat.zero_add] at this
        have p2 : wo.cell? ⟨gb, j * 3 + 1, none⟩ = some h.long := by
          have := hown2.cells (g := gb) rfl _ _ g2
          rwa [Addr.add_lit, Nat.zero_add] at this
        have p3 : wo.cell? ⟨gb, j * 3 + 2, none⟩ = some (.int .i64 (h.num : Int)) := by
          have := hown2.cells (g := gb) rfl _ _ g3
          rwa [Addr.add_lit, Nat.zero_add] at this
        have i1 : (j : Int) < (K : Int) := by omega
        obtain ⟨xs0, hx0, _⟩ := hfl j h hh
        have hl0 := hlen j h hh
        have hin0 : ∀ b, h.v.ownBlock = some b → inLists hs b := fun b hb => ⟨j, h, hh, hb⟩
        have hrest : ∀ wi, But (fun b => h.v.ownBlock = some b) wo wi → (∃ xs, wi.ownsRow base 50 32 h.v h.len xs ∧ xs = marks h.len h.num) → FilledS wi base hs (j + 1) := by
          intro wi hbi hrow j' h' hj'
          by_cases e : j' = j
          · subst e
            rw [hh] at hj'
            cases hj'
            obtain ⟨xs, r1, r2⟩ := hrow
            exact ⟨xs, r1, fun _ => r2⟩
          · obtain ⟨xs, r1, r2⟩ := hfl j' h' hj'
            refine ⟨xs, own_kept_but r1 hbi (fun b hb hb' => ?_), fun hlt' => r2 (by omega)⟩
            rcases hlist.apart j' j h' h hj' hh e with h0 | h0
            · rw [h0] at hb; cases hb
            · exact h0 (hb.trans hb'.symm)
        have HR := Lib.hid hrest
        have HI := Lib.hid hin0
        have HF := Lib.hid hfl
        clear hrest hin0 hfl g1 g2 g3 hh
        obtain ⟨A, n, c, A2, n2, c2, num⟩ := h
        simp only [Held.v, Held.long] at p1 p2 p3 hx0 hl0
        go_wp2
        have hx1 := hx0.alloc (.cells #[.slice A n c, .slice A2 n2 c2, .int .i64 (num : Int)] 142)
        have hlt0 := hx0.lt
        obtain ⟨wa, hwa⟩ : ∃ wa, wo.alloc (.cells #[.slice A n c, .slice A2 n2 c2, .int .i64 (num : Int)] 142) = wa := ⟨_, rfl⟩
        have hba : But (fun b => (Value.slice A n c).ownBlock = some b) wo wa := by rw [← hwa]; exact (But.refl _ _).alloc _
        have hha : wa.heap[wo.heap.size]? = some (.cells #[.slice A n c, .slice A2 n2 c2, .int .i64 (num : Int)] 142 (0, 0)) := by rw [← hwa]; exact World.alloc_heap_new wo _
        rw [hwa] at hx1 ⊢
        have HH := Lib.hid hha
        clear hwa hha
        go_loopw [4] (fun i wi => ∃ (k : Nat) (xs : List Value), k ≤ n ∧ i = .int .i64 (k : Int) ∧ wi.ownsRow base 50 32 (.slice A n c) n xs ∧ xs.take (k * 32) = marks k num ∧ But (fun b => (Value.slice A n c).ownBlock = some b) wa wi) (fun i _ => n - (intOf i).toNat)
        case atStart => exact ⟨0, xs0, Nat.zero_le _, rfl, hx1, by simp [marks, bvs], But.refl _ _⟩
        case round =>
          obtain ⟨k, xs, hk, rfl, hox, htx, hbi⟩ := hrel
          have hhi : wr.heap[wo.heap.size]? = some (.cells #[.slice A n c, .slice A2 n2 c2, .int .i64 (num : Int)] 142 (0, 0)) :=
            (hbi.block _ (Array.getElem?_eq_some_iff.1 HH.out).1 (fun e => by have := (hlt0 _ e).2; omega)).trans HH.out
          have q0 : wr.cell? ⟨wo.heap.size, 0, none⟩ = some (.slice A n c) := by rw [cell_of_row _ _ 0 _ _ (0, 0) hhi]; rfl
          have q2 : wr.cell? ⟨wo.heap.size, 2, none⟩ = some (.int .i64 (num : Int)) := by rw [cell_of_row _ _ 2 _ _ (0, 0) hhi]; rfl
          clear hhi
          have HT := Lib.hid htx
          clear htx
          by_cases hlt2 : k < n
          · obtain ⟨g, rfl⟩ : ∃ g, A = some ⟨g, 0, none⟩ := by
              rcases hox.2 with ⟨e, h0⟩ | ⟨g, cap, cur, e, _⟩
              · omega
              · cases e; exact ⟨g, rfl⟩
            have HQ := Lib.hid (And.intro q0 q2)
            have HO := Lib.hid hox
            have CM := Lib.hid (fun (W : World) (_ : Below wr.heap.size wr W) => markSum_any num W)
            have i2 : (k : Int) < (n : Int) := by omega
            clear hox
            go_wp2
            refine wp_region_quiet_tail (C := fun w' => Below wr.heap.size wr w') 7 (by kernel_rfl) (by kernel_rfl) ((Below.refl _ _).drew) ?_
            simp only [List.take_succ_cons, List.take_zero, List.drop_succ_cons, List.drop_zero]
            refine wpQuiet_step (fun K hK => ?_)
            go_simp
            refine ⟨_, fun _ _ => rfl, hK _ ?_⟩
            clear hK K
            refine wpQuiet_step (fun K hK => ?_)
            refine quiet_load_cell (by rfl) 53 agg_sums (.tmp 28) rfl ⟨wo.heap.size, 0, none⟩ rfl (.slice (some ⟨g, 0, none⟩) n c) (fun W hC => (hC.cell (World.block_lt_of_cell? wr _ HQ.out.1)).trans HQ.out.1) (hK _ ?_)
            clear hK K
            iterate 2 (refine wpQuiet_step (fun K hK => ?_); go_simp; refine ⟨_, fun _ _ => rfl, hK _ ?_⟩; clear hK K)
            refine wpQuiet_step (fun K hK => ?_)
            refine quiet_load_cell (by rfl) 3 agg_int (.tmp 31) rfl ⟨wo.heap.size, 2, none⟩ rfl (.int .i64 (num : Int)) (fun W hC => (hC.cell (World.block_lt_of_cell? wr _ HQ.out.2)).trans HQ.out.2) (hK _ ?_)
            clear hK K
            refine wpQuiet_step (fun K hK => ?_)
            go_simp
            refine ⟨sv (mark32 num), fun W hC => (CM.out W hC).mono fun e w'' ⟨he, hb'⟩ => ⟨he, below_on hC (Nat.le_refl _) hb'⟩, hK _ ?_⟩
            clear hK K
            refine wpQuiet_step (fun K hK => ?_)
            go_simp
            refine ⟨_, fun _ _ => rfl, hK _ ?_⟩
            clear hK K
            refine wpQuiet_nil ?_
            intro w6 hb6
            obtain ⟨cur, hcur, hfit, ys, hoy, hty⟩ := own_mark_put (own_on HO.out hb6) hlt2 HT.out
            refine wpList_store_at rfl 50 (.tmp 34) (.tmp 33) rfl g (k * 32) (bvs (mark32 num)) cur 50 rfl rfl hcur (by rw [bvs_length, mark32_length]; exact sizeSum) (by rw [bvs_length, mark32_length]; exact hfit) (bvs_oneCell _) ?_
            have HY := Lib.hid (And.intro hoy hty)
            have HB := Lib.hid ((hbi.trans (But.of_below hb6)).setRow (b := g) (splice cur (k * 32) (bvs (mark32 num))).toArray (fun _ => rfl))
            clear hcur hfit hoy hty hbi
            go_wp2
            go_roundw
            case rel => exact ⟨k + 1, ys, by omega, by go_num, HY.out.1, HY.out.2, HB.out⟩
            case measure => simp [intOf]; omega
          · obtain rfl : k = n := by omega
            have hfin : FilledS wr base hs (j + 1) := HR.out wr (hba.trans hbi) ⟨xs, hox, by
              have e := HT.out
              rwa [List.take_of_length_le (by have := hox.1; omega)] at e⟩
            have hbo : But (inLists hs) w wr := hbut.trans ((hba.trans hbi).mono (fun b _ hb => HI.out b hb))
            clear HR HI HF
            go_wp2
            go_roundw
            case rel => exact ⟨j + 1, by omega, by go_num, hfin, hbo⟩
            case measure => simp [intOf]; omega
    · obtain rfl : j = K := by omega
      go_wp2
      go_end0
      exact ⟨rfl, hfl, hbut⟩

end Go.Proofs.YtnaebjdccngeoaaGreatDoor

/-
  The Book of the statements: each list of sums is made longer, mark by mark.
-/
namespace Go.Proofs.YtnaebjdccngeoaaGreatDoor
open Go.RowKit

/-- The beginning of an owned row of sums. -/
theorem sub_rowS {w : World} {base : Nat} {e : TypeId} {g n m c : Nat} {xs ys : List Value} (h : w.ownsRow base e 32 (.slice (some ⟨g, 0, none⟩) m c) m (xs ++ ys)) (hx : xs.length = n * 32) : w.ownsRow base e 32 (.slice (some ⟨g, 0, none⟩) n c) n xs := by
  rcases h.2 with ⟨e1, _⟩ | ⟨g', cap, cur, e1, hb, hg, hle, hm, hs, ht⟩
  · cases e1
  · cases e1
    have hl := h.1
    rw [List.length_append, hx] at hl
    refine ⟨hx, .inr ⟨g, c, cur, rfl, hb, hg, by omega, hm, hs, ?_⟩⟩
    have e2 := congrArg (List.take (n * 32)) ht
    have e3 : List.take (n * 32) (xs ++ ys) = xs := by
      rw [List.take_append_of_le_length (by omega), List.take_of_length_le (by omega)]
    have e4 : min (n * 32) (m * 32) = n * 32 := by omega
    rw [List.take_take, e4, e3] at e2
    exact e2

/-- One sum behind a full row: a new row. -/
theorem run_app_growS (w : World) (ty : TypeId) (base : Nat) (A : Option Addr) (m c : Nat) (xs news : List Value) (hown : w.ownsRow base 50 32 (.slice A m c) m xs) (hc : c < m + 1) (hm : m ≤ 2000000000)
    (a : Addr) (hnl : news.length = 32) (hnews : ∀ j v, news[j]? = some v → w.cell? (a.add j) = some v) (hbase : base ≤ w.heap.size) :
    ∃ c' w', (Builtin.append_ #[53, 53] ty #[.slice A m c, .slice (some a) 1 1]).run Tryz.prog w = .ok (.slice (some ⟨w.heap.size, 0, none⟩) (m + 1) c') w' ∧
      w'.ownsRow base 50 32 (.slice (some ⟨w.heap.size, 0, none⟩) (m + 1) c') (m + 1) (xs ++ news) ∧ Below w.heap.size w w' := by
  obtain ⟨i0, hi, hz0, hz1, hz2⟩ := info_parts infoSum
  have hzs : (Value.agg (Array.replicate 32 (.int .u8 0))).cells.size = 32 := rfl
  have key : ∀ old, old < m + 1 → (w.drew.alloc (.cells (xs.toArray ++ news.toArray ++ Builtin.zeroCells (Value.agg (Array.replicate 32 (.int .u8 0))).cells (grownCap w (m + 1) old 50 - (m + 1))) 50)).ownsRow base 50 32
      (.slice (some ⟨w.heap.size, 0, none⟩) (m + 1) (grownCap w (m + 1) old 50)) (m + 1) (xs ++ news) := by
    intro old ho
    have hge := grownCap_ge w (m + 1) old 50
    have hcm : grownCap w (m + 1) old 50 ≤ maxLen := grownCap_le_maxLen w (m + 1) old 50 (by unfold maxLen; omega)
    have hl := hown.1
    refine ⟨by rw [List.length_append, hl, hnl]; omega, .inr ⟨w.heap.size, _, _, rfl, hbase, heap_alloc_new w.drew _, hge, hcm, ?_, ?_⟩⟩
    · simp only [Array.size_append, List.size_toArray, size_zeroCells, hl, hnl, hzs]
      omega
    · simp only [Array.toList_append]
      rw [List.take_append_of_le_length (by simp [hl, hnl]; omega)]
      rw [List.take_of_length_le (by simp [hl, hnl]; omega)]
  have hb : ∀ o, Below w.heap.size w (w.drew.alloc o) := fun o => ((Below.refl _ w).drew).alloc (Nat.le_refl _) o
  rcases hown.2 with ⟨e1, h0⟩ | ⟨g, cap, cur, e1, _, _, hle, _, _, _⟩
  · cases e1
    have hx : xs = [] := List.eq_nil_of_length_eq_zero (by have := hown.1; omega)
    subst hx
    have hr := run_append_nil (P := Tryz.prog) w 53 ty 50 i0 _ Tryz.underlying53 hi hz0 a 1 1 news (by rw [hz1, hnl]) hnews (by omega) (by omega) (by rw [hz2]; omega)
    have hk := key 0 (by omega)
    simp only [Nat.zero_add, List.nil_append, Array.empty_append] at hk ⊢
    exact ⟨_, _, hr, hk, hb _⟩
  · cases e1
    have hr := run_append_grow (P := Tryz.prog) w 53 ty 50 i0 _ Tryz.underlying53 hi hz0 ⟨g, 0, none⟩ m c xs (by rw [hz1]; exact hown.1) (hown.cells (g := g) rfl) a 1 1 news (by rw [hz1, hnl]) hnews (by omega) (by omega)
      (by rw [hz2]; exact growslice_fits (by omega) (by omega))
    exact ⟨_, _, hr, key c (by omega), hb _⟩

/-- The state of a list of sums that is being made longer: v is as it was; the longer one lies in its block, or in a new one. -/
def LongerS (base : Nat) (A : Option Addr) (n c : Nat) (num k : Nat) (wa wi : World) (A2 : Option Addr) (c2 : Nat) : Prop :=
  wi.ownsRow base 50 32 (.slice A2 (n + k) c2) (n + k) (marks (n + k) num) ∧ wi.ownsRow base 50 32 (.slice A n c) n (marks n num) ∧
  But (fun b => (Value.slice A n c).ownBlock = some b) wa wi ∧ ((A2 = A ∧ c2 = c) ∨ ∃ g2, A2 = some ⟨g2, 0, none⟩ ∧ wa.heap.size ≤ g2)

/-- One mark more. -/
theorem run_longerS (base : Nat) (A : Option Addr) (n c num k : Nat) (wa w : World) (A2 : Option Addr) (c2 : Nat) (ty : TypeId) (h : LongerS base A n c num k wa w A2 c2) (hwa : ∀ b, (Value.slice A n c).ownBlock = some b → b < wa.heap.size) (hn : n + k ≤ 2000000000) (hbase : base ≤ wa.heap.size)
    (a : Addr) (hu : At w a (mark32 num)) :
    ∃ A3 c3 w', (Builtin.append_ #[53, 53] ty #[.slice A2 (n + k) c2, .slice (some a) 1 1]).run Tryz.prog w = .ok (.slice A3 (n + (k + 1)) c3) w' ∧ LongerS base A n c num (k + 1) wa w' A3 c3 := by
  obtain ⟨h1, h2, h3, h4⟩ := h
  obtain ⟨i0, hi, hz0, hz1, hz2⟩ := info_parts infoSum
  have hsz := h3.size
  have hml : (bvs (mark32 num)).length = 32 := by rw [bvs_length, mark32_length]
  have hrep : marks (n + k) num ++ bvs (mark32 num) = marks (n + (k + 1)) num := by rw [← Nat.add_assoc, marks_snoc]
  have hnews : ∀ j v, (bvs (mark32 num))[j]? = some v → w.cell? (a.add j) = some v := fun j v hv => by
    rw [bvs_get] at hv
    obtain ⟨y, hy, rfl⟩ := Option.map_eq_some_iff.1 hv
    exact hu j y hy
  by_cases hfit : n + k + 1 ≤ c2
  · rcases h1.2 with ⟨e1, h0⟩ | ⟨g, cap, cur, e1, _⟩
    · injection e1 with e1 e2 e3
      omega
    · cases e1
      obtain ⟨w', hr, r1, r2⟩ := run_append_fits (P := Tryz.prog) w base 53 ty 50 i0 32 Tryz.underlying53 hi hz1 g (n + k) c2 _ h1 a 1 1 (bvs (mark32 num)) (by rw [hml]) hnews (bvs_oneCell _) hfit
      rw [hrep] at r1
      refine ⟨_, _, w', hr, r1, ?_, ?_, ?_⟩
      · rcases h4 with ⟨e2, e3⟩ | ⟨g2, e2, hg2⟩
        · subst e3
          rw [← e2]
          refine sub_rowS (m := n + (k + 1)) (ys := marks (k + 1) num) ?_ (marks_length _ _)
          rw [marks_add] at r1
          exact r1
        · cases e2
          refine h2.kept r2 (.inr ?_)
          intro e5
          have := hwa _ e5
          omega
      · refine h3.grown r2 (fun b e5 hb => ?_)
        cases e5
        rcases h4 with ⟨e2, _⟩ | ⟨g2, e2, hg2⟩
        · rw [← e2]; rfl
        · cases e2; omega
      · rcases h4 with ⟨e2, e3⟩ | ⟨g2, e2, hg2⟩
        · exact .inl ⟨e2, e3⟩
        · exact .inr ⟨g2, e2, hg2⟩
  · obtain ⟨c', w', hr, r1, r2⟩ := run_app_growS w ty base A2 (n + k) c2 _ _ h1 (by omega) (by omega) a hml hnews (by omega)
    rw [hrep] at r1
    exact ⟨_, _, w', hr, r1, own_kept_but h2 (But.of_below (S := fun _ => False) r2) (fun _ _ h => h), h3.trans (But.of_below r2), .inr ⟨_, rfl, hsz⟩⟩

theorem wpList_longerS {ops : Array Oper} {rest : List Oper} {o : Oper} {a : Act} {Q : Exit → Act → World → Prop} (w : World) (hgd : o.guard = none) (s x : Operand)
    (ho : o.op = .call { callee := .builtin .append, args := #[s, x], argTypes := #[53, 53] })
    (base : Nat) (A : Option Addr) (n c num k : Nat) (wa : World) (A2 : Option Addr) (c2 : Nat) (hs : a.eval s = .slice A2 (n + k) c2) (h : LongerS base A n c num k wa w A2 c2)
    (hwa : ∀ b, (Value.slice A n c).ownBlock = some b → b < wa.heap.size) (hn : n + k ≤ 2000000000) (hbase : base ≤ wa.heap.size) (ad : Addr) (hx : a.eval x = .slice (some ad) 1 1) (hu : At w ad (mark32 num))
    (hK : ∀ A3 c3 w', LongerS base A n c num (k + 1) wa w' A3 c3 → wpList Tryz.prog ops Q rest (a.put o.dst (.slice A3 (n + (k + 1)) c3)) w') : wpList Tryz.prog ops Q (o :: rest) a w := by
  refine wpList_plain hgd fun K hK' => ?_
  obtain ⟨A3, c3, w', hr, h2⟩ := run_longerS base A n c num k wa w A2 c2 o.type h hwa hn hbase ad hu
  unfold Oper.wp execOp
  simp only [ho, resolve, invoke, builtin, Sem.run_bind, Sem.run_pure, Result.andThen_ok, List.map_toArray, List.map_cons, List.map_nil, hs, hx, hr]
  exact hK' _ _ (hK A3 c3 w' h2)

theorem LongerS.below {base : Nat} {A : Option Addr} {n c num k : Nat} {wa w w' : World} {A2 : Option Addr} {c2 : Nat} (h : LongerS base A n c num k wa w A2 c2) (hb : Below w.heap.size w w') : LongerS base A n c num k wa w' A2 c2 :=
  ⟨own_on h.1 hb, own_on h.2.1 hb, h.2.2.1.trans (But.of_below hb), h.2.2.2⟩

theorem fill_mark (num : Nat) : Instr.fill (fun i => some (i * 32, 32)) ((Array.range (1 * 32)).map ((Array.replicate 32 (Value.int .u8 0))[· % 32]!)) [(0, sv (mark32 num))] = some (bvs (mark32 num)).toArray := by kernel_rfl

end Go.Proofs.YtnaebjdccngeoaaGreatDoor

/-
  The Book of the statements: each list of bytes is made longer, mark by mark.
-/
namespace Go.Proofs.YtnaebjdccngeoaaGreatDoor
open Go.RowKit

/-- The beginning of an owned row. -/
theorem sub_row {w : World} {base : Nat} {e : TypeId} {g n m c : Nat} {xs ys : List Value} (h : w.ownsRow base e 1 (.slice (some ⟨g, 0, none⟩) m c) m (xs ++ ys)) (hx : xs.length = n) : w.ownsRow base e 1 (.slice (some ⟨g, 0, none⟩) n c) n xs := by
  rcases h.2 with ⟨e1, _⟩ | ⟨g', cap, cur, e1, hb, hg, hle, hm, hs, ht⟩
  · cases e1
  · cases e1
    have hl := h.1
    rw [List.length_append, hx] at hl
    refine ⟨by omega, .inr ⟨g, c, cur, rfl, hb, hg, by omega, hm, hs, ?_⟩⟩
    have e2 := congrArg (List.take n) ht
    have e3 : List.take n (xs ++ ys) = xs := by
      rw [List.take_append_of_le_length (by omega), List.take_of_length_le (by omega)]
    have e4 : min n (m * 1) = n := by omega
    rw [List.take_take, e4, e3] at e2
    rw [Nat.mul_one]
    exact e2

/-- One byte behind a full row: a new row. -/
theorem run_app_grow (w : World) (ty : TypeId) (base : Nat) (A : Option Addr) (m c : Nat) (xs : List Value) (hown : w.ownsRow base 5 1 (.slice A m c) m xs) (hc : c < m + 1) (hm : m ≤ 2000000000)
    (a : Addr) (u : Value) (hu : w.cell? a = some u) (hbase : base ≤ w.heap.size) :
    ∃ c' w', (Builtin.append_ #[38, 38] ty #[.slice A m c, .slice (some a) 1 1]).run Tryz.prog w = .ok (.slice (some ⟨w.heap.size, 0, none⟩) (m + 1) c') w' ∧
      w'.ownsRow base 5 1 (.slice (some ⟨w.heap.size, 0, none⟩) (m + 1) c') (m + 1) (xs ++ [u]) ∧ Below w.heap.size w w' := by
  obtain ⟨i0, hi, hz0, hz1, hz2⟩ := info_parts infoByte
  have hnews : ∀ j v, [u][j]? = some v → w.cell? (a.add j) = some v := by
    intro j v hv
    cases j with
    | zero => simp at hv; subst hv; simpa [Addr.add] using hu
    | succ j => simp at hv
  have key : ∀ old, old < m + 1 → (w.drew.alloc (.cells (xs.toArray ++ [u].toArray ++ Builtin.zeroCells (Value.int .u8 0).cells (grownCap w (m + 1) old 5 - (m + 1))) 5)).ownsRow base 5 1
      (.slice (some ⟨w.heap.size, 0, none⟩) (m + 1) (grownCap w (m + 1) old 5)) (m + 1) (xs ++ [u]) := by
    intro old ho
    have hge := grownCap_ge w (m + 1) old 5
    have hcm : grownCap w (m + 1) old 5 ≤ maxLen := grownCap_le_maxLen w (m + 1) old 5 (by unfold maxLen; omega)
    have hl := hown.1
    refine ⟨by rw [List.length_append, hl]; rfl, .inr ⟨w.heap.size, _, _, rfl, hbase, heap_alloc_new w.drew _, hge, hcm, ?_, ?_⟩⟩
    · simp only [Array.size_append, List.size_toArray, size_zeroCells, hl, List.length_singleton]
      simp [Value.cells]
      omega
    · simp only [Array.toList_append]
      rw [List.take_append_of_le_length (by simp [hl])]
      rw [List.take_of_length_le (by simp [hl])]
  have hb : ∀ o, Below w.heap.size w (w.drew.alloc o) := fun o => ((Below.refl _ w).drew).alloc (Nat.le_refl _) o
  rcases hown.2 with ⟨e1, h0⟩ | ⟨g, cap, cur, e1, _, _, hle, _, _, _⟩
  · cases e1
    have hx : xs = [] := List.eq_nil_of_length_eq_zero (by have := hown.1; omega)
    subst hx
    have hr := run_append_nil (P := Tryz.prog) w 38 ty 5 i0 _ Tryz.underlying38 hi hz0 a 1 1 [u] (by rw [hz1]; rfl) hnews (by omega) (by omega) (by rw [hz2]; omega)
    have hk := key 0 (by omega)
    simp only [Nat.zero_add, List.nil_append, Array.empty_append] at hk ⊢
    exact ⟨_, _, hr, hk, hb _⟩
  · cases e1
    have hr := run_append_grow (P := Tryz.prog) w 38 ty 5 i0 _ Tryz.underlying38 hi hz0 ⟨g, 0, none⟩ m c xs (by rw [hz1]; exact hown.1) (hown.cells (g := g) rfl) a 1 1 [u] (by rw [hz1]; rfl) hnews (by omega) (by omega)
      (by rw [hz2]; exact growslice_fits (by omega) (by omega))
    exact ⟨_, _, hr, key c (by omega), hb _⟩

/-- The state of a list that is being made longer: v is as it was; the longer one lies in its block, or in a new one. -/
def Longer (base : Nat) (A : Option Addr) (n c : Nat) (num k : Nat) (wa wi : World) (A2 : Option Addr) (c2 : Nat) : Prop :=
  wi.ownsRow base 5 1 (.slice A2 (n + k) c2) (n + k) (List.replicate (n + k) (mk num)) ∧ wi.ownsRow base 5 1 (.slice A n c) n (List.replicate n (mk num)) ∧
  But (fun b => (Value.slice A n c).ownBlock = some b) wa wi ∧ ((A2 = A ∧ c2 = c) ∨ ∃ g2, A2 = some ⟨g2, 0, none⟩ ∧ wa.heap.size ≤ g2)

/-- One mark more. -/
theorem run_longer (base : Nat) (A : Option Addr) (n c num k : Nat) (wa w : World) (A2 : Option Addr) (c2 : Nat) (ty : TypeId) (h : Longer base A n c num k wa w A2 c2) (hwa : ∀ b, (Value.slice A n c).ownBlock = some b → b < wa.heap.size) (hn : n + k ≤ 2000000000) (hbase : base ≤ wa.heap.size)
    (a : Addr) (hu : w.cell? a = some (mk num)) :
    ∃ A3 c3 w', (Builtin.append_ #[38, 38] ty #[.slice A2 (n + k) c2, .slice (some a) 1 1]).run Tryz.prog w = .ok (.slice A3 (n + (k + 1)) c3) w' ∧ Longer base A n c num (k + 1) wa w' A3 c3 := by
  obtain ⟨h1, h2, h3, h4⟩ := h
  obtain ⟨i0, hi, hz0, hz1, hz2⟩ := info_parts infoByte
  have hsz := h3.size
  have hrep : List.replicate (n + k) (mk num) ++ [mk num] = List.replicate (n + (k + 1)) (mk num) := by rw [← Nat.add_assoc, List.replicate_succ']
  by_cases hfit : n + k + 1 ≤ c2
  · rcases h1.2 with ⟨e1, h0⟩ | ⟨g, cap, cur, e1, _⟩
    · injection e1 with e1 e2 e3
      omega
    · cases e1
      obtain ⟨w', hr, r1, r2⟩ := run_append_fits (P := Tryz.prog) w base 38 ty 5 i0 1 Tryz.underlying38 hi hz1 g (n + k) c2 _ h1 a 1 1 [mk num] rfl (by
        intro j v hv
        cases j with
        | zero => simp at hv; subst hv; simpa [Addr.add] using hu
        | succ j => simp at hv) (by simp [mk, Value.oneCell']) hfit
      rw [hrep] at r1
      refine ⟨_, _, w', hr, r1, ?_, ?_, ?_⟩
      · rcases h4 with ⟨e2, e3⟩ | ⟨g2, e2, hg2⟩
        · subst e3
          rw [← e2]
          refine sub_row (m := n + (k + 1)) (ys := List.replicate (k + 1) (mk num)) ?_ (by simp)
          rw [← List.replicate_append_replicate] at r1
          exact r1
        · cases e2
          refine h2.kept r2 (.inr ?_)
          intro e5
          have := hwa _ e5
          omega
      · refine h3.grown r2 (fun b e5 hb => ?_)
        cases e5
        rcases h4 with ⟨e2, _⟩ | ⟨g2, e2, hg2⟩
        · rw [← e2]; rfl
        · cases e2; omega
      · rcases h4 with ⟨e2, e3⟩ | ⟨g2, e2, hg2⟩
        · exact .inl ⟨e2, e3⟩
        · exact .inr ⟨g2, e2, hg2⟩
  · obtain ⟨c', w', hr, r1, r2⟩ := run_app_grow w ty base A2 (n + k) c2 _ h1 (by omega) (by omega) a _ hu (by omega)
    rw [hrep] at r1
    exact ⟨_, _, w', hr, r1, own_kept_but h2 (But.of_below (S := fun _ => False) r2) (fun _ _ h => h), h3.trans (But.of_below r2), .inr ⟨_, rfl, hsz⟩⟩

theorem wpList_longer {ops : Array Oper} {rest : List Oper} {o : Oper} {a : Act} {Q : Exit → Act → World → Prop} (w : World) (hgd : o.guard = none) (s x : Operand)
    (ho : o.op = .call { callee := .builtin .append, args := #[s, x], argTypes := #[38, 38] })
    (base : Nat) (A : Option Addr) (n c num k : Nat) (wa : World) (A2 : Option Addr) (c2 : Nat) (hs : a.eval s = .slice A2 (n + k) c2) (h : Longer base A n c num k wa w A2 c2)
    (hwa : ∀ b, (Value.slice A n c).ownBlock = some b → b < wa.heap.size) (hn : n + k ≤ 2000000000) (hbase : base ≤ wa.heap.size) (ad : Addr) (hx : a.eval x = .slice (some ad) 1 1) (hu : w.cell? ad = some (mk num))
    (hK : ∀ A3 c3 w', Longer base A n c num (k + 1) wa w' A3 c3 → wpList Tryz.prog ops Q rest (a.put o.dst (.slice A3 (n + (k + 1)) c3)) w') : wpList Tryz.prog ops Q (o :: rest) a w := by
  refine wpList_plain hgd fun K hK' => ?_
  obtain ⟨A3, c3, w', hr, h2⟩ := run_longer base A n c num k wa w A2 c2 o.type h hwa hn hbase ad hu
  unfold Oper.wp execOp
  simp only [ho, resolve, invoke, builtin, Sem.run_bind, Sem.run_pure, Result.andThen_ok, List.map_toArray, List.map_cons, List.map_nil, hs, hx, hr]
  exact hK' _ _ (hK A3 c3 w' h2)

end Go.Proofs.YtnaebjdccngeoaaGreatDoor

/-
  The Book of the statements: growByte, whole.
-/
namespace Go.Proofs.YtnaebjdccngeoaaGreatDoor
open Go.RowKit

theorem Longer.alloc {base : Nat} {A : Option Addr} {n c num k : Nat} {wa w : World} {A2 : Option Addr} {c2 : Nat} (h : Longer base A n c num k wa w A2 c2) (o : Obj) : Longer base A n c num k wa (w.alloc o) A2 c2 :=
  ⟨h.1.alloc o, h.2.1.alloc o, h.2.2.1.alloc o, h.2.2.2⟩
theorem Longer.drew {base : Nat} {A : Option Addr} {n c num k : Nat} {wa w : World} {A2 : Option Addr} {c2 : Nat} (h : Longer base A n c num k wa w A2 c2) : Longer base A n c num k wa w.drew A2 c2 :=
  ⟨h.1.drew, h.2.1.drew, h.2.2.1.drew, h.2.2.2⟩

theorem step_longer {ops : Array Oper} {o : Oper} {a : Act} {w : World} {K : Act → World → Prop} {Q : Exit → Act → World → Prop} {E : Prop} (hgd : o.guard = none) (s x : Operand)
    (ho : o.op = .call { callee := .builtin .append, args := #[s, x], argTypes := #[38, 38] })
    (base : Nat) (A : Option Addr) (n c num k : Nat) (wa : World) (A2 : Option Addr) (c2 : Nat) (hs : a.eval s = .slice A2 (n + k) c2) (h : Longer base A n c num k wa w A2 c2)
    (hwa : ∀ b, (Value.slice A n c).ownBlock = some b → b < wa.heap.size) (hn : n + k ≤ 2000000000) (hbase : base ≤ wa.heap.size) (ad : Addr) (hx : a.eval x = .slice (some ad) 1 1) (hu : w.cell? ad = some (mk num))
    (hK : ∀ A3 c3 w', Longer base A n c num (k + 1) wa w' A3 c3 → K (a.put o.dst (.slice A3 (n + (k + 1)) c3)) w') :
    if Region.wanted o (yielded ops a.tmps) = true then Oper.wp Tryz.prog o a w K Q else E := by
  have hw : Region.wanted o (yielded ops a.tmps) = true := by simp [Region.wanted, hgd]
  rw [if_pos hw]
  obtain ⟨A3, c3, w', hr, h2⟩ := run_longer base A n c num k wa w A2 c2 o.type h hwa hn hbase ad hu
  unfold Oper.wp execOp
  simp only [ho, resolve, invoke, builtin, Sem.run_bind, Sem.run_pure, Result.andThen_ok, List.map_toArray, List.map_cons, List.map_nil, hs, hx, hr]
  exact hK A3 c3 w' h2

/-- One cell of an owned row is written. -/
theorem own_setAt {w : World} {base g n cap size k : Nat} {e : TypeId} {xs : List Value} (u : Value) (h : w.ownsRow base e size (.slice (some ⟨g, 0, none⟩) n cap) n xs) : (w.setCell ⟨g, k, none⟩ u).ownsRow base e size (.slice (some ⟨g, 0, none⟩) n cap) n (xs.set k u) := by
  rcases h.2 with ⟨e, _⟩ | ⟨g', cap', cur, e, hb, hg, hle, hm, hs, htk⟩
  · cases e
  · cases e
    refine ⟨by rw [List.length_set]; exact h.1, .inr ⟨g, cap, cur.setIfInBounds k u, rfl, hb, heap_setCell_same w g k cur _ u hg, hle, hm, by simp [hs], ?_⟩⟩
    rw [Array.toList_setIfInBounds, List.take_set, htk]

/-- The longer list of one that is kept is laid down. -/
def Held.lay (h : Held) (A : Option Addr) (n c : Nat) : Held := { h with A2 := A, len2 := n, c2 := c }

theorem heldCells_set {hs : List Held} {i : Nat} {h : Held} (hi : hs[i]? = some h) (A : Option Addr) (n c : Nat) : (heldCells hs).set (i * 3 + 1) (.slice A n c) = heldCells (hs.set i (h.lay A n c)) := by
  induction hs generalizing i with
  | nil => simp at hi
  | cons k hs ih =>
    cases i with
    | zero => simp at hi; subst hi; rfl
    | succ i =>
      have := ih (i := i) (by simpa using hi)
      rw [show (i + 1) * 3 + 1 = (i * 3 + 1) + 1 + 1 + 1 by omega, heldCells_cons, show (k :: hs).set (i + 1) (h.lay A n c) = k :: hs.set i (h.lay A n c) from rfl, heldCells_cons, ← this]
      rfl

/-- One list, before and behind: it has its marks; when done, so has the longer one. -/
structure GrowAt (w wr : World) (base : Nat) (h h' : Held) (done : Prop) : Prop where
  v : h'.v = h.v
  num : h'.num = h.num
  len : h'.len = h.len
  row : wr.ownsRow base 5 1 h.v h.len (List.replicate h.len (mk h.num))
  long : done → h'.len2 = h.len + 40 ∧ wr.ownsRow base 5 1 h'.long (h.len + 40) (List.replicate (h.len + 40) (mk h.num)) ∧ (h'.long.ownBlock = h.v.ownBlock ∨ ∀ b, h'.long.ownBlock = some b → w.heap.size ≤ b)

def GrownTo (w wr : World) (base : Nat) (hs hs' : List Held) (j : Nat) : Prop :=
  hs'.length = hs.length ∧ ∀ (i : Nat) (h : Held), hs[i]? = some h → ∃ h', hs'[i]? = some h' ∧ GrowAt w wr base h h' (i < j)

theorem GrownTo.step {w wo wf : World} {base : Nat} {hs hs' : List Held} {j : Nat} {h h' : Held} (hg : GrownTo w wo base hs hs' j) (hlist : Lists w base hs) (hh : hs[j]? = some h) (hh' : hs'[j]? = some h') (A3 : Option Addr) (c3 : Nat)
    (hkeep : ∀ v n xs, wo.ownsRow base 5 1 v n xs → (∀ b, v.ownBlock = some b → h.v.ownBlock ≠ some b) → wf.ownsRow base 5 1 v n xs)
    (r1 : wf.ownsRow base 5 1 (.slice A3 (h.len + 40) c3) (h.len + 40) (List.replicate (h.len + 40) (mk h.num))) (r2 : wf.ownsRow base 5 1 h.v h.len (List.replicate h.len (mk h.num)))
    (r3 : (Value.slice A3 (h.len + 40) c3).ownBlock = h.v.ownBlock ∨ ∀ b, (Value.slice A3 (h.len + 40) c3).ownBlock = some b → w.heap.size ≤ b) : GrownTo w wf base hs (hs'.set j (h'.lay A3 (h.len + 40) c3)) (j + 1) := by
  have hjl : j < hs'.length := (List.getElem?_eq_some_iff.1 hh').1
  refine ⟨by rw [List.length_set]; exact hg.1, fun i k hk => ?_⟩
  obtain ⟨k', hk', G⟩ := hg.2 i k hk
  by_cases e : i = j
  · subst e
    rw [hh] at hk
    cases hk
    rw [hh'] at hk'
    cases hk'
    exact ⟨h'.lay A3 (h.len + 40) c3, by rw [List.getElem?_set_self hjl], G.v, G.num, G.len, r2, fun _ => ⟨rfl, r1, r3⟩⟩
  · have hap : ∀ b, k.v.ownBlock = some b → h.v.ownBlock ≠ some b := by
      intro b hb hb'
      rcases hlist.apart i j k h hk hh e with h0 | h0
      · rw [h0] at hb; cases hb
      · exact h0 (hb.trans hb'.symm)
    refine ⟨k', by rw [List.getElem?_set_ne (Ne.symm e)]; exact hk', G.v, G.num, G.len, hkeep _ _ _ G.row hap, fun hlt => ?_⟩
    obtain ⟨l1, l2, l3⟩ := G.long (by omega)
    refine ⟨l1, hkeep _ _ _ l2 (fun b hb hb' => ?_), l3⟩
    rcases l3 with l3 | l3
    · exact hap b (l3.symm.trans hb) hb'
    · obtain ⟨xs, hx⟩ := hlist.own j h hh
      have h1 := (hx.lt _ hb').2
      have h2 := l3 b hb
      omega

set_option maxRecDepth 100000 in
set_option maxHeartbeats 2000000 in
theorem growByte_any (kb N base K : Nat) (bs ss : Value) (hs : List Held) (w : World) (hbk : BookAt w kb N bs ss) (hown : w.ownsRow base 131 3 bs K (heldCells hs)) (hlist : Lists w base hs) (hfill : Filled w base hs K)
    (hK : K ≤ 1000000) (hlen : ∀ (i : Nat) (h : Held), hs[i]? = some h → h.len ≤ 1000000000) (hbase : base ≤ w.heap.size) :
    Calls Tryz.prog 78 #[.pointer (some ⟨kb, 0, none⟩)] w fun e w' => e = .returned (.tuple #[]) ∧
      ∃ hs', w'.ownsRow base 131 3 bs K (heldCells hs') ∧ GrownTo w w' base hs hs' K ∧ But (fun b => inLists hs b ∨ bs.ownBlock = some b) w w' := by
  have hKl : hs.length = K := by have := hown.1; rw [heldCells_length] at this; omega
  have HKl := Lib.hid hKl
  clear hKl
  obtain ⟨Ab, cb, rfl⟩ := own_form3 hown
  have h1 := hbk.b
  have start : GrownTo w w base hs hs 0 := ⟨rfl, fun i h hi => ⟨h, hi, rfl, rfl, rfl, by
    obtain ⟨xs, r1, r2⟩ := hfill i h hi
    rw [← r2 (by have := (List.getElem?_eq_some_iff.1 hi).1; rw [HKl.out] at this; exact this)]
    exact r1, fun e => by omega⟩⟩
  have HS := Lib.hid start
  clear start hfill
  go_enter Tryz.func78, Tryz.ntmps78
  go_wp2
  go_loopw [2] (fun i wr => ∃ (j : Nat) (hs' : List Held), j ≤ K ∧ i = .int .i64 (j : Int) ∧ wr.ownsRow base 131 3 (.slice Ab K cb) K (heldCells hs') ∧ GrownTo w wr base hs hs' j ∧ But (fun b => inLists hs b ∨ (Value.slice Ab K cb).ownBlock = some b) w wr) (fun i _ => K - (intOf i).toNat)
  case atStart => exact ⟨0, hs, Nat.zero_le _, rfl, hown, HS.out, But.refl _ _⟩
  case round =>
    obtain ⟨j, hs', hj, rfl, hown2, hgr, hbut⟩ := hrel
    obtain ⟨wo, rfl⟩ : ∃ wo : World, wo = wr := ⟨_, rfl⟩
    have nokb : ¬ (inLists hs kb ∨ (Value.slice Ab K cb).ownBlock = some kb) := by
      rintro (⟨i, h, hi, he⟩ | he)
      · obtain ⟨xs, hx⟩ := hlist.own i h hi
        exact hbk.other (by decide) hx he
      · exact hbk.other (by decide) hown he
    have hbk2 := hbk.but hbut nokb
    have h2 := hbk2.b
    have HG := Lib.hid hgr
    clear hgr
    by_cases hlt : j < K
    · obtain ⟨h0, hh0⟩ : ∃ h, hs[j]? = some h := ⟨_, List.getElem?_eq_getElem (by rw [HKl.out]; exact hlt)⟩
      obtain ⟨h, hh, G⟩ := HG.out.2 j h0 hh0
      obtain ⟨g1, g2, g3⟩ := heldCells_get hh
      rcases hown2.2 with ⟨e, h0⟩ | ⟨gb, cap, cur, e, hbb, hgb, hle, hm, hsz, htk⟩
      · omega
      · cases e
        have p1 : wo.cell? ⟨gb, j * 3, none⟩ = some h.v := by
          have := hown2.cells (g := gb) rfl _ _ g1
          rwa [Addr.add_lit, Nat.zero_add] at this
        have p2 : wo.cell? ⟨gb, j * 3 + 1, none⟩ = some h.long := by
          have := hown2.cells (g := gb) rfl _ _ g2
          rwa [Addr.add_lit, Nat.zero_add] at this
        have p3 : wo.cell? ⟨gb, j * 3 + 2, none⟩ = some (.int .i64 (h.num : Int)) := by
          have := hown2.cells (g := gb) rfl _ _ g3
          rwa [Addr.add_lit, Nat.zero_add] at this
        have i1 : (j : Int) < (K : Int) := by omega
        have hx0 := G.row
        rw [← G.v, ← G.num, ← G.len] at hx0
        have hl0 := hlen j h0 hh0
        rw [← G.len] at hl0
        have hlow : ∀ b, h.v.ownBlock = some b → b < w.heap.size := by
          intro b hb
          rw [G.v] at hb
          obtain ⟨xs, hx⟩ := hlist.own j h0 hh0
          exact (hx.lt _ hb).2
        have HL := Lib.hid hlow
        clear hlow
        have hsz0 := hbut.size
        have hnext : ∀ wi A3 c3, But (fun b => h.v.ownBlock = some b) wo wi → wi.ownsRow base 5 1 (.slice A3 (h.len + 40) c3) (h.len + 40) (List.replicate (h.len + 40) (mk h.num)) → wi.ownsRow base 5 1 h.v h.len (List.replicate h.len (mk h.num)) →
            ((Value.slice A3 (h.len + 40) c3).ownBlock = h.v.ownBlock ∨ ∀ b, (Value.slice A3 (h.len + 40) c3).ownBlock = some b → w.heap.size ≤ b) →
            ∃ hs2, (wi.setCell ⟨gb, j * 3 + 1, none⟩ (.slice A3 (h.len + 40) c3)).ownsRow base 131 3 (.slice (some ⟨gb, 0, none⟩) K cb) K (heldCells hs2) ∧
              GrownTo w (wi.setCell ⟨gb, j * 3 + 1, none⟩ (.slice A3 (h.len + 40) c3)) base hs hs2 (j + 1) ∧ But (fun b => inLists hs b ∨ (Value.slice (some ⟨gb, 0, none⟩) K cb).ownBlock = some b) w (wi.setCell ⟨gb, j * 3 + 1, none⟩ (.slice A3 (h.len + 40) c3)) := by
          intro wi A3 c3 hbi r1 r2 r3
          have howni : wi.ownsRow base 131 3 (.slice (some ⟨gb, 0, none⟩) K cb) K (heldCells hs') := own_kept_but hown2 hbi (by
            intro b hb hb'
            rcases rows_ne (by decide) hx0 hown2 with e0 | e0
            · rw [e0] at hb'; cases hb'
            · exact e0 (hb'.trans hb.symm))
          have off : ∀ v n xs, wi.ownsRow base 5 1 v n xs → (wi.setCell ⟨gb, j * 3 + 1, none⟩ (.slice A3 (h.len + 40) c3)).ownsRow base 5 1 v n xs := by
            intro v n xs hv
            refine hv.kept (grown_set wi gb _ _) ?_
            rcases rows_ne (by decide) hv howni with e0 | e0
            · left; exact e0
            · right; exact e0
          refine ⟨hs'.set j (h.lay A3 (h0.len + 40) c3), ?_, ?_, ?_⟩
          · have := own_setAt (k := j * 3 + 1) (.slice A3 (h.len + 40) c3) howni
            rw [heldCells_set hh, G.len] at this
            rw [G.len]
            exact this
          · rw [G.len, G.num] at r1
            rw [G.v, G.len, G.num] at r2
            rw [G.len, G.v] at r3
            rw [G.len] at off ⊢
            refine HG.out.step hlist hh0 hh A3 c3 (fun v n xs hv hne => off _ _ _ (own_kept_but hv hbi (fun b hb hb' => ?_))) (off _ _ _ r1) (off _ _ _ r2) r3
            rw [G.v] at hb'
            exact hne b hb hb'
          · refine (hbut.trans (hbi.mono (fun b _ hb => .inl ⟨j, h0, hh0, ?_⟩))).set _ _ (fun _ => .inr rfl)
            rw [← G.v]
            exact hb
        have HN := Lib.hid hnext
        clear hnext G g1 g2 g3 hh hh0
        obtain ⟨A, n, c, A2, n2, c2, num⟩ := h
        simp only [Held.v, Held.long] at p1 p2 p3 hx0 hl0
        go_wp2
        have hx1 := hx0.alloc (.cells #[.slice A n c, .slice A2 n2 c2, .int .i64 (num : Int)] 131)
        have hlt0 := hx0.lt
        obtain ⟨wa, hwa⟩ : ∃ wa, wo.alloc (.cells #[.slice A n c, .slice A2 n2 c2, .int .i64 (num : Int)] 131) = wa := ⟨_, rfl⟩
        have hba : But (fun b => (Value.slice A n c).ownBlock = some b) wo wa := by rw [← hwa]; exact (But.refl _ _).alloc _
        have hha : wa.heap[wo.heap.size]? = some (.cells #[.slice A n c, .slice A2 n2 c2, .int .i64 (num : Int)] 131 (0, 0)) := by rw [← hwa]; exact World.alloc_heap_new wo _
        rw [hwa] at hx1 ⊢
        have HH := Lib.hid hha
        clear hwa hha
        have q0 : wa.cell? ⟨wo.heap.size, 0, none⟩ = some (.slice A n c) := by rw [cell_of_row _ _ 0 _ _ (0, 0) HH.out]; rfl
        have hsza := hba.size
        have hwa' : ∀ b, (Value.slice A n c).ownBlock = some b → b < wa.heap.size := fun b hb => by have := (hlt0 b hb).2; omega
        go_wp2
        go_loopw [4, 5] (fun L i wi => ∃ (k : Nat) (A3 : Option Addr) (c3 : Nat), k ≤ 40 ∧ i = .int .i64 (k : Int) ∧ L = .slice A3 (n + k) c3 ∧ Longer base A n c num k wa wi A3 c3) (fun _ i _ => 40 - (intOf i).toNat)
        case atStart => exact ⟨0, A, c, Nat.zero_le _, rfl, rfl, hx1, hx1, But.refl _ _, .inl ⟨rfl, rfl⟩⟩
        case round =>
          obtain ⟨k, A3, c3, hk, rfl, rfl, hlg⟩ := hrel
          have hbi := hlg.2.2.1
          have hhi : wr.heap[wo.heap.size]? = some (.cells #[.slice A n c, .slice A2 n2 c2, .int .i64 (num : Int)] 131 (0, 0)) :=
            (hbi.block _ (Array.getElem?_eq_some_iff.1 HH.out).1 (fun e => by have := (hlt0 _ e).2; omega)).trans HH.out
          have q2 : wr.cell? ⟨wo.heap.size, 2, none⟩ = some (.int .i64 (num : Int)) := by rw [cell_of_row _ _ 2 _ _ (0, 0) hhi]; rfl
          clear hhi
          by_cases hlt2 : k < 40
          · have i2 : (k : Int) < 40 := by omega
            go_wp2_with (first
              | (go_at_call 138; refine (markByte_any num _).mono ?_; rintro e w' ⟨rfl, rfl⟩)
              | (at_builtin; refine wpList_longer _ rfl (.tmp 28) (.tmp 32) rfl base A n c num k wa A3 c3 rfl (hlg.alloc _) hwa' (by omega) (by omega) ⟨wr.heap.size, 0, none⟩ rfl (by simp [mk]) ?_; intro A4 c4 w4 hl4))
            go_roundw
            case rel => exact ⟨k + 1, A4, c4, by omega, by go_num, rfl, hl4⟩
            case measure => simp [intOf]; omega
          · obtain rfl : k = 40 := by omega
            have hb2 := hba.trans hbi
            obtain ⟨hs2, n1, n2', n3⟩ := HN.out wr A3 c3 hb2 hlg.1 hlg.2.1 (by
              rcases hlg.2.2.2 with ⟨e2, _⟩ | ⟨g2, e2, hg2⟩
              · left; rw [e2]; cases A <;> rfl
              · right
                intro b hb
                rw [e2] at hb
                obtain rfl : g2 = b := by simpa [Value.ownBlock] using hb
                omega)
            have hbk3 := hbk2.but hb2 (fun e => hbk2.other (by decide) hx0 e)
            have h3 := hbk3.b
            have hgb3 := (hb2.block gb (Array.getElem?_eq_some_iff.1 hgb).1 (fun e => by
              rcases rows_ne (by decide) hx0 hown2 with e0 | e0
              · rw [e0] at e; cases e
              · exact e0 e)).trans hgb
            obtain ⟨u, hu3⟩ : ∃ u, wr.cell? ⟨gb, j * 3 + 1, none⟩ = some u := ⟨cur[j * 3 + 1]'(by omega), by rw [cell_of_row _ gb _ _ _ (0, 0) hgb3]; exact Array.getElem?_eq_getElem (by omega)⟩
            have hf3 : wr.frozen? ⟨gb, j * 3 + 1, none⟩ = false := frozen_of_row _ gb _ _ _ hgb3
            clear hgb3 hgb htk
            have HN1 := Lib.hid n1
            have HN2 := Lib.hid n2'
            have HN3 := Lib.hid n3
            clear n1 n2' n3 HN
            go_wp2
            go_roundw
            case rel => exact ⟨j + 1, hs2, by omega, by go_num, HN1.out, HN2.out, HN3.out⟩
            case measure => simp [intOf]; omega
    · obtain rfl : j = K := by omega
      go_wp2
      go_end0
      exact ⟨rfl, hs', hown2, HG.out, hbut⟩

end Go.Proofs.YtnaebjdccngeoaaGreatDoor

/-
  The Book of the statements: growSum, whole.
-/
namespace Go.Proofs.YtnaebjdccngeoaaGreatDoor
open Go.RowKit

theorem wpList_build_mark {ops : Array Oper} {rest : List Oper} {o : Oper} {a : Act} {w : World} {Q : Exit → Act → World → Prop} (hg : o.guard = none) (x : Operand) (ho : o.op = .buildSlice 53 1 #[(0, x)])
    (num : Nat) (hx : a.eval x = sv (mark32 num))
    (h : wpList Tryz.prog ops Q rest (a.put o.dst (.slice (some ⟨w.heap.size, 0, none⟩) 1 1)) (w.alloc (.cells (bvs (mark32 num)).toArray 50))) : wpList Tryz.prog ops Q (o :: rest) a w := by
  obtain ⟨i0, hi, hz0, hz1, hz2⟩ := info_parts infoSum
  refine wpList_buildSlice hg 53 50 1 #[(0, x)] ho (bvs (mark32 num)).toArray i0 _ Tryz.underlying53 hi hz0 (by rw [hz1]; decide) (by rw [hz1]; decide) ?_ h
  rw [hz1]
  have e : (#[(0, x)].map fun (i, x) => (i, a.eval x)).toList = [(0, sv (mark32 num))] := by simp [hx]
  rw [e]
  exact fill_mark num

/-- One list, before and behind: it has its marks; when done, so has the longer one. -/
structure GrowAtS (w wr : World) (base : Nat) (h h' : Held) (done : Prop) : Prop where
  v : h'.v = h.v
  num : h'.num = h.num
  len : h'.len = h.len
  row : wr.ownsRow base 50 32 h.v h.len (marks h.len h.num)
  long : done → h'.len2 = h.len + 40 ∧ wr.ownsRow base 50 32 h'.long (h.len + 40) (marks (h.len + 40) h.num) ∧ (h'.long.ownBlock = h.v.ownBlock ∨ ∀ b, h'.long.ownBlock = some b → w.heap.size ≤ b)

def GrownToS (w wr : World) (base : Nat) (hs hs' : List Held) (j : Nat) : Prop :=
  hs'.length = hs.length ∧ ∀ (i : Nat) (h : Held), hs[i]? = some h → ∃ h', hs'[i]? = some h' ∧ GrowAtS w wr base h h' (i < j)

theorem GrownToS.step {w wo wf : World} {base : Nat} {hs hs' : List Held} {j : Nat} {h h' : Held} (hg : GrownToS w wo base hs hs' j) (hlist : ListsS w base hs) (hh : hs[j]? = some h) (hh' : hs'[j]? = some h') (A3 : Option Addr) (c3 : Nat)
    (hkeep : ∀ v n xs, wo.ownsRow base 50 32 v n xs → (∀ b, v.ownBlock = some b → h.v.ownBlock ≠ some b) → wf.ownsRow base 50 32 v n xs)
    (r1 : wf.ownsRow base 50 32 (.slice A3 (h.len + 40) c3) (h.len + 40) (marks (h.len + 40) h.num)) (r2 : wf.ownsRow base 50 32 h.v h.len (marks h.len h.num))
    (r3 : (Value.slice A3 (h.len + 40) c3).ownBlock = h.v.ownBlock ∨ ∀ b, (Value.slice A3 (h.len + 40) c3).ownBlock = some b → w.heap.size ≤ b) : GrownToS w wf base hs (hs'.set j (h'.lay A3 (h.len + 40) c3)) (j + 1) := by
  have hjl : j < hs'.length := (List.getElem?_eq_some_iff.1 hh').1
  refine ⟨by rw [List.length_set]; exact hg.1, fun i k hk => ?_⟩
  obtain ⟨k', hk', G⟩ := hg.2 i k hk
  by_cases e : i = j
  · subst e
    rw [hh] at hk
    cases hk
    rw [hh'] at hk'
    cases hk'
    exact ⟨h'.lay A3 (h.len + 40) c3, by rw [List.getElem?_set_self hjl], G.v, G.num, G.len, r2, fun _ => ⟨rfl, r1, r3⟩⟩
  · have hap : ∀ b, k.v.ownBlock = some b → h.v.ownBlock ≠ some b := by
      intro b hb hb'
      rcases hlist.apart i j k h hk hh e with h0 | h0
      · rw [h0] at hb; cases hb
      · exact h0 (hb.trans hb'.symm)
    refine ⟨k', by rw [List.getElem?_set_ne (Ne.symm e)]; exact hk', G.v, G.num, G.len, hkeep _ _ _ G.row hap, fun hlt => ?_⟩
    obtain ⟨l1, l2, l3⟩ := G.long (by omega)
    refine ⟨l1, hkeep _ _ _ l2 (fun b hb hb' => ?_), l3⟩
    rcases l3 with l3 | l3
    · exact hap b (l3.symm.trans hb) hb'
    · obtain ⟨xs, hx⟩ := hlist.own j h hh
      have h1 := (hx.lt _ hb').2
      have h2 := l3 b hb
      omega

set_option maxRecDepth 100000 in
set_option maxHeartbeats 2000000 in
theorem growSum_any (kb N base K : Nat) (bs ss : Value) (hs : List Held) (w : World) (hbk : BookAt w kb N bs ss) (hown : w.ownsRow base 142 3 ss K (heldCells hs)) (hlist : ListsS w base hs) (hfill : FilledS w base hs K)
    (hK : K ≤ 1000000) (hlen : ∀ (i : Nat) (h : Held), hs[i]? = some h → h.len ≤ 1000000000) (hbase : base ≤ w.heap.size) :
    Calls Tryz.prog 82 #[.pointer (some ⟨kb, 0, none⟩)] w fun e w' => e = .returned (.tuple #[]) ∧
      ∃ hs', w'.ownsRow base 142 3 ss K (heldCells hs') ∧ GrownToS w w' base hs hs' K ∧ But (fun b => inLists hs b ∨ ss.ownBlock = some b) w w' := by
  have hKl : hs.length = K := by have := hown.1; rw [heldCells_length] at this; omega
  have HKl := Lib.hid hKl
  clear hKl
  obtain ⟨Ab, cb, rfl⟩ := own_form3 hown
  have h1 := hbk.s
  have start : GrownToS w w base hs hs 0 := ⟨rfl, fun i h hi => ⟨h, hi, rfl, rfl, rfl, by
    obtain ⟨xs, r1, r2⟩ := hfill i h hi
    rw [← r2 (by have := (List.getElem?_eq_some_iff.1 hi).1; rw [HKl.out] at this; exact this)]
    exact r1, fun e => by omega⟩⟩
  have HS := Lib.hid start
  clear start hfill
  go_enter Tryz.func82, Tryz.ntmps82
  go_wp2
  go_loopw [2] (fun i wr => ∃ (j : Nat) (hs' : List Held), j ≤ K ∧ i = .int .i64 (j : Int) ∧ wr.ownsRow base 142 3 (.slice Ab K cb) K (heldCells hs') ∧ GrownToS w wr base hs hs' j ∧ But (fun b => inLists hs b ∨ (Value.slice Ab K cb).ownBlock = some b) w wr) (fun i _ => K - (intOf i).toNat)
  case atStart => exact ⟨0, hs, Nat.zero_le _, rfl, hown, HS.out, But.refl _ _⟩
  case round =>
    obtain ⟨j, hs', hj, rfl, hown2, hgr, hbut⟩ := hrel
    obtain ⟨wo, rfl⟩ : ∃ wo : World, wo = wr := ⟨_, rfl⟩
    have nokb : ¬ (inLists hs kb ∨ (Value.slice Ab K cb).ownBlock = some kb) := by
      rintro (⟨i, h, hi, he⟩ | he)
      · obtain ⟨xs, hx⟩ := hlist.own i h hi
        exact hbk.other (by decide) hx he
      · exact hbk.other (by decide) hown he
    have hbk2 := hbk.but hbut nokb
    have h2 := hbk2.s
    have HG := Lib.hid hgr
    clear hgr
    by_cases hlt : j < K
    · obtain ⟨h0, hh0⟩ : ∃ h, hs[j]? = some h := ⟨_, List.getElem?_eq_getElem (by rw [HKl.out]; exact hlt)⟩
      obtain ⟨h, hh, G⟩ := HG.out.2 j h0 hh0
      obtain ⟨g1, g2, g3⟩ := heldCells_get hh
      rcases hown2.2 with ⟨e, h0⟩ | ⟨gb, cap, cur, e, hbb, hgb, hle, hm, hsz, htk⟩
      · omega
      · cases e
        have p1 : wo.cell? ⟨gb, j * 3, none⟩ = some h.v := by
          have := hown2.cells (g := gb) rfl _ _ g1
          rwa [Addr.add_lit, Nat.zero_add] at this
        have p2 : wo.cell? ⟨gb, j * 3 + 1, none⟩ = some h.long := by
          have := hown2.cells (g := gb) rfl _ _ g2
          rwa [Addr.add_lit, Nat.zero_add] at this
        have p3 : wo.cell? ⟨gb, j * 3 + 2, none⟩ = some (.int .i64 (h.num : Int)) := by
          have := hown2.cells (g := gb) rfl _ _ g3
          rwa [Addr.add_lit, Nat.zero_add] at this
        have i1 : (j : Int) < (K : Int) := by omega
        have hx0 := G.row
        rw [← G.v, ← G.num, ← G.len] at hx0
        have hl0 := hlen j h0 hh0
        rw [← G.len] at hl0
        have hlow : ∀ b, h.v.ownBlock = some b → b < w.heap.size := by
          intro b hb
          rw [G.v] at hb
          obtain ⟨xs, hx⟩ := hlist.own j h0 hh0
          exact (hx.lt _ hb).2
        have HL := Lib.hid hlow
        clear hlow
        have hsz0 := hbut.size
        have hnext : ∀ wi A3 c3, But (fun b => h.v.ownBlock = some b) wo wi → wi.ownsRow base 50 32 (.slice A3 (h.len + 40) c3) (h.len + 40) (marks (h.len + 40) h.num) → wi.ownsRow base 50 32 h.v h.len (marks h.len h.num) →
            ((Value.slice A3 (h.len + 40) c3).ownBlock = h.v.ownBlock ∨ ∀ b, (Value.slice A3 (h.len + 40) c3).ownBlock = some b → w.heap.size ≤ b) →
            ∃ hs2, (wi.setCell ⟨gb, j * 3 + 1, none⟩ (.slice A3 (h.len + 40) c3)).ownsRow base 142 3 (.slice (some ⟨gb, 0, none⟩) K cb) K (heldCells hs2) ∧
              GrownToS w (wi.setCell ⟨gb, j * 3 + 1, none⟩ (.slice A3 (h.len + 40) c3)) base hs hs2 (j + 1) ∧ But (fun b => inLists hs b ∨ (Value.slice (some ⟨gb, 0, none⟩) K cb).ownBlock = some b) w (wi.setCell ⟨gb, j * 3 + 1, none⟩ (.slice A3 (h.len + 40) c3)) := by
          intro wi A3 c3 hbi r1 r2 r3
          have howni : wi.ownsRow base 142 3 (.slice (some ⟨gb, 0, none⟩) K cb) K (heldCells hs') := own_kept_but hown2 hbi (by
            intro b hb hb'
            rcases rows_ne (by decide) hx0 hown2 with e0 | e0
            · rw [e0] at hb'; cases hb'
            · exact e0 (hb'.trans hb.symm))
          have off : ∀ v n xs, wi.ownsRow base 50 32 v n xs → (wi.setCell ⟨gb, j * 3 + 1, none⟩ (.slice A3 (h.len + 40) c3)).ownsRow base 50 32 v n xs := by
            intro v n xs hv
            refine hv.kept (grown_set wi gb _ _) ?_
            rcases rows_ne (by decide) hv howni with e0 | e0
            · left; exact e0
            · right; exact e0
          refine ⟨hs'.set j (h.lay A3 (h0.len + 40) c3), ?_, ?_, ?_⟩
          · have := own_setAt (k := j * 3 + 1) (.slice A3 (h.len + 40) c3) howni
            rw [heldCells_set hh, G.len] at this
            rw [G.len]
            exact this
          · rw [G.len, G.num] at r1
            rw [G.v, G.len, G.num] at r2
            rw [G.len, G.v] at r3
            rw [G.len] at off ⊢
            refine HG.out.step hlist hh0 hh A3 c3 (fun v n xs hv hne => off _ _ _ (own_kept_but hv hbi (fun b hb hb' => ?_))) (off _ _ _ r1) (off _ _ _ r2) r3
            rw [G.v] at hb'
            exact hne b hb hb'
          · refine (hbut.trans (hbi.mono (fun b _ hb => .inl ⟨j, h0, hh0, ?_⟩))).set _ _ (fun _ => .inr rfl)
            rw [← G.v]
            exact hb
        have HN := Lib.hid hnext
        clear hnext G g1 g2 g3 hh hh0
        obtain ⟨A, n, c, A2, n2, c2, num⟩ := h
        simp only [Held.v, Held.long] at p1 p2 p3 hx0 hl0
        go_wp2
        have hx1 := hx0.alloc (.cells #[.slice A n c, .slice A2 n2 c2, .int .i64 (num : Int)] 142)
        have hlt0 := hx0.lt
        obtain ⟨wa, hwa⟩ : ∃ wa, wo.alloc (.cells #[.slice A n c, .slice A2 n2 c2, .int .i64 (num : Int)] 142) = wa := ⟨_, rfl⟩
        have hba : But (fun b => (Value.slice A n c).ownBlock = some b) wo wa := by rw [← hwa]; exact (But.refl _ _).alloc _
        have hha : wa.heap[wo.heap.size]? = some (.cells #[.slice A n c, .slice A2 n2 c2, .int .i64 (num : Int)] 142 (0, 0)) := by rw [← hwa]; exact World.alloc_heap_new wo _
        rw [hwa] at hx1 ⊢
        have HH := Lib.hid hha
        clear hwa hha
        have q0 : wa.cell? ⟨wo.heap.size, 0, none⟩ = some (.slice A n c) := by rw [cell_of_row _ _ 0 _ _ (0, 0) HH.out]; rfl
        have hsza := hba.size
        have hwa' : ∀ b, (Value.slice A n c).ownBlock = some b → b < wa.heap.size := fun b hb => by have := (hlt0 b hb).2; omega
        go_wp2
        go_loopw [4, 5] (fun L i wi => ∃ (k : Nat) (A3 : Option Addr) (c3 : Nat), k ≤ 40 ∧ i = .int .i64 (k : Int) ∧ L = .slice A3 (n + k) c3 ∧ LongerS base A n c num k wa wi A3 c3) (fun _ i _ => 40 - (intOf i).toNat)
        case atStart => exact ⟨0, A, c, Nat.zero_le _, rfl, rfl, hx1, hx1, But.refl _ _, .inl ⟨rfl, rfl⟩⟩
        case round =>
          obtain ⟨k, A3, c3, hk, rfl, rfl, hlg⟩ := hrel
          have hbi := hlg.2.2.1
          have hhi : wr.heap[wo.heap.size]? = some (.cells #[.slice A n c, .slice A2 n2 c2, .int .i64 (num : Int)] 142 (0, 0)) :=
            (hbi.block _ (Array.getElem?_eq_some_iff.1 HH.out).1 (fun e => by have := (hlt0 _ e).2; omega)).trans HH.out
          have q2 : wr.cell? ⟨wo.heap.size, 2, none⟩ = some (.int .i64 (num : Int)) := by rw [cell_of_row _ _ 2 _ _ (0, 0) hhi]; rfl
          clear hhi
          by_cases hlt2 : k < 40
          · have i2 : (k : Int) < 40 := by omega
            have CM := Lib.hid (markSum_any num wr)
            have HG2 := Lib.hid hlg
            clear hlg hbi
            go_wp2_with fail
            refine CM.out.mono ?_
            rintro e w3 ⟨rfl, hbm⟩
            have HG3 := Lib.hid (HG2.out.below (below_on hbm (Nat.le_refl _) (below_alloc w3 (.cells (bvs (mark32 num)).toArray 50))))
            clear CM hbm
            go_wp2_with (first
              | (with_reducible refine wpList_build_mark rfl (.tmp 31) rfl num rfl ?_)
              | (at_builtin; refine wpList_longerS _ rfl (.tmp 28) (.tmp 32) rfl base A n c num k wa A3 c3 rfl HG3.out hwa' (by omega) (by omega) ⟨w3.heap.size, 0, none⟩ rfl (BArr.new w3 50 (mark32 num)).at_ ?_; intro A4 c4 w4 hl4))
            go_roundw
            case rel => exact ⟨k + 1, A4, c4, by omega, by go_num, rfl, hl4⟩
            case measure => simp [intOf]; omega
          · obtain rfl : k = 40 := by omega
            have hb2 := hba.trans hbi
            obtain ⟨hs2, n1, n2', n3⟩ := HN.out wr A3 c3 hb2 hlg.1 hlg.2.1 (by
              rcases hlg.2.2.2 with ⟨e2, _⟩ | ⟨g2, e2, hg2⟩
              · left; rw [e2]; cases A <;> rfl
              · right
                intro b hb
                rw [e2] at hb
                obtain rfl : g2 = b := by simpa [Value.ownBlock] using hb
                omega)
            have hbk3 := hbk2.but hb2 (fun e => hbk2.other (by decide) hx0 e)
            have h3 := hbk3.s
            have hgb3 := (hb2.block gb (Array.getElem?_eq_some_iff.1 hgb).1 (fun e => by
              rcases rows_ne (by decide) hx0 hown2 with e0 | e0
              · rw [e0] at e; cases e
              · exact e0 e)).trans hgb
            obtain ⟨u, hu3⟩ : ∃ u, wr.cell? ⟨gb, j * 3 + 1, none⟩ = some u := ⟨cur[j * 3 + 1]'(by omega), by rw [cell_of_row _ gb _ _ _ (0, 0) hgb3]; exact Array.getElem?_eq_getElem (by omega)⟩
            have hf3 : wr.frozen? ⟨gb, j * 3 + 1, none⟩ = false := frozen_of_row _ gb _ _ _ hgb3
            clear hgb3 hgb htk
            have HN1 := Lib.hid n1
            have HN2 := Lib.hid n2'
            have HN3 := Lib.hid n3
            clear n1 n2' n3 HN
            go_wp2
            go_roundw
            case rel => exact ⟨j + 1, hs2, by omega, by go_num, HN1.out, HN2.out, HN3.out⟩
            case measure => simp [intOf]; omega
    · obtain rfl : j = K := by omega
      go_wp2
      go_end0
      exact ⟨rfl, hs', hown2, HG.out, hbut⟩

end Go.Proofs.YtnaebjdccngeoaaGreatDoor

/-
  The Book of the statements: lookByte.
-/
namespace Go.Proofs.YtnaebjdccngeoaaGreatDoor
open Go.RowKit

/-- A callee that leaves the world alone, met in a region that only reads. -/
theorem quiet_first {P : Program} {f : FuncId} {args : Array Value} {w : World} {n : Nat} {v : Value} (h : Calls P f args (w.drewN n) fun e w' => e = .returned v ∧ w' = w.drewN n) :
    Calls P f args (w.drewN n) fun e w'' => e = .returned v ∧ ∃ m, w'' = w.drewN m := h.mono fun _ _ ⟨he, hm⟩ => ⟨he, n, hm⟩

theorem But.drewN {S : Nat → Prop} {a w : World} (h : But S a w) (n : Nat) : But S a (w.drewN n) := ⟨h.os, h.tape, h.output, h.size, h.block⟩

set_option maxRecDepth 100000 in
set_option maxHeartbeats 400000 in
theorem isByte_any (num : Nat) (w : World) : Calls Tryz.prog 147 #[mk num, .int .i64 (num : Int)] w fun e w' => e = .returned (.bool true) ∧ w' = w := by
  unfold mk
  go_enter Tryz.func147, Tryz.ntmps147
  go_wp2
  go_ret
  exact ⟨rfl, rfl⟩

theorem own_mark {w : World} {base n m c k : Nat} {A : Option Addr} {u : Value} (h : w.ownsRow base 5 1 (.slice A m c) n (List.replicate n u)) (hk : k < n) : ∃ g, A = some ⟨g, 0, none⟩ ∧ w.cell? ⟨g, k, none⟩ = some u := by
  rcases h.2 with ⟨e, h0⟩ | ⟨g, cap, cur, e, _⟩
  · omega
  · cases e
    refine ⟨g, rfl, ?_⟩
    have := h.cells (g := g) rfl k u (by rw [List.getElem?_replicate, if_pos hk])
    rwa [Addr.add_lit, Nat.zero_add] at this

/-- Each list that is kept, and the longer one, has its marks. -/
def Marked (w : World) (base : Nat) (hs : List Held) : Prop := ∀ (i : Nat) (h : Held), hs[i]? = some h →
  h.len2 = h.len + 40 ∧ w.ownsRow base 5 1 h.v h.len (List.replicate h.len (mk h.num)) ∧ w.ownsRow base 5 1 h.long (h.len + 40) (List.replicate (h.len + 40) (mk h.num)) ∧ h.len ≤ 1000000000

set_option maxRecDepth 100000 in
set_option maxHeartbeats 2000000 in
theorem lookByte_any (kb N base K : Nat) (bs ss : Value) (hs : List Held) (w : World) (hbk : BookAt w kb N bs ss) (hown : w.ownsRow base 131 3 bs K (heldCells hs)) (hmark : Marked w base hs) (hK : K ≤ 1000000) :
    Calls Tryz.prog 87 #[.pointer (some ⟨kb, 0, none⟩)] w fun e w' => e = .returned (.bool true) ∧ But (fun _ => False) w w' := by
  have hKl : hs.length = K := by have := hown.1; rw [heldCells_length] at this; omega
  have HKl := Lib.hid hKl
  have HM := Lib.hid hmark
  clear hKl hmark
  obtain ⟨Ab, cb, rfl⟩ := own_form3 hown
  have h1 := hbk.b
  go_enter Tryz.func87, Tryz.ntmps87
  go_wp2
  go_loopw [3] (fun i wr => ∃ j : Nat, j ≤ K ∧ i = .int .i64 (j : Int) ∧ But (fun _ => False) w wr) (fun i _ => K - (intOf i).toNat)
  case atStart => exact ⟨0, Nat.zero_le _, rfl, But.refl _ _⟩
  case round =>
    obtain ⟨j, hj, rfl, hbut⟩ := hrel
    obtain ⟨wo, rfl⟩ : ∃ wo : World, wo = wr := ⟨_, rfl⟩
    have hbk2 := hbk.but hbut (fun e => e)
    have hown2 := own_kept_but hown hbut (fun _ _ e => e)
    have h2 := hbk2.b
    by_cases hlt : j < K
    · obtain ⟨h, hh⟩ : ∃ h, hs[j]? = some h := ⟨_, List.getElem?_eq_getElem (by rw [HKl.out]; exact hlt)⟩
      obtain ⟨g1, g2, g3⟩ := heldCells_get hh
      obtain ⟨m1, m2, m3, m4⟩ := HM.out j h hh
      rcases hown2.2 with ⟨e, h0⟩ | ⟨gb, cap, cur, e, hbb, hgb, hle, hm, hsz, htk⟩
      · omega
      · cases e
        have p1 : wo.cell? ⟨gb, j * 3, none⟩ = some h.v := by
          have := hown2.cells (g := gb) rfl _ _ g1
          rwa [Addr.add_lit, Nat.zero_add] at this
        have p2 : wo.cell? ⟨gb, j * 3 + 1, none⟩ = some h.long := by
          have := hown2.cells (g := gb) rfl _ _ g2
          rwa [Addr.add_lit, Nat.zero_add] at this
        have p3 : wo.cell? ⟨gb, j * 3 + 2, none⟩ = some (.int .i64 (h.num : Int)) := by
          have := hown2.cells (g := gb) rfl _ _ g3
          rwa [Addr.add_lit, Nat.zero_add] at this
        have i1 : (j : Int) < (K : Int) := by omega
        have hx0 := own_kept_but m2 hbut (fun _ _ e => e)
        have hy0 := own_kept_but m3 hbut (fun _ _ e => e)
        clear m2 m3 g1 g2 g3 hh
        obtain ⟨A, n, c, A2, n2, c2, num⟩ := h
        simp only [Held.v, Held.long] at p1 p2 p3 hx0 hy0 m1 m4
        subst m1
        go_wp2
        obtain ⟨wa, hwa⟩ : ∃ wa, wo.alloc (.cells #[.slice A n c, .slice A2 (n + 40) c2, .int .i64 (num : Int)] 131) = wa := ⟨_, rfl⟩
        have hba : But (fun _ => False) wo wa := by rw [← hwa]; exact (But.refl _ _).alloc _
        have hha : wa.heap[wo.heap.size]? = some (.cells #[.slice A n c, .slice A2 (n + 40) c2, .int .i64 (num : Int)] 131 (0, 0)) := by rw [← hwa]; exact World.alloc_heap_new wo _
        rw [hwa]
        have hx1 := own_kept_but hx0 hba (fun _ _ e => e)
        have hy1 := own_kept_but hy0 hba (fun _ _ e => e)
        have HH := Lib.hid hha
        clear hwa hha
        have q0 : wa.cell? ⟨wo.heap.size, 0, none⟩ = some (.slice A n c) := by rw [cell_of_row _ _ 0 _ _ (0, 0) HH.out]; rfl
        have q1 : wa.cell? ⟨wo.heap.size, 1, none⟩ = some (.slice A2 (n + 40) c2) := by rw [cell_of_row _ _ 1 _ _ (0, 0) HH.out]; rfl
        have i3 : IntKind.i64.wrap ((n : Int) + 40) = (n : Int) + 40 := by rw [IntKind.wrap_i64]; omega
        go_wp2
        go_loopw [5] (fun i wi => ∃ k : Nat, k ≤ n + 40 ∧ i = .int .i64 (k : Int) ∧ But (fun _ => False) wa wi) (fun i _ => n + 40 - (intOf i).toNat)
        case atStart => exact ⟨0, Nat.zero_le _, rfl, But.refl _ _⟩
        case round =>
          obtain ⟨k, hk, rfl, hbi⟩ := hrel
          have hhi : wr.heap[wo.heap.size]? = some (.cells #[.slice A n c, .slice A2 (n + 40) c2, .int .i64 (num : Int)] 131 (0, 0)) :=
            (hbi.block _ (Array.getElem?_eq_some_iff.1 HH.out).1 (fun e => e)).trans HH.out
          have r0 : wr.cell? ⟨wo.heap.size, 0, none⟩ = some (.slice A n c) := by rw [cell_of_row _ _ 0 _ _ (0, 0) hhi]; rfl
          have r1 : wr.cell? ⟨wo.heap.size, 1, none⟩ = some (.slice A2 (n + 40) c2) := by rw [cell_of_row _ _ 1 _ _ (0, 0) hhi]; rfl
          have r2 : wr.cell? ⟨wo.heap.size, 2, none⟩ = some (.int .i64 (num : Int)) := by rw [cell_of_row _ _ 2 _ _ (0, 0) hhi]; rfl
          clear hhi
          have hx2 := own_kept_but hx1 hbi (fun _ _ e => e)
          have hy2 := own_kept_but hy1 hbi (fun _ _ e => e)
          by_cases hlt2 : k < n + 40
          · obtain ⟨gl, rfl, cl⟩ := own_mark hy2 hlt2
            have i2 : (k : Int) < ((n + 40 : Nat) : Int) := by omega
            have C1 := Lib.hid (fun W => isByte_any num W)
            by_cases hin : k < n
            · obtain ⟨gv, rfl, cv⟩ := own_mark hx2 hin
              have i4 : (k : Int) < (n : Int) := by omega
              have i5 : decide ((k : Int) < (n : Int)) = true := by simpa using i4
              go_wp2
              go_quiet ((go_at_call 147; exact quiet_first (C1.out _)))
              go_wp2
              go_roundw
              case rel => exact ⟨k + 1, by omega, by go_num, hbi.drewN _⟩
              case measure => simp [intOf]; omega
            · have i4 : ¬ (k : Int) < (n : Int) := by omega
              have i5 : decide ((k : Int) < (n : Int)) = false := by simpa using i4
              go_wp2
              go_quiet ((go_at_call 147; exact quiet_first (C1.out _)))
              go_wp2
              go_roundw
              case rel => exact ⟨k + 1, by omega, by go_num, hbi.drewN _⟩
              case measure => simp [intOf]; omega
          · obtain rfl : k = n + 40 := by omega
            go_wp2
            go_roundw
            case rel => exact ⟨j + 1, by omega, by go_num, hbut.trans (hba.trans hbi)⟩
            case measure => simp [intOf]; omega
    · obtain rfl : j = K := by omega
      go_wp2
      go_ret
      exact ⟨rfl, hbut⟩

end Go.Proofs.YtnaebjdccngeoaaGreatDoor

/-
  The Book of the statements: lookSum.
-/
namespace Go.Proofs.YtnaebjdccngeoaaGreatDoor
open Go.RowKit

theorem own_markS {w : World} {base n m c k num : Nat} {A : Option Addr} (h : w.ownsRow base 50 32 (.slice A m c) n (marks n num)) (hk : k < n) : ∃ g, A = some ⟨g, 0, none⟩ ∧ At w ⟨g, k * 32, none⟩ (mark32 num) := by
  rcases h.2 with ⟨e, h0⟩ | ⟨g, cap, cur, e, _⟩
  · omega
  · cases e
    refine ⟨g, rfl, fun j x hx => ?_⟩
    have := h.cells (g := g) rfl _ _ (marks_at n num k hk j x hx)
    rw [Addr.add_lit, Nat.zero_add] at this
    rw [Addr.add_mid]
    exact this

/-- Each list that is kept, and the longer one, has its marks. -/
def MarkedS (w : World) (base : Nat) (hs : List Held) : Prop := ∀ (i : Nat) (h : Held), hs[i]? = some h →
  h.len2 = h.len + 40 ∧ w.ownsRow base 50 32 h.v h.len (marks h.len h.num) ∧ w.ownsRow base 50 32 h.long (h.len + 40) (marks (h.len + 40) h.num) ∧ h.len ≤ 1000000000

set_option maxRecDepth 100000 in
set_option maxHeartbeats 8000000 in
theorem lookSum_any (kb N base K : Nat) (bs ss : Value) (hs : List Held) (w : World) (hbk : BookAt w kb N bs ss) (hown : w.ownsRow base 142 3 ss K (heldCells hs)) (hmark : MarkedS w base hs) (hK : K ≤ 1000000) :
    Calls Tryz.prog 91 #[.pointer (some ⟨kb, 0, none⟩)] w fun e w' => e = .returned (.bool true) ∧ But (fun _ => False) w w' := by
  have hKl : hs.length = K := by have := hown.1; rw [heldCells_length] at this; omega
  have HKl := Lib.hid hKl
  have HM := Lib.hid hmark
  clear hKl hmark
  obtain ⟨Ab, cb, rfl⟩ := own_form3 hown
  have h1 := hbk.s
  go_enter Tryz.func91, Tryz.ntmps91
  go_wp2
  go_loopw [3] (fun i wr => ∃ j : Nat, j ≤ K ∧ i = .int .i64 (j : Int) ∧ But (fun _ => False) w wr) (fun i _ => K - (intOf i).toNat)
  case atStart => exact ⟨0, Nat.zero_le _, rfl, But.refl _ _⟩
  case round =>
    obtain ⟨j, hj, rfl, hbut⟩ := hrel
    obtain ⟨wo, rfl⟩ : ∃ wo : World, wo = wr := ⟨_, rfl⟩
    have hbk2 := hbk.but hbut (fun e => e)
    have hown2 := own_kept_but hown hbut (fun _ _ e => e)
    have h2 := hbk2.s
    by_cases hlt : j < K
    · obtain ⟨h, hh⟩ : ∃ h, hs[j]? = some h := ⟨_, List.getElem?_eq_getElem (by rw [HKl.out]; exact hlt)⟩
      obtain ⟨g1, g2, g3⟩ := heldCells_get hh
      obtain ⟨m1, m2, m3, m4⟩ := HM.out j h hh
      rcases hown2.2 with ⟨e, h0⟩ | ⟨gb, cap, cur, e, hbb, hgb, hle, hm, hsz, htk⟩
      · omega
      · cases e
        have p1 : wo.cell? ⟨gb, j * 3, none⟩ = some h.v := by
          have := hown2.cells (g := gb) rfl _ _ g1
          rwa [Addr.add_lit, Nat.zero_add] at this
        have p2 : wo.cell? ⟨gb, j * 3 + 1, none⟩ = some h.long := by
          have := hown2.cells (g := gb) rfl _ _ g2
          rwa [Addr.add_lit, Nat.zero_add] at this
        have p3 : wo.cell? ⟨gb, j * 3 + 2, none⟩ = some (.int .i64 (h.num : Int)) := by
          have := hown2.cells (g := gb) rfl _ _ g3
          rwa [Addr.add_lit, Nat.zero_add] at this
        have i1 : (j : Int) < (K : Int) := by omega
        have hx0 := own_kept_but m2 hbut (fun _ _ e => e)
        have hy0 := own_kept_but m3 hbut (fun _ _ e => e)
        clear m2 m3 g1 g2 g3 hh
        obtain ⟨A, n, c, A2, n2, c2, num⟩ := h
        simp only [Held.v, Held.long] at p1 p2 p3 hx0 hy0 m1 m4
        subst m1
        go_wp2
        obtain ⟨wa, hwa⟩ : ∃ wa, wo.alloc (.cells #[.slice A n c, .slice A2 (n + 40) c2, .int .i64 (num : Int)] 142) = wa := ⟨_, rfl⟩
        have hba : But (fun _ => False) wo wa := by rw [← hwa]; exact (But.refl _ _).alloc _
        have hha : wa.heap[wo.heap.size]? = some (.cells #[.slice A n c, .slice A2 (n + 40) c2, .int .i64 (num : Int)] 142 (0, 0)) := by rw [← hwa]; exact World.alloc_heap_new wo _
        rw [hwa]
        have hx1 := own_kept_but hx0 hba (fun _ _ e => e)
        have hy1 := own_kept_but hy0 hba (fun _ _ e => e)
        have HH := Lib.hid hha
        clear hwa hha
        have q0 : wa.cell? ⟨wo.heap.size, 0, none⟩ = some (.slice A n c) := by rw [cell_of_row _ _ 0 _ _ (0, 0) HH.out]; rfl
        have q1 : wa.cell? ⟨wo.heap.size, 1, none⟩ = some (.slice A2 (n + 40) c2) := by rw [cell_of_row _ _ 1 _ _ (0, 0) HH.out]; rfl
        have i3 : IntKind.i64.wrap ((n : Int) + 40) = (n : Int) + 40 := by rw [IntKind.wrap_i64]; omega
        go_wp2
        go_loopw [5] (fun i wi => ∃ k : Nat, k ≤ n + 40 ∧ i = .int .i64 (k : Int) ∧ But (fun _ => False) wa wi) (fun i _ => n + 40 - (intOf i).toNat)
        case atStart => exact ⟨0, Nat.zero_le _, rfl, But.refl _ _⟩
        case round =>
          obtain ⟨k, hk, rfl, hbi⟩ := hrel
          have hhi : wr.heap[wo.heap.size]? = some (.cells #[.slice A n c, .slice A2 (n + 40) c2, .int .i64 (num : Int)] 142 (0, 0)) :=
            (hbi.block _ (Array.getElem?_eq_some_iff.1 HH.out).1 (fun e => e)).trans HH.out
          have r0 : wr.cell? ⟨wo.heap.size, 0, none⟩ = some (.slice A n c) := by rw [cell_of_row _ _ 0 _ _ (0, 0) hhi]; rfl
          have r1 : wr.cell? ⟨wo.heap.size, 1, none⟩ = some (.slice A2 (n + 40) c2) := by rw [cell_of_row _ _ 1 _ _ (0, 0) hhi]; rfl
          have r2 : wr.cell? ⟨wo.heap.size, 2, none⟩ = some (.int .i64 (num : Int)) := by rw [cell_of_row _ _ 2 _ _ (0, 0) hhi]; rfl
          clear hhi
          have hx2 := own_kept_but hx1 hbi (fun _ _ e => e)
          have hy2 := own_kept_but hy1 hbi (fun _ _ e => e)
          by_cases hlt2 : k < n + 40
          · obtain ⟨gl, rfl, cl⟩ := own_markS hy2 hlt2
            have i2 : (k : Int) < ((n + 40 : Nat) : Int) := by omega
            have CS := Lib.hid (fun (W : World) (_ : Below wr.heap.size wr W) => isSum_any num (mark32 num) rfl W)
            have HB := Lib.hid hbi
            by_cases hin : k < n
            · obtain ⟨gv, rfl, cv⟩ := own_markS hx2 hin
              have i4 : (k : Int) < (n : Int) := by omega
              have HQ := Lib.hid (And.intro r0 (And.intro r1 r2))
              have HA := Lib.hid (And.intro cl cv)
              clear cl cv hbi
              go_wp2
              refine wp_region_quiet (C := fun w' => Below wr.heap.size wr w') (by kernel_rfl) (by kernel_rfl) ((Below.refl _ _).drew) ?_
              with_reducible refine wpQuiet_step (fun K hK => ?_)
              go_simp
              with_reducible refine ⟨_, fun _ _ => rfl, hK _ ?_⟩
              clear hK K
              refine wpQuiet_step (fun K hK => ?_)
              refine quiet_load_cell (by rfl) 53 agg_sums (.tmp 37) rfl ⟨wo.heap.size, 1, none⟩ rfl (.slice (some ⟨gl, 0, none⟩) (n + 40) c2) (fun W hC => (hC.cell (World.block_lt_of_cell? wr _ HQ.out.2.1)).trans HQ.out.2.1) (hK _ ?_)
              clear hK K
              with_reducible refine wpQuiet_step (fun K hK => ?_)
              go_simp
              with_reducible refine ⟨_, fun _ _ => rfl, hK _ ?_⟩
              clear hK K
              with_reducible refine wpQuiet_step (fun K hK => ?_)
              go_simp
              with_reducible refine ⟨_, fun _ _ => rfl, hK _ ?_⟩
              clear hK K
              refine wpQuiet_step (fun K hK => ?_)
              refine quiet_load_sum' (by rfl) (.tmp 40) rfl ⟨gl, k * 32, none⟩ rfl (mark32 num) (mark32_length num) (fun W hC => HA.out.1.below hC) (hK _ ?_)
              clear hK K
              with_reducible refine wpQuiet_step (fun K hK => ?_)
              go_simp
              with_reducible refine ⟨_, fun _ _ => rfl, hK _ ?_⟩
              clear hK K
              refine wpQuiet_step (fun K hK => ?_)
              refine quiet_load_cell (by rfl) 3 agg_int (.tmp 42) rfl ⟨wo.heap.size, 2, none⟩ rfl (.int .i64 (num : Int)) (fun W hC => (hC.cell (World.block_lt_of_cell? wr _ HQ.out.2.2)).trans HQ.out.2.2) (hK _ ?_)
              clear hK K
              refine wpQuiet_step (fun K hK => ?_)
              go_simp
              refine ⟨.bool true, fun W hC => (CS.out W hC).mono fun e w'' ⟨he, hb'⟩ => ⟨he, below_on hC (Nat.le_refl _) hb'⟩, hK _ ?_⟩
              clear hK K
              with_reducible refine wpQuiet_step (fun K hK => ?_)
              go_simp
              with_reducible refine ⟨_, fun _ _ => rfl, hK _ ?_⟩
              clear hK K
              with_reducible refine wpQuiet_step (fun K hK => ?_)
              go_simp
              with_reducible refine ⟨_, fun _ _ => rfl, hK _ ?_⟩
              clear hK K
              with_reducible refine wpQuiet_step (fun K hK => ?_)
              go_simp
              with_reducible refine ⟨_, fun _ _ => rfl, hK _ ?_⟩
              clear hK K
              with_reducible refine wpQuiet_step (fun K hK => ?_)
              go_simp
              with_reducible refine ⟨_, fun _ _ => rfl, hK _ ?_⟩
              clear hK K
              refine wpQuiet_step (fun K hK => ?_)
              refine quiet_load_cell (by rfl) 53 agg_sums (.tmp 48) rfl ⟨wo.heap.size, 0, none⟩ rfl (.slice (some ⟨gv, 0, none⟩) n c) (fun W hC => (hC.cell (World.block_lt_of_cell? wr _ HQ.out.1)).trans HQ.out.1) (hK _ ?_)
              clear hK K
              with_reducible refine wpQuiet_step (fun K hK => ?_)
              go_simp
              with_reducible refine ⟨_, fun _ _ => rfl, hK _ ?_⟩
              clear hK K
              with_reducible refine wpQuiet_step (fun K hK => ?_)
              go_simp
              with_reducible refine ⟨_, fun _ _ => rfl, hK _ ?_⟩
              clear hK K
              with_reducible refine wpQuiet_step (fun K hK => ?_)
              go_simp
              with_reducible refine ⟨_, fun _ _ => rfl, hK _ ?_⟩
              clear hK K
              with_reducible refine wpQuiet_step (fun K hK => ?_)
              go_simp
              with_reducible refine ⟨_, fun _ _ => rfl, hK _ ?_⟩
              clear hK K
              refine wpQuiet_step (fun K hK => ?_)
              refine quiet_load_cell (by rfl) 53 agg_sums (.tmp 53) rfl ⟨wo.heap.size, 0, none⟩ rfl (.slice (some ⟨gv, 0, none⟩) n c) (fun W hC => (hC.cell (World.block_lt_of_cell? wr _ HQ.out.1)).trans HQ.out.1) (hK _ ?_)
              clear hK K
              with_reducible refine wpQuiet_step (fun K hK => ?_)
              go_simp
              with_reducible refine ⟨_, fun _ _ => rfl, hK _ ?_⟩
              clear hK K
              with_reducible refine wpQuiet_step (fun K hK => ?_)
              go_simp
              with_reducible refine ⟨_, fun _ _ => rfl, hK _ ?_⟩
              clear hK K
              refine wpQuiet_step (fun K hK => ?_)
              refine quiet_load_sum' (by rfl) (.tmp 56) rfl ⟨gv, k * 32, none⟩ rfl (mark32 num) (mark32_length num) (fun W hC => HA.out.2.below hC) (hK _ ?_)
              clear hK K
              with_reducible refine wpQuiet_step (fun K hK => ?_)
              go_simp
              with_reducible refine ⟨_, fun _ _ => rfl, hK _ ?_⟩
              clear hK K
              refine wpQuiet_step (fun K hK => ?_)
              refine quiet_load_cell (by rfl) 3 agg_int (.tmp 58) rfl ⟨wo.heap.size, 2, none⟩ rfl (.int .i64 (num : Int)) (fun W hC => (hC.cell (World.block_lt_of_cell? wr _ HQ.out.2.2)).trans HQ.out.2.2) (hK _ ?_)
              clear hK K
              refine wpQuiet_step (fun K hK => ?_)
              go_simp
              refine ⟨.bool true, fun W hC => (CS.out W hC).mono fun e w'' ⟨he, hb'⟩ => ⟨he, below_on hC (Nat.le_refl _) hb'⟩, hK _ ?_⟩
              clear hK K
              with_reducible refine wpQuiet_step (fun K hK => ?_)
              go_simp
              with_reducible refine ⟨_, fun _ _ => rfl, hK _ ?_⟩
              clear hK K
              with_reducible refine wpQuiet_step (fun K hK => ?_)
              go_simp
              with_reducible refine ⟨_, fun _ _ => rfl, hK _ ?_⟩
              clear hK K
              with_reducible refine wpQuiet_step (fun K hK => ?_)
              go_simp
              with_reducible refine ⟨_, fun _ _ => rfl, hK _ ?_⟩
              clear hK K
              with_reducible refine wpQuiet_nil ?_
              intro w6 hb6
              go_wp2
              go_roundw
              case rel => exact ⟨k + 1, by omega, by go_num, HB.out.trans (But.of_below hb6)⟩
              case measure => simp [intOf]; omega
            · have i3n : ¬ (k : Int) < (n : Int) := by omega
              have i4 : decide ((k : Int) < (n : Int)) = false := by simpa using i3n
              have HQ := Lib.hid (And.intro r0 (And.intro r1 r2))
              have HA := Lib.hid (And.intro cl True.intro)
              clear cl hbi
              go_wp2
              refine wp_region_quiet (C := fun w' => Below wr.heap.size wr w') (by kernel_rfl) (by kernel_rfl) ((Below.refl _ _).drew) ?_
              with_reducible refine wpQuiet_step (fun K hK => ?_)
              go_simp
              with_reducible refine ⟨_, fun _ _ => rfl, hK _ ?_⟩
              clear hK K
              refine wpQuiet_step (fun K hK => ?_)
              refine quiet_load_cell (by rfl) 53 agg_sums (.tmp 37) rfl ⟨wo.heap.size, 1, none⟩ rfl (.slice (some ⟨gl, 0, none⟩) (n + 40) c2) (fun W hC => (hC.cell (World.block_lt_of_cell? wr _ HQ.out.2.1)).trans HQ.out.2.1) (hK _ ?_)
              clear hK K
              with_reducible refine wpQuiet_step (fun K hK => ?_)
              go_simp
              with_reducible refine ⟨_, fun _ _ => rfl, hK _ ?_⟩
              clear hK K
              with_reducible refine wpQuiet_step (fun K hK => ?_)
              go_simp
              with_reducible refine ⟨_, fun _ _ => rfl, hK _ ?_⟩
              clear hK K
              refine wpQuiet_step (fun K hK => ?_)
              refine quiet_load_sum' (by rfl) (.tmp 40) rfl ⟨gl, k * 32, none⟩ rfl (mark32 num) (mark32_length num) (fun W hC => HA.out.1.below hC) (hK _ ?_)
              clear hK K
              with_reducible refine wpQuiet_step (fun K hK => ?_)
              go_simp
              with_reducible refine ⟨_, fun _ _ => rfl, hK _ ?_⟩
              clear hK K
              refine wpQuiet_step (fun K hK => ?_)
              refine quiet_load_cell (by rfl) 3 agg_int (.tmp 42) rfl ⟨wo.heap.size, 2, none⟩ rfl (.int .i64 (num : Int)) (fun W hC => (hC.cell (World.block_lt_of_cell? wr _ HQ.out.2.2)).trans HQ.out.2.2) (hK _ ?_)
              clear hK K
              refine wpQuiet_step (fun K hK => ?_)
              go_simp
              refine ⟨.bool true, fun W hC => (CS.out W hC).mono fun e w'' ⟨he, hb'⟩ => ⟨he, below_on hC (Nat.le_refl _) hb'⟩, hK _ ?_⟩
              clear hK K
              with_reducible refine wpQuiet_step (fun K hK => ?_)
              go_simp
              with_reducible refine ⟨_, fun _ _ => rfl, hK _ ?_⟩
              clear hK K
              with_reducible refine wpQuiet_step (fun K hK => ?_)
              go_simp
              with_reducible refine ⟨_, fun _ _ => rfl, hK _ ?_⟩
              clear hK K
              with_reducible refine wpQuiet_step (fun K hK => ?_)
              go_simp
              with_reducible refine ⟨_, fun _ _ => rfl, hK _ ?_⟩
              clear hK K
              with_reducible refine wpQuiet_step (fun K hK => ?_)
              go_simp
              with_reducible refine ⟨_, fun _ _ => rfl, hK _ ?_⟩
              clear hK K
              refine wpQuiet_step (fun K hK => ?_)
              refine quiet_load_cell (by rfl) 53 agg_sums (.tmp 48) rfl ⟨wo.heap.size, 0, none⟩ rfl (.slice A n c) (fun W hC => (hC.cell (World.block_lt_of_cell? wr _ HQ.out.1)).trans HQ.out.1) (hK _ ?_)
              clear hK K
              with_reducible refine wpQuiet_step (fun K hK => ?_)
              go_simp
              with_reducible refine ⟨_, fun _ _ => rfl, hK _ ?_⟩
              clear hK K
              with_reducible refine wpQuiet_step (fun K hK => ?_)
              go_simp
              with_reducible refine ⟨_, fun _ _ => rfl, hK _ ?_⟩
              clear hK K
              with_reducible refine wpQuiet_step (fun K hK => ?_)
              go_simp
              with_reducible refine ⟨_, fun _ _ => rfl, hK _ ?_⟩
              clear hK K
              with_reducible refine wpQuiet_step (fun K hK => ?_)
              go_simp
              with_reducible refine hK _ ?_
              clear hK K
              with_reducible refine wpQuiet_step (fun K hK => ?_)
              go_simp
              with_reducible refine hK _ ?_
              clear hK K
              with_reducible refine wpQuiet_step (fun K hK => ?_)
              go_simp
              with_reducible refine hK _ ?_
              clear hK K
              with_reducible refine wpQuiet_step (fun K hK => ?_)
              go_simp
              with_reducible refine hK _ ?_
              clear hK K
              with_reducible refine wpQuiet_step (fun K hK => ?_)
              go_simp
              with_reducible refine hK _ ?_
              clear hK K
              with_reducible refine wpQuiet_step (fun K hK => ?_)
              go_simp
              with_reducible refine hK _ ?_
              clear hK K
              with_reducible refine wpQuiet_step (fun K hK => ?_)
              go_simp
              with_reducible refine hK _ ?_
              clear hK K
              with_reducible refine wpQuiet_step (fun K hK => ?_)
              go_simp
              with_reducible refine hK _ ?_
              clear hK K
              with_reducible refine wpQuiet_step (fun K hK => ?_)
              go_simp
              with_reducible refine hK _ ?_
              clear hK K
              with_reducible refine wpQuiet_step (fun K hK => ?_)
              go_simp
              with_reducible refine ⟨_, fun _ _ => rfl, hK _ ?_⟩
              clear hK K
              with_reducible refine wpQuiet_step (fun K hK => ?_)
              go_simp
              with_reducible refine ⟨_, fun _ _ => rfl, hK _ ?_⟩
              clear hK K
              with_reducible refine wpQuiet_nil ?_
              intro w6 hb6
              go_wp2
              go_roundw
              case rel => exact ⟨k + 1, by omega, by go_num, HB.out.trans (But.of_below hb6)⟩
              case measure => simp [intOf]; omega
          · obtain rfl : k = n + 40 := by omega
            go_wp2
            go_roundw
            case rel => exact ⟨j + 1, by omega, by go_num, hbut.trans (hba.trans hbi)⟩
            case measure => simp [intOf]; omega
    · obtain rfl : j = K := by omega
      go_wp2
      go_ret
      exact ⟨rfl, hbut⟩

end Go.Proofs.YtnaebjdccngeoaaGreatDoor

/-
  The Book of the statements: the kinds of which it keeps no list.
-/
namespace Go.Proofs.YtnaebjdccngeoaaGreatDoor
open Go.RowKit

theorem BookAt.noneInt {w : World} {kb N : Nat} {bs ss : Value} (h : BookAt w kb N bs ss) : w.cell? ⟨kb, 2, none⟩ = some (.slice none 0 0) := by rw [cell_of_row _ kb 2 _ _ (0, 0) h]; rfl

theorem BookAt.noneText {w : World} {kb N : Nat} {bs ss : Value} (h : BookAt w kb N bs ss) : w.cell? ⟨kb, 3, none⟩ = some (.slice none 0 0) := by rw [cell_of_row _ kb 3 _ _ (0, 0) h]; rfl

theorem BookAt.noneByteList {w : World} {kb N : Nat} {bs ss : Value} (h : BookAt w kb N bs ss) : w.cell? ⟨kb, 4, none⟩ = some (.slice none 0 0) := by rw [cell_of_row _ kb 4 _ _ (0, 0) h]; rfl

theorem BookAt.nonePair {w : World} {kb N : Nat} {bs ss : Value} (h : BookAt w kb N bs ss) : w.cell? ⟨kb, 6, none⟩ = some (.slice none 0 0) := by rw [cell_of_row _ kb 6 _ _ (0, 0) h]; rfl

theorem BookAt.noneTenant {w : World} {kb N : Nat} {bs ss : Value} (h : BookAt w kb N bs ss) : w.cell? ⟨kb, 7, none⟩ = some (.slice none 0 0) := by rw [cell_of_row _ kb 7 _ _ (0, 0) h]; rfl

theorem BookAt.noneLease {w : World} {kb N : Nat} {bs ss : Value} (h : BookAt w kb N bs ss) : w.cell? ⟨kb, 8, none⟩ = some (.slice none 0 0) := by rw [cell_of_row _ kb 8 _ _ (0, 0) h]; rfl

theorem BookAt.noneEvent {w : World} {kb N : Nat} {bs ss : Value} (h : BookAt w kb N bs ss) : w.cell? ⟨kb, 9, none⟩ = some (.slice none 0 0) := by rw [cell_of_row _ kb 9 _ _ (0, 0) h]; rfl

set_option maxRecDepth 100000 in
set_option maxHeartbeats 400000 in
theorem fillInt_nil {kb N : Nat} {bs ss : Value} {w : World} (hbk : BookAt w kb N bs ss) : Calls Tryz.prog 70 #[.pointer (some ⟨kb, 0, none⟩)] w fun e w' => e = .returned (.tuple #[]) ∧ w' = w := by
  have hc := hbk.noneInt
  clear hbk
  go_enter Tryz.func70, Tryz.ntmps70
  go_wp2
  go_loopw [2] (fun i wr => i = .int .i64 0 ∧ wr = w) (fun _ _ => 0)
  case atStart => exact ⟨rfl, rfl⟩
  case round =>
    obtain ⟨rfl, rfl⟩ := hrel
    go_wp2
    go_end0
    exact ⟨rfl, rfl⟩

set_option maxRecDepth 100000 in
set_option maxHeartbeats 400000 in
theorem growInt_nil {kb N : Nat} {bs ss : Value} {w : World} (hbk : BookAt w kb N bs ss) : Calls Tryz.prog 79 #[.pointer (some ⟨kb, 0, none⟩)] w fun e w' => e = .returned (.tuple #[]) ∧ w' = w := by
  have hc := hbk.noneInt
  clear hbk
  go_enter Tryz.func79, Tryz.ntmps79
  go_wp2
  go_loopw [2] (fun i wr => i = .int .i64 0 ∧ wr = w) (fun _ _ => 0)
  case atStart => exact ⟨rfl, rfl⟩
  case round =>
    obtain ⟨rfl, rfl⟩ := hrel
    go_wp2
    go_end0
    exact ⟨rfl, rfl⟩

set_option maxRecDepth 100000 in
set_option maxHeartbeats 400000 in
theorem lookInt_nil {kb N : Nat} {bs ss : Value} {w : World} (hbk : BookAt w kb N bs ss) : Calls Tryz.prog 88 #[.pointer (some ⟨kb, 0, none⟩)] w fun e w' => e = .returned (.bool true) ∧ w' = w := by
  have hc := hbk.noneInt
  clear hbk
  go_enter Tryz.func88, Tryz.ntmps88
  go_wp2
  go_loopw [3] (fun i wr => i = .int .i64 0 ∧ wr = w) (fun _ _ => 0)
  case atStart => exact ⟨rfl, rfl⟩
  case round =>
    obtain ⟨rfl, rfl⟩ := hrel
    go_wp2
    go_ret
    exact ⟨rfl, rfl⟩

set_option maxRecDepth 100000 in
set_option maxHeartbeats 400000 in
theorem fillText_nil {kb N : Nat} {bs ss : Value} {w : World} (hbk : BookAt w kb N bs ss) : Calls Tryz.prog 71 #[.pointer (some ⟨kb, 0, none⟩)] w fun e w' => e = .returned (.tuple #[]) ∧ w' = w := by
  have hc := hbk.noneText
  clear hbk
  go_enter Tryz.func71, Tryz.ntmps71
  go_wp2
  go_loopw [2] (fun i wr => i = .int .i64 0 ∧ wr = w) (fun _ _ => 0)
  case atStart => exact ⟨rfl, rfl⟩
  case round =>
    obtain ⟨rfl, rfl⟩ := hrel
    go_wp2
    go_end0
    exact ⟨rfl, rfl⟩

set_option maxRecDepth 100000 in
set_option maxHeartbeats 400000 in
theorem growText_nil {kb N : Nat} {bs ss : Value} {w : World} (hbk : BookAt w kb N bs ss) : Calls Tryz.prog 80 #[.pointer (some ⟨kb, 0, none⟩)] w fun e w' => e = .returned (.tuple #[]) ∧ w' = w := by
  have hc := hbk.noneText
  clear hbk
  go_enter Tryz.func80, Tryz.ntmps80
  go_wp2
  go_loopw [2] (fun i wr => i = .int .i64 0 ∧ wr = w) (fun _ _ => 0)
  case atStart => exact ⟨rfl, rfl⟩
  case round =>
    obtain ⟨rfl, rfl⟩ := hrel
    go_wp2
    go_end0
    exact ⟨rfl, rfl⟩

set_option maxRecDepth 100000 in
set_option maxHeartbeats 400000 in
theorem lookText_nil {kb N : Nat} {bs ss : Value} {w : World} (hbk : BookAt w kb N bs ss) : Calls Tryz.prog 89 #[.pointer (some ⟨kb, 0, none⟩)] w fun e w' => e = .returned (.bool true) ∧ w' = w := by
  have hc := hbk.noneText
  clear hbk
  go_enter Tryz.func89, Tryz.ntmps89
  go_wp2
  go_loopw [3] (fun i wr => i = .int .i64 0 ∧ wr = w) (fun _ _ => 0)
  case atStart => exact ⟨rfl, rfl⟩
  case round =>
    obtain ⟨rfl, rfl⟩ := hrel
    go_wp2
    go_ret
    exact ⟨rfl, rfl⟩

set_option maxRecDepth 100000 in
set_option maxHeartbeats 400000 in
theorem fillByteList_nil {kb N : Nat} {bs ss : Value} {w : World} (hbk : BookAt w kb N bs ss) : Calls Tryz.prog 72 #[.pointer (some ⟨kb, 0, none⟩)] w fun e w' => e = .returned (.tuple #[]) ∧ w' = w := by
  have hc := hbk.noneByteList
  clear hbk
  go_enter Tryz.func72, Tryz.ntmps72
  go_wp2
  go_loopw [2] (fun i wr => i = .int .i64 0 ∧ wr = w) (fun _ _ => 0)
  case atStart => exact ⟨rfl, rfl⟩
  case round =>
    obtain ⟨rfl, rfl⟩ := hrel
    go_wp2
    go_end0
    exact ⟨rfl, rfl⟩

set_option maxRecDepth 100000 in
set_option maxHeartbeats 400000 in
theorem growByteList_nil {kb N : Nat} {bs ss : Value} {w : World} (hbk : BookAt w kb N bs ss) : Calls Tryz.prog 81 #[.pointer (some ⟨kb, 0, none⟩)] w fun e w' => e = .returned (.tuple #[]) ∧ w' = w := by
  have hc := hbk.noneByteList
  clear hbk
  go_enter Tryz.func81, Tryz.ntmps81
  go_wp2
  go_loopw [2] (fun i wr => i = .int .i64 0 ∧ wr = w) (fun _ _ => 0)
  case atStart => exact ⟨rfl, rfl⟩
  case round =>
    obtain ⟨rfl, rfl⟩ := hrel
    go_wp2
    go_end0
    exact ⟨rfl, rfl⟩

set_option maxRecDepth 100000 in
set_option maxHeartbeats 400000 in
theorem lookByteList_nil {kb N : Nat} {bs ss : Value} {w : World} (hbk : BookAt w kb N bs ss) : Calls Tryz.prog 90 #[.pointer (some ⟨kb, 0, none⟩)] w fun e w' => e = .returned (.bool true) ∧ w' = w := by
  have hc := hbk.noneByteList
  clear hbk
  go_enter Tryz.func90, Tryz.ntmps90
  go_wp2
  go_loopw [3] (fun i wr => i = .int .i64 0 ∧ wr = w) (fun _ _ => 0)
  case atStart => exact ⟨rfl, rfl⟩
  case round =>
    obtain ⟨rfl, rfl⟩ := hrel
    go_wp2
    go_ret
    exact ⟨rfl, rfl⟩

set_option maxRecDepth 100000 in
set_option maxHeartbeats 400000 in
theorem fillPair_nil {kb N : Nat} {bs ss : Value} {w : World} (hbk : BookAt w kb N bs ss) : Calls Tryz.prog 74 #[.pointer (some ⟨kb, 0, none⟩)] w fun e w' => e = .returned (.tuple #[]) ∧ w' = w := by
  have hc := hbk.nonePair
  clear hbk
  go_enter Tryz.func74, Tryz.ntmps74
  go_wp2
  go_loopw [2] (fun i wr => i = .int .i64 0 ∧ wr = w) (fun _ _ => 0)
  case atStart => exact ⟨rfl, rfl⟩
  case round =>
    obtain ⟨rfl, rfl⟩ := hrel
    go_wp2
    go_end0
    exact ⟨rfl, rfl⟩

set_option maxRecDepth 100000 in
set_option maxHeartbeats 400000 in
theorem growPair_nil {kb N : Nat} {bs ss : Value} {w : World} (hbk : BookAt w kb N bs ss) : Calls Tryz.prog 83 #[.pointer (some ⟨kb, 0, none⟩)] w fun e w' => e = .returned (.tuple #[]) ∧ w' = w := by
  have hc := hbk.nonePair
  clear hbk
  go_enter Tryz.func83, Tryz.ntmps83
  go_wp2
  go_loopw [2] (fun i wr => i = .int .i64 0 ∧ wr = w) (fun _ _ => 0)
  case atStart => exact ⟨rfl, rfl⟩
  case round =>
    obtain ⟨rfl, rfl⟩ := hrel
    go_wp2
    go_end0
    exact ⟨rfl, rfl⟩

set_option maxRecDepth 100000 in
set_option maxHeartbeats 400000 in
theorem lookPair_nil {kb N : Nat} {bs ss : Value} {w : World} (hbk : BookAt w kb N bs ss) : Calls Tryz.prog 92 #[.pointer (some ⟨kb, 0, none⟩)] w fun e w' => e = .returned (.bool true) ∧ w' = w := by
  have hc := hbk.nonePair
  clear hbk
  go_enter Tryz.func92, Tryz.ntmps92
  go_wp2
  go_loopw [3] (fun i wr => i = .int .i64 0 ∧ wr = w) (fun _ _ => 0)
  case atStart => exact ⟨rfl, rfl⟩
  case round =>
    obtain ⟨rfl, rfl⟩ := hrel
    go_wp2
    go_ret
    exact ⟨rfl, rfl⟩

set_option maxRecDepth 100000 in
set_option maxHeartbeats 400000 in
theorem fillTenant_nil {kb N : Nat} {bs ss : Value} {w : World} (hbk : BookAt w kb N bs ss) : Calls Tryz.prog 75 #[.pointer (some ⟨kb, 0, none⟩)] w fun e w' => e = .returned (.tuple #[]) ∧ w' = w := by
  have hc := hbk.noneTenant
  clear hbk
  go_enter Tryz.func75, Tryz.ntmps75
  go_wp2
  go_loopw [2] (fun i wr => i = .int .i64 0 ∧ wr = w) (fun _ _ => 0)
  case atStart => exact ⟨rfl, rfl⟩
  case round =>
    obtain ⟨rfl, rfl⟩ := hrel
    go_wp2
    go_end0
    exact ⟨rfl, rfl⟩

set_option maxRecDepth 100000 in
set_option maxHeartbeats 400000 in
theorem growTenant_nil {kb N : Nat} {bs ss : Value} {w : World} (hbk : BookAt w kb N bs ss) : Calls Tryz.prog 84 #[.pointer (some ⟨kb, 0, none⟩)] w fun e w' => e = .returned (.tuple #[]) ∧ w' = w := by
  have hc := hbk.noneTenant
  clear hbk
  go_enter Tryz.func84, Tryz.ntmps84
  go_wp2
  go_loopw [2] (fun i wr => i = .int .i64 0 ∧ wr = w) (fun _ _ => 0)
  case atStart => exact ⟨rfl, rfl⟩
  case round =>
    obtain ⟨rfl, rfl⟩ := hrel
    go_wp2
    go_end0
    exact ⟨rfl, rfl⟩

set_option maxRecDepth 100000 in
set_option maxHeartbeats 400000 in
theorem lookTenant_nil {kb N : Nat} {bs ss : Value} {w : World} (hbk : BookAt w kb N bs ss) : Calls Tryz.prog 93 #[.pointer (some ⟨kb, 0, none⟩)] w fun e w' => e = .returned (.bool true) ∧ w' = w := by
  have hc := hbk.noneTenant
  clear hbk
  go_enter Tryz.func93, Tryz.ntmps93
  go_wp2
  go_loopw [3] (fun i wr => i = .int .i64 0 ∧ wr = w) (fun _ _ => 0)
  case atStart => exact ⟨rfl, rfl⟩
  case round =>
    obtain ⟨rfl, rfl⟩ := hrel
    go_wp2
    go_ret
    exact ⟨rfl, rfl⟩

set_option maxRecDepth 100000 in
set_option maxHeartbeats 400000 in
theorem fillLease_nil {kb N : Nat} {bs ss : Value} {w : World} (hbk : BookAt w kb N bs ss) : Calls Tryz.prog 76 #[.pointer (some ⟨kb, 0, none⟩)] w fun e w' => e = .returned (.tuple #[]) ∧ w' = w := by
  have hc := hbk.noneLease
  clear hbk
  go_enter Tryz.func76, Tryz.ntmps76
  go_wp2
  go_loopw [2] (fun i wr => i = .int .i64 0 ∧ wr = w) (fun _ _ => 0)
  case atStart => exact ⟨rfl, rfl⟩
  case round =>
    obtain ⟨rfl, rfl⟩ := hrel
    go_wp2
    go_end0
    exact ⟨rfl, rfl⟩

set_option maxRecDepth 100000 in
set_option maxHeartbeats 400000 in
theorem growLease_nil {kb N : Nat} {bs ss : Value} {w : World} (hbk : BookAt w kb N bs ss) : Calls Tryz.prog 85 #[.pointer (some ⟨kb, 0, none⟩)] w fun e w' => e = .returned (.tuple #[]) ∧ w' = w := by
  have hc := hbk.noneLease
  clear hbk
  go_enter Tryz.func85, Tryz.ntmps85
  go_wp2
  go_loopw [2] (fun i wr => i = .int .i64 0 ∧ wr = w) (fun _ _ => 0)
  case atStart => exact ⟨rfl, rfl⟩
  case round =>
    obtain ⟨rfl, rfl⟩ := hrel
    go_wp2
    go_end0
    exact ⟨rfl, rfl⟩

set_option maxRecDepth 100000 in
set_option maxHeartbeats 400000 in
theorem lookLease_nil {kb N : Nat} {bs ss : Value} {w : World} (hbk : BookAt w kb N bs ss) : Calls Tryz.prog 94 #[.pointer (some ⟨kb, 0, none⟩)] w fun e w' => e = .returned (.bool true) ∧ w' = w := by
  have hc := hbk.noneLease
  clear hbk
  go_enter Tryz.func94, Tryz.ntmps94
  go_wp2
  go_loopw [3] (fun i wr => i = .int .i64 0 ∧ wr = w) (fun _ _ => 0)
  case atStart => exact ⟨rfl, rfl⟩
  case round =>
    obtain ⟨rfl, rfl⟩ := hrel
    go_wp2
    go_ret
    exact ⟨rfl, rfl⟩

set_option maxRecDepth 100000 in
set_option maxHeartbeats 400000 in
theorem fillEvent_nil {kb N : Nat} {bs ss : Value} {w : World} (hbk : BookAt w kb N bs ss) : Calls Tryz.prog 77 #[.pointer (some ⟨kb, 0, none⟩)] w fun e w' => e = .returned (.tuple #[]) ∧ w' = w := by
  have hc := hbk.noneEvent
  clear hbk
  go_enter Tryz.func77, Tryz.ntmps77
  go_wp2
  go_loopw [2] (fun i wr => i = .int .i64 0 ∧ wr = w) (fun _ _ => 0)
  case atStart => exact ⟨rfl, rfl⟩
  case round =>
    obtain ⟨rfl, rfl⟩ := hrel
    go_wp2
    go_end0
    exact ⟨rfl, rfl⟩

set_option maxRecDepth 100000 in
set_option maxHeartbeats 400000 in
theorem growEvent_nil {kb N : Nat} {bs ss : Value} {w : World} (hbk : BookAt w kb N bs ss) : Calls Tryz.prog 86 #[.pointer (some ⟨kb, 0, none⟩)] w fun e w' => e = .returned (.tuple #[]) ∧ w' = w := by
  have hc := hbk.noneEvent
  clear hbk
  go_enter Tryz.func86, Tryz.ntmps86
  go_wp2
  go_loopw [2] (fun i wr => i = .int .i64 0 ∧ wr = w) (fun _ _ => 0)
  case atStart => exact ⟨rfl, rfl⟩
  case round =>
    obtain ⟨rfl, rfl⟩ := hrel
    go_wp2
    go_end0
    exact ⟨rfl, rfl⟩

set_option maxRecDepth 100000 in
set_option maxHeartbeats 400000 in
theorem lookEvent_nil {kb N : Nat} {bs ss : Value} {w : World} (hbk : BookAt w kb N bs ss) : Calls Tryz.prog 95 #[.pointer (some ⟨kb, 0, none⟩)] w fun e w' => e = .returned (.bool true) ∧ w' = w := by
  have hc := hbk.noneEvent
  clear hbk
  go_enter Tryz.func95, Tryz.ntmps95
  go_wp2
  go_loopw [3] (fun i wr => i = .int .i64 0 ∧ wr = w) (fun _ _ => 0)
  case atStart => exact ⟨rfl, rfl⟩
  case round =>
    obtain ⟨rfl, rfl⟩ := hrel
    go_wp2
    go_ret
    exact ⟨rfl, rfl⟩

end Go.Proofs.YtnaebjdccngeoaaGreatDoor
