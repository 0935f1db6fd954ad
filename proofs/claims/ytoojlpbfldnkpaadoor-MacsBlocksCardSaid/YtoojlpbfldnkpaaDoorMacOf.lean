/-
  macs.Of: the sum of parts by a key.
-/
import Derived.Test.YtoojlpbfldnkpaaDoorMacShort
import Derived.Test.YtoojlpbfldnkpaaDoorMacBehind
import Derived.Deep.RegionLaw
namespace Go.Proofs.YtoojlpbfldnkpaaDoor
open Go.RowKit

/-- The sum of bytes by a key. -/
def mac (key ys : List Nat) : List Nat := sha (fil (shortL key) 92 ++ sha (fil (shortL key) 54 ++ ys))
theorem mac_length (key ys : List Nat) : (mac key ys).length = 32 := sha_length _
theorem mac_lt (key ys : List Nat) : ∀ x ∈ mac key ys, x < 256 := sha_lt _

theorem rows_one {W : World} {b g : Nat} {s : List Nat} (ls : ∀ x ∈ s, x < 256) (hc : W.cell? ⟨b, 0, none⟩ = some (.slice (some ⟨g, 0, none⟩) 32 32)) (hg : In W (some ⟨g, 0, none⟩) 32 s) : CameRows W (some ⟨b, 0, none⟩) 1 [s] :=
  ⟨rfl, fun r xs hx => by
    have hr := (List.getElem?_eq_some_iff.1 hx).1
    obtain rfl : r = 0 := by simp at hr; omega
    cases hx
    exact ⟨_, _, 32, 32, rfl, hc, ⟨hg, ls, (fun h => by cases h), Nat.le_refl _⟩, by omega⟩⟩

theorem cell_new1 (W : World) (v : Value) (t : TypeId) : (W.alloc (.cells #[v] t)).cell? ⟨W.heap.size, 0, none⟩ = some v := (cell_of_row _ _ 0 _ _ (0, 0) (World.alloc_heap_new W _)).trans rfl

/-- What stands in memory still does. -/
def Kept (W w' : World) : Prop := ∀ p v, W.cell? p = some v → w'.cell? p = some v
theorem Kept.of_below {W w' : World} (h : Below W.heap.size W w') : Kept W w' := fun p _ hv => (h.cell (World.block_lt_of_cell? W p hv)).trans hv

/-- What the last statement starts from. -/
structure Last (w : World) (A : Option Addr) (n : Nat) (k s : List Nat) (g : Nat) (w5 : World) : Prop where
  key : In w5 A n k
  klt : ∀ x ∈ k, x < 256
  len : s.length = 32
  slt : ∀ x ∈ s, x < 256
  inner : In w5 (some ⟨g, 0, none⟩) 32 s
  res : BArr w5 w.heap.size 54 zero32
  below : Below w.heap.size w w5

set_option maxRecDepth 100000 in
set_option maxHeartbeats 2000000 in
theorem macOf_any (A : Option Addr) (n c : Nat) (xs : List Nat) (Ao : Option Addr) (no co : Nat) (rows : List (List Nat)) (w : World) (hx : Came w A n c xs) (hr : CameRows w Ao no rows) (hk : Knows w) (hs : Starts w) (hn : n ≤ 900000000) (ht : tot rows ≤ 800000000) (hno : no ≤ 1000000) :
    Calls Tryd.prog 22 #[.slice A n c, .slice Ao no co] w fun e w' => e = .returned (sv (mac xs rows.flatten)) ∧ Below w.heap.size w w' := by
  have e0 : (bvs zero32).toArray = #[.int .u8 0, .int .u8 0, .int .u8 0, .int .u8 0, .int .u8 0, .int .u8 0, .int .u8 0, .int .u8 0, .int .u8 0, .int .u8 0, .int .u8 0, .int .u8 0, .int .u8 0, .int .u8 0, .int .u8 0, .int .u8 0, .int .u8 0, .int .u8 0, .int .u8 0, .int .u8 0, .int .u8 0, .int .u8 0, .int .u8 0, .int .u8 0, .int .u8 0, .int .u8 0, .int .u8 0, .int .u8 0, .int .u8 0, .int .u8 0, .int .u8 0, .int .u8 0] := rfl
  have f1 := BArr.new w 54 zero32
  have b1 := below_alloc w (.cells (bvs zero32).toArray 54)
  rw [e0] at f1 b1
  clear e0
  have HF := Lib.hid (And.intro f1 b1)
  have HX := Lib.hid (And.intro hx hr)
  clear f1 b1 hx hr
  go_enter Tryd.func22, Tryd.ntmps22
  go_wp2_with fail
  obtain ⟨w1, hw1⟩ : ∃ w1, w1 = w.alloc (.cells #[.int .u8 0, .int .u8 0, .int .u8 0, .int .u8 0, .int .u8 0, .int .u8 0, .int .u8 0, .int .u8 0, .int .u8 0, .int .u8 0, .int .u8 0, .int .u8 0, .int .u8 0, .int .u8 0, .int .u8 0, .int .u8 0, .int .u8 0, .int .u8 0, .int .u8 0, .int .u8 0, .int .u8 0, .int .u8 0, .int .u8 0, .int .u8 0, .int .u8 0, .int .u8 0, .int .u8 0, .int .u8 0, .int .u8 0, .int .u8 0, .int .u8 0, .int .u8 0] 54) := ⟨_, rfl⟩
  rw [← hw1] at HF ⊢
  clear hw1
  refine (shortened_any A n c xs w1 (HX.out.1.below HF.out.2) (hk.below HF.out.2) (hs.below HF.out.2) hn).mono ?_
  rintro e w2 ⟨A', n', c', rfl, hc2, hb2⟩
  obtain ⟨k, hk0⟩ : ∃ k, shortL xs = k := ⟨_, rfl⟩
  rw [hk0] at hc2
  have bel2 := below_on HF.out.2 (Nat.le_refl _) hb2
  have C1 := Lib.hid (filled_any A' n' c' 54 k w2 hc2.in_ hc2.lt (by omega))
  have H2 := Lib.hid (And.intro (HF.out.1.below hb2) (And.intro bel2 (And.intro hc2 hk0)))
  clear hc2 hb2 bel2 hk0
  go_wp2_with fail
  refine C1.out.mono ?_
  rintro e w3 ⟨rfl, hb3⟩
  have bel3 := below_on H2.out.2.1 (Nat.le_refl _) hb3
  have C2 := Lib.hid (behind_any (fil k 54) Ao no co rows w3 (fil_length _ _) (fil_lt H2.out.2.2.1.lt (by omega)) (HX.out.2.below bel3) (hk.below bel3) (hs.below bel3) ht hno)
  obtain ⟨s, hs0⟩ : ∃ s, sha (fil k 54 ++ rows.flatten) = s := ⟨_, rfl⟩
  have hl : s.length = 32 := by rw [← hs0]; exact sha_length _
  have ls : ∀ x ∈ s, x < 256 := by rw [← hs0]; exact sha_lt _
  rw [hs0] at C2
  have H3 := Lib.hid (And.intro (H2.out.1.below hb3) (And.intro bel3 (And.intro (H2.out.2.2.1.in_.below hb3) (And.intro hl (And.intro ls hs0)))))
  clear hb3 bel3 C1 hl ls hs0
  go_wp2_with fail
  refine C2.out.mono ?_
  rintro e w4 ⟨rfl, hb4⟩
  go_upto_region 3 with ((with_reducible refine wpList_store_new w4 _ ?_ rfl (.tmp 6) (.tmp 12) rfl rfl s H3.out.2.2.2.1 rfl ?_); · simp)
  obtain ⟨w5, hw5⟩ : ∃ w5, w5 = w4.alloc (.cells (bvs s).toArray 54) := ⟨_, rfl⟩
  have hi5 : In w5 (some ⟨w4.heap.size, 0, none⟩) 32 s := by rw [hw5, ← H3.out.2.2.2.1]; exact In.new' w4 s _
  have hb5 : Below w3.heap.size w3 w5 := by rw [hw5]; exact below_on hb4 (Nat.le_refl _) (below_alloc w4 _)
  rw [← hw5]
  have L : Last w A' n' k s w4.heap.size w5 := ⟨H3.out.2.2.1.below hb5, H2.out.2.2.1.lt, H3.out.2.2.2.1, H3.out.2.2.2.2.1, hi5, H3.out.1.below hb5, below_on H3.out.2.1 (Nat.le_refl _) hb5⟩
  obtain ⟨g, hg⟩ : ∃ g, w4.heap.size = g := ⟨_, rfl⟩
  rw [hg] at L ⊢
  have HL := Lib.hid L
  have HE := Lib.hid (And.intro H2.out.2.2.2 H3.out.2.2.2.2.2)
  clear hw5 hi5 hb5 L C2 H2 H3 hb4 hg HF
  have hsl := run_arr_all Tryd.underlying54
  have CF := Lib.hid (fun (W : World) (hW : Below w5.heap.size w5 W) => (filled_any A' n' c' 92 k W (HL.out.key.below hW) HL.out.klt (by omega)).mono (R' := fun e w' => e = .returned (.agg (bvs (fil k 92)).toArray) ∧ Below w5.heap.size w5 w' ∧ Hid (Kept W w')) fun e w' h => ⟨h.1, below_on hW (Nat.le_refl _) h.2, Lib.hid (Kept.of_below h.2)⟩)
  have CB := Lib.hid (fun (W : World) (b : Nat) (hW : Below w5.heap.size w5 W) (hc : W.cell? ⟨b, 0, none⟩ = some (.slice (some ⟨g, 0, none⟩) 32 32)) => (behind_any (fil k 92) (some ⟨b, 0, none⟩) 1 1 [s] W (fil_length _ _) (fil_lt HL.out.klt (by omega)) (rows_one HL.out.slt hc (HL.out.inner.below hW)) (hk.below (below_on HL.out.below (Nat.le_refl _) hW)) (hs.below (below_on HL.out.below (Nat.le_refl _) hW)) (by have := HL.out.len; simp [tot]; omega) (by omega)).mono (R' := fun e w' => e = .returned (.agg (bvs (sha (fil k 92 ++ s))).toArray) ∧ Below w5.heap.size w5 w' ∧ BArr w' w.heap.size 54 zero32) fun e w' h => ⟨by rw [h.1]; simp [sv], below_on hW (Nat.le_refl _) h.2, HL.out.res.below (below_on hW (Nat.le_refl _) h.2)⟩)
  have hm := sha_length (fil k 92 ++ s)
  obtain ⟨m, hm0⟩ : ∃ m, sha (fil k 92 ++ s) = m := ⟨_, rfl⟩
  rw [hm0] at CB hm
  have HM := Lib.hid hm0
  have HZ32 := Lib.hid (show zero32.length = 32 from rfl)
  clear hm0
  have hbm : (bvs m).length = 32 := by rw [bvs_length, hm]
  have hst : ∀ W : World, BArr W w.heap.size 54 zero32 → (storeCells ⟨w.heap.size, 0, none⟩ (bvs m)).run Tryd.prog W = .ok () (W.setRow w.heap.size (bvs m).toArray) := fun W hW => by
    have := run_storeCells_from (P := Tryd.prog) w.heap.size 54 (bvs m) 0 _ W hW (by rw [hbm]; rfl) (bvs_oneCell m)
    simpa using this
  go_wp2_with fail
  go_region_law (first
    | (go_simp; go_at_call 63; refine (CF.out _ ?_).mono ?_; (first | exact (Below.refl _ _).drew | exact ((Below.refl _ _).drew).alloc (by simp) _); rintro e w6 ⟨rfl, hb6, hk6⟩)
    | (go_simp; go_at_call 62; refine (CB.out _ _ ?_ ?_).mono ?_; (first | assumption | exact Below.alloc ‹Below w5.heap.size w5 _› (Below.size ‹Below w5.heap.size w5 _›) _); (first | exact cell_new1 _ _ _ | exact Hid.out ‹Hid (Kept _ _)› _ _ (cell_new1 _ _ _)); rintro e w7 ⟨rfl, hb7, hf7⟩))
  all_goals
    go_wp2
    refine bodyPost_ret_by (results_cell_row (p := 4) (ty := 54) (by kernel_rfl) _ _ w.heap.size 54 (bvs m).toArray (0, 0) _ rfl (hf7.setRow _) Tryd.underlying54 rfl (by rw [List.size_toArray, bvs_length, hm]; exact sizeSum)) rfl ?_
    exact ⟨by rw [mac, HE.out.1, HE.out.2, HM.out]; rfl, below_setRow (below_on HL.out.below (Nat.le_refl _) hb7) (Nat.le_refl _) _⟩

end Go.Proofs.YtoojlpbfldnkpaaDoor
