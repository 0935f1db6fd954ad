/-
  leaves.Root.
-/
import Derived.Test.YtnaebjdccngeoaaDoorVSide
import Derived.Laws.EntriesVeiled
namespace Go.Proofs.YtnaebjdccngeoaaDoor
open Go.RowKit

/-- The world in which Root begins. -/
structure RootIn (w w1 : World) (A : Option Addr) (n c : Nat) : Prop where
  list : w1.cell? ⟨w.heap.size, 0, none⟩ = some (.slice A n c)
  res : BArr w1 (w.heap.size + 1) 36 zero32
  below : Below w.heap.size w w1
  size : w1.heap.size = w.heap.size + 2

theorem rootIn_of (w : World) (A : Option Addr) (n c : Nat) : RootIn w ((w.alloc (.cells #[.slice A n c] 24)).alloc (.cells (bvs zero32).toArray 36)) A n c := by
  have b2 := below_alloc (w.alloc (.cells #[.slice A n c] 24)) (.cells (bvs zero32).toArray 36)
  have hc := cell_new1 w (.slice A n c) 24
  refine ⟨(b2.cell (World.block_lt_of_cell? _ _ hc)).trans hc, ?_, (below_alloc w _).alloc (by simp) _, by simp⟩
  have := BArr.new (w.alloc (.cells #[.slice A n c] 24)) 36 zero32
  rwa [World.size_alloc] at this

set_option maxRecDepth 100000 in
set_option maxHeartbeats 2000000 in
theorem root_none (A : Option Addr) (c : Nat) (f : Nat → List Nat) (w : World) (hk : Knows w) (hs : Starts w) :
    Calls Tryd.prog 12 #[.slice A 0 c] w fun e w' => e = .returned (sv (rt f 0 0)) ∧ Below w.heap.size w w' := by
  have e0 : (bvs zero32).toArray = #[.int .u8 0, .int .u8 0, .int .u8 0, .int .u8 0, .int .u8 0, .int .u8 0, .int .u8 0, .int .u8 0, .int .u8 0, .int .u8 0, .int .u8 0, .int .u8 0, .int .u8 0, .int .u8 0, .int .u8 0, .int .u8 0, .int .u8 0, .int .u8 0, .int .u8 0, .int .u8 0, .int .u8 0, .int .u8 0, .int .u8 0, .int .u8 0, .int .u8 0, .int .u8 0, .int .u8 0, .int .u8 0, .int .u8 0, .int .u8 0, .int .u8 0, .int .u8 0] := rfl
  have h1 := rootIn_of w A 0 c
  rw [e0] at h1
  clear e0
  obtain ⟨w1, hw1⟩ : ∃ w1, w1 = (w.alloc (.cells #[.slice A 0 c] 24)).alloc (.cells #[.int .u8 0, .int .u8 0, .int .u8 0, .int .u8 0, .int .u8 0, .int .u8 0, .int .u8 0, .int .u8 0, .int .u8 0, .int .u8 0, .int .u8 0, .int .u8 0, .int .u8 0, .int .u8 0, .int .u8 0, .int .u8 0, .int .u8 0, .int .u8 0, .int .u8 0, .int .u8 0, .int .u8 0, .int .u8 0, .int .u8 0, .int .u8 0, .int .u8 0, .int .u8 0, .int .u8 0, .int .u8 0, .int .u8 0, .int .u8 0, .int .u8 0, .int .u8 0] 36) := ⟨_, rfl⟩
  rw [← hw1] at h1
  have H1 := Lib.hid h1
  have HW := Lib.hid hw1
  clear h1 hw1
  have C := Lib.hid (of_any none 0 0 [] w1 (In.none_ _ _) (by intro x hx; cases hx) (Nat.le_refl _) (hk.below H1.out.below) (hs.below H1.out.below) (by omega))
  rw [rt_nil]
  have hl := sha_length []
  obtain ⟨s, hs0⟩ : ∃ s, sha [] = s := ⟨_, rfl⟩
  rw [hs0] at C hl ⊢
  have hcell : w1.cell? ⟨w.heap.size, 0, none⟩ = some (.slice A 0 c) := H1.out.list
  clear hs0
  go_enter Tryd.func12, Tryd.ntmps12
  go_upto_region 1 with fail
  rw [← HW.out]
  go_wp2_with fail
  refine C.out.mono ?_
  rintro e w2 ⟨rfl, hb2⟩
  have f2 := H1.out.res.below hb2
  have HZ32 := Lib.hid (show zero32.length = 32 from rfl)
  go_wp2_with (with_reducible refine wpList_store_sum rfl (.tmp 2) (.tmp 7) rfl (w.heap.size + 1) rfl zero32 s HZ32 hl f2 rfl ?_)
  refine bodyPost_ret_by (results_cell_row (p := 2) (ty := 36) (by kernel_rfl) _ _ (w.heap.size + 1) 36 (bvs s).toArray (0, 0) _ rfl (f2.setRow _) Tryd.underlying36 rfl (by rw [List.size_toArray, bvs_length, hl]; exact sizeSum)) rfl ?_
  exact ⟨rfl, below_setRow (below_on H1.out.below (Nat.le_refl _) hb2) (by omega) _⟩

set_option maxRecDepth 100000 in
set_option maxHeartbeats 2000000 in
theorem root_some (A : Option Addr) (n c : Nat) (ys : List Nat) (w : World) (hin : InS w A n ys) (hx : ∀ x ∈ ys, x < 256) (hc : n ≤ c) (h0 : 0 < n) (hn : n ≤ 65536) (hk : Knows w) (hs : Starts w) :
    Calls Tryd.prog 12 #[.slice A n c] w fun e w' => e = .returned (sv (rt (nth ys) 0 n)) ∧ Below w.heap.size w w' := by
  have e0 : (bvs zero32).toArray = #[.int .u8 0, .int .u8 0, .int .u8 0, .int .u8 0, .int .u8 0, .int .u8 0, .int .u8 0, .int .u8 0, .int .u8 0, .int .u8 0, .int .u8 0, .int .u8 0, .int .u8 0, .int .u8 0, .int .u8 0, .int .u8 0, .int .u8 0, .int .u8 0, .int .u8 0, .int .u8 0, .int .u8 0, .int .u8 0, .int .u8 0, .int .u8 0, .int .u8 0, .int .u8 0, .int .u8 0, .int .u8 0, .int .u8 0, .int .u8 0, .int .u8 0, .int .u8 0] := rfl
  have h1 := rootIn_of w A n c
  rw [e0] at h1
  clear e0
  obtain ⟨w1, hw1⟩ : ∃ w1, w1 = (w.alloc (.cells #[.slice A n c] 24)).alloc (.cells #[.int .u8 0, .int .u8 0, .int .u8 0, .int .u8 0, .int .u8 0, .int .u8 0, .int .u8 0, .int .u8 0, .int .u8 0, .int .u8 0, .int .u8 0, .int .u8 0, .int .u8 0, .int .u8 0, .int .u8 0, .int .u8 0, .int .u8 0, .int .u8 0, .int .u8 0, .int .u8 0, .int .u8 0, .int .u8 0, .int .u8 0, .int .u8 0, .int .u8 0, .int .u8 0, .int .u8 0, .int .u8 0, .int .u8 0, .int .u8 0, .int .u8 0, .int .u8 0] 36) := ⟨_, rfl⟩
  rw [← hw1] at h1
  have H1 := Lib.hid h1
  have HW := Lib.hid hw1
  have HX := Lib.hid (And.intro hin hx)
  have hz := Lib.hid h1.size
  clear h1 hw1 hin hx
  have hl : (rt (nth ys) 0 n).length = 32 := rt_length _ 0 n fun j hj => nth_length HX.out.1.len (by omega)
  have hcell : w1.cell? ⟨w.heap.size, 0, none⟩ = some (.slice A n c) := H1.out.list
  have hnz : ((n : Int) == 0) = false := by simp; omega
  have hmf : ∀ (fn : Fn) (first cap : Array Value) (w : World), (Instr.makeFunc fn first cap).run Tryd.prog w = .ok (.func fn first cap) w := fun _ _ _ _ => rfl
  go_enter Tryd.func12, Tryd.ntmps12
  go_upto_region 1 with fail
  rw [← HW.out]
  go_upto_region 5 with fail
  obtain ⟨w2, hw2⟩ : ∃ w2, w2 = w1.alloc (.cells #[.func (.func 42) #[] #[.pointer (some ⟨w.heap.size, 0, none⟩), .pointer (some ⟨w1.heap.size, 0, none⟩)]] 72) := ⟨_, rfl⟩
  have hb2 : Below w1.heap.size w1 w2 := by rw [hw2]; exact below_alloc _ _
  have hself : w2.cell? ⟨w1.heap.size, 0, none⟩ = some (.func (.func 42) #[] #[.pointer (some ⟨w.heap.size, 0, none⟩), .pointer (some ⟨w1.heap.size, 0, none⟩)]) := by rw [hw2]; exact cell_new1 _ _ _
  have hcell2 : w2.cell? ⟨w.heap.size, 0, none⟩ = some (.slice A n c) := (hb2.cell (World.block_lt_of_cell? _ _ hcell)).trans hcell
  rw [← hw2]
  have bel2 := below_on H1.out.below (Nat.le_refl _) hb2
  have SI : SideIn w2 w.heap.size w1.heap.size A n c ys := ⟨hcell2, hself, HX.out.1.below bel2, HX.out.2, hc, hn, hk.below bel2, hs.below bel2⟩
  have C := Lib.hid (side_any w.heap.size w1.heap.size A n c ys n 0 w2 SI h0 (by omega))
  have H2 := Lib.hid (And.intro (H1.out.res.below hb2) bel2)
  rw [Nat.zero_add] at C
  have C' : Hid (Calls Tryd.prog 42 #[.int .i64 0, .int .i64 (n : Int), .pointer (some ⟨w.heap.size, 0, none⟩), .pointer (some ⟨w1.heap.size, 0, none⟩)] w2 fun e w' => e = .returned (sv (rt (nth ys) 0 n)) ∧ Below w2.heap.size w2 w') := C
  clear C SI hw2 hb2 bel2 hcell
  obtain ⟨s, hs0⟩ : ∃ s, rt (nth ys) 0 n = s := ⟨_, rfl⟩
  rw [hs0] at C' hl
  have HS := Lib.hid hs0
  clear hs0
  go_wp2_with fail
  refine C'.out.mono ?_
  rintro e w3 ⟨rfl, hb3⟩
  have f3 := H2.out.1.below hb3
  have HZ32 := Lib.hid (show zero32.length = 32 from rfl)
  go_wp2_with (with_reducible refine wpList_store_sum rfl (.tmp 2) (.tmp 12) rfl (w.heap.size + 1) rfl zero32 s HZ32 hl f3 rfl ?_)
  refine bodyPost_ret_by (results_cell_row (p := 2) (ty := 36) (by kernel_rfl) _ _ (w.heap.size + 1) 36 (bvs s).toArray (0, 0) _ rfl (f3.setRow _) Tryd.underlying36 rfl (by rw [List.size_toArray, bvs_length, hl]; exact sizeSum)) rfl ?_
  exact ⟨by rw [HS.out]; rfl, below_setRow (below_on H2.out.2 (Nat.le_refl _) hb3) (by omega) _⟩

theorem root_any (A : Option Addr) (n c : Nat) (ys : List Nat) (w : World) (hin : InS w A n ys) (hx : ∀ x ∈ ys, x < 256) (hc : n ≤ c) (hn : n ≤ 65536) (hk : Knows w) (hs : Starts w) :
    Calls Tryd.prog 12 #[.slice A n c] w fun e w' => e = .returned (sv (rt (nth ys) 0 n)) ∧ Below w.heap.size w w' := by
  by_cases h0 : n = 0
  · subst h0; exact root_none A c _ w hk hs
  · exact root_some A n c ys w hin hx hc (by omega) hn hk hs

end Go.Proofs.YtnaebjdccngeoaaDoor
