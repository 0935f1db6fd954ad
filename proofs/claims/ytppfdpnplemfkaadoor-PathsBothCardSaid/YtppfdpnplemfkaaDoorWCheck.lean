/-
  paths.Check.
-/
import Derived.Test.YtppfdpnplemfkaaDoorWEnd
namespace Go.Proofs.YtppfdpnplemfkaaDoor
open Go.RowKit

/-- The world in which Check begins. -/
structure CheckIn (w w1 : World) (leaf root : List Nat) : Prop where
  leaf : BArr w1 w.heap.size 24 leaf
  root : BArr w1 (w.heap.size + 1) 24 root
  below : Below w.heap.size w w1
  size : w1.heap.size = w.heap.size + 2

theorem checkIn_of (w : World) (leaf root : List Nat) : CheckIn w ((w.alloc (.cells (bvs leaf).toArray 24)).alloc (.cells (bvs root).toArray 24)) leaf root := by
  have f0 := (BArr.new w 24 leaf).alloc (.cells (bvs root).toArray 24)
  have f1 := BArr.new (w.alloc (.cells (bvs leaf).toArray 24)) 24 root
  rw [World.size_alloc] at f1
  exact ⟨f0, f1, (below_alloc w _).alloc (by simp) _, by simp⟩

section
variable {w : World} {n c : Nat} {A : Option Addr} {ys leaf root : List Nat} {at_ size : Nat}

set_option maxRecDepth 100000 in
set_option maxHeartbeats 2000000 in
theorem check_far (hge : size ≤ at_) :
    Calls Tryd.prog 9 #[sv leaf, .int .u64 (at_ : Int), .int .u64 (size : Int), .slice A n c, sv root] w fun e w' => e = .returned (.bool false) ∧ Below w.heap.size w w' := by
  have H1 := Lib.hid (checkIn_of w leaf root)
  have hi : (size : Int) ≤ (at_ : Int) := by omega
  unfold sv
  go_enter Tryd.func9, Tryd.ntmps9
  go_wp2_with fail
  go_ret
  exact ⟨rfl, H1.out.below⟩

set_option maxRecDepth 100000 in
set_option maxHeartbeats 2000000 in
theorem check_at (b : Bool) (s : List Nat) (hsl : s.length = 32) (hl : leaf.length = 32) (hr : root.length = 32) (hlt : at_ < size)
    (ce : ∀ w' : World, Below w.heap.size w w' → Calls Tryd.prog 17 #[sv leaf, .int .u64 (at_ : Int), .int .u64 (size : Int), .slice A n c] w' fun e w'' => e = .returned (.tuple #[sv s, .bool b]) ∧ Below w'.heap.size w' w'') :
    Calls Tryd.prog 9 #[sv leaf, .int .u64 (at_ : Int), .int .u64 (size : Int), .slice A n c, sv root] w fun e w' => e = .returned (.bool (b && decide (s = root))) ∧ Below w.heap.size w w' := by
  have e0 : (bvs zero32).toArray = #[.int .u8 0, .int .u8 0, .int .u8 0, .int .u8 0, .int .u8 0, .int .u8 0, .int .u8 0, .int .u8 0, .int .u8 0, .int .u8 0, .int .u8 0, .int .u8 0, .int .u8 0, .int .u8 0, .int .u8 0, .int .u8 0, .int .u8 0, .int .u8 0, .int .u8 0, .int .u8 0, .int .u8 0, .int .u8 0, .int .u8 0, .int .u8 0, .int .u8 0, .int .u8 0, .int .u8 0, .int .u8 0, .int .u8 0, .int .u8 0, .int .u8 0, .int .u8 0] := rfl
  obtain ⟨w1, hw1⟩ : ∃ w1, w1 = (w.alloc (.cells (bvs leaf).toArray 24)).alloc (.cells (bvs root).toArray 24) := ⟨_, rfl⟩
  have h1 := checkIn_of w leaf root
  rw [← hw1] at h1
  have H1 := Lib.hid h1
  have HW := Lib.hid hw1
  have CE := Lib.hid (ce w1 h1.below)
  have hi : ¬ (size : Int) ≤ (at_ : Int) := by omega
  have hA := Lib.hid h1.leaf.at_
  have HR := Lib.hid hr
  clear h1 hw1 ce hlt e0 hr
  unfold sv
  go_enter Tryd.func9, Tryd.ntmps9
  go_upto_region 1 with fail
  rw [← HW.out]
  go_wp2_with (with_reducible refine wpList_load_sum rfl (.tmp 5) rfl ⟨w.heap.size, 0, none⟩ rfl leaf hl hA.out ?_)
  refine CE.out.mono ?_
  rintro e w2 ⟨rfl, hb2⟩
  go_upto_region 4 with (with_reducible refine wpList_store_new w2 _ rfl rfl (.tmp 11) (.tmp 22) rfl rfl s hsl rfl ?_)
  have b3 := below_alloc w2 (.cells (bvs s).toArray 24)
  have g3 := BArr.new w2 24 s
  obtain ⟨w3, hw3⟩ : ∃ w3, w3 = w2.alloc (.cells (bvs s).toArray 24) := ⟨_, rfl⟩
  rw [← hw3] at b3 g3 ⊢
  clear hw3
  have gr := Lib.hid ((H1.out.root.below hb2).below b3).at_
  have gs := Lib.hid g3.at_
  have HB := Lib.hid ((below_on H1.out.below (Nat.le_refl _) hb2).trans (b3.mono (below_on H1.out.below (Nat.le_refl _) hb2).size))
  have hrl := HR.out
  have q1 := run_eql_sum s root hsl hrl
  have q2 := fun x y => run_guard_eql x y s root
  clear b3 g3 hb2
  cases b
  · go_wp2_with fail
    go_ret
    exact ⟨rfl, HB.out⟩
  · go_wp2_with (first | with_reducible refine wpList_load_sum_g rfl (.tmp 11) rfl ⟨w2.heap.size, 0, none⟩ rfl s hsl gs.out ?_ | with_reducible refine wpList_load_sum_g rfl (.tmp 9) rfl ⟨w.heap.size + 1, 0, none⟩ rfl root hrl gr.out ?_)
    go_ret
    exact ⟨rfl, HB.out⟩

/-- Whether the leaf at a place is in a tree of so many leaves, by that path. -/
def inTree (ys leaf root : List Nat) (n at_ size : Nat) : Bool := decide (at_ < size) && (decide (dep at_ size = n) && decide (leadF (nth ys) leaf at_ size 0 = root))

theorem check_any (hin : InS w A n ys) (hy : ∀ x ∈ ys, x < 256) (hc : n ≤ c) (hn : n ≤ 1000000) (hl : leaf.length = 32) (hb : ∀ x ∈ leaf, x < 256) (hr : root.length = 32) (hz : size < 18446744073709551616) (hk : Knows w) (hs : Starts w) :
    Calls Tryd.prog 9 #[sv leaf, .int .u64 (at_ : Int), .int .u64 (size : Int), .slice A n c, sv root] w fun e w' => e = .returned (.bool (inTree ys leaf root n at_ size)) ∧ Below w.heap.size w w' := by
  unfold inTree
  by_cases hat : at_ < size
  · rw [decide_eq_true hat, Bool.true_and]
    by_cases hd : dep at_ size ≤ n
    · exact check_at _ _ (leadF_length _ _ hl _ _ _) hl hr hat fun w' hb' => end_yes (hin.below hb') hy hc hn hl hb hz hat (hk.below hb') (hs.below hb') hd
    · rw [decide_eq_false (p := dep at_ size = n) (by omega), Bool.false_and]
      have := check_at (w := w) (n := n) (c := c) (A := A) false zero32 rfl hl hr hat fun w' hb' => end_no (hin.below hb') hy hc hn hl hb hz hat (hk.below hb') (hs.below hb') (by omega)
      rwa [Bool.false_and] at this
  · rw [decide_eq_false hat, Bool.false_and]
    exact check_far (by omega)
end

end Go.Proofs.YtppfdpnplemfkaaDoor
