/-
  links.ends' closure that calls itself: what the sums of a link lead to, and whether one is missing.
-/
import Derived.Test.YtilgikhdamkeoaaDoorKNext
import Derived.Test.YtilgikhdamkeoaaDoorKBuild
import Derived.Test.YtilgikhdamkeoaaDoorKLeft
import Derived.Test.YtilgikhdamkeoaaDoorVNode
import Derived.LaidEql
namespace Go.Proofs.YtilgikhdamkeoaaDoor
open Go.RowKit

/-- The world in which lead begins. -/
structure KLeadIn (w w1 : World) : Prop where
  res : BArr w1 w.heap.size 46 zero64
  below : Below w.heap.size w w1
  size : w1.heap.size = w.heap.size + 1
theorem kleadIn_of (w : World) : KLeadIn w (w.alloc (.cells (bvs zero64).toArray 46)) := ⟨BArr.new _ _ _, below_alloc w _, by simp⟩

/-- What lead answers: two sums and an error; and how many are taken then. -/
def Led (B w : World) (ab lb nb gb n : Nat) (ys a P Q : List Nat) (ev : Value) (j : Nat) (e : Ending) (w' : World) : Prop :=
  e = .returned (.tuple #[sv (P ++ Q), ev]) ∧ (∃ A' c', KIn B w' ab lb nb gb n j A' c' ys a) ∧ But (· = lb) w w'

section
variable {B w : World} {ab lb nb gb n j c : Nat} {A : Option Addr} {ys a : List Nat} {E : Addr} {from_ size : Nat} {edge : Bool}

set_option maxRecDepth 100000 in
set_option maxHeartbeats 4000000 in
theorem klead_edge (h : KIn B w ab lb nb gb n j A c ys a) (hl : a.length = 32) (hfs : from_ = size) :
    Calls Tryd.prog 27 #[.int .u64 (from_ : Int), .int .u64 (size : Int), .bool true, .pointer (some ⟨ab, 0, none⟩), .pointer (some ⟨nb, 0, none⟩), .pointer (some ⟨gb, 0, none⟩)] w (Led B w ab lb nb gb n ys a a a .nilIface j) := by
  subst hfs
  have e0 : (bvs zero64).toArray = #[.int .u8 0, .int .u8 0, .int .u8 0, .int .u8 0, .int .u8 0, .int .u8 0, .int .u8 0, .int .u8 0, .int .u8 0, .int .u8 0, .int .u8 0, .int .u8 0, .int .u8 0, .int .u8 0, .int .u8 0, .int .u8 0, .int .u8 0, .int .u8 0, .int .u8 0, .int .u8 0, .int .u8 0, .int .u8 0, .int .u8 0, .int .u8 0, .int .u8 0, .int .u8 0, .int .u8 0, .int .u8 0, .int .u8 0, .int .u8 0, .int .u8 0, .int .u8 0, .int .u8 0, .int .u8 0, .int .u8 0, .int .u8 0, .int .u8 0, .int .u8 0, .int .u8 0, .int .u8 0, .int .u8 0, .int .u8 0, .int .u8 0, .int .u8 0, .int .u8 0, .int .u8 0, .int .u8 0, .int .u8 0, .int .u8 0, .int .u8 0, .int .u8 0, .int .u8 0, .int .u8 0, .int .u8 0, .int .u8 0, .int .u8 0, .int .u8 0, .int .u8 0, .int .u8 0, .int .u8 0, .int .u8 0, .int .u8 0, .int .u8 0, .int .u8 0] := rfl
  have h1 := kleadIn_of w
  rw [e0] at h1
  clear e0
  obtain ⟨w1, hw1⟩ : ∃ w1, w1 = w.alloc (.cells #[.int .u8 0, .int .u8 0, .int .u8 0, .int .u8 0, .int .u8 0, .int .u8 0, .int .u8 0, .int .u8 0, .int .u8 0, .int .u8 0, .int .u8 0, .int .u8 0, .int .u8 0, .int .u8 0, .int .u8 0, .int .u8 0, .int .u8 0, .int .u8 0, .int .u8 0, .int .u8 0, .int .u8 0, .int .u8 0, .int .u8 0, .int .u8 0, .int .u8 0, .int .u8 0, .int .u8 0, .int .u8 0, .int .u8 0, .int .u8 0, .int .u8 0, .int .u8 0, .int .u8 0, .int .u8 0, .int .u8 0, .int .u8 0, .int .u8 0, .int .u8 0, .int .u8 0, .int .u8 0, .int .u8 0, .int .u8 0, .int .u8 0, .int .u8 0, .int .u8 0, .int .u8 0, .int .u8 0, .int .u8 0, .int .u8 0, .int .u8 0, .int .u8 0, .int .u8 0, .int .u8 0, .int .u8 0, .int .u8 0, .int .u8 0, .int .u8 0, .int .u8 0, .int .u8 0, .int .u8 0, .int .u8 0, .int .u8 0, .int .u8 0, .int .u8 0] 46) := ⟨_, rfl⟩
  rw [← hw1] at h1
  have H1 := Lib.hid h1
  have HW := Lib.hid hw1
  have HP := Lib.hid h
  have HLT := Lib.hid (And.intro h.lt (And.intro h1.size h1.below.size))
  have HZ := Lib.hid (show zero64.length = 64 from rfl)
  have hA := Lib.hid (h.below_ h1.below).sum.at_
  have hf : ((from_ : Int) == (from_ : Int)) = true := by simp
  have R1 := h1.res
  clear h h1 hw1
  go_enter Tryd.func27, Tryd.ntmps27
  go_upto_region 1 with fail
  rw [← HW.out]
  have haa : (a ++ a).length = 64 := by rw [List.length_append]; omega
  go_upto_region 3 with fail
  refine wp_region_lit ?_
  refine wpList_load_sum rfl (.tmp 3) rfl ⟨ab, 0, none⟩ rfl a hl hA.out ?_
  refine wpList_load_sum rfl (.tmp 3) rfl ⟨ab, 0, none⟩ rfl a hl hA.out ?_
  refine wpList_build_pair rfl (.tmp 24) (.tmp 25) rfl a a rfl rfl hl hl ?_
  refine wpList_store_pair rfl (.tmp 9) (.tmp 26) rfl w.heap.size rfl zero64 (a ++ a) HZ.out haa R1 rfl ?_
  simp only [Act.put, List.setIfInBounds_toArray, List.set_cons_zero, List.set_cons_succ]
  go_wp2_with fail
  have r4 : BArr (w1.setRow w.heap.size (bvs (a ++ a)).toArray) w.heap.size 46 (a ++ a) := R1.setRow _
  refine bodyPost_ret_by (results_cell_tmp (p := 9) (q := 10) (ty := 46) (by kernel_rfl) _ _ ⟨w.heap.size, 0, none⟩ (sv (a ++ a)) rfl (run_load_pair _ _ _ haa r4.at_)) rfl ?_
  have hlt := HLT.out
  have hb0 := HP.out.below.size
  exact ⟨rfl, ⟨A, c, (HP.out.below_ H1.out.below).setRow (by omega) ⟨by omega, by omega, by omega, by omega⟩ _⟩, But.of_below (below_setRow H1.out.below (Nat.le_refl _) _)⟩

set_option maxRecDepth 100000 in
set_option maxHeartbeats 4000000 in
theorem klead_root {s : List Nat} {ev : Value} {j' : Nat} (h : KIn B w ab lb nb gb n j A c ys a) (hsl : s.length = 32) (hfs : from_ = size)
    (cn : ∀ w' : World, KIn B w' ab lb nb gb n j A c ys a → Calls Tryd.prog 26 #[.pointer (some ⟨lb, 0, none⟩)] w' fun e w'' => e = .returned (.tuple #[sv s, ev]) ∧ (∃ A' c', KIn B w'' ab lb nb gb n j' A' c' ys a) ∧ But (· = lb) w' w'') :
    Calls Tryd.prog 27 #[.int .u64 (from_ : Int), .int .u64 (size : Int), .bool false, .pointer (some ⟨ab, 0, none⟩), .pointer (some ⟨nb, 0, none⟩), .pointer (some ⟨gb, 0, none⟩)] w (Led B w ab lb nb gb n ys a s s ev j') := by
  subst hfs
  have e0 : (bvs zero64).toArray = #[.int .u8 0, .int .u8 0, .int .u8 0, .int .u8 0, .int .u8 0, .int .u8 0, .int .u8 0, .int .u8 0, .int .u8 0, .int .u8 0, .int .u8 0, .int .u8 0, .int .u8 0, .int .u8 0, .int .u8 0, .int .u8 0, .int .u8 0, .int .u8 0, .int .u8 0, .int .u8 0, .int .u8 0, .int .u8 0, .int .u8 0, .int .u8 0, .int .u8 0, .int .u8 0, .int .u8 0, .int .u8 0, .int .u8 0, .int .u8 0, .int .u8 0, .int .u8 0, .int .u8 0, .int .u8 0, .int .u8 0, .int .u8 0, .int .u8 0, .int .u8 0, .int .u8 0, .int .u8 0, .int .u8 0, .int .u8 0, .int .u8 0, .int .u8 0, .int .u8 0, .int .u8 0, .int .u8 0, .int .u8 0, .int .u8 0, .int .u8 0, .int .u8 0, .int .u8 0, .int .u8 0, .int .u8 0, .int .u8 0, .int .u8 0, .int .u8 0, .int .u8 0, .int .u8 0, .int .u8 0, .int .u8 0, .int .u8 0, .int .u8 0, .int .u8 0] := rfl
  have h1 := kleadIn_of w
  rw [e0] at h1
  clear e0
  obtain ⟨w1, hw1⟩ : ∃ w1, w1 = w.alloc (.cells #[.int .u8 0, .int .u8 0, .int .u8 0, .int .u8 0, .int .u8 0, .int .u8 0, .int .u8 0, .int .u8 0, .int .u8 0, .int .u8 0, .int .u8 0, .int .u8 0, .int .u8 0, .int .u8 0, .int .u8 0, .int .u8 0, .int .u8 0, .int .u8 0, .int .u8 0, .int .u8 0, .int .u8 0, .int .u8 0, .int .u8 0, .int .u8 0, .int .u8 0, .int .u8 0, .int .u8 0, .int .u8 0, .int .u8 0, .int .u8 0, .int .u8 0, .int .u8 0, .int .u8 0, .int .u8 0, .int .u8 0, .int .u8 0, .int .u8 0, .int .u8 0, .int .u8 0, .int .u8 0, .int .u8 0, .int .u8 0, .int .u8 0, .int .u8 0, .int .u8 0, .int .u8 0, .int .u8 0, .int .u8 0, .int .u8 0, .int .u8 0, .int .u8 0, .int .u8 0, .int .u8 0, .int .u8 0, .int .u8 0, .int .u8 0, .int .u8 0, .int .u8 0, .int .u8 0, .int .u8 0, .int .u8 0, .int .u8 0, .int .u8 0, .int .u8 0] 46) := ⟨_, rfl⟩
  rw [← hw1] at h1
  have H1 := Lib.hid h1
  have HW := Lib.hid hw1
  have HP := Lib.hid h
  have HLT := Lib.hid (And.intro h.lt (And.intro h1.size h1.below.size))
  have HZ := Lib.hid (show zero64.length = 64 from rfl)
  have n1 := (h.below_ h1.below).nxt.cell
  have HC := Lib.hid (cn w1 (h.below_ h1.below))
  have hf : ((from_ : Int) == (from_ : Int)) = true := by simp
  clear h h1 hw1 cn
  unfold takesK at n1
  go_enter Tryd.func27, Tryd.ntmps27
  go_upto_region 1 with fail
  rw [← HW.out]
  go_wp2_with fail
  refine HC.out.mono ?_
  rintro e w2 ⟨rfl, hk2, hb2⟩
  have HK2 := Lib.hid (And.intro hk2 hb2)
  clear hk2 hb2
  go_upto_region 5 with (with_reducible refine wpList_store_new w2 _ rfl rfl (.tmp 11) (.tmp 30) rfl rfl s hsl rfl ?_)
  have b3 := below_alloc w2 (.cells (bvs s).toArray 24)
  have g3 := BArr.new w2 24 s
  have r2 : BArr w2 w.heap.size 46 zero64 := (HK2.out.2.block _ H1.out.res.lt (by have := HLT.out; omega)).trans H1.out.res
  obtain ⟨w3, hw3⟩ : ∃ w3, w3 = w2.alloc (.cells (bvs s).toArray 24) := ⟨_, rfl⟩
  rw [← hw3] at b3 g3 ⊢
  have R3 := r2.below b3
  have G3 := Lib.hid g3.at_
  have B3 := Lib.hid b3
  have hss : (s ++ s).length = 64 := by rw [List.length_append]; omega
  clear b3 g3 r2 hw3
  refine wp_region_lit ?_
  refine wpList_load_sum rfl (.tmp 11) rfl ⟨w2.heap.size, 0, none⟩ rfl s hsl G3.out ?_
  refine wpList_load_sum rfl (.tmp 11) rfl ⟨w2.heap.size, 0, none⟩ rfl s hsl G3.out ?_
  refine wpList_build_pair rfl (.tmp 32) (.tmp 33) rfl s s rfl rfl hsl hsl ?_
  refine wpList_plain rfl fun K hK => ?_
  go_simp
  refine hK _ _ ?_
  clear hK K
  refine wpList_store_pair rfl (.tmp 9) (.tmp 34) rfl w.heap.size rfl zero64 (s ++ s) HZ.out hss R3 rfl ?_
  simp only [Act.put]
  go_wp2_with fail
  have r4 : BArr (w3.setRow w.heap.size (bvs (s ++ s)).toArray) w.heap.size 46 (s ++ s) := R3.setRow _
  refine bodyPost_ret_by (results_cell_tmp (p := 9) (q := 10) (ty := 46) (by kernel_rfl) _ _ ⟨w.heap.size, 0, none⟩ (sv (s ++ s)) rfl (run_load_pair _ _ _ hss r4.at_)) rfl ?_
  have hlt := HLT.out
  have hb0 := HP.out.below.size
  obtain ⟨A', c', hk2⟩ := HK2.out.1
  have bu : But (· = lb) w w3 := ((But.of_below H1.out.below).trans HK2.out.2).trans (But.of_below B3.out)
  exact ⟨rfl, ⟨A', c', (hk2.below_ B3.out).setRow (by omega) ⟨by omega, by omega, by omega, by omega⟩ _⟩, ⟨bu.os, bu.tape, bu.output, by rw [setRow_size]; exact bu.size, fun b hb hne => (Go.setRow_other _ _ _ _ (by omega)).trans (bu.block b hb hne)⟩⟩

set_option maxRecDepth 100000 in
set_option maxHeartbeats 4000000 in
theorem klead_low_fall {P Q : List Nat} {j' : Nat} (h : KIn B w ab lb nb gb n j A c ys a) (hPl : P.length = 32) (hQl : Q.length = 32) (h2 : 2 ≤ size) (hz : size < 18446744073709551616) (hfs : from_ < size) (ha : from_ ≤ cutN size)
    (ih : ∀ w' : World, KIn B w' ab lb nb gb n j A c ys a → Calls Tryd.prog 27 #[.int .u64 (from_ : Nat), .int .u64 ((cutN size) : Nat), .bool edge, .pointer (some ⟨ab, 0, none⟩), .pointer (some ⟨nb, 0, none⟩), .pointer (some ⟨gb, 0, none⟩)] w' (Led B w' ab lb nb gb n ys a P Q (missV E) j'))
 :
    Calls Tryd.prog 27 #[.int .u64 (from_ : Int), .int .u64 (size : Int), .bool edge, .pointer (some ⟨ab, 0, none⟩), .pointer (some ⟨nb, 0, none⟩), .pointer (some ⟨gb, 0, none⟩)] w (Led B w ab lb nb gb n ys a P Q (missV E) j') := by
  have e0 : (bvs zero64).toArray = #[.int .u8 0, .int .u8 0, .int .u8 0, .int .u8 0, .int .u8 0, .int .u8 0, .int .u8 0, .int .u8 0, .int .u8 0, .int .u8 0, .int .u8 0, .int .u8 0, .int .u8 0, .int .u8 0, .int .u8 0, .int .u8 0, .int .u8 0, .int .u8 0, .int .u8 0, .int .u8 0, .int .u8 0, .int .u8 0, .int .u8 0, .int .u8 0, .int .u8 0, .int .u8 0, .int .u8 0, .int .u8 0, .int .u8 0, .int .u8 0, .int .u8 0, .int .u8 0, .int .u8 0, .int .u8 0, .int .u8 0, .int .u8 0, .int .u8 0, .int .u8 0, .int .u8 0, .int .u8 0, .int .u8 0, .int .u8 0, .int .u8 0, .int .u8 0, .int .u8 0, .int .u8 0, .int .u8 0, .int .u8 0, .int .u8 0, .int .u8 0, .int .u8 0, .int .u8 0, .int .u8 0, .int .u8 0, .int .u8 0, .int .u8 0, .int .u8 0, .int .u8 0, .int .u8 0, .int .u8 0, .int .u8 0, .int .u8 0, .int .u8 0, .int .u8 0] := rfl
  have h1 := kleadIn_of w
  rw [e0] at h1
  clear e0
  obtain ⟨w1, hw1⟩ : ∃ w1, w1 = w.alloc (.cells #[.int .u8 0, .int .u8 0, .int .u8 0, .int .u8 0, .int .u8 0, .int .u8 0, .int .u8 0, .int .u8 0, .int .u8 0, .int .u8 0, .int .u8 0, .int .u8 0, .int .u8 0, .int .u8 0, .int .u8 0, .int .u8 0, .int .u8 0, .int .u8 0, .int .u8 0, .int .u8 0, .int .u8 0, .int .u8 0, .int .u8 0, .int .u8 0, .int .u8 0, .int .u8 0, .int .u8 0, .int .u8 0, .int .u8 0, .int .u8 0, .int .u8 0, .int .u8 0, .int .u8 0, .int .u8 0, .int .u8 0, .int .u8 0, .int .u8 0, .int .u8 0, .int .u8 0, .int .u8 0, .int .u8 0, .int .u8 0, .int .u8 0, .int .u8 0, .int .u8 0, .int .u8 0, .int .u8 0, .int .u8 0, .int .u8 0, .int .u8 0, .int .u8 0, .int .u8 0, .int .u8 0, .int .u8 0, .int .u8 0, .int .u8 0, .int .u8 0, .int .u8 0, .int .u8 0, .int .u8 0, .int .u8 0, .int .u8 0, .int .u8 0, .int .u8 0] 46) := ⟨_, rfl⟩
  rw [← hw1] at h1
  have H1 := Lib.hid h1
  have HW := Lib.hid hw1
  have HP := Lib.hid h
  have HLT := Lib.hid (And.intro h.lt (And.intro h1.size h1.below.size))
  have HZ := Lib.hid (show zero64.length = 64 from rfl)
  have hcl := cutN_lt h2
  have hcp := cutN_pos size
  obtain ⟨k, hk0⟩ : ∃ k, cutN size = k := ⟨_, rfl⟩
  rw [hk0] at hcl hcp ha ih
  have ns : ((from_ : Int) == (size : Int)) = false := by simp; omega
  have hle : (from_ : Int) ≤ (k : Int) := by omega
  have CM := Lib.hid (kleft_any size w1 h2 hz)
  rw [hk0] at CM
  have K1 := h.below_ h1.below
  have l1 := K1.led.cell
  unfold leadsK at l1
  have IH := Lib.hid (ih w1 K1)
  have hPQ : (P ++ Q).length = 64 := by rw [List.length_append]; omega
  clear h h1 hw1 ih K1 hk0 hcl hcp h2 hz hfs ha hPl hQl
  go_enter Tryd.func27, Tryd.ntmps27
  go_upto_region 1 with fail
  rw [← HW.out]
  go_wp2_with fail
  refine CM.out.mono ?_
  rintro e w2 ⟨rfl, rfl⟩
  go_wp2_with fail
  refine IH.out.mono ?_
  rintro e w3 ⟨rfl, ⟨A3, c3, hk3⟩, hb3⟩
  have HK3 := Lib.hid (And.intro hk3 hb3)
  have r3 : BArr w3 w.heap.size 46 zero64 := (hb3.block _ H1.out.res.lt (by have := HLT.out; omega)).trans H1.out.res
  have HR3 := Lib.hid r3
  clear hk3 hb3 r3
  go_upto_region 9 with (with_reducible refine wpList_store_newP w3 _ rfl rfl (.tmp 14) (.tmp 47) rfl rfl (P ++ Q) hPQ rfl ?_)
  have b4 := below_alloc w3 (.cells (bvs (P ++ Q)).toArray 46)
  have g4 := BArr.new w3 46 (P ++ Q)
  obtain ⟨w4, hw4⟩ : ∃ w4, w4 = w3.alloc (.cells (bvs (P ++ Q)).toArray 46) := ⟨_, rfl⟩
  rw [← hw4] at b4 g4 ⊢
  have HK4 := Lib.hid (HK3.out.1.below_ b4)
  have HR4 := Lib.hid (HR3.out.below b4)
  have BU4 := Lib.hid (((But.of_below H1.out.below).trans HK3.out.2).trans (But.of_below b4))
  have G4 := Lib.hid g4
  have S4 := Lib.hid (And.intro HK3.out.2.size (And.intro b4.size (show w3.heap.size < w4.heap.size from by rw [hw4]; simp)))
  clear hw4 b4 g4
  have mv : missV E = .iface 98 (.pointer (some E)) := rfl
  rw [mv]
  have hG := Lib.hid G4.out.at_
  have hR4 := HR4.out
  go_wp2_with (first | with_reducible refine wpList_load_pair rfl (.tmp 14) rfl ⟨w3.heap.size, 0, none⟩ rfl (P ++ Q) hPQ hG.out ?_ | with_reducible refine wpList_store_pair rfl (.tmp 9) (.tmp 51) rfl w.heap.size rfl zero64 (P ++ Q) HZ.out hPQ hR4 rfl ?_)
  have r5 : BArr (w4.setRow w.heap.size (bvs (P ++ Q)).toArray) w.heap.size 46 (P ++ Q) := hR4.setRow _
  refine bodyPost_ret_by (results_cell_tmp (p := 9) (q := 10) (ty := 46) (by kernel_rfl) _ _ ⟨w.heap.size, 0, none⟩ (sv (P ++ Q)) rfl (run_load_pair _ _ _ hPQ r5.at_)) rfl ?_
  have hlt := HLT.out
  have hb0 := HP.out.below.size
  have bu := BU4.out
  exact ⟨rfl, ⟨A3, c3, HK4.out.setRow (by omega) ⟨by omega, by omega, by omega, by omega⟩ _⟩, ⟨bu.os, bu.tape, bu.output, by rw [setRow_size]; exact bu.size, fun b hb hne => (Go.setRow_other _ _ _ _ (by omega)).trans (bu.block b hb hne)⟩⟩

set_option maxRecDepth 100000 in
set_option maxHeartbeats 4000000 in
theorem klead_high_fall {P Q : List Nat} {j' : Nat} (h : KIn B w ab lb nb gb n j A c ys a) (hPl : P.length = 32) (hQl : Q.length = 32) (h2 : 2 ≤ size) (hz : size < 18446744073709551616) (hfs : from_ < size) (ha : ¬ from_ ≤ cutN size)
    (ih : ∀ w' : World, KIn B w' ab lb nb gb n j A c ys a → Calls Tryd.prog 27 #[.int .u64 ((from_ - cutN size) : Nat), .int .u64 ((size - cutN size) : Nat), .bool false, .pointer (some ⟨ab, 0, none⟩), .pointer (some ⟨nb, 0, none⟩), .pointer (some ⟨gb, 0, none⟩)] w' (Led B w' ab lb nb gb n ys a P Q (missV E) j'))
 :
    Calls Tryd.prog 27 #[.int .u64 (from_ : Int), .int .u64 (size : Int), .bool edge, .pointer (some ⟨ab, 0, none⟩), .pointer (some ⟨nb, 0, none⟩), .pointer (some ⟨gb, 0, none⟩)] w (Led B w ab lb nb gb n ys a P Q (missV E) j') := by
  have e0 : (bvs zero64).toArray = #[.int .u8 0, .int .u8 0, .int .u8 0, .int .u8 0, .int .u8 0, .int .u8 0, .int .u8 0, .int .u8 0, .int .u8 0, .int .u8 0, .int .u8 0, .int .u8 0, .int .u8 0, .int .u8 0, .int .u8 0, .int .u8 0, .int .u8 0, .int .u8 0, .int .u8 0, .int .u8 0, .int .u8 0, .int .u8 0, .int .u8 0, .int .u8 0, .int .u8 0, .int .u8 0, .int .u8 0, .int .u8 0, .int .u8 0, .int .u8 0, .int .u8 0, .int .u8 0, .int .u8 0, .int .u8 0, .int .u8 0, .int .u8 0, .int .u8 0, .int .u8 0, .int .u8 0, .int .u8 0, .int .u8 0, .int .u8 0, .int .u8 0, .int .u8 0, .int .u8 0, .int .u8 0, .int .u8 0, .int .u8 0, .int .u8 0, .int .u8 0, .int .u8 0, .int .u8 0, .int .u8 0, .int .u8 0, .int .u8 0, .int .u8 0, .int .u8 0, .int .u8 0, .int .u8 0, .int .u8 0, .int .u8 0, .int .u8 0, .int .u8 0, .int .u8 0] := rfl
  have h1 := kleadIn_of w
  rw [e0] at h1
  clear e0
  obtain ⟨w1, hw1⟩ : ∃ w1, w1 = w.alloc (.cells #[.int .u8 0, .int .u8 0, .int .u8 0, .int .u8 0, .int .u8 0, .int .u8 0, .int .u8 0, .int .u8 0, .int .u8 0, .int .u8 0, .int .u8 0, .int .u8 0, .int .u8 0, .int .u8 0, .int .u8 0, .int .u8 0, .int .u8 0, .int .u8 0, .int .u8 0, .int .u8 0, .int .u8 0, .int .u8 0, .int .u8 0, .int .u8 0, .int .u8 0, .int .u8 0, .int .u8 0, .int .u8 0, .int .u8 0, .int .u8 0, .int .u8 0, .int .u8 0, .int .u8 0, .int .u8 0, .int .u8 0, .int .u8 0, .int .u8 0, .int .u8 0, .int .u8 0, .int .u8 0, .int .u8 0, .int .u8 0, .int .u8 0, .int .u8 0, .int .u8 0, .int .u8 0, .int .u8 0, .int .u8 0, .int .u8 0, .int .u8 0, .int .u8 0, .int .u8 0, .int .u8 0, .int .u8 0, .int .u8 0, .int .u8 0, .int .u8 0, .int .u8 0, .int .u8 0, .int .u8 0, .int .u8 0, .int .u8 0, .int .u8 0, .int .u8 0] 46) := ⟨_, rfl⟩
  rw [← hw1] at h1
  have H1 := Lib.hid h1
  have HW := Lib.hid hw1
  have HP := Lib.hid h
  have HLT := Lib.hid (And.intro h.lt (And.intro h1.size h1.below.size))
  have HZ := Lib.hid (show zero64.length = 64 from rfl)
  have hcl := cutN_lt h2
  have hcp := cutN_pos size
  obtain ⟨k, hk0⟩ : ∃ k, cutN size = k := ⟨_, rfl⟩
  rw [hk0] at hcl hcp ha ih
  have ns : ((from_ : Int) == (size : Int)) = false := by simp; omega
  have hle : ¬ (from_ : Int) ≤ (k : Int) := by omega
  obtain ⟨d, hd0⟩ : ∃ d, from_ - k = d := ⟨_, rfl⟩
  obtain ⟨m, hm0⟩ : ∃ m, size - k = m := ⟨_, rfl⟩
  rw [hd0, hm0] at ih
  have ea : IntKind.u64.wrap ((from_ : Int) - (k : Int)) = (d : Int) := by rw [IntKind.wrap_u64]; omega
  have em : IntKind.u64.wrap ((size : Int) - (k : Int)) = (m : Int) := by rw [IntKind.wrap_u64]; omega
  have CM := Lib.hid (kleft_any size w1 h2 hz)
  rw [hk0] at CM
  have K1 := h.below_ h1.below
  have l1 := K1.led.cell
  unfold leadsK at l1
  have IH := Lib.hid (ih w1 K1)
  have hPQ : (P ++ Q).length = 64 := by rw [List.length_append]; omega
  clear h h1 hw1 ih K1 hk0 hcl hcp h2 hz hfs ha hPl hQl hd0 hm0
  go_enter Tryd.func27, Tryd.ntmps27
  go_upto_region 1 with fail
  rw [← HW.out]
  go_wp2_with fail
  refine CM.out.mono ?_
  rintro e w2 ⟨rfl, rfl⟩
  go_wp2_with fail
  refine IH.out.mono ?_
  rintro e w3 ⟨rfl, ⟨A3, c3, hk3⟩, hb3⟩
  have HK3 := Lib.hid (And.intro hk3 hb3)
  have r3 : BArr w3 w.heap.size 46 zero64 := (hb3.block _ H1.out.res.lt (by have := HLT.out; omega)).trans H1.out.res
  have HR3 := Lib.hid r3
  clear hk3 hb3 r3
  go_upto_region 14 with (with_reducible refine wpList_store_newP w3 _ rfl rfl (.tmp 17) (.tmp 75) rfl rfl (P ++ Q) hPQ rfl ?_)
  have b4 := below_alloc w3 (.cells (bvs (P ++ Q)).toArray 46)
  have g4 := BArr.new w3 46 (P ++ Q)
  obtain ⟨w4, hw4⟩ : ∃ w4, w4 = w3.alloc (.cells (bvs (P ++ Q)).toArray 46) := ⟨_, rfl⟩
  rw [← hw4] at b4 g4 ⊢
  have HK4 := Lib.hid (HK3.out.1.below_ b4)
  have HR4 := Lib.hid (HR3.out.below b4)
  have BU4 := Lib.hid (((But.of_below H1.out.below).trans HK3.out.2).trans (But.of_below b4))
  have G4 := Lib.hid g4
  have S4 := Lib.hid (And.intro HK3.out.2.size (And.intro b4.size (show w3.heap.size < w4.heap.size from by rw [hw4]; simp)))
  clear hw4 b4 g4
  have mv : missV E = .iface 98 (.pointer (some E)) := rfl
  rw [mv]
  have hG := Lib.hid G4.out.at_
  have hR4 := HR4.out
  go_wp2_with (first | with_reducible refine wpList_load_pair rfl (.tmp 17) rfl ⟨w3.heap.size, 0, none⟩ rfl (P ++ Q) hPQ hG.out ?_ | with_reducible refine wpList_store_pair rfl (.tmp 9) (.tmp 79) rfl w.heap.size rfl zero64 (P ++ Q) HZ.out hPQ hR4 rfl ?_)
  have r5 : BArr (w4.setRow w.heap.size (bvs (P ++ Q)).toArray) w.heap.size 46 (P ++ Q) := hR4.setRow _
  refine bodyPost_ret_by (results_cell_tmp (p := 9) (q := 10) (ty := 46) (by kernel_rfl) _ _ ⟨w.heap.size, 0, none⟩ (sv (P ++ Q)) rfl (run_load_pair _ _ _ hPQ r5.at_)) rfl ?_
  have hlt := HLT.out
  have hb0 := HP.out.below.size
  have bu := BU4.out
  exact ⟨rfl, ⟨A3, c3, HK4.out.setRow (by omega) ⟨by omega, by omega, by omega, by omega⟩ _⟩, ⟨bu.os, bu.tape, bu.output, by rw [setRow_size]; exact bu.size, fun b hb hne => (Go.setRow_other _ _ _ _ (by omega)).trans (bu.block b hb hne)⟩⟩

set_option maxRecDepth 100000 in
set_option maxHeartbeats 4000000 in
theorem klead_low_go {P Q s : List Nat} {ev : Value} {j1 j' : Nat} (h : KIn B w ab lb nb gb n j A c ys a) (hPl : P.length = 32) (hQl : Q.length = 32) (h2 : 2 ≤ size) (hz : size < 18446744073709551616) (hfs : from_ < size) (ha : from_ ≤ cutN size)
    (ih : ∀ w' : World, KIn B w' ab lb nb gb n j A c ys a → Calls Tryd.prog 27 #[.int .u64 (from_ : Nat), .int .u64 ((cutN size) : Nat), .bool edge, .pointer (some ⟨ab, 0, none⟩), .pointer (some ⟨nb, 0, none⟩), .pointer (some ⟨gb, 0, none⟩)] w' (Led B w' ab lb nb gb n ys a P Q (.nilIface) j1))
    (cn : ∀ (w' : World) (A' : Option Addr) (c' : Nat), KIn B w' ab lb nb gb n j1 A' c' ys a → Calls Tryd.prog 26 #[.pointer (some ⟨lb, 0, none⟩)] w' fun e w'' => e = .returned (.tuple #[sv s, ev]) ∧ (∃ A' c', KIn B w'' ab lb nb gb n j' A' c' ys a) ∧ But (· = lb) w' w'')
    (hsl : s.length = 32) (hsb : ∀ x ∈ s, x < 256) (hQb : ∀ x ∈ Q, x < 256) (hk : Knows B) (hs : Starts B) :
    Calls Tryd.prog 27 #[.int .u64 (from_ : Int), .int .u64 (size : Int), .bool edge, .pointer (some ⟨ab, 0, none⟩), .pointer (some ⟨nb, 0, none⟩), .pointer (some ⟨gb, 0, none⟩)] w (Led B w ab lb nb gb n ys a P (nodeL Q s) (ev) j') := by
  have e0 : (bvs zero64).toArray = #[.int .u8 0, .int .u8 0, .int .u8 0, .int .u8 0, .int .u8 0, .int .u8 0, .int .u8 0, .int .u8 0, .int .u8 0, .int .u8 0, .int .u8 0, .int .u8 0, .int .u8 0, .int .u8 0, .int .u8 0, .int .u8 0, .int .u8 0, .int .u8 0, .int .u8 0, .int .u8 0, .int .u8 0, .int .u8 0, .int .u8 0, .int .u8 0, .int .u8 0, .int .u8 0, .int .u8 0, .int .u8 0, .int .u8 0, .int .u8 0, .int .u8 0, .int .u8 0, .int .u8 0, .int .u8 0, .int .u8 0, .int .u8 0, .int .u8 0, .int .u8 0, .int .u8 0, .int .u8 0, .int .u8 0, .int .u8 0, .int .u8 0, .int .u8 0, .int .u8 0, .int .u8 0, .int .u8 0, .int .u8 0, .int .u8 0, .int .u8 0, .int .u8 0, .int .u8 0, .int .u8 0, .int .u8 0, .int .u8 0, .int .u8 0, .int .u8 0, .int .u8 0, .int .u8 0, .int .u8 0, .int .u8 0, .int .u8 0, .int .u8 0, .int .u8 0] := rfl
  have h1 := kleadIn_of w
  rw [e0] at h1
  clear e0
  obtain ⟨w1, hw1⟩ : ∃ w1, w1 = w.alloc (.cells #[.int .u8 0, .int .u8 0, .int .u8 0, .int .u8 0, .int .u8 0, .int .u8 0, .int .u8 0, .int .u8 0, .int .u8 0, .int .u8 0, .int .u8 0, .int .u8 0, .int .u8 0, .int .u8 0, .int .u8 0, .int .u8 0, .int .u8 0, .int .u8 0, .int .u8 0, .int .u8 0, .int .u8 0, .int .u8 0, .int .u8 0, .int .u8 0, .int .u8 0, .int .u8 0, .int .u8 0, .int .u8 0, .int .u8 0, .int .u8 0, .int .u8 0, .int .u8 0, .int .u8 0, .int .u8 0, .int .u8 0, .int .u8 0, .int .u8 0, .int .u8 0, .int .u8 0, .int .u8 0, .int .u8 0, .int .u8 0, .int .u8 0, .int .u8 0, .int .u8 0, .int .u8 0, .int .u8 0, .int .u8 0, .int .u8 0, .int .u8 0, .int .u8 0, .int .u8 0, .int .u8 0, .int .u8 0, .int .u8 0, .int .u8 0, .int .u8 0, .int .u8 0, .int .u8 0, .int .u8 0, .int .u8 0, .int .u8 0, .int .u8 0, .int .u8 0] 46) := ⟨_, rfl⟩
  rw [← hw1] at h1
  have H1 := Lib.hid h1
  have HW := Lib.hid hw1
  have HP := Lib.hid h
  have HLT := Lib.hid (And.intro h.lt (And.intro h1.size h1.below.size))
  have HZ := Lib.hid (show zero64.length = 64 from rfl)
  have hcl := cutN_lt h2
  have hcp := cutN_pos size
  obtain ⟨k, hk0⟩ : ∃ k, cutN size = k := ⟨_, rfl⟩
  rw [hk0] at hcl hcp ha ih
  have ns : ((from_ : Int) == (size : Int)) = false := by simp; omega
  have hle : (from_ : Int) ≤ (k : Int) := by omega
  have CM := Lib.hid (kleft_any size w1 h2 hz)
  rw [hk0] at CM
  have K1 := h.below_ h1.below
  have l1 := K1.led.cell
  unfold leadsK at l1
  have IH := Lib.hid (ih w1 K1)
  have hPQ : (P ++ Q).length = 64 := by rw [List.length_append]; omega
  have HCN := Lib.hid cn
  have HB := Lib.hid (And.intro hsl (And.intro hsb (And.intro hQb (And.intro hk hs))))
  have HPL := Lib.hid (And.intro hPl hQl)
  clear h h1 hw1 ih K1 hk0 hcl hcp h2 hz hfs ha cn hsb hQb hk hs
  go_enter Tryd.func27, Tryd.ntmps27
  go_upto_region 1 with fail
  rw [← HW.out]
  go_wp2_with fail
  refine CM.out.mono ?_
  rintro e w2 ⟨rfl, rfl⟩
  go_wp2_with fail
  refine IH.out.mono ?_
  rintro e w3 ⟨rfl, ⟨A3, c3, hk3⟩, hb3⟩
  have HK3 := Lib.hid (And.intro hk3 hb3)
  have r3 : BArr w3 w.heap.size 46 zero64 := (hb3.block _ H1.out.res.lt (by have := HLT.out; omega)).trans H1.out.res
  have HR3 := Lib.hid r3
  clear hk3 hb3 r3
  go_upto_region 9 with (with_reducible refine wpList_store_newP w3 _ rfl rfl (.tmp 14) (.tmp 47) rfl rfl (P ++ Q) hPQ rfl ?_)
  have b4 := below_alloc w3 (.cells (bvs (P ++ Q)).toArray 46)
  have g4 := BArr.new w3 46 (P ++ Q)
  obtain ⟨w4, hw4⟩ : ∃ w4, w4 = w3.alloc (.cells (bvs (P ++ Q)).toArray 46) := ⟨_, rfl⟩
  rw [← hw4] at b4 g4 ⊢
  have HK4 := Lib.hid (HK3.out.1.below_ b4)
  have HR4 := Lib.hid (HR3.out.below b4)
  have BU4 := Lib.hid (((But.of_below H1.out.below).trans HK3.out.2).trans (But.of_below b4))
  have G4 := Lib.hid g4
  have S4 := Lib.hid (And.intro HK3.out.2.size (And.intro b4.size (show w3.heap.size < w4.heap.size from by rw [hw4]; simp)))
  clear hw4 b4 g4
  have n4 := HK4.out.nxt.cell
  unfold takesK at n4
  have CN := Lib.hid (HCN.out w4 A3 c3 HK4.out)
  go_wp2_with fail
  refine CN.out.mono ?_
  rintro e w5 ⟨rfl, ⟨A5, c5, hk5⟩, hb5⟩
  have s5 := S4.out
  have l5 := HLT.out
  have HK5 := Lib.hid hk5
  have HR5 := Lib.hid ((hb5.block _ HR4.out.lt (by omega)).trans HR4.out)
  have G5 := Lib.hid ((hb5.block _ G4.out.lt (by omega)).trans G4.out)
  have BU5 := Lib.hid (BU4.out.trans hb5)
  have S5 := Lib.hid hb5.size
  clear hk5 hb5 s5 l5
  go_upto_region 12 with (with_reducible refine wpList_store_new w5 _ rfl rfl (.tmp 16) (.tmp 56) rfl rfl s hsl rfl ?_)
  have b6 := below_alloc w5 (.cells (bvs s).toArray 24)
  have g6 := BArr.new w5 24 s
  obtain ⟨w6, hw6⟩ : ∃ w6, w6 = w5.alloc (.cells (bvs s).toArray 24) := ⟨_, rfl⟩
  rw [← hw6] at b6 g6 ⊢
  have HK6 := Lib.hid (HK5.out.below_ b6)
  have HR6 : BArr w6 w.heap.size 46 zero64 := BArr.below HR5.out b6
  have BU6 := Lib.hid (BU5.out.trans (But.of_below b6))
  have G6 : BArr w6 w3.heap.size 46 (P ++ Q) := BArr.below G5.out b6
  have S6 := Lib.hid (And.intro S4.out (And.intro S5.out (show w5.heap.size < w6.heap.size from by rw [hw6]; simp)))
  have KS := Lib.hid (fun (W : World) (hW : Below w6.heap.size w6 W) => And.intro (HB.out.2.2.2.1.below (below_on HK6.out.below (Nat.le_refl _) hW)) (HB.out.2.2.2.2.below (below_on HK6.out.below (Nat.le_refl _) hW)))
  clear hw6 b6
  obtain ⟨pb, hpb⟩ : ∃ pb, w3.heap.size = pb := ⟨_, rfl⟩
  obtain ⟨sb, hsb0⟩ : ∃ sb, w5.heap.size = sb := ⟨_, rfl⟩
  have HPB0 := Lib.hid (And.intro hpb hsb0)
  rw [hpb] at G6
  rw [hsb0] at g6
  rw [hpb, hsb0]
  clear hpb hsb0
  have hS0 : BArr w6.drew pb 46 (P ++ Q) ∧ BArr w6.drew sb 24 s := ⟨G6, g6⟩
  have hB0 : Below w6.heap.size w6 w6.drew := (Below.refl _ _).drew
  refine wp_region_held (S := fun W => BArr W pb 46 (P ++ Q) ∧ BArr W sb 24 s) (by kernel_rfl) ?_
  change wpAnyH _ _ _ _ _ _ _ _ w6.drew
  refine' wpAnyH_take (i := 0) (oi := _) (v := _) ?hi0 (by kernel_rfl) ?hf0 ?hr0 ?hQ0 ?hy0 hS0 ?rest0
  case hi0 => (simp only [List.getElem?_toArray, List.getElem?_cons_zero]; rfl)
  case hf0 => kernel_rfl
  case hr0 => kernel_rfl
  case hQ0 => exact fun _ _ _ h => h
  case hy0 => refine Or.inl ⟨by rfl, ?_⟩; intro W hSw; go_simp; try with_reducible rfl
  try simp only [Act.put, List.setIfInBounds_toArray, List.set_cons_zero, List.set_cons_succ]
  refine' wpAnyH_take (i := 1) (oi := _) (v := sv P) ?hi1 (by kernel_rfl) ?hf1 ?hr1 ?hQ1 ?hy1 hS0 ?rest1
  case hi1 => (simp only [List.getElem?_toArray, List.getElem?_cons_zero, List.getElem?_cons_succ]; rfl)
  case hf1 => kernel_rfl
  case hr1 => kernel_rfl
  case hQ1 => exact fun _ _ _ h => h
  case hy1 => exact yields_sum (by rfl) (.tmp 58) (by rfl) _ (by rfl) P hPl (fun W hSw => hSw.1.first)
  try simp only [Act.put, List.setIfInBounds_toArray, List.set_cons_zero, List.set_cons_succ]
  refine' wpAnyH_take (i := 2) (oi := _) (v := _) ?hi2 (by kernel_rfl) ?hf2 ?hr2 ?hQ2 ?hy2 hS0 ?rest2
  case hi2 => (simp only [List.getElem?_toArray, List.getElem?_cons_zero, List.getElem?_cons_succ]; rfl)
  case hf2 => kernel_rfl
  case hr2 => kernel_rfl
  case hQ2 => exact fun _ _ _ h => h
  case hy2 => refine Or.inl ⟨by rfl, ?_⟩; intro W hSw; go_simp; try with_reducible rfl
  try simp only [Act.put, List.setIfInBounds_toArray, List.set_cons_zero, List.set_cons_succ]
  refine' wpAnyH_take (i := 3) (oi := _) (v := sv Q) ?hi3 (by kernel_rfl) ?hf3 ?hr3 ?hQ3 ?hy3 hS0 ?rest3
  case hi3 => (simp only [List.getElem?_toArray, List.getElem?_cons_zero, List.getElem?_cons_succ]; rfl)
  case hf3 => kernel_rfl
  case hr3 => kernel_rfl
  case hQ3 => exact fun _ _ _ h => h
  case hy3 => exact yields_sum (by rfl) (.tmp 60) (by rfl) _ (by rfl) Q hQl (fun W hSw => (hSw.1.second hPl))
  try simp only [Act.put, List.setIfInBounds_toArray, List.set_cons_zero, List.set_cons_succ]
  refine' wpAnyH_take (i := 4) (oi := _) (v := sv s) ?hi4 (by kernel_rfl) ?hf4 ?hr4 ?hQ4 ?hy4 hS0 ?rest4
  case hi4 => (simp only [List.getElem?_toArray, List.getElem?_cons_zero, List.getElem?_cons_succ]; rfl)
  case hf4 => kernel_rfl
  case hr4 => kernel_rfl
  case hQ4 => exact fun _ _ _ h => h
  case hy4 => exact yields_sum (by rfl) (.tmp 16) (by rfl) _ (by rfl) s hsl (fun W hSw => hSw.2.at_)
  try simp only [Act.put, List.setIfInBounds_toArray, List.set_cons_zero, List.set_cons_succ]
  refine' wpAnyH_take (i := 7) (oi := _) (v := _) ?hi7 (by kernel_rfl) ?hf7 ?hr7 ?hQ7 ?hy7 hS0 ?rest7
  case hi7 => (simp only [List.getElem?_toArray, List.getElem?_cons_zero, List.getElem?_cons_succ]; rfl)
  case hf7 => kernel_rfl
  case hr7 => kernel_rfl
  case hQ7 => exact fun _ _ _ h => h
  case hy7 => refine Or.inl ⟨by rfl, ?_⟩; intro W hSw; go_simp; try with_reducible rfl
  try simp only [Act.put, List.setIfInBounds_toArray, List.set_cons_zero, List.set_cons_succ]
  refine wpAnyH_ready (rs := [5]) (by kernel_rfl) (by simp) ?_
  refine' AllReadyH.cons (o := _) ?hi5 (fun K hK => ?_) AllReadyH.nil
  case hi5 => (simp only [List.getElem?_toArray, List.getElem?_cons_zero, List.getElem?_cons_succ]; rfl)
  rw [if_pos (by rfl)]
  go_simp
  refine (node_any Q s w6.drew hQl hsl HB.out.2.2.1 HB.out.2.1 (KS.out _ hB0).1 (KS.out _ hB0).2).mono ?_
  rintro e W1 ⟨rfl, hb1⟩
  have hS1 := And.intro (hS0.1.below hb1) (hS0.2.below hb1)
  have hB1 := below_on hB0 (Nat.le_refl _) hb1
  refine hK.out _ _ hS1 (fun _ => ?_)
  clear hK K
  try simp only [Act.put, List.setIfInBounds_toArray, List.set_cons_zero, List.set_cons_succ]
  refine' wpAnyH_take (i := 6) (oi := _) (v := sv (P ++ nodeL Q s)) ?hi6 (by kernel_rfl) ?hf6 ?hr6 ?hQ6 ?hy6 hS1 ?rest6
  case hi6 => (simp only [List.getElem?_toArray, List.getElem?_cons_zero, List.getElem?_cons_succ]; rfl)
  case hf6 => kernel_rfl
  case hr6 => kernel_rfl
  case hQ6 => exact fun _ _ _ h => h
  case hy6 => exact yields_build_pair (by rfl) (.tmp 59) (.tmp 63) (by rfl) P (nodeL Q s) (by rfl) (by rfl) hPl (nodeL_length _ _)
  try simp only [Act.put, List.setIfInBounds_toArray, List.set_cons_zero, List.set_cons_succ]
  have hPR : (P ++ (nodeL Q s)).length = 64 := by rw [List.length_append]; have := nodeL_length; simp only [*]
  have RW : BArr W1 w.heap.size 46 zero64 := HR6.below hB1
  refine wpAnyH_ready (rs := [8]) (by kernel_rfl) (by simp) ?_
  refine' AllReadyH.cons (o := _) ?hi8 (fun K hK => ?_) AllReadyH.nil
  case hi8 => (simp only [List.getElem?_toArray, List.getElem?_cons_zero, List.getElem?_cons_succ]; rfl)
  rw [if_pos (by rfl)]
  refine step_store_pair (.tmp 9) (.tmp 64) rfl w.heap.size rfl zero64 (P ++ (nodeL Q s)) HZ.out hPR RW rfl ?_
  have s6 := S6.out
  have l6 := HLT.out
  have r7 : BArr (W1.setRow w.heap.size (bvs (P ++ (nodeL Q s))).toArray) w.heap.size 46 (P ++ (nodeL Q s)) := RW.setRow _
  have hS9 : BArr (W1.setRow w.heap.size (bvs (P ++ (nodeL Q s))).toArray) pb 46 (P ++ Q) ∧ BArr (W1.setRow w.heap.size (bvs (P ++ (nodeL Q s))).toArray) sb 24 s :=
    ⟨hS1.1.setRow_other _ (by have := HPB0.out; omega) _, hS1.2.setRow_other _ (by have := HPB0.out; omega) _⟩
  refine hK.out _ _ hS9 (fun _ => ?_)
  clear hK K
  refine' wpAnyH_take (i := 9) (oi := _) (v := _) ?hi9 (by kernel_rfl) ?hf9 ?hr9 ?hQ9 ?hy9 hS9 ?rest9
  case hi9 => (simp only [List.getElem?_toArray, List.getElem?_cons_zero, List.getElem?_cons_succ]; rfl)
  case hf9 => kernel_rfl
  case hr9 => kernel_rfl
  case hQ9 => exact fun _ _ _ h => h
  case hy9 => refine Or.inl ⟨by rfl, ?_⟩; intro W hSw; go_simp; try with_reducible rfl
  try simp only [Act.put, List.setIfInBounds_toArray, List.set_cons_zero, List.set_cons_succ]
  refine wpAnyH_done (by kernel_rfl) ?_ _
  go_wp2
  refine bodyPost_ret_by (results_cell_tmp (p := 9) (q := 10) (ty := 46) (by kernel_rfl) _ _ ⟨w.heap.size, 0, none⟩ (sv (P ++ (nodeL Q s))) rfl (run_load_pair _ _ _ hPR r7.at_)) rfl ?_
  have hb0 := HP.out.below.size
  have bu := BU6.out.trans (But.of_below hB1)
  exact ⟨rfl, ⟨A5, c5, (HK6.out.below_ hB1).setRow (by omega) ⟨by omega, by omega, by omega, by omega⟩ _⟩, ⟨bu.os, bu.tape, bu.output, by rw [setRow_size]; exact bu.size, fun b hb hne => (Go.setRow_other _ _ _ _ (by omega)).trans (bu.block b hb hne)⟩⟩

set_option maxRecDepth 100000 in
set_option maxHeartbeats 4000000 in
theorem klead_high_go {P Q s : List Nat} {ev : Value} {j1 j' : Nat} (h : KIn B w ab lb nb gb n j A c ys a) (hPl : P.length = 32) (hQl : Q.length = 32) (h2 : 2 ≤ size) (hz : size < 18446744073709551616) (hfs : from_ < size) (ha : ¬ from_ ≤ cutN size)
    (ih : ∀ w' : World, KIn B w' ab lb nb gb n j A c ys a → Calls Tryd.prog 27 #[.int .u64 ((from_ - cutN size) : Nat), .int .u64 ((size - cutN size) : Nat), .bool false, .pointer (some ⟨ab, 0, none⟩), .pointer (some ⟨nb, 0, none⟩), .pointer (some ⟨gb, 0, none⟩)] w' (Led B w' ab lb nb gb n ys a P Q (.nilIface) j1))
    (cn : ∀ (w' : World) (A' : Option Addr) (c' : Nat), KIn B w' ab lb nb gb n j1 A' c' ys a → Calls Tryd.prog 26 #[.pointer (some ⟨lb, 0, none⟩)] w' fun e w'' => e = .returned (.tuple #[sv s, ev]) ∧ (∃ A' c', KIn B w'' ab lb nb gb n j' A' c' ys a) ∧ But (· = lb) w' w'')
    (hsl : s.length = 32) (hsb : ∀ x ∈ s, x < 256) (hPb : ∀ x ∈ P, x < 256) (hQb : ∀ x ∈ Q, x < 256) (hk : Knows B) (hs : Starts B) :
    Calls Tryd.prog 27 #[.int .u64 (from_ : Int), .int .u64 (size : Int), .bool edge, .pointer (some ⟨ab, 0, none⟩), .pointer (some ⟨nb, 0, none⟩), .pointer (some ⟨gb, 0, none⟩)] w (Led B w ab lb nb gb n ys a (nodeL s P) (nodeL s Q) (ev) j') := by
  have e0 : (bvs zero64).toArray = #[.int .u8 0, .int .u8 0, .int .u8 0, .int .u8 0, .int .u8 0, .int .u8 0, .int .u8 0, .int .u8 0, .int .u8 0, .int .u8 0, .int .u8 0, .int .u8 0, .int .u8 0, .int .u8 0, .int .u8 0, .int .u8 0, .int .u8 0, .int .u8 0, .int .u8 0, .int .u8 0, .int .u8 0, .int .u8 0, .int .u8 0, .int .u8 0, .int .u8 0, .int .u8 0, .int .u8 0, .int .u8 0, .int .u8 0, .int .u8 0, .int .u8 0, .int .u8 0, .int .u8 0, .int .u8 0, .int .u8 0, .int .u8 0, .int .u8 0, .int .u8 0, .int .u8 0, .int .u8 0, .int .u8 0, .int .u8 0, .int .u8 0, .int .u8 0, .int .u8 0, .int .u8 0, .int .u8 0, .int .u8 0, .int .u8 0, .int .u8 0, .int .u8 0, .int .u8 0, .int .u8 0, .int .u8 0, .int .u8 0, .int .u8 0, .int .u8 0, .int .u8 0, .int .u8 0, .int .u8 0, .int .u8 0, .int .u8 0, .int .u8 0, .int .u8 0] := rfl
  have h1 := kleadIn_of w
  rw [e0] at h1
  clear e0
  obtain ⟨w1, hw1⟩ : ∃ w1, w1 = w.alloc (.cells #[.int .u8 0, .int .u8 0, .int .u8 0, .int .u8 0, .int .u8 0, .int .u8 0, .int .u8 0, .int .u8 0, .int .u8 0, .int .u8 0, .int .u8 0, .int .u8 0, .int .u8 0, .int .u8 0, .int .u8 0, .int .u8 0, .int .u8 0, .int .u8 0, .int .u8 0, .int .u8 0, .int .u8 0, .int .u8 0, .int .u8 0, .int .u8 0, .int .u8 0, .int .u8 0, .int .u8 0, .int .u8 0, .int .u8 0, .int .u8 0, .int .u8 0, .int .u8 0, .int .u8 0, .int .u8 0, .int .u8 0, .int .u8 0, .int .u8 0, .int .u8 0, .int .u8 0, .int .u8 0, .int .u8 0, .int .u8 0, .int .u8 0, .int .u8 0, .int .u8 0, .int .u8 0, .int .u8 0, .int .u8 0, .int .u8 0, .int .u8 0, .int .u8 0, .int .u8 0, .int .u8 0, .int .u8 0, .int .u8 0, .int .u8 0, .int .u8 0, .int .u8 0, .int .u8 0, .int .u8 0, .int .u8 0, .int .u8 0, .int .u8 0, .int .u8 0] 46) := ⟨_, rfl⟩
  rw [← hw1] at h1
  have H1 := Lib.hid h1
  have HW := Lib.hid hw1
  have HP := Lib.hid h
  have HLT := Lib.hid (And.intro h.lt (And.intro h1.size h1.below.size))
  have HZ := Lib.hid (show zero64.length = 64 from rfl)
  have hcl := cutN_lt h2
  have hcp := cutN_pos size
  obtain ⟨k, hk0⟩ : ∃ k, cutN size = k := ⟨_, rfl⟩
  rw [hk0] at hcl hcp ha ih
  have ns : ((from_ : Int) == (size : Int)) = false := by simp; omega
  have hle : ¬ (from_ : Int) ≤ (k : Int) := by omega
  obtain ⟨d, hd0⟩ : ∃ d, from_ - k = d := ⟨_, rfl⟩
  obtain ⟨m, hm0⟩ : ∃ m, size - k = m := ⟨_, rfl⟩
  rw [hd0, hm0] at ih
  have ea : IntKind.u64.wrap ((from_ : Int) - (k : Int)) = (d : Int) := by rw [IntKind.wrap_u64]; omega
  have em : IntKind.u64.wrap ((size : Int) - (k : Int)) = (m : Int) := by rw [IntKind.wrap_u64]; omega
  have CM := Lib.hid (kleft_any size w1 h2 hz)
  rw [hk0] at CM
  have K1 := h.below_ h1.below
  have l1 := K1.led.cell
  unfold leadsK at l1
  have IH := Lib.hid (ih w1 K1)
  have hPQ : (P ++ Q).length = 64 := by rw [List.length_append]; omega
  have HCN := Lib.hid cn
  have HB := Lib.hid (And.intro hsl (And.intro hsb (And.intro hQb (And.intro hk hs))))
  have HPL := Lib.hid (And.intro hPl hQl)
  have HPB := Lib.hid hPb
  clear h h1 hw1 ih K1 hk0 hcl hcp h2 hz hfs ha cn hsb hQb hk hs hPb hd0 hm0
  go_enter Tryd.func27, Tryd.ntmps27
  go_upto_region 1 with fail
  rw [← HW.out]
  go_wp2_with fail
  refine CM.out.mono ?_
  rintro e w2 ⟨rfl, rfl⟩
  go_wp2_with fail
  refine IH.out.mono ?_
  rintro e w3 ⟨rfl, ⟨A3, c3, hk3⟩, hb3⟩
  have HK3 := Lib.hid (And.intro hk3 hb3)
  have r3 : BArr w3 w.heap.size 46 zero64 := (hb3.block _ H1.out.res.lt (by have := HLT.out; omega)).trans H1.out.res
  have HR3 := Lib.hid r3
  clear hk3 hb3 r3
  go_upto_region 14 with (with_reducible refine wpList_store_newP w3 _ rfl rfl (.tmp 17) (.tmp 75) rfl rfl (P ++ Q) hPQ rfl ?_)
  have b4 := below_alloc w3 (.cells (bvs (P ++ Q)).toArray 46)
  have g4 := BArr.new w3 46 (P ++ Q)
  obtain ⟨w4, hw4⟩ : ∃ w4, w4 = w3.alloc (.cells (bvs (P ++ Q)).toArray 46) := ⟨_, rfl⟩
  rw [← hw4] at b4 g4 ⊢
  have HK4 := Lib.hid (HK3.out.1.below_ b4)
  have HR4 := Lib.hid (HR3.out.below b4)
  have BU4 := Lib.hid (((But.of_below H1.out.below).trans HK3.out.2).trans (But.of_below b4))
  have G4 := Lib.hid g4
  have S4 := Lib.hid (And.intro HK3.out.2.size (And.intro b4.size (show w3.heap.size < w4.heap.size from by rw [hw4]; simp)))
  clear hw4 b4 g4
  have n4 := HK4.out.nxt.cell
  unfold takesK at n4
  have CN := Lib.hid (HCN.out w4 A3 c3 HK4.out)
  go_wp2_with fail
  refine CN.out.mono ?_
  rintro e w5 ⟨rfl, ⟨A5, c5, hk5⟩, hb5⟩
  have s5 := S4.out
  have l5 := HLT.out
  have HK5 := Lib.hid hk5
  have HR5 := Lib.hid ((hb5.block _ HR4.out.lt (by omega)).trans HR4.out)
  have G5 := Lib.hid ((hb5.block _ G4.out.lt (by omega)).trans G4.out)
  have BU5 := Lib.hid (BU4.out.trans hb5)
  have S5 := Lib.hid hb5.size
  clear hk5 hb5 s5 l5
  go_upto_region 17 with (with_reducible refine wpList_store_new w5 _ rfl rfl (.tmp 19) (.tmp 84) rfl rfl s hsl rfl ?_)
  have b6 := below_alloc w5 (.cells (bvs s).toArray 24)
  have g6 := BArr.new w5 24 s
  obtain ⟨w6, hw6⟩ : ∃ w6, w6 = w5.alloc (.cells (bvs s).toArray 24) := ⟨_, rfl⟩
  rw [← hw6] at b6 g6 ⊢
  have HK6 := Lib.hid (HK5.out.below_ b6)
  have HR6 : BArr w6 w.heap.size 46 zero64 := BArr.below HR5.out b6
  have BU6 := Lib.hid (BU5.out.trans (But.of_below b6))
  have G6 : BArr w6 w3.heap.size 46 (P ++ Q) := BArr.below G5.out b6
  have S6 := Lib.hid (And.intro S4.out (And.intro S5.out (show w5.heap.size < w6.heap.size from by rw [hw6]; simp)))
  have KS := Lib.hid (fun (W : World) (hW : Below w6.heap.size w6 W) => And.intro (HB.out.2.2.2.1.below (below_on HK6.out.below (Nat.le_refl _) hW)) (HB.out.2.2.2.2.below (below_on HK6.out.below (Nat.le_refl _) hW)))
  clear hw6 b6
  obtain ⟨pb, hpb⟩ : ∃ pb, w3.heap.size = pb := ⟨_, rfl⟩
  obtain ⟨sb, hsb0⟩ : ∃ sb, w5.heap.size = sb := ⟨_, rfl⟩
  have HPB0 := Lib.hid (And.intro hpb hsb0)
  rw [hpb] at G6
  rw [hsb0] at g6
  rw [hpb, hsb0]
  clear hpb hsb0
  have hS0 : BArr w6.drew pb 46 (P ++ Q) ∧ BArr w6.drew sb 24 s := ⟨G6, g6⟩
  have hB0 : Below w6.heap.size w6 w6.drew := (Below.refl _ _).drew
  refine wp_region_held (S := fun W => BArr W pb 46 (P ++ Q) ∧ BArr W sb 24 s) (by kernel_rfl) ?_
  change wpAnyH _ _ _ _ _ _ _ _ w6.drew
  refine' wpAnyH_take (i := 0) (oi := _) (v := sv s) ?hi0 (by kernel_rfl) ?hf0 ?hr0 ?hQ0 ?hy0 hS0 ?rest0
  case hi0 => (simp only [List.getElem?_toArray, List.getElem?_cons_zero]; rfl)
  case hf0 => kernel_rfl
  case hr0 => kernel_rfl
  case hQ0 => exact fun _ _ _ h => h
  case hy0 => exact yields_sum (by rfl) (.tmp 19) (by rfl) _ (by rfl) s hsl (fun W hSw => hSw.2.at_)
  try simp only [Act.put, List.setIfInBounds_toArray, List.set_cons_zero, List.set_cons_succ]
  refine' wpAnyH_take (i := 1) (oi := _) (v := _) ?hi1 (by kernel_rfl) ?hf1 ?hr1 ?hQ1 ?hy1 hS0 ?rest1
  case hi1 => (simp only [List.getElem?_toArray, List.getElem?_cons_zero, List.getElem?_cons_succ]; rfl)
  case hf1 => kernel_rfl
  case hr1 => kernel_rfl
  case hQ1 => exact fun _ _ _ h => h
  case hy1 => refine Or.inl ⟨by rfl, ?_⟩; intro W hSw; go_simp; try with_reducible rfl
  try simp only [Act.put, List.setIfInBounds_toArray, List.set_cons_zero, List.set_cons_succ]
  refine' wpAnyH_take (i := 2) (oi := _) (v := sv P) ?hi2 (by kernel_rfl) ?hf2 ?hr2 ?hQ2 ?hy2 hS0 ?rest2
  case hi2 => (simp only [List.getElem?_toArray, List.getElem?_cons_zero, List.getElem?_cons_succ]; rfl)
  case hf2 => kernel_rfl
  case hr2 => kernel_rfl
  case hQ2 => exact fun _ _ _ h => h
  case hy2 => exact yields_sum (by rfl) (.tmp 87) (by rfl) _ (by rfl) P hPl (fun W hSw => hSw.1.first)
  try simp only [Act.put, List.setIfInBounds_toArray, List.set_cons_zero, List.set_cons_succ]
  refine' wpAnyH_take (i := 4) (oi := _) (v := sv s) ?hi4 (by kernel_rfl) ?hf4 ?hr4 ?hQ4 ?hy4 hS0 ?rest4
  case hi4 => (simp only [List.getElem?_toArray, List.getElem?_cons_zero, List.getElem?_cons_succ]; rfl)
  case hf4 => kernel_rfl
  case hr4 => kernel_rfl
  case hQ4 => exact fun _ _ _ h => h
  case hy4 => exact yields_sum (by rfl) (.tmp 19) (by rfl) _ (by rfl) s hsl (fun W hSw => hSw.2.at_)
  try simp only [Act.put, List.setIfInBounds_toArray, List.set_cons_zero, List.set_cons_succ]
  refine' wpAnyH_take (i := 5) (oi := _) (v := _) ?hi5 (by kernel_rfl) ?hf5 ?hr5 ?hQ5 ?hy5 hS0 ?rest5
  case hi5 => (simp only [List.getElem?_toArray, List.getElem?_cons_zero, List.getElem?_cons_succ]; rfl)
  case hf5 => kernel_rfl
  case hr5 => kernel_rfl
  case hQ5 => exact fun _ _ _ h => h
  case hy5 => refine Or.inl ⟨by rfl, ?_⟩; intro W hSw; go_simp; try with_reducible rfl
  try simp only [Act.put, List.setIfInBounds_toArray, List.set_cons_zero, List.set_cons_succ]
  refine' wpAnyH_take (i := 6) (oi := _) (v := sv Q) ?hi6 (by kernel_rfl) ?hf6 ?hr6 ?hQ6 ?hy6 hS0 ?rest6
  case hi6 => (simp only [List.getElem?_toArray, List.getElem?_cons_zero, List.getElem?_cons_succ]; rfl)
  case hf6 => kernel_rfl
  case hr6 => kernel_rfl
  case hQ6 => exact fun _ _ _ h => h
  case hy6 => exact yields_sum (by rfl) (.tmp 91) (by rfl) _ (by rfl) Q hQl (fun W hSw => (hSw.1.second hPl))
  try simp only [Act.put, List.setIfInBounds_toArray, List.set_cons_zero, List.set_cons_succ]
  refine' wpAnyH_take (i := 9) (oi := _) (v := _) ?hi9 (by kernel_rfl) ?hf9 ?hr9 ?hQ9 ?hy9 hS0 ?rest9
  case hi9 => (simp only [List.getElem?_toArray, List.getElem?_cons_zero, List.getElem?_cons_succ]; rfl)
  case hf9 => kernel_rfl
  case hr9 => kernel_rfl
  case hQ9 => exact fun _ _ _ h => h
  case hy9 => refine Or.inl ⟨by rfl, ?_⟩; intro W hSw; go_simp; try with_reducible rfl
  try simp only [Act.put, List.setIfInBounds_toArray, List.set_cons_zero, List.set_cons_succ]
  refine wpAnyH_ready (rs := [3]) (by kernel_rfl) (by simp) ?_
  refine' AllReadyH.cons (o := _) ?hi3 (fun K hK => ?_) AllReadyH.nil
  case hi3 => (simp only [List.getElem?_toArray, List.getElem?_cons_zero, List.getElem?_cons_succ]; rfl)
  rw [if_pos (by rfl)]
  go_simp
  refine (node_any s P w6.drew hsl hPl HB.out.2.1 HPB.out (KS.out _ hB0).1 (KS.out _ hB0).2).mono ?_
  rintro e W1 ⟨rfl, hb1⟩
  have hS1 := And.intro (hS0.1.below hb1) (hS0.2.below hb1)
  have hB1 := below_on hB0 (Nat.le_refl _) hb1
  refine hK.out _ _ hS1 (fun _ => ?_)
  clear hK K
  try simp only [Act.put, List.setIfInBounds_toArray, List.set_cons_zero, List.set_cons_succ]
  refine wpAnyH_ready (rs := [7]) (by kernel_rfl) (by simp) ?_
  refine' AllReadyH.cons (o := _) ?hi7 (fun K hK => ?_) AllReadyH.nil
  case hi7 => (simp only [List.getElem?_toArray, List.getElem?_cons_zero, List.getElem?_cons_succ]; rfl)
  rw [if_pos (by rfl)]
  go_simp
  refine (node_any s Q W1 hsl hQl HB.out.2.1 HB.out.2.2.1 (KS.out _ hB1).1 (KS.out _ hB1).2).mono ?_
  rintro e W2 ⟨rfl, hb2⟩
  have hS2 := And.intro (hS1.1.below hb2) (hS1.2.below hb2)
  have hB2 := below_on hB1 (Nat.le_refl _) hb2
  refine hK.out _ _ hS2 (fun _ => ?_)
  clear hK K
  try simp only [Act.put, List.setIfInBounds_toArray, List.set_cons_zero, List.set_cons_succ]
  refine' wpAnyH_take (i := 8) (oi := _) (v := sv (nodeL s P ++ nodeL s Q)) ?hi8 (by kernel_rfl) ?hf8 ?hr8 ?hQ8 ?hy8 hS2 ?rest8
  case hi8 => (simp only [List.getElem?_toArray, List.getElem?_cons_zero, List.getElem?_cons_succ]; rfl)
  case hf8 => kernel_rfl
  case hr8 => kernel_rfl
  case hQ8 => exact fun _ _ _ h => h
  case hy8 => exact yields_build_pair (by rfl) (.tmp 89) (.tmp 93) (by rfl) (nodeL s P) (nodeL s Q) (by rfl) (by rfl) (nodeL_length _ _) (nodeL_length _ _)
  try simp only [Act.put, List.setIfInBounds_toArray, List.set_cons_zero, List.set_cons_succ]
  have hPR : ((nodeL s P) ++ (nodeL s Q)).length = 64 := by rw [List.length_append]; have := nodeL_length; simp only [*]
  have RW : BArr W2 w.heap.size 46 zero64 := HR6.below hB2
  refine wpAnyH_ready (rs := [10]) (by kernel_rfl) (by simp) ?_
  refine' AllReadyH.cons (o := _) ?hi10 (fun K hK => ?_) AllReadyH.nil
  case hi10 => (simp only [List.getElem?_toArray, List.getElem?_cons_zero, List.getElem?_cons_succ]; rfl)
  rw [if_pos (by rfl)]
  refine step_store_pair (.tmp 9) (.tmp 94) rfl w.heap.size rfl zero64 ((nodeL s P) ++ (nodeL s Q)) HZ.out hPR RW rfl ?_
  have s6 := S6.out
  have l6 := HLT.out
  have r7 : BArr (W2.setRow w.heap.size (bvs ((nodeL s P) ++ (nodeL s Q))).toArray) w.heap.size 46 ((nodeL s P) ++ (nodeL s Q)) := RW.setRow _
  have hS9 : BArr (W2.setRow w.heap.size (bvs ((nodeL s P) ++ (nodeL s Q))).toArray) pb 46 (P ++ Q) ∧ BArr (W2.setRow w.heap.size (bvs ((nodeL s P) ++ (nodeL s Q))).toArray) sb 24 s :=
    ⟨hS2.1.setRow_other _ (by have := HPB0.out; omega) _, hS2.2.setRow_other _ (by have := HPB0.out; omega) _⟩
  refine hK.out _ _ hS9 (fun _ => ?_)
  clear hK K
  refine' wpAnyH_take (i := 11) (oi := _) (v := _) ?hi11 (by kernel_rfl) ?hf11 ?hr11 ?hQ11 ?hy11 hS9 ?rest11
  case hi11 => (simp only [List.getElem?_toArray, List.getElem?_cons_zero, List.getElem?_cons_succ]; rfl)
  case hf11 => kernel_rfl
  case hr11 => kernel_rfl
  case hQ11 => exact fun _ _ _ h => h
  case hy11 => refine Or.inl ⟨by rfl, ?_⟩; intro W hSw; go_simp; try with_reducible rfl
  try simp only [Act.put, List.setIfInBounds_toArray, List.set_cons_zero, List.set_cons_succ]
  refine wpAnyH_done (by kernel_rfl) ?_ _
  go_wp2
  refine bodyPost_ret_by (results_cell_tmp (p := 9) (q := 10) (ty := 46) (by kernel_rfl) _ _ ⟨w.heap.size, 0, none⟩ (sv ((nodeL s P) ++ (nodeL s Q))) rfl (run_load_pair _ _ _ hPR r7.at_)) rfl ?_
  have hb0 := HP.out.below.size
  have bu := BU6.out.trans (But.of_below hB2)
  exact ⟨rfl, ⟨A5, c5, (HK6.out.below_ hB2).setRow (by omega) ⟨by omega, by omega, by omega, by omega⟩ _⟩, ⟨bu.os, bu.tape, bu.output, by rw [setRow_size]; exact bu.size, fun b hb hne => (Go.setRow_other _ _ _ _ (by omega)).trans (bu.block b hb hne)⟩⟩

end

end Go.Proofs.YtilgikhdamkeoaaDoor
