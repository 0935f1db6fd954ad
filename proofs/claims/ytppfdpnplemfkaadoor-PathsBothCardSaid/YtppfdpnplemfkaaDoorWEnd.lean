/-
  paths.end: what a path leads to, and whether it has just as many sums as are taken; a fall of what is below is caught.
-/
import Derived.Test.YtppfdpnplemfkaaDoorWLead
namespace Go.Proofs.YtppfdpnplemfkaaDoor
open Go.RowKit

/-- The world in which end begins. -/
structure EndIn (w w1 : World) (leaf : List Nat) (A : Option Addr) (n c : Nat) : Prop where
  leaf : BArr w1 w.heap.size 24 leaf
  path : VarAt w1 (w.heap.size + 1) 22 (.slice A n c)
  res : BArr w1 (w.heap.size + 2) 24 zero32
  below : Below w.heap.size w w1
  size : w1.heap.size = w.heap.size + 3

theorem endIn_of (w : World) (leaf : List Nat) (A : Option Addr) (n c : Nat) : EndIn w (((w.alloc (.cells (bvs leaf).toArray 24)).alloc (.cells #[.slice A n c] 22)).alloc (.cells (bvs zero32).toArray 24)) leaf A n c := by
  have f0 := ((BArr.new w 24 leaf).alloc (.cells #[.slice A n c] 22)).alloc (.cells (bvs zero32).toArray 24)
  have f1 := (VarAt.new (w.alloc (.cells (bvs leaf).toArray 24)) 22 (.slice A n c)).below (below_alloc _ (.cells (bvs zero32).toArray 24))
  have f2 := BArr.new ((w.alloc (.cells (bvs leaf).toArray 24)).alloc (.cells #[.slice A n c] 22)) 24 zero32
  rw [World.size_alloc] at f1
  rw [World.size_alloc, World.size_alloc] at f2
  exact ⟨f0, f1, f2, ((below_alloc w _).alloc (by simp) _).alloc (by simp; omega) _, by simp⟩

/-- What the deferred closure makes of a frame that panics, of one that returns. -/
theorem catch_fell (w : World) : CallsD Tryd.prog 24 #[] (.panicking fell) w fun e u' w' => e = .returned (.tuple #[]) ∧ settle u' = .returning ∧ w' = w := by
  refine callsD_of_wpS Tryd.func24 rfl fun c₀ cs hu => ?_
  apply wpS_region
  simp [wpOpsS, go_sem, recoverD, hu, fell, Tryd.ntmps24, bodyPostS, results, Tryd.results24, settle]
theorem catch_idle (w : World) : CallsD Tryd.prog 24 #[] .returning w fun e u' w' => e = .returned (.tuple #[]) ∧ u' = .returning ∧ w' = w := by
  refine callsD_of_wpS Tryd.func24 rfl fun c₀ cs hu => ?_
  apply wpS_region
  simp [wpOpsS, go_sem, recoverD, hu, Tryd.ntmps24]
  cases c₀
  simp_all [bodyPostS, results, Tryd.results24]

section
variable {w : World} {n c : Nat} {A : Option Addr} {ys leaf : List Nat} {at_ size : Nat}

set_option maxRecDepth 100000 in
set_option maxHeartbeats 2000000 in
theorem end_no (hin : InS w A n ys) (hy : ∀ x ∈ ys, x < 256) (hc : n ≤ c) (hn : n ≤ 1000000) (hl : leaf.length = 32) (hb : ∀ x ∈ leaf, x < 256) (hz : size < 18446744073709551616) (hat : at_ < size) (hk : Knows w) (hs : Starts w) (hd : n < dep at_ size) :
    Calls Tryd.prog 17 #[sv leaf, .int .u64 (at_ : Int), .int .u64 (size : Int), .slice A n c] w fun e w' => e = .returned (.tuple #[sv zero32, .bool false]) ∧ Below w.heap.size w w' := by
  have e0 : (bvs zero32).toArray = #[.int .u8 0, .int .u8 0, .int .u8 0, .int .u8 0, .int .u8 0, .int .u8 0, .int .u8 0, .int .u8 0, .int .u8 0, .int .u8 0, .int .u8 0, .int .u8 0, .int .u8 0, .int .u8 0, .int .u8 0, .int .u8 0, .int .u8 0, .int .u8 0, .int .u8 0, .int .u8 0, .int .u8 0, .int .u8 0, .int .u8 0, .int .u8 0, .int .u8 0, .int .u8 0, .int .u8 0, .int .u8 0, .int .u8 0, .int .u8 0, .int .u8 0, .int .u8 0] := rfl
  have h1 := endIn_of w leaf A n c
  rw [e0] at h1
  clear e0
  obtain ⟨w1, hw1⟩ : ∃ w1, w1 = ((w.alloc (.cells (bvs leaf).toArray 24)).alloc (.cells #[.slice A n c] 22)).alloc (.cells #[.int .u8 0, .int .u8 0, .int .u8 0, .int .u8 0, .int .u8 0, .int .u8 0, .int .u8 0, .int .u8 0, .int .u8 0, .int .u8 0, .int .u8 0, .int .u8 0, .int .u8 0, .int .u8 0, .int .u8 0, .int .u8 0, .int .u8 0, .int .u8 0, .int .u8 0, .int .u8 0, .int .u8 0, .int .u8 0, .int .u8 0, .int .u8 0, .int .u8 0, .int .u8 0, .int .u8 0, .int .u8 0, .int .u8 0, .int .u8 0, .int .u8 0, .int .u8 0] 24) := ⟨_, rfl⟩
  rw [← hw1] at h1
  have H1 := Lib.hid h1
  have HW := Lib.hid hw1
  have p1 : PIn w w1 (w.heap.size + 1) n 0 A c ys := ⟨h1.path, hin, hc, Nat.zero_le _, h1.below, Nat.le_succ _⟩
  have CL := Lib.hid ((lead_any hn hy hin.len hk hs size at_ 0 A c leaf w1 p1 hl hb hz hat).2 (by omega))
  clear h1 hw1 p1 hin hc hn hy hb hz hat hk hs hd
  have hmf : ∀ (fn : Fn) (first cap : Array Value) (w : World), (Instr.makeFunc fn first cap).run Tryd.prog w = .ok (.func fn first cap) w := fun _ _ _ _ => rfl
  have hA := Lib.hid H1.out.leaf.at_
  unfold sv
  go_enter_defers Tryd.func17, Tryd.ntmps17
  go_upto_region 1 with fail
  rw [← HW.out]
  go_wp2_with (with_reducible refine wpList_load_sum rfl (.tmp 4) rfl ⟨w.heap.size, 0, none⟩ rfl leaf hl hA.out ?_)
  refine CL.out.mono ?_
  rintro e w3 ⟨rfl, hb3⟩
  go_wp2_with fail
  refine leaves_cons (f := 24) (args := #[]) (by simp) (by simp [go_sem]) ?_
  refine (catch_fell w3).mono ?_
  rintro e u' w4 ⟨rfl, hu, rfl⟩
  have r3 : BArr w4 (w.heap.size + 2) 24 zero32 := (hb3.block _ H1.out.res.lt (by omega)).trans H1.out.res
  simp only [hu]
  refine ⟨_, results_cell_tmp (p := 8) (q := 9) (ty := 24) (by kernel_rfl) _ _ ⟨w.heap.size + 2, 0, none⟩ (sv zero32) rfl (run_load_sum w4 _ zero32 rfl r3.at_), rfl, ?_⟩
  exact H1.out.below.trans (hb3.below (by have := H1.out.size; omega) (fun b e => by omega))

set_option maxRecDepth 100000 in
set_option maxHeartbeats 2000000 in
theorem end_yes (hin : InS w A n ys) (hy : ∀ x ∈ ys, x < 256) (hc : n ≤ c) (hn : n ≤ 1000000) (hl : leaf.length = 32) (hb : ∀ x ∈ leaf, x < 256) (hz : size < 18446744073709551616) (hat : at_ < size) (hk : Knows w) (hs : Starts w) (hd : dep at_ size ≤ n) :
    Calls Tryd.prog 17 #[sv leaf, .int .u64 (at_ : Int), .int .u64 (size : Int), .slice A n c] w fun e w' => e = .returned (.tuple #[sv (leadF (nth ys) leaf at_ size 0), .bool (decide (dep at_ size = n))]) ∧ Below w.heap.size w w' := by
  have e0 : (bvs zero32).toArray = #[.int .u8 0, .int .u8 0, .int .u8 0, .int .u8 0, .int .u8 0, .int .u8 0, .int .u8 0, .int .u8 0, .int .u8 0, .int .u8 0, .int .u8 0, .int .u8 0, .int .u8 0, .int .u8 0, .int .u8 0, .int .u8 0, .int .u8 0, .int .u8 0, .int .u8 0, .int .u8 0, .int .u8 0, .int .u8 0, .int .u8 0, .int .u8 0, .int .u8 0, .int .u8 0, .int .u8 0, .int .u8 0, .int .u8 0, .int .u8 0, .int .u8 0, .int .u8 0] := rfl
  have h1 := endIn_of w leaf A n c
  rw [e0] at h1
  clear e0
  obtain ⟨w1, hw1⟩ : ∃ w1, w1 = ((w.alloc (.cells (bvs leaf).toArray 24)).alloc (.cells #[.slice A n c] 22)).alloc (.cells #[.int .u8 0, .int .u8 0, .int .u8 0, .int .u8 0, .int .u8 0, .int .u8 0, .int .u8 0, .int .u8 0, .int .u8 0, .int .u8 0, .int .u8 0, .int .u8 0, .int .u8 0, .int .u8 0, .int .u8 0, .int .u8 0, .int .u8 0, .int .u8 0, .int .u8 0, .int .u8 0, .int .u8 0, .int .u8 0, .int .u8 0, .int .u8 0, .int .u8 0, .int .u8 0, .int .u8 0, .int .u8 0, .int .u8 0, .int .u8 0, .int .u8 0, .int .u8 0] 24) := ⟨_, rfl⟩
  rw [← hw1] at h1
  have H1 := Lib.hid h1
  have HW := Lib.hid hw1
  have p1 : PIn w w1 (w.heap.size + 1) n 0 A c ys := ⟨h1.path, hin, hc, Nat.zero_le _, h1.below, Nat.le_succ _⟩
  have CL := Lib.hid ((lead_any hn hy hin.len hk hs size at_ 0 A c leaf w1 p1 hl hb hz hat).1 (by omega))
  obtain ⟨s, hs0⟩ : ∃ s, leadF (nth ys) leaf at_ size 0 = s := ⟨_, rfl⟩
  have hsl : s.length = 32 := by rw [← hs0]; exact leadF_length _ _ hl _ _ _
  rw [hs0] at CL ⊢
  obtain ⟨m, hm⟩ : ∃ m, n - dep at_ size = m := ⟨_, rfl⟩
  obtain ⟨b, hb0⟩ : ∃ b, decide (dep at_ size = n) = b := ⟨_, rfl⟩
  have hmb : ((m : Int) == 0) = b := by
    rw [← hb0]
    by_cases he : dep at_ size = n
    · have : m = 0 := by omega
      simp [he, this]
    · have : ¬ m = 0 := by omega
      simp [he, this]
  rw [Nat.zero_add] at CL
  rw [hb0]
  have HX := Lib.hid (And.intro hm hd)
  clear h1 hw1 p1 hin hc hn hy hb hz hat hk hs hd hs0 hm hb0
  have hmf : ∀ (fn : Fn) (first cap : Array Value) (w : World), (Instr.makeFunc fn first cap).run Tryd.prog w = .ok (.func fn first cap) w := fun _ _ _ _ => rfl
  have hA := Lib.hid H1.out.leaf.at_
  have HZ32 := Lib.hid (show zero32.length = 32 from rfl)
  unfold sv
  go_enter_defers Tryd.func17, Tryd.ntmps17
  go_upto_region 1 with fail
  rw [← HW.out]
  go_wp2_with (with_reducible refine wpList_load_sum rfl (.tmp 4) rfl ⟨w.heap.size, 0, none⟩ rfl leaf hl hA.out ?_)
  refine CL.out.mono ?_
  rintro e w3 ⟨rfl, ⟨A3, c3, hp3⟩, hb3⟩
  have r3 : BArr w3 (w.heap.size + 2) 24 zero32 := (hb3.block _ H1.out.res.lt (by omega)).trans H1.out.res
  have HP3 := Lib.hid hp3
  have HB3 := Lib.hid (H1.out.below.trans (hb3.below (by have := H1.out.size; omega) (fun b e => by omega)))
  clear hp3 hb3
  go_upto_region 4 with (with_reducible refine wpList_store_sum rfl (.tmp 8) (.tmp 16) rfl (w.heap.size + 2) rfl zero32 s HZ32 hsl r3 rfl ?_)
  have r4 : BArr (w3.setRow (w.heap.size + 2) (bvs s).toArray) (w.heap.size + 2) 24 s := r3.setRow s
  have v4 := HP3.out.var.setRow_other (w.heap.size + 2) (by omega) (bvs s).toArray
  rw [HX.out.1] at v4
  have b4 : Below w.heap.size w (w3.setRow (w.heap.size + 2) (bvs s).toArray) := below_setRow HB3.out (by omega) _
  obtain ⟨w4, hw4⟩ : ∃ w4, w4 = w3.setRow (w.heap.size + 2) (bvs s).toArray := ⟨_, rfl⟩
  rw [← hw4] at r4 v4 b4 ⊢
  clear hw4 r3
  have hS : BArr w4.drew (w.heap.size + 2) 24 s ∧ VarAt w4.drew (w.heap.size + 1) 22 (.slice A3 m c3) := ⟨r4, v4⟩
  have HB4 := Lib.hid b4
  clear b4
  refine wp_region_noPanic ?_
  refine wp_region_held (S := fun W => BArr W (w.heap.size + 2) 24 s ∧ VarAt W (w.heap.size + 1) 22 (.slice A3 m c3)) (by kernel_rfl) ?_
  change wpAnyH _ _ _ _ _ _ _ _ w4.drew
  refine' wpAnyH_take (i := 0) (oi := _) (v := sv s) ?hi0 (by kernel_rfl) ?hf0 ?hr0 ?hQ0 ?hy0 hS ?rest0
  case hi0 => (simp only [List.getElem?_toArray, List.getElem?_cons_zero]; rfl)
  case hf0 => kernel_rfl
  case hr0 => kernel_rfl
  case hQ0 => exact fun _ _ _ h => h.elim
  case hy0 =>
    refine Or.inl ⟨by rfl, ?_⟩
    intro W hSw
    exact run_at_sum (.tmp 8) (by rfl) ⟨w.heap.size + 2, 0, none⟩ (by rfl) s hsl hSw.1.at_
  simp only [Act.put, List.setIfInBounds_toArray, List.set_cons_zero, List.set_cons_succ]
  refine' wpAnyH_take (i := 1) (oi := _) (v := _) ?hi1 (by kernel_rfl) ?hf1 ?hr1 ?hQ1 ?hy1 hS ?rest1
  case hi1 => (simp only [List.getElem?_toArray, List.getElem?_cons_zero, List.getElem?_cons_succ]; rfl)
  case hf1 => kernel_rfl
  case hr1 => kernel_rfl
  case hQ1 => exact fun _ _ _ h => h.elim
  case hy1 =>
    refine Or.inl ⟨by rfl, ?_⟩
    intro W hSw
    have s0 := hSw.2.cell
    go_simp
    try with_reducible rfl
  simp only [Act.put, List.setIfInBounds_toArray, List.set_cons_zero, List.set_cons_succ]
  refine' wpAnyH_take (i := 2) (oi := _) (v := _) ?hi2 (by kernel_rfl) ?hf2 ?hr2 ?hQ2 ?hy2 hS ?rest2
  case hi2 => (simp only [List.getElem?_toArray, List.getElem?_cons_zero, List.getElem?_cons_succ]; rfl)
  case hf2 => kernel_rfl
  case hr2 => kernel_rfl
  case hQ2 => exact fun _ _ _ h => h.elim
  case hy2 =>
    refine Or.inl ⟨by rfl, ?_⟩
    intro W hSw
    have s0 := hSw.2.cell
    go_simp
    try with_reducible rfl
  simp only [Act.put, List.setIfInBounds_toArray, List.set_cons_zero, List.set_cons_succ]
  refine' wpAnyH_take (i := 3) (oi := _) (v := _) ?hi3 (by kernel_rfl) ?hf3 ?hr3 ?hQ3 ?hy3 hS ?rest3
  case hi3 => (simp only [List.getElem?_toArray, List.getElem?_cons_zero, List.getElem?_cons_succ]; rfl)
  case hf3 => kernel_rfl
  case hr3 => kernel_rfl
  case hQ3 => exact fun _ _ _ h => h.elim
  case hy3 =>
    refine Or.inl ⟨by rfl, ?_⟩
    intro W hSw
    have s0 := hSw.2.cell
    go_simp
    try with_reducible rfl
  simp only [Act.put, List.setIfInBounds_toArray, List.set_cons_zero, List.set_cons_succ]
  refine wpAnyH_ready (rs := [4]) (by kernel_rfl) (by simp) ?_
  refine' AllReadyH.cons (o := _) ?hin3 (fun K3 hK3 => ?_) AllReadyH.nil
  case hin3 => (simp only [List.getElem?_toArray, List.getElem?_cons_zero, List.getElem?_cons_succ]; rfl)
  rw [if_pos (by rfl)]
  refine step_store_sum (.tmp 8) (.tmp 17) rfl (w.heap.size + 2) rfl s s hsl hsl hS.1 rfl ?_
  have r5 : BArr (w4.drew.setRow (w.heap.size + 2) (bvs s).toArray) (w.heap.size + 2) 24 s := hS.1.setRow s
  have b5 : Below w.heap.size w (w4.drew.setRow (w.heap.size + 2) (bvs s).toArray) := below_setRow HB4.out.drew (by omega) _
  have hS5 : BArr (w4.drew.setRow (w.heap.size + 2) (bvs s).toArray) (w.heap.size + 2) 24 s ∧ VarAt (w4.drew.setRow (w.heap.size + 2) (bvs s).toArray) (w.heap.size + 1) 22 (.slice A3 m c3) := ⟨r5, hS.2.setRow_other _ (by omega) _⟩
  obtain ⟨w5, hw5⟩ : ∃ w5, w5 = w4.drew.setRow (w.heap.size + 2) (bvs s).toArray := ⟨_, rfl⟩
  rw [← hw5] at r5 b5 hS5 ⊢
  refine hK3.out _ _ hS5 (fun _ => ?_)
  clear hK3 K3 hw5
  refine' wpAnyH_take (i := 5) (oi := _) (v := _) ?hi5 (by kernel_rfl) ?hf5 ?hr5 ?hQ5 ?hy5 hS5 ?rest5
  case hi5 => (simp only [List.getElem?_toArray, List.getElem?_cons_zero, List.getElem?_cons_succ]; rfl)
  case hf5 => kernel_rfl
  case hr5 => kernel_rfl
  case hQ5 => exact fun _ _ _ h => h.elim
  case hy5 =>
    refine Or.inl ⟨by rfl, ?_⟩
    intro W hSw
    have s0 := hSw.2.cell
    go_simp
    try with_reducible rfl
  simp only [Act.put, List.setIfInBounds_toArray, List.set_cons_zero, List.set_cons_succ]
  refine wpAnyH_done (by kernel_rfl) ?_ _
  show NoPanic _ _ _ _
  refine NoPanic.normal ?_
  go_wp2
  refine leaves_cons (f := 24) (args := #[]) (by simp) (by simp [go_sem]) ?_
  refine (catch_idle w5).mono ?_
  rintro e u' w6 ⟨rfl, rfl, rfl⟩
  exact ⟨_, results_cell_tmp (p := 8) (q := 9) (ty := 24) (by kernel_rfl) _ _ ⟨w.heap.size + 2, 0, none⟩ (sv s) rfl (run_load_sum w6 _ s hsl r5.at_), rfl, b5⟩

end

end Go.Proofs.YtppfdpnplemfkaaDoor
