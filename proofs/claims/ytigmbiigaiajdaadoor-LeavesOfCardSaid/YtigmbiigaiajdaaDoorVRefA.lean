/-
  almonerref08: Cut, Leaf.
-/
import Derived.Test.YtigmbiigaiajdaaDoorVSApp
import Derived.Test.YtigmbiigaiajdaaDoorRefOf
namespace Go.Proofs.YtigmbiigaiajdaaDoor
open Go.RowKit

theorem run_take_u64 {ad : Addr} {n c k : Nat} (hk : k ≤ n) (hc : n ≤ c) (W : World) :
    (Instr.slice 26 (.slice (some ad) n c) none (some (.int .u64 (k : Int))) none).run Tryd.prog W = .ok (.slice (some ad) k c) W := by
  obtain ⟨i0, hi, hz0, hz1, hz2⟩ := info_parts infoSum
  have he : Tryd.prog.elem 26 = 24 := by kernel_rfl
  rw [run_slice_h W 26 (some ad) n c (by rw [he]; exact Tryd.underlying26) .u64 (k : Int) (by omega) (by omega), he]
  simp [sizeOf, typeInfo, hi, hz1, sliced, add_zero']

theorem run_drop_u64 {ad : Addr} {n c k : Nat} (hk : k < n) (hc : n ≤ c) (W : World) :
    (Instr.slice 26 (.slice (some ad) n c) (some (.int .u64 (k : Int))) none none).run Tryd.prog W = .ok (.slice (some (ad.add (k * 32))) (n - k) (c - k)) W := by
  obtain ⟨i0, hi, hz0, hz1, hz2⟩ := info_parts infoSum
  have he : Tryd.prog.elem 26 = 24 := by kernel_rfl
  rw [run_slice_l W 26 (some ad) n c (by rw [he]; exact Tryd.underlying26) .u64 (k : Int) (by omega) (by omega), he]
  have hne : c ≠ k := by omega
  simp [sizeOf, typeInfo, hi, hz1, sliced, hne]

set_option maxRecDepth 100000 in
set_option maxHeartbeats 1000000 in
theorem refCut_any (n : Nat) (w : World) (h2 : 2 ≤ n) (hn : n ≤ 65536) :
    Calls Tryd.prog 25 #[.int .u64 (n : Int)] w fun e w' => e = .returned (.int .u64 (cutN n : Int)) ∧ w' = w := by
  go_enter Tryd.func25, Tryd.ntmps25
  go_wp2
  go_loopw [3] (fun i wr => ∃ e k : Nat, 2 ^ e = k ∧ k < n ∧ i = .int .u64 (k : Int) ∧ wr = w) (fun i _ => n - (intOf i).toNat)
  case atStart => exact ⟨0, 1, rfl, by omega, rfl, rfl⟩
  case round =>
    obtain ⟨e, k, he, hlt, rfl, rfl⟩ := hrel
    obtain ⟨d, hd⟩ : ∃ d, n - k = d := ⟨_, rfl⟩
    have hsub : (n : Int) - (k : Int) = (d : Int) := by omega
    have hw1 : IntKind.u64.wrap (d : Int) = (d : Int) := by rw [IntKind.wrap_u64]; omega
    have hw2 : IntKind.u64.wrap (2 * (k : Int)) = 2 * (k : Int) := by rw [IntKind.wrap_u64]; omega
    by_cases hmore : k < d
    · have hi : decide ((k : Int) < (d : Int)) = true := by simp; omega
      have HP := Lib.hid (And.intro he hd)
      clear he hd
      go_wp2
      go_roundw
      case rel => exact ⟨e + 1, 2 * k, by rw [Nat.pow_succ, HP.out.1, Nat.mul_comm], by have := HP.out.2; omega, by go_num, trivial⟩
      case measure => simp [intOf]; have := Nat.two_pow_pos e; have := HP.out; omega
    · have hi : decide ((k : Int) < (d : Int)) = false := by simp; omega
      have hc : cutN n = k := by rw [← he]; exact cutN_of (by rw [he]; exact hlt) (by rw [he]; omega)
      have HC := Lib.hid hc
      clear he hc hd
      go_wp2
      go_ret
      exact ⟨by rw [HC.out]; rfl, rfl⟩

/-- '[]byte{x}' is the call's own. -/
theorem own_byte (W : World) (x base : Nat) (z : Int) (hz : z = (x : Int)) (hb : base ≤ W.heap.size) : (W.alloc (.cells #[.int .u8 z] 5)).ownsRow base 5 1 (.slice (some ⟨W.heap.size, 0, none⟩) 1 1) 1 (bvs [x]) := by
  subst hz
  exact ⟨rfl, .inr ⟨W.heap.size, 1, #[.int .u8 (x : Int)], rfl, hb, World.alloc_heap_new W _, Nat.le_refl _, by unfold maxLen; omega, rfl, rfl⟩⟩

set_option maxRecDepth 100000 in
set_option maxHeartbeats 2000000 in
theorem refLeaf_any (A : Option Addr) (n c : Nat) (xs : List Nat) (w : World) (hx : Came w A n c xs) (hn : n ≤ 800000000) :
    Calls Tryd.prog 11 #[.slice A n c] w fun e w' => e = .returned (sv (leafL xs)) ∧ Below w.heap.size w w' := by
  have e0 : (bvs zero32).toArray = #[.int .u8 0, .int .u8 0, .int .u8 0, .int .u8 0, .int .u8 0, .int .u8 0, .int .u8 0, .int .u8 0, .int .u8 0, .int .u8 0, .int .u8 0, .int .u8 0, .int .u8 0, .int .u8 0, .int .u8 0, .int .u8 0, .int .u8 0, .int .u8 0, .int .u8 0, .int .u8 0, .int .u8 0, .int .u8 0, .int .u8 0, .int .u8 0, .int .u8 0, .int .u8 0, .int .u8 0, .int .u8 0, .int .u8 0, .int .u8 0, .int .u8 0, .int .u8 0] := rfl
  have f1 := BArr.new w 24 zero32
  have b1 := below_alloc w (.cells (bvs zero32).toArray 24)
  rw [e0] at f1 b1
  clear e0
  obtain ⟨w1, hw1⟩ : ∃ w1, w1 = w.alloc (.cells #[.int .u8 0, .int .u8 0, .int .u8 0, .int .u8 0, .int .u8 0, .int .u8 0, .int .u8 0, .int .u8 0, .int .u8 0, .int .u8 0, .int .u8 0, .int .u8 0, .int .u8 0, .int .u8 0, .int .u8 0, .int .u8 0, .int .u8 0, .int .u8 0, .int .u8 0, .int .u8 0, .int .u8 0, .int .u8 0, .int .u8 0, .int .u8 0, .int .u8 0, .int .u8 0, .int .u8 0, .int .u8 0, .int .u8 0, .int .u8 0, .int .u8 0, .int .u8 0] 24) := ⟨_, rfl⟩
  rw [← hw1] at f1 b1
  have HF := Lib.hid (And.intro f1 b1)
  have HX := Lib.hid (hx.below b1)
  have HW := Lib.hid hw1
  have o2 := own_byte w1 0 w1.heap.size 0 rfl (Nat.le_refl _)
  have b2 := below_alloc w1 (.cells #[.int .u8 0] 5)
  have s2 := World.size_alloc w1 (.cells #[.int .u8 0] 5)
  obtain ⟨w2, hw2⟩ : ∃ w2, w2 = w1.alloc (.cells #[.int .u8 0] 5) := ⟨_, rfl⟩
  rw [← hw2] at o2 b2 s2
  have HO := Lib.hid (And.intro o2 (And.intro b2 s2))
  have HX2 := Lib.hid (HX.out.below b2)
  have HW2 := Lib.hid hw2
  clear f1 b1 hx hw1 o2 b2 s2 hw2
  go_enter Tryd.func11, Tryd.ntmps11
  go_upto_region 1 with fail
  rw [← HW.out]
  go_wp2_with (rw [← HW2.out]; refine wpList_step fun K hK => ?_; refine step_app_at (K := K) (by rfl) _ _ (by rfl) w1.heap.size _ 1 1 [0] (by rfl) HO.out.1 A n c xs (by rfl) HX2.out.in_ HX2.out.nil (by omega) (by have := HO.out.2.2; omega) ?_; intro A3 c3 w3 ow3 nx3; refine hK _ _ ?_; clear hK K)
  have b13 := nx3.below HO.out.1 HO.out.2.1 (Nat.le_refl _) HO.out.2.1.size
  have B3 := Lib.hid (below_on HF.out.2 (Nat.le_refl _) b13)
  have F3 := Lib.hid (HF.out.1.below b13)
  have C3 := Lib.hid (refOf_any A3 (1 + n) c3 ([0] ++ xs) w3 (In.of_own ow3) (fun x hx => by rcases List.mem_append.1 hx with h1 | h1; (simp at h1; omega); exact HX.out.lt x h1) (own_nil ow3) (by omega))
  have hl : (sha ([0] ++ xs)).length = 32 := sha_length _
  have HS : leafL xs = sha ([0] ++ xs) := rfl
  obtain ⟨s, hs0⟩ : ∃ s, sha ([0] ++ xs) = s := ⟨_, rfl⟩
  rw [hs0] at C3 hl HS
  have HS' := Lib.hid HS
  clear b13 nx3 ow3 HO HX2 HW2 HW HX hs0 HS
  refine C3.out.mono ?_
  rintro e w4 ⟨rfl, hb4⟩
  have f4 := F3.out.below hb4
  have HZ32 := Lib.hid (show zero32.length = 32 from rfl)
  go_wp2_with (with_reducible refine wpList_store_sum rfl (.tmp 2) (.tmp 6) rfl w.heap.size rfl zero32 s HZ32 hl f4 rfl ?_)
  refine bodyPost_ret_by (results_cell_row (p := 2) (ty := 24) (by kernel_rfl) _ _ w.heap.size 24 (bvs s).toArray (0, 0) _ rfl (f4.setRow _) Tryd.underlying24 rfl (by rw [List.size_toArray, bvs_length, hl]; exact sizeSum)) rfl ?_
  exact ⟨by rw [HS'.out]; rfl, below_setRow (below_on B3.out (Nat.le_refl _) hb4) (by omega) _⟩

end Go.Proofs.YtigmbiigaiajdaaDoor
