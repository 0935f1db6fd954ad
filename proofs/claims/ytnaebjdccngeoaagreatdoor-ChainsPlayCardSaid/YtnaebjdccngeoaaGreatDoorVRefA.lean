/-
  almonerref08: Cut, Leaf.
-/
import Derived.Test.YtnaebjdccngeoaaGreatDoorVSApp
import Derived.Test.YtnaebjdccngeoaaGreatDoorRefOf
namespace Go.Proofs.YtnaebjdccngeoaaGreatDoor
open Go.RowKit

theorem run_take_u64 {ad : Addr} {n c k : Nat} (hk : k ≤ n) (hc : n ≤ c) (W : World) :
    (Instr.slice 53 (.slice (some ad) n c) none (some (.int .u64 (k : Int))) none).run Tryz.prog W = .ok (.slice (some ad) k c) W := by
  obtain ⟨i0, hi, hz0, hz1, hz2⟩ := info_parts infoSum
  have he : Tryz.prog.elem 53 = 50 := by kernel_rfl
  rw [run_slice_h W 53 (some ad) n c (by rw [he]; exact Tryz.underlying53) .u64 (k : Int) (by omega) (by omega), he]
  simp [sizeOf, typeInfo, hi, hz1, sliced, add_zero']

theorem run_drop_u64 {ad : Addr} {n c k : Nat} (hk : k < n) (hc : n ≤ c) (W : World) :
    (Instr.slice 53 (.slice (some ad) n c) (some (.int .u64 (k : Int))) none none).run Tryz.prog W = .ok (.slice (some (ad.add (k * 32))) (n - k) (c - k)) W := by
  obtain ⟨i0, hi, hz0, hz1, hz2⟩ := info_parts infoSum
  have he : Tryz.prog.elem 53 = 50 := by kernel_rfl
  rw [run_slice_l W 53 (some ad) n c (by rw [he]; exact Tryz.underlying53) .u64 (k : Int) (by omega) (by omega), he]
  have hne : c ≠ k := by omega
  simp [sizeOf, typeInfo, hi, hz1, sliced, hne]

set_option maxRecDepth 100000 in
set_option maxHeartbeats 1000000 in
theorem refCut_any (n : Nat) (w : World) (h2 : 2 ≤ n) (hn : n ≤ 65536) :
    Calls Tryz.prog 103 #[.int .u64 (n : Int)] w fun e w' => e = .returned (.int .u64 (cutN n : Int)) ∧ w' = w := by
  go_enter Tryz.func103, Tryz.ntmps103
  go_wp2
  go_loopw [3] (fun i wr => ∃ e k : Nat, 2 ^ e = k ∧ k < n ∧ i = .int .u64 (k : Int) ∧ wr = w) (fun i _ => n - (intOf i).toNat)
  case atStart => exact ⟨0, 1, rfl, by omega, rfl, rfl⟩
  case round =>
    obtain ⟨e, k, he, hlt, rfl, rfl⟩ := hrel
    obtain ⟨d, hd⟩ : ∃ d, n - k = d := ⟨_, rfl⟩
    have hsub : (n : Int) - (k : Int) = (d : Int) := by omega
    have hw1 : IntKind.u64.wrap (d : Int) = (d : Int) := by rw [IntKind.wrap_u64]; omega
    have hw2 : IntKind.u64.wrap (2 * (k : Int)) = 2 * (k : Int) := by rw [IntKind.wrap_u64]; omega
    by_cases hmore : k < d
    · have hi : decide ((k : Int) < (d : Int)) = true := by simp; omega
      have HP := Lib.hid (And.intro he hd)
      clear he hd
      go_wp2
      go_roundw
      case rel => exact ⟨e + 1, 2 * k, by rw [Nat.pow_succ, HP.out.1, Nat.mul_comm], by have := HP.out.2; omega, by go_num, trivial⟩
      case measure => simp [intOf]; have := Nat.two_pow_pos e; have := HP.out; omega
    · have hi : decide ((k : Int) < (d : Int)) = false := by simp; omega
      have hc : cutN n = k := by rw [← he]; exact cutN_of (by rw [he]; exact hlt) (by rw [he]; omega)
      have HC := Lib.hid hc
      clear he hc hd
      go_wp2
      go_ret
      exact ⟨by rw [HC.out]; rfl, rfl⟩

/-- '[]byte{x}' is the call's own. -/
theorem own_byte (W : World) (x base : Nat) (z : Int) (hz : z = (x : Int)) (hb : base ≤ W.heap.size) : (W.alloc (.cells #[.int .u8 z] 5)).ownsRow base 5 1 (.slice (some ⟨W.heap.size, 0, none⟩) 1 1) 1 (bvs [x]) := by
  subst hz
  exact ⟨rfl, .inr ⟨W.heap.size, 1, #[.int .u8 (x : Int)], rfl, hb, World.alloc_heap_new W _, Nat.le_refl _, by unfold maxLen; omega, rfl, rfl⟩⟩

end Go.Proofs.YtnaebjdccngeoaaGreatDoor
