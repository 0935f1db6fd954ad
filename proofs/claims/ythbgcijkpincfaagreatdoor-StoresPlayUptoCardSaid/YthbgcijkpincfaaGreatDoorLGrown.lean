/-
  nums.grown.
-/
import Derived.Test.YthbgcijkpincfaaGreatDoorLMem
namespace Go.Proofs.YthbgcijkpincfaaGreatDoor
open Go.RowKit

set_option maxRecDepth 100000 in
set_option maxHeartbeats 400000 in
theorem grown_any (A : Option Addr) (L c more : Nat) (xs : List Nat) (w : World) (hin : In w A L xs) (hle : L + more ≤ 200000000000000) :
    Calls Tryz.prog 243 #[.slice A L c, .int .i64 (more : Int)] w fun e w' =>
      e = .returned (.slice (some ⟨w.heap.size, 0, none⟩) L (L + more)) ∧
      w'.ownsRow w.heap.size 5 1 (.slice (some ⟨w.heap.size, 0, none⟩) L (L + more)) L (bvs xs) ∧ Below w.heap.size w w' := by
  have HL := Lib.hid hin.len
  have hr := hin.rd
  have hmk := make_bytes L (L + more) (by omega) hle
  have ec : ((L + more : Nat) : Int) = (L : Int) + (more : Int) := by omega
  rw [ec] at hmk
  clear ec
  obtain ⟨M, hM⟩ : ∃ M : List Value, (madeCells #[.int .u8 0] (L + more)).toList = M := ⟨_, rfl⟩
  have hMl : M.length = L + more := by rw [← hM, Array.length_toList, size_madeCells]
  have hM' : madeCells #[.int .u8 0] (L + more) = M.toArray := by rw [← hM]
  rw [hM'] at hmk
  clear hM hM'
  have HM := Lib.hid hMl
  clear hMl
  have hg : Hid ((w.alloc (.cells M.toArray 5)).heap[w.heap.size]? = some (.cells M.toArray 5 (0, 0))) := World.alloc_heap_new w _
  have hb : Below w.heap.size w (w.alloc (.cells M.toArray 5)) := (Below.refl _ w).alloc (Nat.le_refl _) _
  have hr' := hr.below hb
  have hn : Hid ((bvs xs).length = Nat.min L L) := by
    show _ = _
    rw [bvs_length, HL.out]
    exact (Nat.min_self L).symm
  have hpos : 0 < (bvs xs).length → (some ⟨w.heap.size, 0, none⟩ : Option Addr) = some ⟨w.heap.size, 0, none⟩ ∧ ∃ ad, A = some ad ∧ ∀ j v, (bvs xs)[j]? = some v → (w.alloc (.cells M.toArray 5)).cell? (ad.add j) = some v := by
    intro h0
    rw [bvs_length] at h0
    obtain ⟨ad, rfl, _⟩ := hr'.at_ h0
    refine ⟨rfl, ad, rfl, fun j v hv => ?_⟩
    rw [bvs_get] at hv
    obtain ⟨x, hx, rfl⟩ := Option.map_eq_some_iff.1 hv
    obtain ⟨ad', e, hc⟩ := hr' j x hx
    cases e
    exact hc
  have HP := Lib.hid hpos
  clear hpos
  have hfit : Hid (0 + (bvs xs).length ≤ M.length) := by
    show _ ≤ _
    rw [bvs_length, HL.out, HM.out]
    omega
  go_enter Tryz.func243, Tryz.ntmps243
  go_wp2_with (with_reducible refine wpList_copy_splice rfl (.tmp 13) (.tmp 14) 50 50 rfl 5 Tryz.underlying50 sizeByte (some ⟨w.heap.size, 0, none⟩) A L (L + more) L c rfl rfl w.heap.size 0 M 5 hg.out (bvs xs) hn.out HP.out hfit.out (bvs_oneCell xs) w.heap.size w hb (Nat.le_refl _) ?_; intro w1 hw1 hb1)
  go_ret
  refine ⟨rfl, ⟨by rw [bvs_length, HL.out]; simp, .inr ⟨w.heap.size, L + more, _, rfl, Nat.le_refl _, hw1.out, by omega, by unfold maxLen; omega, ?_, ?_⟩⟩, hb1⟩
  · rw [List.size_toArray, length_splice _ _ _ hfit.out, HM.out]; simp
  · simp [splice, bvs_length, HL.out]

end Go.Proofs.YthbgcijkpincfaaGreatDoor
