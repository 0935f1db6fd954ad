/-
  nums.grown and nums.Put: what stands in b, and the digits behind it, in memory of its own.
-/
import Derived.Test.YtfgjkddfomddlaaNumsApp
import Derived.Laws.CopyOwn
import Derived.WalkSpells
namespace Go.Proofs.Ytfgjkddfomddlaa
open Go.RowKit

theorem sizeByte : (Try.prog.info? 5).map (·.size) = some 1 := by kernel_rfl

theorem make_bytes (n c : Nat) (hnc : n ≤ c) (hc : c ≤ 200000000000000) (W : World) :
    (Instr.makeSlice 23 (.int .i64 (n : Int)) (.int .i64 (c : Int))).run Try.prog W = .ok (.slice (some ⟨W.heap.size, 0, none⟩) n c) (W.alloc (.cells (madeCells #[.int .u8 0] c) 5)) := by
  obtain ⟨i0, hi, hz0, hz1, hz2⟩ := info_parts infoByte
  have hr := run_make (P := Try.prog) W 23 5 i0 _ Try.underlying23 hi hz0 .i64 .i64 n c (by omega) (by omega) (by rw [hz2]; omega) (by omega)
  rw [hz1] at hr
  simpa [Value.cells] using hr

set_option maxHeartbeats 400000 in
theorem grown_any (A : Option Addr) (L c more : Nat) (xs : List Nat) (w : World) (hin : In w A L xs) (hle : L + more ≤ 200000000000000) :
    Calls Try.prog 16 #[.slice A L c, .int .i64 (more : Int)] w fun e w' =>
      e = .returned (.slice (some ⟨w.heap.size, 0, none⟩) L (L + more)) ∧
      w'.ownsRow w.heap.size 5 1 (.slice (some ⟨w.heap.size, 0, none⟩) L (L + more)) L (bvs xs) ∧ Below w.heap.size w w' := by
  have HL := Lib.hid hin.len
  have hr := hin.rd
  have hmk := make_bytes L (L + more) (by omega) hle
  have ec : ((L + more : Nat) : Int) = (L : Int) + (more : Int) := by omega
  rw [ec] at hmk
  clear ec
  obtain ⟨M, hM⟩ : ∃ M : List Value, (madeCells #[.int .u8 0] (L + more)).toList = M := ⟨_, rfl⟩
  have hMl : M.length = L + more := by rw [← hM, Array.length_toList, size_madeCells]
  have hM' : madeCells #[.int .u8 0] (L + more) = M.toArray := by rw [← hM]
  rw [hM'] at hmk
  clear hM hM'
  have HM := Lib.hid hMl
  clear hMl
  have hg : Hid ((w.alloc (.cells M.toArray 5)).heap[w.heap.size]? = some (.cells M.toArray 5 (0, 0))) := World.alloc_heap_new w _
  have hb : Below w.heap.size w (w.alloc (.cells M.toArray 5)) := (Below.refl _ w).alloc (Nat.le_refl _) _
  have hr' := hr.below hb
  have hn : Hid ((bvs xs).length = Nat.min L L) := by
    show _ = _
    rw [bvs_length, HL.out]
    exact (Nat.min_self L).symm
  have hpos : 0 < (bvs xs).length → (some ⟨w.heap.size, 0, none⟩ : Option Addr) = some ⟨w.heap.size, 0, none⟩ ∧ ∃ ad, A = some ad ∧ ∀ j v, (bvs xs)[j]? = some v → (w.alloc (.cells M.toArray 5)).cell? (ad.add j) = some v := by
    intro h0
    rw [bvs_length] at h0
    obtain ⟨ad, rfl, _⟩ := hr'.at_ h0
    refine ⟨rfl, ad, rfl, fun j v hv => ?_⟩
    rw [bvs_get] at hv
    obtain ⟨x, hx, rfl⟩ := Option.map_eq_some_iff.1 hv
    obtain ⟨ad', e, hc⟩ := hr' j x hx
    cases e
    exact hc
  have HP := Lib.hid hpos
  clear hpos
  have hfit : Hid (0 + (bvs xs).length ≤ M.length) := by
    show _ ≤ _
    rw [bvs_length, HL.out, HM.out]
    omega
  go_enter Try.func16, Try.ntmps16
  go_wp2_with (with_reducible refine wpList_copy_splice rfl (.tmp 13) (.tmp 14) 23 23 rfl 5 Try.underlying23 sizeByte (some ⟨w.heap.size, 0, none⟩) A L (L + more) L c rfl rfl w.heap.size 0 M 5 hg.out (bvs xs) hn.out HP.out hfit.out (bvs_oneCell xs) w.heap.size w hb (Nat.le_refl _) ?_; intro w1 hw1 hb1)
  go_ret
  refine ⟨rfl, ⟨by rw [bvs_length, HL.out]; simp, .inr ⟨w.heap.size, L + more, _, rfl, Nat.le_refl _, hw1.out, by omega, by unfold maxLen; omega, ?_, ?_⟩⟩, hb1⟩
  · rw [List.size_toArray, length_splice _ _ _ hfit.out, HM.out]; simp
  · simp [splice, bvs_length, HL.out]

/-- A call has answered the bytes ys, n of them, in memory of its own: from block number 'base' on. -/
def Gives (base : Nat) (w : World) (n : Nat) (ys : List Nat) (e : Ending) (w' : World) : Prop :=
  ∃ A c, e = .returned (.slice A n c) ∧ w'.ownsRow base 5 1 (.slice A n c) n (bvs ys) ∧ Below base w w'

theorem gives_of {base : Nat} {w w' : World} {n : Nat} {ys : List Nat} {e : Ending} (h : ∃ v, e = .returned v ∧ w'.ownsRow base 5 1 v n (bvs ys) ∧ Below base w w') : Gives base w n ys e w' := by
  obtain ⟨v, rfl, ho, hb⟩ := h
  obtain ⟨A, c, rfl⟩ := own_form ho
  exact ⟨A, c, rfl, ho, hb⟩

theorem appendDigits_any (base : Nat) (A : Option Addr) (L c : Nat) (xs : List Nat) (N k : Nat) (hk : k ≤ 8) (hlen : L ≤ 1000000000000) (w : World) (hbase : base ≤ w.heap.size)
    (hown : w.ownsRow base 5 1 (.slice A L c) L (bvs xs)) :
    Calls Try.prog 15 #[.slice A L c, .int .u64 (N : Int), .int .i64 (k : Int)] w (Gives base w (L + k) (xs ++ dg N k)) :=
  (callsIn_wide (n := 3)).1 ((appendDigits_in Fence.wide 3 trivial trivial trivial rfl (Nat.le_refl _) base A L c xs N k hk hlen w hbase hown).mono fun _ _ h => gives_of h)

/-- How many digits Put lays: none below 0, eight above 8. -/
def kk (bytes : Int) : Nat := (min (max bytes 0) 8).toNat
theorem kk_le (b : Int) : kk b ≤ 8 := by unfold kk; omega
theorem kk_nat (k : Nat) (h : k ≤ 8) : kk (k : Int) = k := by unfold kk; omega

set_option maxHeartbeats 400000 in
theorem put_any (A : Option Addr) (L c : Nat) (xs : List Nat) (N : Nat) (bytes : Int) (k : Nat) (hk : kk bytes = k) (w : World) (hin : In w A L xs) (hle : L ≤ 1000000000000) :
    Calls Try.prog 7 #[.slice A L c, .int .u64 (N : Int), .int .i64 bytes] w (Gives w.heap.size w (L + k) (xs ++ dg N k)) := by
  have hk8 : k ≤ 8 := hk ▸ kk_le bytes
  have C1 := Lib.hid (grown_any A L c k xs w hin (by omega))
  have C2 := Lib.hid (appendDigits_any (base := w.heap.size) (L := L) (xs := xs) (N := N) (k := k) (hk := hk8) (hlen := hle))
  unfold kk at hk
  by_cases h0 : bytes < 0
  · obtain rfl : k = 0 := by omega
    clear hk
    go_enter Try.func7, Try.ntmps7
    go_wp2_with fail
    refine (C1.out).mono ?_
    rintro e w1 ⟨rfl, ho, hb⟩
    go_wp2_with fail
    refine (C2.out _ _ _ hb.size ho).mono ?_
    rintro e w2 ⟨A2, c2, rfl, ho2, hb2⟩
    go_wp2_with fail
    go_ret
    exact ⟨A2, c2, rfl, ho2, hb.trans hb2⟩
  · by_cases h8 : bytes ≤ 8
    · obtain rfl : bytes = (k : Int) := by omega
      clear hk
      go_enter Try.func7, Try.ntmps7
      go_wp2_with fail
      refine (C1.out).mono ?_
      rintro e w1 ⟨rfl, ho, hb⟩
      go_wp2_with fail
      refine (C2.out _ _ _ hb.size ho).mono ?_
      rintro e w2 ⟨A2, c2, rfl, ho2, hb2⟩
      go_wp2_with fail
      go_ret
      exact ⟨A2, c2, rfl, ho2, hb.trans hb2⟩
    · obtain rfl : k = 8 := by omega
      clear hk
      go_enter Try.func7, Try.ntmps7
      go_wp2_with fail
      refine (C1.out).mono ?_
      rintro e w1 ⟨rfl, ho, hb⟩
      go_wp2_with fail
      refine (C2.out _ _ _ hb.size ho).mono ?_
      rintro e w2 ⟨A2, c2, rfl, ho2, hb2⟩
      go_wp2_with fail
      go_ret
      exact ⟨A2, c2, rfl, ho2, hb.trans hb2⟩

end Go.Proofs.Ytfgjkddfomddlaa
