/-
  nums.Put.
-/
import Derived.Test.YthbgcijkpincfaaGreatDoorLApp
import Derived.Test.YthbgcijkpincfaaGreatDoorLGrown
namespace Go.Proofs.YthbgcijkpincfaaGreatDoor
open Go.RowKit

theorem appendDigits_any (base : Nat) (A : Option Addr) (L c : Nat) (xs : List Nat) (N k : Nat) (hk : k ≤ 8) (hlen : L ≤ 1000000000000) (w : World) (hbase : base ≤ w.heap.size)
    (hown : w.ownsRow base 5 1 (.slice A L c) L (bvs xs)) :
    Calls Tryz.prog 242 #[.slice A L c, .int .u64 (N : Int), .int .i64 (k : Int)] w (Gives base w (L + k) (xs ++ dg N k)) :=
  (callsIn_wide (n := 3)).1 ((appendDigits_in Fence.wide 3 trivial trivial trivial rfl (Nat.le_refl _) base A L c xs N k hk hlen w hbase hown).mono fun _ _ h => gives_of h)

/-- How many digits Put lays: none below 0, eight above 8. -/
def kk (bytes : Int) : Nat := (min (max bytes 0) 8).toNat
theorem kk_le (b : Int) : kk b ≤ 8 := by unfold kk; omega
theorem kk_nat (k : Nat) (h : k ≤ 8) : kk (k : Int) = k := by unfold kk; omega

set_option maxRecDepth 100000 in
set_option maxHeartbeats 400000 in
theorem put_any (A : Option Addr) (L c : Nat) (xs : List Nat) (N : Nat) (bytes : Int) (k : Nat) (hk : kk bytes = k) (w : World) (hin : In w A L xs) (hle : L ≤ 1000000000000) :
    Calls Tryz.prog 176 #[.slice A L c, .int .u64 (N : Int), .int .i64 bytes] w (Gives w.heap.size w (L + k) (xs ++ dg N k)) := by
  have hk8 : k ≤ 8 := hk ▸ kk_le bytes
  have C1 := Lib.hid (grown_any A L c k xs w hin (by omega))
  have C2 := Lib.hid (appendDigits_any (base := w.heap.size) (L := L) (xs := xs) (N := N) (k := k) (hk := hk8) (hlen := hle))
  unfold kk at hk
  by_cases h0 : bytes < 0
  · obtain rfl : k = 0 := by omega
    clear hk
    go_enter Tryz.func176, Tryz.ntmps176
    go_wp2_with fail
    refine (C1.out).mono ?_
    rintro e w1 ⟨rfl, ho, hb⟩
    go_wp2_with fail
    refine (C2.out _ _ _ hb.size ho).mono ?_
    rintro e w2 ⟨A2, c2, rfl, ho2, hb2⟩
    go_wp2_with fail
    go_ret
    exact ⟨A2, c2, rfl, ho2, hb.trans hb2⟩
  · by_cases h8 : bytes ≤ 8
    · obtain rfl : bytes = (k : Int) := by omega
      clear hk
      go_enter Tryz.func176, Tryz.ntmps176
      go_wp2_with fail
      refine (C1.out).mono ?_
      rintro e w1 ⟨rfl, ho, hb⟩
      go_wp2_with fail
      refine (C2.out _ _ _ hb.size ho).mono ?_
      rintro e w2 ⟨A2, c2, rfl, ho2, hb2⟩
      go_wp2_with fail
      go_ret
      exact ⟨A2, c2, rfl, ho2, hb.trans hb2⟩
    · obtain rfl : k = 8 := by omega
      clear hk
      go_enter Tryz.func176, Tryz.ntmps176
      go_wp2_with fail
      refine (C1.out).mono ?_
      rintro e w1 ⟨rfl, ho, hb⟩
      go_wp2_with fail
      refine (C2.out _ _ _ hb.size ho).mono ?_
      rintro e w2 ⟨A2, c2, rfl, ho2, hb2⟩
      go_wp2_with fail
      go_ret
      exact ⟨A2, c2, rfl, ho2, hb.trans hb2⟩

theorem put_nil (N k : Nat) (hk : k ≤ 8) (w : World) :
    Calls Tryz.prog 176 #[.slice none 0 0, .int .u64 (N : Int), .int .i64 (k : Int)] w (Gives w.heap.size w k (dg N k)) := by
  have := put_any none 0 0 [] N (k : Int) k (kk_nat k hk) w (In.none_ _ _) (by omega)
  rw [Nat.zero_add] at this
  exact this

end Go.Proofs.YthbgcijkpincfaaGreatDoor
