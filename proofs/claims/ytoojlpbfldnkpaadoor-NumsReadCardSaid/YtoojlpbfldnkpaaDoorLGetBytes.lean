/-
  nums.GetBytes.
-/
import Derived.Test.YtoojlpbfldnkpaaDoorLGet
import Derived.Test.YtoojlpbfldnkpaaDoorLGrown
namespace Go.Proofs.YtoojlpbfldnkpaaDoor
open Go.RowKit

set_option maxRecDepth 100000 in
set_option maxHeartbeats 400000 in
theorem getBytes_short4 (A : Option Addr) (n c : Nat) (w : World) (h : n < 4) :
    Calls Tryd.prog 9 #[.slice A n c] w (Short3 w) := by
  go_enter Tryd.func9, Tryd.ntmps9
  go_wp2_with fail
  refine (get_short A n c 4 w (by omega) h).mono ?_
  rintro e w1 ⟨rfl, rfl⟩
  go_wp2_with fail
  go_ret3
  exact ⟨rfl, rfl⟩

set_option maxRecDepth 100000 in
set_option maxHeartbeats 400000 in
theorem getBytes_short (A : Option Addr) (n c : Nat) (xs : List Nat) (w : World) (hin : In w A n xs) (hb : ∀ x ∈ xs, x < 256) (h : 4 ≤ n) (hc : n ≤ c) (hs : n - 4 < val (xs.take 4)) (hmax : n ≤ 200000000000000) :
    Calls Tryd.prog 9 #[.slice A n c] w (Short3 w) := by
  have C := Lib.hid (get_ok A n c 4 xs w hin hb (by omega) h hc)
  have HB := Lib.hid hb
  clear hb
  generalize val (xs.take 4) = m at *
  obtain ⟨ad, x, rfl, _⟩ := hin.at_ (show 0 < n by omega)
  go_enter Tryd.func9, Tryd.ntmps9
  go_wp2_with fail
  refine (C.out).mono ?_
  rintro e w1 ⟨rfl, rfl⟩
  go_wp2_with fail
  all_goals
    go_ret3
    exact ⟨rfl, rfl⟩

set_option maxRecDepth 100000 in
set_option maxHeartbeats 400000 in
theorem getBytes_ok (A : Option Addr) (n c m : Nat) (xs : List Nat) (w : World) (hin : In w A n xs) (hb : ∀ x ∈ xs, x < 256) (h : 4 ≤ n) (hc : n ≤ c) (hm : val (xs.take 4) = m) (hs : m ≤ n - 4) (hmax : n ≤ 200000000000000) :
    Calls Tryd.prog 9 #[.slice A n c] w (Gives3 w.heap.size w m ((xs.drop 4).take m) (4 + (m : Int))) := by
  have C := Lib.hid (get_ok A n c 4 xs w hin hb (by omega) h hc)
  rw [hm] at C
  clear hb hm
  obtain ⟨ad, x, rfl, _⟩ := hin.at_ (show 0 < n by omega)
  by_cases hc4 : c = 4
  · subst hc4
    obtain rfl : n = 4 := by omega
    obtain rfl : m = 0 := by omega
    have C2 := Lib.hid (grown_any (some ad) 0 0 0 [] w (In.none_ _ _) (by omega))
    go_enter Tryd.func9, Tryd.ntmps9
    go_wp2_with fail
    refine (C.out).mono ?_
    rintro e w1 ⟨rfl, rfl⟩
    go_wp2_with fail
    refine (C2.out).mono ?_
    rintro e w1 ⟨rfl, ho, hb1⟩
    go_wp2_with fail
    go_ret3
    exact ⟨_, _, rfl, ho, hb1⟩
  · have C2 := Lib.hid (grown_any (some (ad.add 4)) m (c - 4) 0 ((xs.drop 4).take m) w (hin.drop_take (by omega)) (by omega))
    rw [show ad.add 4 = { block := ad.block, off := ad.off + 4, spot := none } from rfl] at C2
    go_enter Tryd.func9, Tryd.ntmps9
    go_wp2_with fail
    refine (C.out).mono ?_
    rintro e w1 ⟨rfl, rfl⟩
    go_wp2_with fail
    refine (C2.out).mono ?_
    rintro e w1 ⟨rfl, ho, hb1⟩
    go_wp2_with fail
    go_ret3
    exact ⟨_, _, rfl, ho, hb1⟩

end Go.Proofs.YtoojlpbfldnkpaaDoor
