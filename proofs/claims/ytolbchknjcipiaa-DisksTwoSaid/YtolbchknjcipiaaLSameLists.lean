/-
  SameByteLists, of lists that are the same.
-/
import Derived.Test.YtolbchknjcipiaaLSameBytes
import Derived.Test.YtolbchknjcipiaaLRows
namespace Go.Proofs.Ytolbchknjcipiaa
open Go.RowKit

theorem drewN_below (w : World) (q : Nat) : Below w.heap.size w (w.drewN q) := ⟨rfl, rfl, rfl, Nat.le_refl _, fun _ _ => rfl⟩

set_option maxRecDepth 100000 in
set_option maxHeartbeats 2000000 in
theorem sameLists_yes (A A2 : Option Addr) (n c c2 : Nat) (R : List (List Nat)) (w : World) (h1 : CameRows w A n R) (h2 : CameRows w A2 n R) (hn : n ≤ 1000000) :
    Calls Try.prog 22 #[.slice A n c, .slice A2 n c2] w fun e w' => e = .returned (.bool true) ∧ ∃ q, w' = w.drewN q := by
  have dn : ((n : Int) != (n : Int)) = false := by simp
  have HT := Lib.hid (And.intro h1 h2)
  clear h1 h2
  go_enter Try.func22, Try.ntmps22
  go_wp2
  go_loopw [5] (fun i wr => ∃ j : Nat, j ≤ n ∧ i = .int .i64 (j : Int) ∧ Hid (∃ q, wr = w.drewN q)) (fun i _ => n - (intOf i).toNat)
  case atStart => exact ⟨0, Nat.zero_le _, rfl, Lib.hid ⟨0, rfl⟩⟩
  case round =>
    obtain ⟨j, hj, rfl, hq⟩ := hrel
    have bel : Below w.heap.size w wr := by obtain ⟨q, rfl⟩ := hq.out; exact drewN_below w q
    by_cases hlt : j < n
    · obtain ⟨xs, hxs⟩ : ∃ xs, R[j]? = some xs := ⟨_, List.getElem?_eq_getElem (by rw [HT.out.1.len]; exact hlt)⟩
      obtain ⟨ad, B, m, k, rfl, hcell, hcame, hm⟩ := HT.out.1.row j xs hxs
      obtain ⟨ad2, B2, m2, k2, rfl, hcell2, hcame2, _⟩ := HT.out.2.row j xs hxs
      have hm2 : m2 = m := by rw [← hcame2.in_.len, ← hcame.in_.len]
      subst hm2
      have hc1 : wr.cell? (ad.add j) = some (.slice B m2 k) := (bel.cell (World.block_lt_of_cell? w _ hcell)).trans hcell
      have hc2 : wr.cell? (ad2.add j) = some (.slice B2 m2 k2) := (bel.cell (World.block_lt_of_cell? w _ hcell2)).trans hcell2
      have C := Lib.hid (fun q => sameBytes_yes B B2 m2 k k2 xs (wr.drewN q) ((hcame.in_.below bel).drewN q) ((hcame2.in_.below bel).drewN q) (by omega))
      have hji : (j : Int) < (n : Int) := by omega
      clear hxs hcell hcell2 hcame hcame2 bel hm dn
      go_wp2
      go_quiet ((go_at_call 23; exact Calls.quiet_of (C.out _)))
      go_wp2
      go_roundw
      case rel =>
        refine ⟨j + 1, by omega, by go_num, ?_⟩
        obtain ⟨q, hq'⟩ := hq.out
        exact Lib.hid ⟨q + nq, by rw [hq', World.drewN_drewN]⟩
      case measure => simp [intOf]; omega
    · obtain rfl : j = n := by omega
      have hji : decide ((j : Int) < (j : Int)) = false := by simp
      clear bel dn
      go_wp2
      go_ret
      exact ⟨rfl, hq.out⟩

end Go.Proofs.Ytolbchknjcipiaa
