/-
  nums.Get, GetBytes, GetSums and the document's: whatever they are asked they answer the same.
-/
import Derived.Test.YtoojlpbfldnkpaaDoorLGetBytes
import Derived.Test.YtoojlpbfldnkpaaDoorLGetSums
import Derived.Test.YtoojlpbfldnkpaaDoorLRef1b
import Derived.Test.YtoojlpbfldnkpaaDoorLRef1c
namespace Go.Proofs.YtoojlpbfldnkpaaDoor
open Go.RowKit

/-- Bytes of memory of the call's own, a number, and an error. -/
def GivesE (base : Nat) (w : World) (n : Nat) (ys : List Nat) (took er : Int) (e : Ending) (w' : World) : Prop :=
  ∃ A c, e = .returned (.tuple #[.slice A n c, .int .i64 took, .int .i64 er]) ∧ w'.ownsRow base 5 1 (.slice A n c) n (bvs ys) ∧ Below base w w'
/-- Sums likewise. -/
def GivesSE (base : Nat) (w : World) (n : Nat) (ys : List Nat) (took er : Int) (e : Ending) (w' : World) : Prop :=
  ∃ A c, e = .returned (.tuple #[.slice A n c, .int .i64 took, .int .i64 er]) ∧ w'.ownsRow base 54 32 (.slice A n c) n (bvs ys) ∧ Below base w w'

theorem get_both (n : Nat) (z : Int) (xs : List Nat) (hb : ∀ x ∈ xs, x < 256) : ∃ v er : Int,
    (∀ (W : World) (A : Option Addr) (c : Nat), In W A n xs → n ≤ c → Calls Tryd.prog 8 #[.slice A n c, .int .i64 z] W fun e w' => e = .returned (.tuple #[.int .u64 v, .int .i64 er]) ∧ W = w') ∧
    (∀ (W : World) (A : Option Addr) (c : Nat), In W A n xs → Calls Tryd.prog 13 #[.slice A n c, .int .i64 z] W fun e w' => e = .returned (.tuple #[.int .u64 v, .int .i64 er]) ∧ Below W.heap.size W w') := by
  by_cases hz : z < 0 ∨ 8 < z
  · exact ⟨0, 1, fun W A c _ _ => get_arg A n c z W hz, fun W A c _ => (refGet_arg A n c z W hz).mono fun e w' ⟨he, hw⟩ => ⟨he, hw ▸ Below.refl _ _⟩⟩
  · obtain ⟨k, rfl⟩ := Int.eq_ofNat_of_zero_le (show 0 ≤ z by omega)
    by_cases hn : n < k
    · exact ⟨0, 5, fun W A c _ _ => get_short A n c k W (by omega) hn, fun W A c _ => (refGet_short A n c k W (by omega) hn).mono fun e w' ⟨he, hw⟩ => ⟨he, hw ▸ Below.refl _ _⟩⟩
    · exact ⟨_, 0, fun W A c hi hc => get_ok A n c k xs W hi hb (by omega) (by omega) hc, fun W A c hi => (refGet_ok A n c k xs W hi hb (by omega) (by omega)).mono fun e w' ⟨he, q, hw⟩ => ⟨he, hw ▸ ⟨rfl, rfl, rfl, Nat.le_refl _, fun _ _ => rfl⟩⟩⟩

theorem getBytes_both (n : Nat) (xs : List Nat) (hb : ∀ x ∈ xs, x < 256) (hl : xs.length = n) (hn : n ≤ 30000) : ∃ (m : Nat) (ys : List Nat) (took er : Int), m ≤ 30000 ∧
    (∀ (W : World) (A : Option Addr) (c : Nat), In W A n xs → n ≤ c → Calls Tryd.prog 9 #[.slice A n c] W (GivesE W.heap.size W m ys took er)) ∧
    (∀ (W : World) (A : Option Addr) (c : Nat), In W A n xs → (A = none → c = 0) → n ≤ c → Calls Tryd.prog 14 #[.slice A n c] W (GivesE W.heap.size W m ys took er)) := by
  by_cases h4 : n < 4
  · refine ⟨0, [], 0, 5, by omega, fun W A c hi hc => (getBytes_short4 A n c W h4).mono ?_, fun W A c hi _ _ => (refGetBytes_short A n c xs W hi hb (by omega) (.inl h4)).mono ?_⟩
    · rintro e w' ⟨rfl, rfl⟩; exact ⟨none, 0, rfl, World.ownsRow_nil _ _ _ _, Below.refl _ _⟩
    · rintro e w' ⟨rfl, hbl⟩; exact ⟨none, 0, rfl, World.ownsRow_nil _ _ _ _, hbl⟩
  · by_cases hs : n - 4 < val (xs.take 4)
    · refine ⟨0, [], 0, 5, by omega, fun W A c hi hc => (getBytes_short A n c xs W hi hb (by omega) hc hs (by omega)).mono ?_, fun W A c hi _ _ => (refGetBytes_short A n c xs W hi hb (by omega) (.inr (by omega))).mono ?_⟩
      · rintro e w' ⟨rfl, rfl⟩; exact ⟨none, 0, rfl, World.ownsRow_nil _ _ _ _, Below.refl _ _⟩
      · rintro e w' ⟨rfl, hbl⟩; exact ⟨none, 0, rfl, World.ownsRow_nil _ _ _ _, hbl⟩
    · exact ⟨val (xs.take 4), (xs.drop 4).take (val (xs.take 4)), 4 + (val (xs.take 4) : Int), 0, by omega, fun W A c hi hc => getBytes_ok A n c _ xs W hi hb (by omega) hc rfl (by omega) (by omega),
        fun W A c hi hnil hc => refGetBytes_ok A n c _ xs W hi hb hnil hc (by omega) (by omega) rfl (by omega)⟩

theorem getSums_both (n : Nat) (xs : List Nat) (hb : ∀ x ∈ xs, x < 256) (hl : xs.length = n) (hn : n ≤ 30000) : ∃ (m : Nat) (ys : List Nat) (took er : Int), m ≤ 30000 ∧
    (∀ (W : World) (A : Option Addr) (c : Nat), In W A n xs → n ≤ c → Calls Tryd.prog 10 #[.slice A n c] W (GivesSE W.heap.size W m ys took er)) ∧
    (∀ (W : World) (A : Option Addr) (c : Nat), In W A n xs → Calls Tryd.prog 16 #[.slice A n c] W (GivesSE W.heap.size W m ys took er)) := by
  by_cases h2 : n < 2
  · refine ⟨0, [], 0, 5, by omega, fun W A c hi hc => (getSums_short2 A n c W h2).mono ?_, fun W A c hi => (refGetSums_short A n c xs W hi hb (by omega) (.inl h2)).mono ?_⟩
    · rintro e w' ⟨rfl, rfl⟩; exact ⟨none, 0, rfl, World.ownsRow_nil _ _ _ _, Below.refl _ _⟩
    · rintro e w' ⟨rfl, hbl⟩; exact ⟨none, 0, rfl, World.ownsRow_nil _ _ _ _, hbl⟩
  · have hv : val (xs.take 2) < 65536 := by
      have := val_lt (xs.take 2) (fun x hx => hb x (List.mem_of_mem_take hx))
      rw [List.length_take, hl, show min 2 n = 2 by omega] at this
      exact this
    by_cases hs : n - 2 < 32 * val (xs.take 2)
    · refine ⟨0, [], 0, 5, by omega, fun W A c hi hc => (getSums_short A n c _ xs W hi hb (by omega) hc rfl hs (by omega) hv).mono ?_, fun W A c hi => (refGetSums_short A n c xs W hi hb (by omega) (.inr (by omega))).mono ?_⟩
      · rintro e w' ⟨rfl, rfl⟩; exact ⟨none, 0, rfl, World.ownsRow_nil _ _ _ _, Below.refl _ _⟩
      · rintro e w' ⟨rfl, hbl⟩; exact ⟨none, 0, rfl, World.ownsRow_nil _ _ _ _, hbl⟩
    · exact ⟨val (xs.take 2), (xs.drop 2).take (32 * val (xs.take 2)), 2 + 32 * (val (xs.take 2) : Int), 0, by omega, fun W A c hi hc => getSums_ok A n c _ xs W hi hb (by omega) hc rfl (by omega) (by omega) hv,
        fun W A c hi => refGetSums_ok A n c _ xs W hi hb (by omega) (by omega) rfl hv (by omega)⟩

end Go.Proofs.YtoojlpbfldnkpaaDoor
