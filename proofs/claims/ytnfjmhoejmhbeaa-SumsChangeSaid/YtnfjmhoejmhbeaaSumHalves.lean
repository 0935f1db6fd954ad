/-
  SumsHalves: the low half is one and all bytes together, the high one how many there are, and each as often as there are from it on.
-/
import Derived.Test.YtnfjmhoejmhbeaaSumAlive
import Derived.Test.YtnfjmhoejmhbeaaLRow
namespace Go.Proofs.Ytnfjmhoejmhbeaa
open Go.RowKit

theorem drop_cons_of {xs : List Nat} {j x : Nat} (h : xs[j]? = some x) : xs.drop j = x :: xs.drop (j + 1) := by
  obtain ⟨hl, e⟩ := List.getElem?_eq_some_iff.1 h
  rw [List.drop_eq_getElem_cons hl, e]

set_option maxRecDepth 100000 in
set_option maxHeartbeats 1000000 in
theorem sumsHalves_law (w : World) {A : Option Addr} {n c : Nat} {xs : List Nat} (h : Came w A n c xs) :
    Calls Try.prog 4 #[.slice A n c] w fun e w' => e = .returned (.bool true) ∧ Below w.heap.size w w' := by
  go_enter Try.func4, Try.ntmps4
  by_cases hn : n ≤ 50000
  · have hin := h.in_
    have hsm := sm_le h.lt
    have hwt := wt_le h.lt
    have hsq : xs.length * (xs.length + 1) ≤ 50000 * 50001 := by rw [hin.len]; exact Nat.mul_le_mul hn (by omega)
    have hlen := hin.len
    have hW : wt xs < 1000000000000 := by omega
    have hS : sm xs < 1000000000 := by omega
    have H := Lib.hid h
    have HL := Lib.hid hlen
    clear h hsm hwt hsq hlen
    go_wp2
    go_loopw [3, 4, 5] (fun l m i wr => ∃ (j L M : Nat), j ≤ n ∧ i = .int .i64 (j : Int) ∧ l = .int .u64 (L : Int) ∧ m = .int .u64 (M : Int) ∧ L = 1 + sm (xs.take j) ∧ M + wt (xs.drop j) = n + wt xs ∧ w = wr) (fun _ _ i _ => n - (intOf i).toNat)
    case atStart => exact ⟨0, 1, n, by omega, rfl, rfl, rfl, rfl, rfl, rfl⟩
    case round =>
      obtain ⟨j, L, M, hj, rfl, rfl, rfl, hL, hM, rfl⟩ := hrel
      by_cases hlt : j < n
      · obtain ⟨ad, x, rfl, hxj, hcell⟩ := hin.at_ hlt
        have hx256 : x < 256 := H.out.lt x (List.mem_of_getElem? hxj)
        have tk : sm (xs.take (j + 1)) = sm (xs.take j) + x := by rw [take_snoc_of hxj, sm_snoc]
        have dk : wt (xs.drop j) = (n - j) * x + wt (xs.drop (j + 1)) := by
          rw [drop_cons_of hxj, wt, List.length_drop, HL.out, show n - (j + 1) + 1 = n - j by omega]
        have tb : sm (xs.take j) + x ≤ sm xs := by
          have := sm_append (xs.take (j + 1)) (xs.drop (j + 1))
          rw [List.take_append_drop, tk] at this
          omega
        obtain ⟨r, hr⟩ : ∃ r, n - j = r := ⟨_, rfl⟩
        obtain ⟨t, ht⟩ : ∃ t, r * x = t := ⟨_, rfl⟩
        rw [hr, ht] at dk
        have hr' : (n : Int) - (j : Int) = (r : Int) := by omega
        have ht' : (r : Int) * (x : Int) = (t : Int) := by rw [← ht]; simp
        have bL : L + x < 1000000001 := by omega
        have bM : M + t < 1000000100000 := by omega
        have HA := Lib.hid (show L + x = 1 + sm (xs.take (j + 1)) by omega)
        have HB := Lib.hid (show M + t + wt (xs.drop (j + 1)) = n + wt xs by omega)
        clear tk dk tb hr ht hL hM hxj hW hS
        go_wp2
        exact ⟨⟨j + 1, L + x, M + t, by omega, by go_num, by go_num, by go_num, HA.out, HB.out, trivial⟩, by simp [intOf]; omega⟩
      · obtain rfl : j = n := by omega
        rw [List.take_of_length_le (by rw [HL.out]; omega)] at hL
        rw [List.drop_of_length_le (by rw [HL.out]; omega), wt, Nat.add_zero] at hM
        have e1 := ofL_low xs
        have e2 := ofL_high xs
        have C1 := of_any A j c xs w hin H.out.lt (fun e => by have := H.out.nil e; have := H.out.cap; omega) H.out.cap (by omega)
        rw [← hL] at e1
        rw [HL.out, ← hM] at e2
        obtain ⟨r, hr⟩ : ∃ r, ofL xs = r := ⟨_, rfl⟩
        rw [hr] at C1 e1 e2
        have hr32 : r < 4294967296 := by rw [← hr]; exact onL_lt 1 xs
        have e1' : (r : Int) % 65536 = (L : Int) % 65521 := by omega
        have e2' : (r : Int) / 65536 = (M : Int) % 65521 := by omega
        have bL : L < 1000000001 := by omega
        have bM : M < 1000000100000 := by omega
        clear e1 e2 hr hL hM hW hS
        go_wp2_with fail
        refine C1.mono ?_
        rintro e w1 ⟨rfl, b1⟩
        go_wp2_with fail
        refine (alive_any _).mono ?_
        rintro e w2 ⟨rfl, b2⟩
        go_wp2_with fail
        go_ret
        exact ⟨rfl, below_then b1 (Nat.le_refl _) b2⟩
  · go_wp2_with fail
    refine (alive_any _).mono ?_
    rintro e w2 ⟨rfl, b2⟩
    go_wp2_with fail
    go_ret
    exact ⟨rfl, b2⟩

end Go.Proofs.Ytnfjmhoejmhbeaa
