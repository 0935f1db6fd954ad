/-
  almonerref04.On, almonerref04.Of: the document's sum.
-/
import Derived.Test.YtnfjmhoejmhbeaaSumOn
namespace Go.Proofs.Ytnfjmhoejmhbeaa
open Go.RowKit

set_option maxRecDepth 100000 in
set_option maxHeartbeats 1000000 in
theorem refOn_any (s : Nat) (hs : s < 4294967296) (A : Option Addr) (n c : Nat) (xs : List Nat) (w : World) (hin : In w A n xs) (hx : ∀ x ∈ xs, x < 256) (hn : n ≤ 140737488355328) :
    Calls Try.prog 13 #[.int .u32 (s : Int), .slice A n c] w fun e W' => e = .returned (.int .u32 ((onL s xs : Nat) : Int)) ∧ w = W' := by
  obtain ⟨l0, hl0⟩ : ∃ l0, s % 65536 % 65521 = l0 := ⟨_, rfl⟩
  obtain ⟨m0, hm0⟩ : ∃ m0, s / 65536 % 65521 = m0 := ⟨_, rfl⟩
  have e1 : (s : Int) % 65536 % 65521 = (l0 : Int) := by omega
  have e2 : (s : Int) / 65536 % 65521 = (m0 : Int) := by omega
  have hsp : split s = (l0, m0) := by unfold split; rw [hl0, hm0]
  have HS := Lib.hid hsp
  clear hsp hl0 hm0
  go_enter Try.func13, Try.ntmps13
  go_wp2
  go_loopw [5, 6, 7] (fun l m i wr => ∃ (j : Nat), j ≤ n ∧ i = .int .i64 (j : Int) ∧ l = .int .u32 (((ad (split s) (xs.take j)).1 : Nat) : Int) ∧ m = .int .u32 (((ad (split s) (xs.take j)).2 : Nat) : Int) ∧ w = wr) (fun _ _ i _ => n - (intOf i).toNat)
  case atStart => exact ⟨0, by omega, rfl, by rw [List.take_zero, ad_nil, HS.out, ← e1], by rw [List.take_zero, ad_nil, HS.out, ← e2], rfl⟩
  case round =>
    obtain ⟨j, hj, rfl, rfl, rfl, rfl⟩ := hrel
    have hlt0 := ad_lt (split s).1 (split s).2 (split_lt s).1 (split_lt s).2 (xs.take j)
    by_cases hlt : j < n
    · obtain ⟨ad', x, rfl, hxj, hcell⟩ := hin.at_ hlt
      have hx256 : x < 256 := hx x (List.mem_of_getElem? hxj)
      have tk : ad (split s) (xs.take (j + 1)) = (((ad (split s) (xs.take j)).1 + x) % 65521, ((ad (split s) (xs.take j)).2 + ((ad (split s) (xs.take j)).1 + x) % 65521) % 65521) := by rw [take_snoc_of hxj, ad_snoc]
      obtain ⟨l, hl⟩ : ∃ l, (ad (split s) (xs.take j)).1 = l := ⟨_, rfl⟩
      obtain ⟨m, hm⟩ : ∃ m, (ad (split s) (xs.take j)).2 = m := ⟨_, rfl⟩
      change (ad (split s) (xs.take j)).1 < 65521 ∧ (ad (split s) (xs.take j)).2 < 65521 at hlt0
      rw [hl, hm] at tk hlt0
      rw [hl, hm]
      have HT := Lib.hid tk
      clear tk hl hm hxj e1 e2
      go_wp2
      refine ⟨⟨j + 1, by omega, by go_num, ?_, ?_, trivial⟩, by simp [intOf]; omega⟩
      · rw [HT.out]
        congr 1
      · rw [HT.out]
        congr 1
    · obtain rfl : j = n := by omega
      have hres : onL s xs = two (ad (split s) (xs.take j)) := by rw [List.take_of_length_le (by rw [hin.len]; omega)]; rfl
      unfold two at hres
      change (ad (split s) (xs.take j)).1 < 65521 ∧ (ad (split s) (xs.take j)).2 < 65521 at hlt0
      obtain ⟨l, hl⟩ : ∃ l, (ad (split s) (xs.take j)).1 = l := ⟨_, rfl⟩
      obtain ⟨m, hm⟩ : ∃ m, (ad (split s) (xs.take j)).2 = m := ⟨_, rfl⟩
      rw [hl, hm] at hres hlt0
      rw [hl, hm]
      have HR := Lib.hid hres
      clear hl hm hres
      go_wp2
      go_ret
      rw [HR.out]
      simp

set_option maxRecDepth 100000 in
set_option maxHeartbeats 1000000 in
theorem refOf_any (A : Option Addr) (n c : Nat) (xs : List Nat) (w : World) (hin : In w A n xs) (hx : ∀ x ∈ xs, x < 256) (hn : n ≤ 140737488355328) :
    Calls Try.prog 11 #[.slice A n c] w fun e W' => e = .returned (.int .u32 ((ofL xs : Nat) : Int)) ∧ w = W' := by
  have hOn := refOn_any 1 (by decide) A n c xs w hin hx hn
  go_enter Try.func11, Try.ntmps11
  go_wp2_with fail
  refine hOn.mono ?_
  rintro e w1 ⟨rfl, rfl⟩
  go_wp2_with fail
  go_ret
  exact ⟨rfl, rfl⟩

end Go.Proofs.Ytnfjmhoejmhbeaa
