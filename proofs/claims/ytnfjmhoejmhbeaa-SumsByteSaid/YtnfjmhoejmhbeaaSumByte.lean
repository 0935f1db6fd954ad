/-
  SumsByte: with one byte another one.
-/
import Derived.Test.YtnfjmhoejmhbeaaSumAlive
import Derived.Test.YtnfjmhoejmhbeaaSumMine
import Derived.Test.YtnfjmhoejmhbeaaLRow
import Derived.Deep.Cut
namespace Go.Proofs.Ytnfjmhoejmhbeaa
open Go.RowKit

set_option maxRecDepth 100000 in
set_option maxHeartbeats 1000000 in
theorem sumsByte_law (w : World) {A : Option Addr} {n c : Nat} {xs : List Nat} (h : Came w A n c xs) {at_ : Nat} (hat : at_ < 65536) {y : Nat} (hy : y < 256) :
    Calls Try.prog 5 #[.slice A n c, .int .u16 (at_ : Int), .int .u8 (y : Int)] w fun e w' => e = .returned (.bool true) ∧ Below w.heap.size w w' := by
  go_enter Try.func5, Try.ntmps5
  by_cases hn : 0 < n ∧ n ≤ 50000
  · obtain ⟨hn0, hn1⟩ := hn
    have hz : ((n : Int) == 0) = false := by simp; omega
    obtain ⟨k, hk⟩ : ∃ k, at_ % n = k := ⟨_, rfl⟩
    have hkn : k < n := by rw [← hk]; exact Nat.mod_lt _ hn0
    have q0 : Int.tmod (at_ : Int) (n : Int) = (k : Int) := by
      rw [Int.tmod_eq_emod_of_nonneg (by omega), ← hk]; simp
    obtain ⟨ad, x, rfl, hxk, hcell⟩ := h.in_.at_ hkn
    have hx256 : x < 256 := h.lt x (List.mem_of_getElem? hxk)
    have hlow := byte_low (y := y) hxk hx256 hy
    have hsame := byte_same (y := y) hxk hx256 hy
    have hlt : ∀ v ∈ xs.set k y, v < 256 := fun v hv => (List.mem_or_eq_of_mem_set hv).elim (h.lt v) (fun e => by omega)
    obtain ⟨m, hm⟩ : ∃ m, ofL xs = m := ⟨_, rfl⟩
    obtain ⟨r, hr⟩ : ∃ r, ofL (xs.set k y) = r := ⟨_, rfl⟩
    have lm : m < 4294967296 := by rw [← hm]; exact onL_lt 1 xs
    have lr : r < 4294967296 := by rw [← hr]; exact onL_lt 1 _
    have C1 := Lib.hid (fun W (b : Below w.heap.size w W) => of_any (some ad) n c xs W (h.in_.below b) h.lt (fun e => by cases e) h.cap (by omega))
    have C2 := Lib.hid (fun W g d (b : Mine W g n d (xs.set k y)) => of_any (some ⟨g, 0, none⟩) n d (xs.set k y) W b.in_ hlt (fun e => by cases e) b.cap (by omega))
    have HB := Lib.hid (fun W (b : Below w.heap.size w W) => (b.cell (p := ad.add k) (by rw [block_add]; have := World.block_lt_of_cell? w _ hcell; rw [block_add] at this; exact this)).trans hcell)
    rw [hm] at C1
    rw [hr] at C2
    rw [hm, hr] at hlow hsame
    obtain ⟨ml, hml⟩ : ∃ l, m % 65536 = l := ⟨_, rfl⟩
    obtain ⟨rl, hrl⟩ : ∃ l, r % 65536 = l := ⟨_, rfl⟩
    obtain ⟨mo, hmo⟩ : ∃ l, 65521 + y - x = l := ⟨_, rfl⟩
    rw [hml, hrl, hmo] at hlow
    have bl : ml < 65536 ∧ rl < 65536 ∧ mo < 65536 * 2 := by omega
    have q1 : (65521 : Int) + (y : Int) - (x : Int) = (mo : Int) := by omega
    have q2 : (m : Int) % 65536 = (ml : Int) := by omega
    have q3 : (r : Int) % 65536 = (rl : Int) := by omega
    have q4 : ((ml : Int) + (mo : Int)) % 65521 = (rl : Int) := by omega
    have HI := Lib.hid h.in_
    have Q := Lib.hid (And.intro q1 (And.intro q2 (And.intro q3 (And.intro q4 (And.intro bl hsame)))))
    have HK := Lib.hid hxk
    clear hm hr hml hrl hmo hlow hsame bl q1 q2 q3 q4 hxk h hk
    go_upto_region 5 with (at_builtin; refine wpList_app _ rfl (.const (.slice none 0 0)) (.tmp 26) rfl w.heap.size none 0 0 [] rfl (World.ownsRow_nil _ _ _ _) (some ad) n c xs rfl HI.out (fun e => by cases e) (by omega) (Nat.le_refl _) ?_; intro A3 c3 w3 ho3 hb3; rw [List.nil_append, Nat.zero_add] at ho3; obtain ⟨g, rfl, hg, mine⟩ := mine_of ho3 hn0; clear ho3)
    have c0 := mine.in_.at_ hkn
    have cg := mine.cell HK.out
    have fg := mine.free k
    have mine5 := mine.set k y
    have HM := Lib.hid mine5
    have bel5 : Below w.heap.size w (w3.setCell ⟨g, k, none⟩ (.int .u8 (y : Int))) := hb3.setCell (by show w.heap.size ≤ g; exact hg) _
    have HB5 := Lib.hid bel5
    clear mine mine5 bel5 hb3 c0
    go_upto_region 6 with (fail)
    obtain ⟨w5, hw5⟩ : ∃ w5, w5 = w3.setCell ⟨g, k, none⟩ (.int .u8 (y : Int)) := ⟨_, rfl⟩
    rw [← hw5] at HM HB5 ⊢
    clear hw5 cg fg
    go_upto_region 8 with (first
      | (go_at_call 10; refine (C1.out _ HB5.out).mono ?_; rintro e w6 ⟨rfl, b6⟩; have bel6 := below_then HB5.out (Nat.le_refl _) b6; have mine6 := HM.out.below b6)
      | (go_at_call 10; refine (C2.out _ _ _ mine6).mono ?_; rintro e w7 ⟨rfl, b7⟩; have bel7 := below_then bel6 (Nat.le_refl _) b7))
    have hc7 := HB.out _ bel7
    have q1 := Q.out.1
    have HB7 := Lib.hid bel7
    clear b6 bel6 mine6 b7 bel7 q0 hlt hcell hat
    go_upto_region 9 with (fail)
    try rw [q1]
    clear q1 hc7
    go_wp2_with fail
    refine (alive_any _).mono ?_
    rintro e w8 ⟨rfl, b8⟩
    have bel8 := below_then HB7.out (Nat.le_refl _) b8
    have hc8 := HB.out _ bel8
    have HB8 := Lib.hid bel8
    clear b8 bel8 hz hn0 hn1
    have q2 := Q.out.2.1
    have q3 := Q.out.2.2.1
    have q4 := Q.out.2.2.2.1
    have b1 := Q.out.2.2.2.2.1.1
    have b2 := Q.out.2.2.2.2.1.2.1
    have b3 := Q.out.2.2.2.2.1.2.2
    by_cases hyx : y = x
    · obtain rfl : m = r := Q.out.2.2.2.2.2.2 hyx
      subst hyx
      obtain rfl : ml = rl := by omega
      go_wp2_with fail
      go_ret
      exact ⟨rfl, HB8.out⟩
    · have hmr : ¬ m = r := fun e => hyx (Q.out.2.2.2.2.2.1 e)
      have e1 : ((m : Int) == (r : Int)) = false := by simp; omega
      have e2 : ((y : Int) == (x : Int)) = false := by simp; omega
      go_wp2_with fail
      go_ret
      exact ⟨rfl, HB8.out⟩
  · by_cases h0 : n = 0
    · subst h0
      go_wp2_with fail
      refine (alive_any _).mono ?_
      rintro e w2 ⟨rfl, b2⟩
      go_wp2_with fail
      go_ret
      exact ⟨rfl, b2⟩
    · have h5 : ¬ n ≤ 50000 := by omega
      clear hn
      go_wp2_with fail
      refine (alive_any _).mono ?_
      rintro e w2 ⟨rfl, b2⟩
      go_wp2_with fail
      go_ret
      exact ⟨rfl, b2⟩

end Go.Proofs.Ytnfjmhoejmhbeaa
