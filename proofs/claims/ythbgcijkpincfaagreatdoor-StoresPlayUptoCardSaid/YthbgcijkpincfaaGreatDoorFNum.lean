/-
  frames' numbers: sectors, noughts, number, numbers, sumOf.
-/
import Derived.Test.YthbgcijkpincfaaGreatDoorFPure
import Derived.Test.YthbgcijkpincfaaGreatDoorLPut
import Derived.Test.YthbgcijkpincfaaGreatDoorLGet
import Derived.Test.YthbgcijkpincfaaGreatDoorSumOn
namespace Go.Proofs.YthbgcijkpincfaaGreatDoor
open Go.RowKit

theorem own_low {w : World} {base base' : Nat} {e : TypeId} {size : Nat} {v : Value} {n : Nat} {xs : List Value} (h : w.ownsRow base e size v n xs) (hb : base' ≤ base) : w.ownsRow base' e size v n xs := by
  refine ⟨h.1, ?_⟩
  rcases h.2 with h0 | ⟨g, cap, cur, e1, h2, r⟩
  · exact .inl h0
  · exact .inr ⟨g, cap, cur, e1, Nat.le_trans hb h2, r⟩

set_option maxRecDepth 100000 in
theorem sectors_any (c : Nat) (hc : c ≤ 1000000000000) (w : World) : Calls Tryz.prog 178 #[.int .i64 (c : Int)] w fun e w' => e = .returned (.int .i64 ((secs c : Nat) : Int)) ∧ w = w' := by
  have h1 : (18 + (c : Int) + 64 - 1).tdiv 64 = ((secs c : Nat) : Int) := by rw [Int.tdiv_eq_ediv_of_nonneg (by omega)]; unfold secs; omega
  obtain ⟨q, hq⟩ : ∃ q, secs c = q := ⟨_, rfl⟩
  rw [hq] at h1 ⊢
  have hq2 : q ≤ 1000000000000 := by unfold secs at hq; omega
  clear hq
  go_enter Tryz.func178, Tryz.ntmps178
  go_wp2
  go_ret
  exact ⟨rfl, rfl⟩

set_option maxRecDepth 100000 in
theorem noughts_any (c : Nat) (hc : c ≤ 1000000000000) (w : World) : Calls Tryz.prog 306 #[.int .i64 (c : Int)] w fun e w' => e = .returned (.int .i64 ((noug c : Nat) : Int)) ∧ w = w' := by
  have h1 : 64 * ((secs c : Nat) : Int) - 18 - (c : Int) = ((noug c : Nat) : Int) := by unfold noug; have := secs_ge c; omega
  have C := sectors_any c hc w
  have h2 := secs_ge c
  have h3 := secs_lt c
  obtain ⟨q, hq⟩ : ∃ q, secs c = q := ⟨_, rfl⟩
  obtain ⟨m, hm⟩ : ∃ m, noug c = m := ⟨_, rfl⟩
  rw [hq] at h1 h2 h3 C
  rw [hm] at h1 ⊢
  clear hq hm
  go_enter Tryz.func306, Tryz.ntmps306
  go_wp2_with fail
  refine C.mono ?_
  rintro e w' ⟨rfl, rfl⟩
  go_wp2_with fail
  go_ret
  exact ⟨rfl, rfl⟩

set_option maxRecDepth 100000 in
theorem number_any (A : Option Addr) (n c : Nat) (xs : List Nat) (w : World) (hin : In w A n xs) (hx : ∀ x ∈ xs, x < 256) (hn : n ≤ 8) (hc : n ≤ c) :
    Calls Tryz.prog 317 #[.slice A n c] w fun e w' => e = .returned (.int .u64 ((val xs : Nat) : Int)) ∧ w = w' := by
  have C := Lib.hid (get_ok A n c n xs w hin hx hn (Nat.le_refl _) hc)
  rw [← hin.len, List.take_length, hin.len] at C
  clear hx
  go_enter Tryz.func317, Tryz.ntmps317
  go_wp2_with fail
  refine C.out.mono ?_
  rintro e w' ⟨rfl, rfl⟩
  go_wp2_with fail
  go_ret
  exact ⟨rfl, rfl⟩

set_option maxRecDepth 100000 in
theorem numbers_any (num count : Nat) (hc : count < 18446744073709551616) (hc2 : count ≤ 140737488355328) (w : World) :
    Calls Tryz.prog 175 #[.int .u64 (num : Int), .int .i64 (count : Int)] w (Gives w.heap.size w 10 (toldL num count)) := by
  have C1 := Lib.hid (put_nil num 8 (by omega) w)
  have C2 := Lib.hid (fun (A : Option Addr) (c : Nat) (W : World) (h : In W A 8 (dg num 8)) => put_any A 8 c (dg num 8) count 2 2 (kk_nat 2 (by omega)) W h (by omega))
  have hw : IntKind.u64.wrap (count : Int) = (count : Int) := by rw [IntKind.wrap_u64]; omega
  go_enter Tryz.func175, Tryz.ntmps175
  go_wp2_with fail
  refine C1.out.mono ?_
  rintro e w1 ⟨A1, c1, rfl, ho1, hb1⟩
  go_wp2_with fail
  refine (C2.out _ _ _ (In.of_own ho1)).mono ?_
  rintro e w2 ⟨A2, c2, rfl, ho2, hb2⟩
  go_wp2_with fail
  go_ret
  exact ⟨A2, c2, rfl, own_low ho2 hb1.size, hb1.trans (hb2.mono hb1.size)⟩

set_option maxRecDepth 100000 in
theorem sumOf_any (num : Nat) (A : Option Addr) (n c : Nat) (xs : List Nat) (w : World) (hin : In w A n xs) (hx : ∀ x ∈ xs, x < 256) (hA : A = none → n = 0) (hnc : n ≤ c) (hc : n ≤ 140737488355328) :
    Calls Tryz.prog 177 #[.int .u64 (num : Int), .slice A n c] w fun e W' => e = .returned (.int .u64 ((sumL num xs : Nat) : Int)) ∧ Below w.heap.size w W' := by
  have hres : onL (ofL (toldL num n)) xs = sumL num xs := by unfold sumL; rw [hin.len, join_on]
  have hlt := sumL_lt num xs
  have hw : IntKind.u64.wrap ((sumL num xs : Nat) : Int) = ((sumL num xs : Nat) : Int) := by rw [IntKind.wrap_u64]; omega
  have C1 := Lib.hid (numbers_any num n (by omega) (by omega) w)
  have C2 := Lib.hid (fun (A1 : Option Addr) (c1 : Nat) (W : World) (h : In W A1 10 (toldL num n)) (h2 : A1 = none → 10 = 0) (h3 : 10 ≤ c1) => of_any A1 10 c1 (toldL num n) W h (toldL_lt _ _) h2 h3 (by omega))
  have C3 := Lib.hid (fun (W : World) (h : In W A n xs) => on_any (ofL (toldL num n)) (onL_lt 1 _) A n c xs W h hx hA hnc hc)
  rw [hres] at C3
  obtain ⟨s, hs⟩ : ∃ s, sumL num xs = s := ⟨_, rfl⟩
  rw [hs] at hw C3 ⊢
  clear hres hlt hs hx
  obtain ⟨u, hu⟩ : ∃ u, ofL (toldL num n) = u := ⟨_, rfl⟩
  rw [hu] at C2 C3
  go_enter Tryz.func177, Tryz.ntmps177
  go_wp2_with fail
  refine C1.out.mono ?_
  rintro e w1 ⟨A1, c1, rfl, ho1, hb1⟩
  go_wp2_with fail
  refine (C2.out A1 c1 _ (In.of_own ho1) (fun e => by have := own_cap ho1; have := own_nil ho1 e; omega) (own_cap ho1)).mono ?_
  rintro e w2 ⟨rfl, hb2⟩
  go_wp2_with fail
  have hb12 : Below w.heap.size w w2 := hb1.trans (hb2.mono hb1.size)
  refine (C3.out _ (hin.below hb12)).mono ?_
  rintro e w3 ⟨rfl, hb3⟩
  go_wp2_with fail
  go_ret
  exact ⟨rfl, hb12.trans (hb3.mono hb12.size)⟩

end Go.Proofs.YthbgcijkpincfaaGreatDoor
