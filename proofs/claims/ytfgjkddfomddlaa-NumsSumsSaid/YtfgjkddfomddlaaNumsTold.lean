/-
  NumsTold: of bytes ahead of which any number is told just so many, the first ones, are got; if there are fewer, none.
-/
import Derived.Test.YtfgjkddfomddlaaNumsNext
namespace Go.Proofs.Ytfgjkddfomddlaa
open Go.RowKit

theorem fold_dg (n k : Nat) : ∀ a, (dg n k).foldl (fun n d => n * 256 + d) a = a * 256 ^ k + n % 256 ^ k := by
  induction k with
  | zero => intro a; simp [dg, Nat.mod_one]
  | succ k ih =>
    intro a
    rw [dg, List.foldl_cons, ih, Nat.pow_succ, Nat.mod_mul, Nat.add_mul, Nat.mul_assoc, Nat.mul_comm 256 (256 ^ k), Nat.mul_comm (n / 256 ^ k % 256)]
    omega
theorem val_dg (n k : Nat) : val (dg n k) = n % 256 ^ k := by
  have := fold_dg n k 0
  simpa [val] using this
theorem val_told (n k : Nat) (xs : List Nat) (h : n < 256 ^ k) : val ((dg n k ++ xs).take k) = n := by
  have e : (dg n k ++ xs).take k = dg n k := by
    rw [List.take_append, dg_length, Nat.sub_self, List.take_of_length_le (Nat.le_of_eq (dg_length n k))]
    simp
  rw [e, val_dg, Nat.mod_eq_of_lt h]
theorem bytes_append {xs ys : List Nat} (h : ∀ x ∈ xs, x < 256) (k : ∀ x ∈ ys, x < 256) : ∀ x ∈ xs ++ ys, x < 256 := by
  intro x hx
  rcases List.mem_append.1 hx with hx | hx
  · exact h x hx
  · exact k x hx
theorem drop_dg (n k : Nat) (xs : List Nat) : (dg n k ++ xs).drop k = xs := by
  rw [List.drop_append, dg_length, Nat.sub_self, List.drop_of_length_le (Nat.le_of_eq (dg_length n k))]
  rfl
theorem own_cap {w : World} {base : Nat} {e : TypeId} {size : Nat} {A : Option Addr} {n c : Nat} {xs : List Value} (h : w.ownsRow base e size (.slice A n c) n xs) : n ≤ c := by
  rcases h.2 with ⟨e1, h0⟩ | ⟨g, cap, cur, e1, _, _, hle, _⟩
  · omega
  · cases e1; exact hle

set_option maxRecDepth 100000 in
set_option maxHeartbeats 1000000 in
theorem told_long (A : Option Addr) (n c : Nat) (t : Int) (w : World) (h : 30000 < n) :
    Calls Try.prog 5 #[.slice A n c, .int .u32 t] w fun e w' => e = .returned (.bool true) ∧ Below w.heap.size w w' := by
  go_enter Try.func5, Try.ntmps5
  go_wp2_with fail
  refine (alive_any _).mono ?_
  rintro e w3 ⟨rfl, hb3⟩
  go_wp2_with fail
  go_ret
  exact ⟨rfl, hb3⟩

set_option maxRecDepth 100000 in
set_option maxHeartbeats 1000000 in
/-- More is told than there is. -/
theorem told_more (A : Option Addr) (n c t : Nat) (xs : List Nat) (w : World) (hin : In w A n xs) (hx : ∀ x ∈ xs, x < 256) (hnil : A = none → c = 0) (h : n ≤ 30000) (ht : n < t) (ht2 : t < 4294967296) :
    Calls Try.prog 5 #[.slice A n c, .int .u32 (t : Int)] w fun e w' => e = .returned (.bool true) ∧ Below w.heap.size w w' := by
  have R := Nat.le_refl w.heap.size
  go_enter Try.func5, Try.ntmps5
  go_wp2_with fail
  refine (put_nil t 4 (by omega) _).mono ?_
  rintro e w1 ⟨A1, c1, rfl, ho1, hb1⟩
  have i1 : In w1 A1 4 (dg t 4) := In.of_own ho1
  have l1 := own_cap ho1
  clear ho1
  have S1 := Lib.hid (loose3 (getBytes_short A1 4 c1 (dg t 4) w1 i1 (dg_lt t 4) (by omega) l1 (by have := val_told t 4 [] (by omega); rw [List.append_nil] at this; rw [this]; omega) (by omega)))
  go_wp2_with fail
  refine (S1.out).mono ?_
  clear S1
  rintro e w2 ⟨rfl, hb2⟩
  have H := below_on hb1 R hb2
  clear hb1 hb2 i1 l1
  go_wp2_with fail
  refine (put_nil t 4 (by omega) _).mono ?_
  rintro e w3 ⟨A3, c3, rfl, ho3, hb3⟩
  have i3 := hin.below (below_on H R hb3)
  have z3 := hb3.size
  go_wp2_with (at_builtin; refine wpList_app _ rfl (.tmp 41) (.tmp 42) rfl w2.heap.size A3 4 c3 (dg t 4) rfl ho3 A n c xs rfl i3 hnil (by omega) z3 ?_; intro A4 c4 w4 ho4 hb4)
  have i4 : In w4 A4 (4 + n) (dg t 4 ++ xs) := In.of_own ho4
  have l4 := own_cap ho4
  have S4 := Lib.hid (loose3 (getBytes_short A4 (4 + n) c4 (dg t 4 ++ xs) w4 i4 (bytes_append (dg_lt t 4) hx) (by omega) l4 (by rw [val_told t 4 xs (by omega)]; omega) (by omega)))
  refine (S4.out).mono ?_
  clear S4
  rintro e w5 ⟨rfl, hb5⟩
  replace H := below_on (below_on H R (hb3.trans hb4)) R hb5
  clear hb3 hb4 hb5 i3 i4 l4 ho3 ho4 z3 hx hin hnil
  go_wp2_with fail
  refine (alive_any _).mono ?_
  rintro e w6 ⟨rfl, hb6⟩
  go_wp2_with fail
  go_ret
  exact ⟨rfl, below_on H R hb6⟩

set_option maxRecDepth 100000 in
set_option maxHeartbeats 1000000 in
/-- There is as much as is told, and some is. -/
theorem told_some (A : Option Addr) (n c t : Nat) (xs : List Nat) (w : World) (hin : In w A n xs) (hx : ∀ x ∈ xs, x < 256) (hnil : A = none → c = 0) (hc : n ≤ c) (h : n ≤ 30000) (ht : t ≤ n) (ht2 : 0 < t) :
    Calls Try.prog 5 #[.slice A n c, .int .u32 (t : Int)] w fun e w' => e = .returned (.bool true) ∧ Below w.heap.size w w' := by
  have R := Nat.le_refl w.heap.size
  go_enter Try.func5, Try.ntmps5
  go_wp2_with fail
  refine (put_nil t 4 (by omega) _).mono ?_
  rintro e w1 ⟨A1, c1, rfl, ho1, hb1⟩
  have i1 : In w1 A1 4 (dg t 4) := In.of_own ho1
  have l1 := own_cap ho1
  clear ho1
  have S1 := Lib.hid (loose3 (getBytes_short A1 4 c1 (dg t 4) w1 i1 (dg_lt t 4) (by omega) l1 (by have := val_told t 4 [] (by omega); rw [List.append_nil] at this; rw [this]; omega) (by omega)))
  go_wp2_with fail
  refine (S1.out).mono ?_
  clear S1
  rintro e w2 ⟨rfl, hb2⟩
  have H := below_on hb1 R hb2
  clear hb1 hb2 i1 l1
  go_wp2_with fail
  refine (put_nil t 4 (by omega) _).mono ?_
  rintro e w3 ⟨A3, c3, rfl, ho3, hb3⟩
  have i3 := hin.below (below_on H R hb3)
  have z3 := hb3.size
  go_wp2_with (at_builtin; refine wpList_app _ rfl (.tmp 41) (.tmp 42) rfl w2.heap.size A3 4 c3 (dg t 4) rfl ho3 A n c xs rfl i3 hnil (by omega) z3 ?_; intro A4 c4 w4 ho4 hb4)
  have i4 : In w4 A4 (4 + n) (dg t 4 ++ xs) := In.of_own ho4
  have l4 := own_cap ho4
  have S4 := Lib.hid (getBytes_ok A4 (4 + n) c4 t (dg t 4 ++ xs) w4 i4 (bytes_append (dg_lt t 4) hx) (by omega) l4 (val_told t 4 xs (by omega)) (by omega) (by omega))
  rw [drop_dg] at S4
  refine (S4.out).mono ?_
  clear S4
  rintro e w5 ⟨A5, c5, rfl, ho5, hb5⟩
  have i5 : In w5 A5 t (xs.take t) := In.of_own ho5
  have i6 := hin.below (below_on (below_on H R (hb3.trans hb4)) R hb5)
  replace H := below_on (below_on H R (hb3.trans hb4)) R hb5
  clear hb3 hb4 hb5 i3 i4 l4 ho3 ho4 z3 hx hnil ho5
  go_wp2_with fail
  refine (alive_any _).mono ?_
  rintro e w6 ⟨rfl, hb6⟩
  replace i5 := i5.below hb6
  replace i6 := (i6.below hb6).take ht
  replace H := below_on H R hb6
  clear hb6 hin
  have t1 : ((t : Nat) : Int) ≤ (c : Int) := by omega
  go_wp2_with fail
  refine (looseN (sameBytes_yes A5 A t c5 c (xs.take t) _ i5 i6 (by omega))).mono ?_
  rintro e w7 ⟨rfl, hb7⟩
  go_wp2_with fail
  go_ret
  exact ⟨rfl, below_on H R hb7⟩

set_option maxRecDepth 100000 in
set_option maxHeartbeats 1000000 in
/-- Nothing is told. -/
theorem told_none (A : Option Addr) (n c : Nat) (xs : List Nat) (w : World) (hin : In w A n xs) (hx : ∀ x ∈ xs, x < 256) (hnil : A = none → c = 0) (h : n ≤ 30000) :
    Calls Try.prog 5 #[.slice A n c, .int .u32 0] w fun e w' => e = .returned (.bool true) ∧ Below w.heap.size w w' := by
  have R := Nat.le_refl w.heap.size
  go_enter Try.func5, Try.ntmps5
  go_wp2_with fail
  refine (put_nil 0 4 (by omega) _).mono ?_
  rintro e w1 ⟨A1, c1, rfl, ho1, hb1⟩
  have i1 : In w1 A1 4 (dg 0 4) := In.of_own ho1
  have l1 := own_cap ho1
  clear ho1
  go_wp2_with fail
  refine (getBytes_ok A1 4 c1 0 (dg 0 4) w1 i1 (dg_lt 0 4) (by omega) l1 rfl (by omega) (by omega)).mono ?_
  rintro e w2 ⟨A2, c2, rfl, ho2, hb2⟩
  have H := below_on hb1 R hb2
  clear hb1 hb2 i1 l1 ho2
  go_wp2_with fail
  refine (put_nil 0 4 (by omega) _).mono ?_
  rintro e w3 ⟨A3, c3, rfl, ho3, hb3⟩
  have i3 := hin.below (below_on H R hb3)
  have z3 := hb3.size
  go_wp2_with (at_builtin; refine wpList_app _ rfl (.tmp 41) (.tmp 42) rfl w2.heap.size A3 4 c3 (dg 0 4) rfl ho3 A n c xs rfl i3 hnil (by omega) z3 ?_; intro A4 c4 w4 ho4 hb4)
  have i4 : In w4 A4 (4 + n) (dg 0 4 ++ xs) := In.of_own ho4
  have l4 := own_cap ho4
  have S4 := Lib.hid (getBytes_ok A4 (4 + n) c4 0 (dg 0 4 ++ xs) w4 i4 (bytes_append (dg_lt 0 4) hx) (by omega) l4 (val_told 0 4 xs (by omega)) (by omega) (by omega))
  refine (S4.out).mono ?_
  clear S4
  rintro e w5 ⟨A5, c5, rfl, ho5, hb5⟩
  replace H := below_on (below_on H R (hb3.trans hb4)) R hb5
  clear hb3 hb4 hb5 i3 i4 l4 ho3 ho4 z3 hx hnil ho5
  go_wp2_with fail
  refine (alive_any _).mono ?_
  rintro e w6 ⟨rfl, hb6⟩
  replace H := below_on H R hb6
  clear hb6 hin
  go_wp2_with fail
  refine (looseN (sameBytes_yes A5 A 0 c5 c [] _ (In.none_ _ _) (In.none_ _ _) (by omega))).mono ?_
  rintro e w7 ⟨rfl, hb7⟩
  go_wp2_with fail
  go_ret
  exact ⟨rfl, below_on H R hb7⟩

end Go.Proofs.Ytfgjkddfomddlaa
