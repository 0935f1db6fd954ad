/-
  nums.GetBytes and nums.PutBytes; SameBytes.
-/
import Derived.Test.YtfgjkddfomddlaaNumsGet
import Derived.Deep.QuietTactic
import Derived.BigQuiet
import Derived.Laws.AppendOwnNone
namespace Go.Proofs.Ytfgjkddfomddlaa
open Go.RowKit

/-- A call has answered the bytes ys, a number, and no error. -/
def Gives3 (base : Nat) (w : World) (n : Nat) (ys : List Nat) (took : Int) (e : Ending) (w' : World) : Prop :=
  ∃ A c, e = .returned (.tuple #[.slice A n c, .int .i64 took, .int .i64 0]) ∧ w'.ownsRow base 5 1 (.slice A n c) n (bvs ys) ∧ Below base w w'

def Short3 (w : World) (e : Ending) (w' : World) : Prop := e = .returned (.tuple #[.slice none 0 0, .int .i64 0, .int .i64 5]) ∧ w = w'

theorem In.cut {w : World} {A : Option Addr} {n : Nat} {xs : List Nat} (h : In w A n xs) {k c : Nat} (hk : k ≤ n) (hc : n ≤ c) :
    In w (if c = k then A else A.map (·.add k)) (n - k) (xs.drop k) := by
  refine ⟨by rw [List.length_drop, h.len], ?_⟩
  by_cases hn : n = k
  · have : xs.drop k = [] := List.eq_nil_of_length_eq_zero (by rw [List.length_drop, h.len]; omega)
    rw [this]
    exact Rd.nil _ _
  · rw [if_neg (by omega)]
    obtain ⟨ad, x, rfl, _⟩ := h.at_ (show 0 < n by omega)
    exact h.rd.drop k

/-- 'append(out, l...)' of bytes, out a row of the call's own, l whatever: nil, empty, or not. -/
theorem wpList_app {ops : Array Oper} {rest : List Oper} {o : Oper} {a : Act} {Q : Exit → Act → World → Prop} (w : World) (hgd : o.guard = none) (s x : Operand)
    (ho : o.op = .call { callee := .builtin .append, args := #[s, x], argTypes := #[23, 23] })
    (base : Nat) (A : Option Addr) (n c : Nat) (xs : List Nat) (hs : a.eval s = .slice A n c) (hown : w.ownsRow base 5 1 (.slice A n c) n (bvs xs))
    (A2 : Option Addr) (m c2 : Nat) (ys : List Nat) (hx : a.eval x = .slice A2 m c2) (hin : In w A2 m ys) (hnil : A2 = none → c2 = 0) (hle : n + m ≤ 140737488355328) (hbase : base ≤ w.heap.size)
    (h : ∀ A' c' w', w'.ownsRow base 5 1 (.slice A' (n + m) c') (n + m) (bvs (xs ++ ys)) → Below base w w' → wpList Try.prog ops Q rest (a.put o.dst (.slice A' (n + m) c')) w') :
    wpList Try.prog ops Q (o :: rest) a w := by
  obtain ⟨i0, hi, hz0, hz1, hz2⟩ := info_parts infoByte
  cases A2 with
  | none =>
    obtain rfl := hnil rfl
    have hy : ys = [] := by
      cases ys with
      | nil => rfl
      | cons y ys =>
        obtain ⟨ad, e, _⟩ := hin.rd 0 y rfl
        cases e
    subst hy
    obtain rfl : m = 0 := hin.len.symm
    refine wpList_append_own_none hgd s x 23 ho base 5 i0 1 Try.underlying23 hi _ n (bvs xs) hs hown hx ?_
    exact h A c w (by simpa using hown) (Below.refl _ _)
  | some ad =>
    refine wpList_append_own w hgd s x 23 ho base 5 i0 _ 1 1 Try.underlying23 hi hz0 hz1 hz2 rfl (by decide) _ n (bvs xs) hs hown ad m c2 (bvs ys) hx (by rw [bvs_length, hin.len]; simp) ?_ (bvs_oneCell ys) (by unfold maxLen; omega) (by omega) hbase ?_
    · intro j u hu
      rw [bvs_get] at hu
      obtain ⟨y, hy, rfl⟩ := Option.map_eq_some_iff.1 hu
      obtain ⟨ad', e, hc⟩ := hin.rd j y hy
      cases e
      exact hc
    · intro v' w' h2 h3 _
      rw [← bvs_append] at h2
      obtain ⟨A', c', rfl⟩ := own_form h2
      exact h A' c' w' h2 ((Below.refl _ _).grown h3 hbase fun k hk => (hown.lt k hk).1)

set_option maxHeartbeats 400000 in
theorem getBytes_short4 (A : Option Addr) (n c : Nat) (w : World) (h : n < 4) :
    Calls Try.prog 11 #[.slice A n c] w (Short3 w) := by
  go_enter Try.func11, Try.ntmps11
  go_wp2_with fail
  refine (get_short A n c 4 w (by omega) h).mono ?_
  rintro e w1 ⟨rfl, rfl⟩
  go_wp2_with fail
  go_ret3
  exact ⟨rfl, rfl⟩

set_option maxHeartbeats 400000 in
theorem getBytes_short (A : Option Addr) (n c : Nat) (xs : List Nat) (w : World) (hin : In w A n xs) (hb : ∀ x ∈ xs, x < 256) (h : 4 ≤ n) (hc : n ≤ c) (hs : n - 4 < val (xs.take 4)) (hmax : n ≤ 200000000000000) :
    Calls Try.prog 11 #[.slice A n c] w (Short3 w) := by
  have C := Lib.hid (get_ok A n c 4 xs w hin hb (by omega) h hc)
  have HB := Lib.hid hb
  clear hb
  generalize val (xs.take 4) = m at *
  obtain ⟨ad, x, rfl, _⟩ := hin.at_ (show 0 < n by omega)
  go_enter Try.func11, Try.ntmps11
  go_wp2_with fail
  refine (C.out).mono ?_
  rintro e w1 ⟨rfl, rfl⟩
  go_wp2_with fail
  all_goals
    go_ret3
    exact ⟨rfl, rfl⟩

theorem In.drop_take {w : World} {ad : Addr} {n : Nat} {xs : List Nat} (h : In w (some ad) n xs) {k m : Nat} (hm : k + m ≤ n) : In w (some (ad.add k)) m ((xs.drop k).take m) :=
  ⟨by rw [List.length_take, List.length_drop, h.len]; omega, (h.rd.drop k).take m⟩

set_option maxHeartbeats 400000 in
theorem getBytes_ok (A : Option Addr) (n c m : Nat) (xs : List Nat) (w : World) (hin : In w A n xs) (hb : ∀ x ∈ xs, x < 256) (h : 4 ≤ n) (hc : n ≤ c) (hm : val (xs.take 4) = m) (hs : m ≤ n - 4) (hmax : n ≤ 200000000000000) :
    Calls Try.prog 11 #[.slice A n c] w (Gives3 w.heap.size w m ((xs.drop 4).take m) (4 + (m : Int))) := by
  have C := Lib.hid (get_ok A n c 4 xs w hin hb (by omega) h hc)
  rw [hm] at C
  clear hb hm
  obtain ⟨ad, x, rfl, _⟩ := hin.at_ (show 0 < n by omega)
  by_cases hc4 : c = 4
  · subst hc4
    obtain rfl : n = 4 := by omega
    obtain rfl : m = 0 := by omega
    have C2 := Lib.hid (grown_any (some ad) 0 0 0 [] w (In.none_ _ _) (by omega))
    go_enter Try.func11, Try.ntmps11
    go_wp2_with fail
    refine (C.out).mono ?_
    rintro e w1 ⟨rfl, rfl⟩
    go_wp2_with fail
    refine (C2.out).mono ?_
    rintro e w1 ⟨rfl, ho, hb1⟩
    go_wp2_with fail
    go_ret3
    exact ⟨_, _, rfl, ho, hb1⟩
  · have C2 := Lib.hid (grown_any (some (ad.add 4)) m (c - 4) 0 ((xs.drop 4).take m) w (hin.drop_take (by omega)) (by omega))
    rw [show ad.add 4 = { block := ad.block, off := ad.off + 4, spot := none } from rfl] at C2
    go_enter Try.func11, Try.ntmps11
    go_wp2_with fail
    refine (C.out).mono ?_
    rintro e w1 ⟨rfl, rfl⟩
    go_wp2_with fail
    refine (C2.out).mono ?_
    rintro e w1 ⟨rfl, ho, hb1⟩
    go_wp2_with fail
    go_ret3
    exact ⟨_, _, rfl, ho, hb1⟩

set_option maxHeartbeats 400000 in
theorem putBytes_any (A A2 : Option Addr) (n c m c2 : Nat) (xs ys : List Nat) (w : World) (hin : In w A n xs) (hin2 : In w A2 m ys) (hnil : A2 = none → c2 = 0) (hn : n ≤ 1000000000) (hm : m ≤ 1000000000) :
    Calls Try.prog 17 #[.slice A n c, .slice A2 m c2] w (Gives w.heap.size w (n + 4 + m) (xs ++ dg m 4 ++ ys)) := by
  have C1 := Lib.hid (grown_any A n c (4 + m) xs w hin (by omega))
  have ec : ((4 + m : Nat) : Int) = 4 + (m : Int) := by omega
  rw [ec] at C1
  clear ec
  have C2 := Lib.hid (appendDigits_any (base := w.heap.size) (L := n) (xs := xs) (N := m) (k := 4) (hk := by omega) (hlen := by omega))
  go_enter Try.func17, Try.ntmps17
  go_wp2_with fail
  refine (C1.out).mono ?_
  rintro e w1 ⟨rfl, ho, hb⟩
  go_wp2_with fail
  refine (C2.out _ _ _ hb.size ho).mono ?_
  rintro e w2 ⟨A3, c3, rfl, ho2, hb2⟩
  have hin3 := hin2.below (hb.trans hb2)
  go_wp2_with (at_builtin; refine wpList_app _ rfl (.tmp 16) (.tmp 17) rfl w.heap.size A3 (n + 4) c3 (xs ++ dg m 4) rfl ho2 A2 m c2 ys rfl hin3 hnil (by omega) (by have := hb.size; have := hb2.size; omega) ?_; intro A4 c4 w4 ho4 hb4)
  go_ret
  exact ⟨A4, c4, rfl, ho4, (hb.trans hb2).trans hb4⟩

end Go.Proofs.Ytfgjkddfomddlaa
