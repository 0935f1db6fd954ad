/-
  SameSums of two rows of sums that have the same bytes: true. PutSums.
-/
import Derived.Test.YtfgjkddfomddlaaNumsArr
namespace Go.Proofs.Ytfgjkddfomddlaa
open Go.RowKit

/-- '.slice A n c', a slice of sums, reads as n sums, whose bytes are ys. -/
structure InS (w : World) (A : Option Addr) (n : Nat) (ys : List Nat) : Prop where
  len : ys.length = 32 * n
  rd : Rd w A ys

/-- The k-th sum of a row. -/
def nth (ys : List Nat) (k : Nat) : List Nat := (ys.drop (32 * k)).take 32

section
variable {w w' : World} {A : Option Addr} {n : Nat} {ys : List Nat}
theorem InS.below (h : InS w A n ys) (hb : Below w.heap.size w w') : InS w' A n ys := ⟨h.len, h.rd.below hb⟩
theorem InS.drewN (h : InS w A n ys) (q : Nat) : InS (w.drewN q) A n ys := ⟨h.len, h.rd⟩
theorem InS.none_ (w : World) (A : Option Addr) : InS w A 0 [] := ⟨rfl, Rd.nil _ _⟩
theorem nth_length (h : ys.length = 32 * n) {k : Nat} (hk : k < n) : (nth ys k).length = 32 := by
  unfold nth; rw [List.length_take, List.length_drop]; omega
theorem InS.at_ (h : InS w A n ys) {k : Nat} (hk : k < n) : ∃ ad, A = some ad ∧ (nth ys k).length = 32 ∧ At w (ad.add (k * 32)) (nth ys k) := by
  obtain ⟨ad, rfl, _⟩ := h.rd.at_ (show 0 < ys.length by rw [h.len]; omega)
  refine ⟨ad, rfl, nth_length h.len hk, fun j x hx => ?_⟩
  unfold nth at hx
  rw [List.getElem?_take] at hx
  split at hx
  · rw [List.getElem?_drop] at hx
    obtain ⟨ad', e, hc⟩ := h.rd _ x hx
    cases e
    rw [add_add, Nat.mul_comm k 32]
    exact hc
  · cases hx
end

set_option maxHeartbeats 1000000 in
theorem sameSums_yes (A A2 : Option Addr) (n c c2 : Nat) (ys : List Nat) (w : World) (hin : InS w A n ys) (hin2 : InS w A2 n ys) (hn : n ≤ 200000000000000) :
    Calls Try.prog 14 #[.slice A n c, .slice A2 n c2] w fun e w' => e = .returned (.bool true) ∧ ∃ q, w' = w.drewN q := by
  have dn : ((n : Int) != (n : Int)) = false := by simp
  go_enter Try.func14, Try.ntmps14
  go_wp2
  go_loopw [5] (fun i wr => ∃ j : Nat, j ≤ n ∧ i = .int .i64 (j : Int) ∧ ∃ q, wr = w.drewN q) (fun i _ => n - (intOf i).toNat)
  case atStart => exact ⟨0, Nat.zero_le _, rfl, 0, rfl⟩
  case round =>
    obtain ⟨j, hj, rfl, q, rfl⟩ := hrel
    by_cases hlt : j < n
    · obtain ⟨ad, rfl, hl, hat⟩ := hin.at_ hlt
      obtain ⟨ad2, rfl, _, hat2⟩ := hin2.at_ hlt
      have i1 : (j : Int) < (n : Int) := by omega
      go_wp2
      refine wp_region_quiet_lit (by kernel_rfl) (by kernel_rfl) ?_
      iterate 3 quiet_step (fail)
      refine wpQuiet_step (fun K hK => ?_)
      refine quiet_load_sum rfl (.tmp 19) rfl (ad.add (j * 32)) rfl (nth ys j) hl (fun W hW => by obtain ⟨m, rfl⟩ := hW; exact hat) ?_
      go_simp
      refine hK _ ?_
      clear hK K
      iterate 3 quiet_step (fail)
      refine wpQuiet_step (fun K hK => ?_)
      refine quiet_load_sum rfl (.tmp 23) rfl (ad2.add (j * 32)) rfl (nth ys j) hl (fun W hW => by obtain ⟨m, rfl⟩ := hW; exact hat2) ?_
      go_simp
      refine hK _ ?_
      clear hK K
      have hne := run_neq_sum (nth ys j) (nth ys j) hl hl
      simp only [decide_true, Bool.not_true] at hne
      have hgd := fun x y => run_guard_neq x y (nth ys j) (nth ys j)
      quiet_step (fail)
      refine wpQuiet_nil ?_
      rintro _ ⟨nq, rfl⟩
      rw [World.drewN_drewN]
      clear hne hgd
      go_wp2
      go_roundw
      case rel => exact ⟨j + 1, by omega, by go_num, q + nq, rfl⟩
      case measure => simp [intOf]; omega
    · go_wp2
      go_ret
      exact ⟨rfl, q, rfl⟩

theorem In.new' (W : World) (xs : List Nat) (t : TypeId) : In (W.alloc (.cells (bvs xs).toArray t)) (some ⟨W.heap.size, 0, none⟩) xs.length xs :=
  ⟨rfl, fun j x hx => ⟨_, rfl, by
    rw [show (⟨W.heap.size, 0, none⟩ : Addr).add j = ⟨W.heap.size, j, none⟩ from by unfold Addr.add; split <;> simp_all]
    rw [cell_of_row _ W.heap.size j _ t (0, 0) (World.alloc_heap_new W _), List.getElem?_toArray, bvs_get, hx]
    rfl⟩⟩

/-- A sum into the variable that was made last. -/
theorem wpList_store_new {ops : Array Oper} {rest : List Oper} {o : Oper} {a : Act} {Q : Exit → Act → World → Prop} (w : World) (Z : Array Value) (hZ : Z.size = 32) (hgd : o.guard = none) (x y : Operand) (ho : o.op = .store 47 x y)
    (hx : a.eval x = .pointer (some ⟨w.heap.size, 0, none⟩)) (s : List Nat) (hl : s.length = 32) (hy : a.eval y = sv s)
    (h : wpList Try.prog ops Q rest (a.put o.dst undef) (w.alloc (.cells (bvs s).toArray 47))) : wpList Try.prog ops Q (o :: rest) a (w.alloc (.cells Z 47)) := by
  have hs : (bvs s).toArray.size = 32 := by rw [List.size_toArray, bvs_length, hl]
  refine wpList_store_row hgd 47 x y ho w.heap.size (bvs s).toArray hx hy 47 Z (World.alloc_heap_new w _) (by rw [hs]; exact sizeSum) (by rw [hZ, hs]) ?_ ?_
  · exact Array.all_eq_true_iff_forall_mem.2 (fun v hv => bvs_oneCell s v (by simpa using hv))
  · rw [World.setRow_alloc_new]
    exact h

theorem take_nth (ys : List Nat) (j : Nat) : ys.take (32 * (j + 1)) = ys.take (32 * j) ++ nth ys j := by
  rw [show 32 * (j + 1) = 32 * j + 32 by omega, take_more]
  rfl

set_option maxHeartbeats 1000000 in
theorem putSums_any (A A2 : Option Addr) (L c n c2 : Nat) (xs ys : List Nat) (w : World) (hin : In w A L xs) (hin2 : InS w A2 n ys) (hc2 : n ≤ c2) (hL : L ≤ 1000000000) (hn : n ≤ 65535) :
    Calls Try.prog 12 #[.slice A L c, .slice A2 n c2] w (Gives w.heap.size w (L + 2 + 32 * n) (xs ++ dg n 2 ++ ys)) := by
  have C1 := Lib.hid (grown_any A L c (2 + 32 * n) xs w hin (by omega))
  rw [show ((2 + 32 * n : Nat) : Int) = 2 + 32 * (n : Int) by omega] at C1
  have C2 := Lib.hid (appendDigits_any (base := w.heap.size) (L := L) (xs := xs) (N := n) (k := 2) (hk := by omega) (hlen := by omega))
  go_enter Try.func12, Try.ntmps12
  go_wp2_with fail
  refine (C1.out).mono ?_
  rintro e w1 ⟨rfl, ho, hb⟩
  go_wp2_with fail
  refine (C2.out _ _ _ hb.size ho).mono ?_
  rintro e w2 ⟨A3, c3, rfl, ho2, hb2⟩
  have H := hb.trans hb2
  clear hb hb2 ho C1 C2
  go_wp2_with fail
  go_loopw [5, 26] (fun t i wr => ∃ (j : Nat) (A' : Option Addr) (c' : Nat), j ≤ n ∧ i = .int .i64 (j : Int) ∧ t = .slice A' (L + 2 + 32 * j) c' ∧
      wr.ownsRow w.heap.size 5 1 (.slice A' (L + 2 + 32 * j) c') (L + 2 + 32 * j) (bvs (xs ++ dg n 2 ++ ys.take (32 * j))) ∧ Below w.heap.size w wr) (fun _ i _ => n - (intOf i).toNat)
  case atStart => exact ⟨0, A3, c3, Nat.zero_le _, rfl, rfl, by simpa using ho2, H⟩
  case round =>
    obtain ⟨j, A', c', hj, rfl, rfl, hown, hbw⟩ := hrel
    by_cases hlt : j < n
    · obtain ⟨ad, rfl, hl, hat⟩ := (hin2.below hbw).at_ hlt
      have i1 : (j : Int) < (n : Int) := by omega
      have z1 := hbw.size
      have ib := In.new' wr (nth ys j) 47
      rw [hl] at ib
      have ho5 := hown.alloc (.cells (bvs (nth ys j)).toArray 47)
      go_wp2_with (first
        | (with_reducible refine wpList_load_sum rfl (.tmp 28) rfl (ad.add (j * 32)) rfl (nth ys j) hl hat ?_)
        | ((with_reducible refine wpList_store_new wr _ ?_ rfl (.tmp 7) (.tmp 29) rfl rfl (nth ys j) hl rfl ?_); · simp)
        | (at_builtin; refine wpList_app _ rfl (.tmp 30) (.tmp 31) rfl w.heap.size A' (L + 2 + 32 * j) c' _ rfl ho5 (some ⟨wr.heap.size, 0, none⟩) 32 32 (nth ys j) rfl ib (fun h => by cases h) (by omega) (by simp; omega) ?_; intro A4 c4 w4 ho4 hb4))
      have e5 : L + 2 + 32 * j + 32 = L + 2 + 32 * (j + 1) := by omega
      go_roundw
      case rel =>
        refine ⟨j + 1, A4, c4, by omega, by go_num, by rw [e5], ?_, (hbw.alloc z1 _).trans hb4⟩
        rw [← e5, take_nth, ← List.append_assoc]
        exact ho4
      case measure => simp [intOf]; omega
    · obtain rfl : j = n := by omega
      go_wp2
      go_ret
      refine ⟨A', c', rfl, ?_, hbw⟩
      have e6 : ys.take (32 * j) = ys := List.take_of_length_le (by rw [hin2.len]; omega)
      rw [e6] at hown
      exact hown

end Go.Proofs.Ytfgjkddfomddlaa
