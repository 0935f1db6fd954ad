/-
  A slice of slices of bytes, one behind the other; how much it holds (almonerlaw01.ByteListsSize).
-/
import Derived.Test.YtoojlpbfldnkpaaDoorLSum
import Derived.Test.YtoojlpbfldnkpaaDoorLRows
namespace Go.Proofs.YtoojlpbfldnkpaaDoor
open Go.RowKit

def tot (rows : List (List Nat)) : Nat := (rows.map List.length).sum
theorem tot_snoc (rows : List (List Nat)) (xs : List Nat) : tot (rows ++ [xs]) = tot rows + xs.length := by simp [tot]
theorem rows_snoc {rows : List (List Nat)} {j : Nat} {xs : List Nat} (h : rows[j]? = some xs) : rows.take (j + 1) = rows.take j ++ [xs] := by
  rw [List.take_add_one, h]; rfl
theorem tot_take (rows : List (List Nat)) (j : Nat) : tot (rows.take j) ≤ tot rows := by
  have : tot rows = tot (rows.take j) + tot (rows.drop j) := by
    unfold tot
    rw [← List.sum_append_nat, ← List.map_append, List.take_append_drop]
  omega

/-- How much lists hold, told if it is not more than 15000. -/
def Holds (n : Nat) (w : World) (e : Ending) (w' : World) : Prop := ∃ R : Nat, e = .returned (.int .i64 (R : Int)) ∧ (R ≤ 15000 → R = n) ∧ w = w'

set_option maxRecDepth 100000 in
set_option maxHeartbeats 1000000 in
theorem bytesSize_any (A : Option Addr) (n c : Nat) (w : World) :
    Calls Tryd.prog 60 #[.slice A n c] w fun e w' => e = .returned (.int .i64 (n : Int)) ∧ w = w' := by
  go_enter Tryd.func60, Tryd.ntmps60
  go_wp2
  go_ret
  exact ⟨rfl, rfl⟩

set_option maxRecDepth 100000 in
set_option maxHeartbeats 1000000 in
theorem listsSize_any (Ao : Option Addr) (no co : Nat) (rows : List (List Nat)) (w : World) (h : CameRows w Ao no rows) (hno : no ≤ 50) :
    Calls Tryd.prog 20 #[.slice Ao no co] w (Holds (no + tot rows) w) := by
  go_enter Tryd.func20, Tryd.ntmps20
  go_wp2
  go_loop [3, 4] (fun s i => ∃ j z : Nat, j ≤ no ∧ i = .int .i64 (j : Int) ∧ s = .int .i64 (z : Int) ∧ z = no + tot (rows.take j) ∧ z ≤ 140737489403904) (fun _ i => no - (intOf i).toNat)
  case atStart => exact ⟨0, no, by omega, rfl, rfl, rfl, by omega⟩
  case round =>
    obtain ⟨j, z, hj, rfl, rfl, hz, hzb⟩ := hrel
    have HZ := Lib.hid hz
    clear hz
    by_cases hlt : j < no
    · by_cases hs : z ≤ 1048576
      · obtain ⟨xs, hxs⟩ : ∃ xs, rows[j]? = some xs := ⟨_, List.getElem?_eq_getElem (by rw [h.len]; exact hlt)⟩
        obtain ⟨ad, A, n, c, rfl, hcell, hcame, hn⟩ := h.row j xs hxs
        have HX := Lib.hid (And.intro hxs hcame)
        have hji : (j : Int) < (no : Int) := by omega
        have hzi : (z : Int) ≤ 1048576 := by omega
        clear hxs hcame
        go_wp2_with (go_at_call 60; refine (bytesSize_any A n c _).mono ?_; rintro e w' ⟨rfl, rfl⟩)
        go_round
        case rel =>
          refine ⟨j + 1, z + n, by omega, by go_num, by go_num, ?_, by omega⟩
          rw [rows_snoc HX.out.1, tot_snoc, HX.out.2.in_.len, HZ.out]
          omega
        case measure => simp [intOf]; omega
      · have hji : (j : Int) < (no : Int) := by omega
        have hzi : decide ((z : Int) ≤ 1048576) = false := by simp; omega
        go_wp2
        go_ret
        exact ⟨z, rfl, fun hh => absurd hh (by omega), rfl⟩
    · have hji : decide ((j : Int) < (no : Int)) = false := by simp; omega
      obtain rfl : j = no := by omega
      rw [List.take_of_length_le (by rw [h.len]; omega)] at HZ
      go_wp2
      go_ret
      exact ⟨z, rfl, fun _ => HZ.out, rfl⟩

theorem flat_length (rows : List (List Nat)) : rows.flatten.length = tot rows := by rw [List.length_flatten, tot]
theorem flat_snoc {rows : List (List Nat)} {j : Nat} {xs : List Nat} (h : rows[j]? = some xs) : (rows.take (j + 1)).flatten = (rows.take j).flatten ++ xs := by
  rw [rows_snoc h, List.flatten_append]; simp

theorem rows_lt {w : World} {Ao : Option Addr} {no : Nat} {rows : List (List Nat)} (h : CameRows w Ao no rows) (j : Nat) : ∀ x ∈ (rows.take j).flatten, x < 256 := by
  intro x hx
  obtain ⟨l, hl, hxl⟩ := List.mem_flatten.1 hx
  obtain ⟨i, hi⟩ := List.mem_iff_getElem?.1 (List.mem_of_mem_take hl)
  obtain ⟨_, _, _, _, _, _, hc, _⟩ := h.row i l hi
  exact hc.lt x hxl

/-- A sum that may be asked for, in a region that only reads and calls. -/
theorem quiet_load_sum' {ops : Array Oper} {o : Oper} {a : Act} {C : World → Prop} {K : Act → Prop} {E : Prop} (hw : Region.wanted o (yielded ops a.tmps) = true) (x : Operand) (ho : o.op = .load 54 x)
    (ad : Addr) (hx : a.eval x = .pointer (some ad)) (s : List Nat) (hl : s.length = 32) (hc : ∀ w, C w → At w ad s) (h : K (a.put o.dst (sv s))) :
    if Region.wanted o (yielded ops a.tmps) = true then o.quiet Tryd.prog a C K else E := by
  rw [if_pos hw]
  refine ⟨sv s, fun w hC => ?_, h⟩
  unfold Oper.quietAt execOp
  simp only [ho, hx, Instr.loadAt, Instr.sureAddr, Sem.run_bind, Sem.run_pure, Result.andThen_ok, run_load_sum w ad s hl (hc w hC)]
  exact ⟨rfl, rfl⟩

end Go.Proofs.YtoojlpbfldnkpaaDoor
