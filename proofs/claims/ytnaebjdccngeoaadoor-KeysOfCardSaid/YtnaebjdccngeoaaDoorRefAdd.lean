/-
  The document's r, digit, added.
-/
import Derived.Test.YtnaebjdccngeoaaDoorShaArr
namespace Go.Proofs.YtnaebjdccngeoaaDoor
open Go.RowKit

set_option maxHeartbeats 400000 in
theorem refR_any (x n : Nat) (z : Int) (hz : z = (n : Int)) (w : World) (hx : x < 4294967296) (h0 : 0 < n) (hn : n < 32) :
    Calls Tryd.prog 93 #[.int .u32 (x : Int), .int .i64 z] w fun e w' => e = .returned (.int .u32 (rotr x n : Nat)) ∧ w = w' := by
  subst hz
  have m1 : 0 < 32 - n := by omega
  go_enter Tryd.func93, Tryd.ntmps93
  go_wp2
  go_ret
  refine ⟨ret_int ?_, rfl⟩
  show bits BinOp.or IntKind.u32 (↑x / 2 ^ n) (↑x * 2 ^ (32 - n) % 4294967296) = _
  have e1 : (↑x * 2 ^ (32 - n) % 4294967296 : Int) = ((x * 2 ^ (32 - n) % 4294967296 : Nat) : Int) := by simp
  have e2 : (↑x / 2 ^ n : Int) = ((x / 2 ^ n : Nat) : Int) := by simp
  rw [e1, e2, u32_or_nat _ _ (div_lt32 _ hx) (Nat.mod_lt _ (by omega)), rotr, Nat.or_comm]

/-- A digit to the base 16. -/
def digitN (c : Nat) : Nat := if 97 ≤ c then c - 97 + 10 else c - 48
set_option maxHeartbeats 400000 in
theorem digit_any (c : Nat) (w : World) (h1 : 48 ≤ c) (h2 : c < 256) :
    Calls Tryd.prog 104 #[.int .u8 (c : Int)] w fun e w' => e = .returned (.int .u32 (digitN c : Nat)) ∧ w = w' := by
  by_cases h : 97 ≤ c
  · go_enter Tryd.func104, Tryd.ntmps104
    go_wp2
    go_ret
    refine ⟨ret_int ?_, rfl⟩
    rw [digitN, if_pos h]
    omega
  · go_enter Tryd.func104, Tryd.ntmps104
    go_wp2
    go_ret
    refine ⟨ret_int ?_, rfl⟩
    rw [digitN, if_neg h]
    omega

/-- The digits of all that is added. -/
def hexL : List Nat := [
  52, 50, 56, 97, 50, 102, 57, 56, 55, 49, 51, 55, 52, 52, 57, 49, 98, 53, 99, 48, 102, 98, 99, 102, 101, 57, 98, 53, 100, 98, 97, 53,
  51, 57, 53, 54, 99, 50, 53, 98, 53, 57, 102, 49, 49, 49, 102, 49, 57, 50, 51, 102, 56, 50, 97, 52, 97, 98, 49, 99, 53, 101, 100, 53,
  100, 56, 48, 55, 97, 97, 57, 56, 49, 50, 56, 51, 53, 98, 48, 49, 50, 52, 51, 49, 56, 53, 98, 101, 53, 53, 48, 99, 55, 100, 99, 51,
  55, 50, 98, 101, 53, 100, 55, 52, 56, 48, 100, 101, 98, 49, 102, 101, 57, 98, 100, 99, 48, 54, 97, 55, 99, 49, 57, 98, 102, 49, 55, 52,
  101, 52, 57, 98, 54, 57, 99, 49, 101, 102, 98, 101, 52, 55, 56, 54, 48, 102, 99, 49, 57, 100, 99, 54, 50, 52, 48, 99, 97, 49, 99, 99,
  50, 100, 101, 57, 50, 99, 54, 102, 52, 97, 55, 52, 56, 52, 97, 97, 53, 99, 98, 48, 97, 57, 100, 99, 55, 54, 102, 57, 56, 56, 100, 97,
  57, 56, 51, 101, 53, 49, 53, 50, 97, 56, 51, 49, 99, 54, 54, 100, 98, 48, 48, 51, 50, 55, 99, 56, 98, 102, 53, 57, 55, 102, 99, 55,
  99, 54, 101, 48, 48, 98, 102, 51, 100, 53, 97, 55, 57, 49, 52, 55, 48, 54, 99, 97, 54, 51, 53, 49, 49, 52, 50, 57, 50, 57, 54, 55,
  50, 55, 98, 55, 48, 97, 56, 53, 50, 101, 49, 98, 50, 49, 51, 56, 52, 100, 50, 99, 54, 100, 102, 99, 53, 51, 51, 56, 48, 100, 49, 51,
  54, 53, 48, 97, 55, 51, 53, 52, 55, 54, 54, 97, 48, 97, 98, 98, 56, 49, 99, 50, 99, 57, 50, 101, 57, 50, 55, 50, 50, 99, 56, 53,
  97, 50, 98, 102, 101, 56, 97, 49, 97, 56, 49, 97, 54, 54, 52, 98, 99, 50, 52, 98, 56, 98, 55, 48, 99, 55, 54, 99, 53, 49, 97, 51,
  100, 49, 57, 50, 101, 56, 49, 57, 100, 54, 57, 57, 48, 54, 50, 52, 102, 52, 48, 101, 51, 53, 56, 53, 49, 48, 54, 97, 97, 48, 55, 48,
  49, 57, 97, 52, 99, 49, 49, 54, 49, 101, 51, 55, 54, 99, 48, 56, 50, 55, 52, 56, 55, 55, 52, 99, 51, 52, 98, 48, 98, 99, 98, 53,
  51, 57, 49, 99, 48, 99, 98, 51, 52, 101, 100, 56, 97, 97, 52, 97, 53, 98, 57, 99, 99, 97, 52, 102, 54, 56, 50, 101, 54, 102, 102, 51,
  55, 52, 56, 102, 56, 50, 101, 101, 55, 56, 97, 53, 54, 51, 54, 102, 56, 52, 99, 56, 55, 56, 49, 52, 56, 99, 99, 55, 48, 50, 48, 56,
  57, 48, 98, 101, 102, 102, 102, 97, 97, 52, 53, 48, 54, 99, 101, 98, 98, 101, 102, 57, 97, 51, 102, 55, 99, 54, 55, 49, 55, 56, 102, 50]
theorem hexL_lt : ∀ i, i < 512 → 48 ≤ hexL.getD i 0 ∧ hexL.getD i 0 < 256 := by decide +kernel
/-- The first j digits of the t-th number. -/
def hexF (t : Nat) : Nat → Nat
  | 0 => 0
  | j + 1 => (16 * hexF t j + digitN (hexL.getD (8 * t + j) 0)) % 4294967296
theorem hexF_lt (t j : Nat) : hexF t j < 4294967296 := by
  cases j with
  | zero => show 0 < 4294967296; omega
  | succ j => exact Nat.mod_lt _ (by omega)
theorem hexL_length : hexL.length = 512 := by decide +kernel
theorem hexF_all : ∀ t, t < 64 → hexF t 8 = kAdd.getD t 0 := by decide +kernel

/-- A byte of a constant text. -/
theorem wpList_index_hex {ops : Array Oper} {rest : List Oper} {o : Oper} {a : Act} {w : World} {Q : Exit → Act → World → Prop} {S : ByteArray} (hgd : o.guard = none) (x : Operand) (ho : o.op = .index 9 (.const (.string S)) x)
    (k : Nat) (hx : a.eval x = .int .i64 (k : Int)) (hk : k < 512) (hS : S.data.toList.map UInt8.toNat = hexL)
    (h : wpList Tryd.prog ops Q rest (a.put o.dst (.int .u8 ((hexL.getD k 0 : Nat) : Int))) w) : wpList Tryd.prog ops Q (o :: rest) a w := by
  have hsz : S.size = 512 := by
    have := congrArg List.length hS
    rw [List.length_map, hexL_length, Array.length_toList] at this
    exact this
  have hks : k < S.size := by rw [hsz]; exact hk
  have hv : S[k].toNat = hexL.getD k 0 := by
    rw [← hS, List.getD_eq_getElem?_getD, List.getElem?_map, List.getElem?_eq_getElem (by simpa using hks)]
    rfl
  refine wpList_plain hgd fun K hK => ?_
  unfold Oper.wp execOp
  have hr := run_index_string (P := Tryd.prog) w 9 S .i64 (k : Int) Tryd.underlying9
  have hb : (0 : Int) ≤ (k : Int) ∧ (k : Int) < (S.size : Int) := by omega
  rw [dif_pos hb] at hr
  simp only [Int.toNat_natCast, hv] at hr
  have hc : a.eval (.const (.string S)) = .string S := rfl
  simp only [ho, hx, hc, Sem.run_bind, Sem.run_pure, Result.andThen_ok, hr]
  exact hK _ _ h

set_option maxRecDepth 100000 in
set_option maxHeartbeats 1000000 in
theorem added_any (t : Nat) (w : World) (ht : t < 64) :
    Calls Tryd.prog 94 #[.int .i64 (t : Int)] w fun e w' => e = .returned (.int .u32 ((kAdd.getD t 0 : Nat) : Int)) ∧ w = w' := by
  have hfin := hexF_all t ht
  have HF := Lib.hid hfin
  clear hfin
  go_enter Tryd.func94, Tryd.ntmps94
  go_wp2
  go_loop [3, 4] (fun n i => ∃ j : Nat, j ≤ 8 ∧ i = .int .i64 ((8 * t + j : Nat) : Int) ∧ n = .int .u32 ((hexF t j : Nat) : Int)) (fun _ i => 8 * t + 8 - (intOf i).toNat)
  case atStart => exact ⟨0, by omega, by go_num, rfl⟩
  case round =>
    obtain ⟨j, hj, rfl, rfl⟩ := hrel
    by_cases hlt : j < 8
    · obtain ⟨k, hk⟩ : ∃ k, 8 * t + j = k := ⟨_, rfl⟩
      obtain ⟨f, hf⟩ : ∃ f, hexF t j = f := ⟨_, rfl⟩
      rw [hk, hf]
      have k1 : k < 8 * t + 8 := by omega
      have k2 : k < 512 := by omega
      have fl : f < 4294967296 := hf ▸ hexF_lt t j
      have hl := hexL_lt k k2
      obtain ⟨c, hc⟩ : ∃ c, hexL.getD k 0 = c := ⟨_, rfl⟩
      rw [hc] at hl
      have HC := Lib.hid hc
      have HKF := Lib.hid (And.intro hk hf)
      obtain ⟨c1, c2⟩ := hl
      clear hc hk hf
      go_wp2_with (first
        | (with_reducible refine wpList_index_hex rfl (.tmp 16) rfl k rfl k2 (by kernel_rfl) ?_; rw [HC.out])
        | (go_at_call 104; refine (digit_any c _ c1 c2).mono ?_; rintro e w' ⟨rfl, rfl⟩))
      go_round
      case rel => 
        refine ⟨j + 1, by omega, ?_, ?_⟩
        · have := HKF.out.1
          show Value.int .i64 ((k : Int) + 1) = _
          congr 1
          omega
        · rw [hexF, HKF.out.1, HKF.out.2, HC.out]
          congr 1
          omega
      case measure => simp [intOf]; omega
    · obtain rfl : j = 8 := by omega
      rw [HF.out]
      go_wp2
      go_ret
      exact ⟨rfl, rfl⟩

end Go.Proofs.YtnaebjdccngeoaaDoor
