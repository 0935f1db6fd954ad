/-
  Keys as plain functions: a key's bit, what is empty, what stands at a key, a tenant's key.
-/
import Derived.Test.YtnaebjdccngeoaaDoorJSide
namespace Go.Proofs.YtnaebjdccngeoaaDoor
open Go.RowKit

/-- A key's bit at a depth. -/
def bitN (k : List Nat) (d : Nat) : Nat := k.getD (d / 8) 0 / 2 ^ (7 - d % 8) % 2
def bitZ (k : List Nat) (z : Int) : Nat := if z < 0 ∨ 256 ≤ z then 0 else bitN k z.toNat
/-- What is empty, so many depths up from the last one. -/
def emptyU : Nat → List Nat
  | 0 => sha [2]
  | k + 1 => sideL (emptyU k) (emptyU k)
/-- The depth that there is. -/
def clampN (z : Int) : Nat := if z < 0 then 0 else if z < 256 then z.toNat else 256
def emptyZ (z : Int) : List Nat := emptyU (256 - clampN z)
theorem emptyU_length (k : Nat) : (emptyU k).length = 32 := by cases k <;> exact sha_length _
theorem emptyU_lt (k : Nat) : ∀ x ∈ emptyU k, x < 256 := by cases k <;> exact sha_lt _
theorem emptyZ_length (z : Int) : (emptyZ z).length = 32 := emptyU_length _
theorem emptyZ_lt (z : Int) : ∀ x ∈ emptyZ z, x < 256 := emptyU_lt _
theorem clamp_neg {z : Int} (h : z < 0) : clampN z = 0 := by unfold clampN; rw [if_pos h]
theorem clamp_mid {z : Int} (h : 0 ≤ z) (h2 : z < 256) : clampN z = z.toNat := by unfold clampN; rw [if_neg (by omega), if_pos h2]
theorem clamp_big {z : Int} (h : 256 ≤ z) : clampN z = 256 := by unfold clampN; rw [if_neg (by omega), if_neg (by omega)]
theorem clampN_le (z : Int) : clampN z ≤ 256 := by
  by_cases h : z < 0
  · rw [clamp_neg h]; omega
  · by_cases h2 : z < 256
    · rw [clamp_mid (by omega) h2]; omega
    · rw [clamp_big (by omega)]; omega
theorem clampN_of {z : Int} {k : Nat} (hk : k ≤ 256) (h1 : clampN z ≤ k) (h : (k : Int) ≤ z ∨ k = 0) : clampN z = k := by
  by_cases hz : z < 0
  · rw [clamp_neg hz] at *; omega
  · by_cases h2 : z < 256
    · rw [clamp_mid (by omega) h2] at *; omega
    · rw [clamp_big (by omega)] at *; omega
theorem clampN_next {z : Int} {k : Nat} (hk : k ≤ 256) (h1 : clampN z ≤ k) (h : ¬ (k : Int) ≤ z) (h0 : k ≠ 0) : clampN z ≤ k - 1 := by
  by_cases hz : z < 0
  · rw [clamp_neg hz] at *; omega
  · by_cases h2 : z < 256
    · rw [clamp_mid (by omega) h2] at *; omega
    · rw [clamp_big (by omega)] at *; omega
/-- What stands at a key. -/
def valueL (k v : List Nat) : List Nat := if v = [] then emptyU 0 else sha (3 :: (k ++ v))
theorem valueL_length (k v : List Nat) : (valueL k v).length = 32 := by unfold valueL; split; exact emptyU_length _; exact sha_length _
theorem valueL_lt (k v : List Nat) : ∀ x ∈ valueL k v, x < 256 := by unfold valueL; split; exact emptyU_lt _; exact sha_lt _
/-- A resource's number, of 64 bits. -/
def resN (z : Int) : Nat := (z % 18446744073709551616).toNat
/-- A tenant's key. -/
def keyL (t : Nat) (z : Int) : List Nat := sha ([107, 101, 121] ++ dg t 4 ++ dg (resN z) 1)
theorem keyL_length (t : Nat) (z : Int) : (keyL t z).length = 32 := sha_length _
theorem keyL_lt (t : Nat) (z : Int) : ∀ x ∈ keyL t z, x < 256 := sha_lt _
theorem bitN_lt (k : List Nat) (d : Nat) : bitN k d < 2 := Nat.mod_lt _ (by omega)
theorem bitZ_lt (k : List Nat) (z : Int) : bitZ k z < 2 := by unfold bitZ; split; omega; exact bitN_lt _ _

/-- An operation that yields a value, and leaves the memory. -/
theorem wpList_op {ops : Array Oper} {rest : List Oper} {o : Oper} {a : Act} {w : World} {Q : Exit → Act → World → Prop} (hw : Region.wanted o (yielded ops a.tmps) = true) (v : Value)
    (h : (execOp a.eval o).run Tryd.prog w = .ok (.value v) w) (hn : wpList Tryd.prog ops Q rest (a.put o.dst v) w) : wpList Tryd.prog ops Q (o :: rest) a w := by
  refine wpList_step fun K hK => ?_
  rw [if_pos hw]
  unfold Oper.wp
  rw [h]
  exact hK _ _ hn
/-- A shift to the right, of a byte. -/
theorem shr_op {o : Oper} {a : Act} {W : World} {x s y : Nat} (p q : Operand) (ho : o.op = .binOp .shr 5 p q 3) (hp : a.eval p = .int .u8 (x : Int)) (hq : a.eval q = .int .i64 (s : Int)) (hs : s ≤ 7) (hy : x / 2 ^ s = y) :
    (execOp a.eval o).run Tryd.prog W = .ok (.value (.int .u8 (y : Int))) W := by
  unfold execOp
  rw [ho]
  simp only [hp, hq]
  have h1 : ¬ ((s : Int) < 0) := by omega
  have h2 : min (s : Int).toNat IntKind.u8.bits = s := by
    show min (s : Int).toNat 8 = s
    omega
  have h3 : Int.fdiv (x : Int) (2 ^ s) = ((x / 2 ^ s : Nat) : Int) := by
    rw [Int.fdiv_eq_ediv_of_nonneg _ (by exact Int.le_of_lt (Int.pow_pos (by decide)))]
    rw [show (2 : Int) ^ s = ((2 ^ s : Nat) : Int) by simp]
    rw [← Int.natCast_ediv]
  go_simp
  rw [← hy, Int.natCast_ediv]
  simp

theorem jload_sum_op {o : Oper} {a : Act} {W : World} {ad : Addr} {s : List Nat} (p : Operand) (ho : o.op = .load 36 p) (hp : a.eval p = .pointer (some ad)) (hs : s.length = 32) (h : At W ad s) : (execOp a.eval o).run Tryd.prog W = .ok (.value (sv s)) W := by
  unfold execOp
  simp only [ho, hp, Instr.loadAt, Instr.sureAddr, Sem.run_bind, Sem.run_pure, Result.andThen_ok, run_load_sum W ad s hs h]
theorem jeql_op {o : Oper} {a : Act} {W : World} {s : List Nat} (p q : Operand) (ho : o.op = .binOp .eql 36 p q 36) (hp : a.eval p = sv s) (hq : a.eval q = sv s) (hs : s.length = 32) :
    (execOp a.eval o).run Tryd.prog W = .ok (.value (.bool true)) W := by
  unfold execOp
  rw [ho]
  simp only [hp, hq, Sem.run_bind, run_guard_eql, Result.andThen_ok, run_eql_sum s s hs hs W, Sem.run_pure]
  simp
theorem jneq_op {o : Oper} {a : Act} {W : World} {s : List Nat} (p q : Operand) (ho : o.op = .binOp .neq 36 p q 36) (hp : a.eval p = sv s) (hq : a.eval q = sv s) (hs : s.length = 32) :
    (execOp a.eval o).run Tryd.prog W = .ok (.value (.bool false)) W := by
  unfold execOp
  rw [ho]
  simp only [hp, hq, Sem.run_bind, run_guard_neq, Result.andThen_ok, run_neq_sum s s hs hs W, Sem.run_pure]
  simp
theorem jneq_run (s : List Nat) (hs : s.length = 32) (W : World) : (binOp .neq 36 (sv s) (sv s)).run Tryd.prog W = .ok (.bool false) W := by
  rw [run_neq_sum s s hs hs W]; simp
theorem jeql_run (s : List Nat) (hs : s.length = 32) (W : World) : (binOp .eql 36 (sv s) (sv s)).run Tryd.prog W = .ok (.bool true) W := by
  rw [run_eql_sum s s hs hs W]; simp
theorem and_one8 : ∀ y : Fin 256, bits BinOp.and IntKind.u8 ((y.val : Nat) : Int) 1 = ((y.val % 2 : Nat) : Int) := by decide +kernel
theorem and_one_of {y b : Nat} (hy : y < 256) (hb : y % 2 = b) : bits BinOp.and IntKind.u8 (y : Int) 1 = (b : Int) := by rw [← hb]; exact and_one8 ⟨y, hy⟩

end Go.Proofs.YtnaebjdccngeoaaDoor
