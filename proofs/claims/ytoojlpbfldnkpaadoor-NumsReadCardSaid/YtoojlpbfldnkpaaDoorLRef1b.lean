/-
  The document's own answers of layer 1: there, GetBytes.
-/
import Derived.Test.YtoojlpbfldnkpaaDoorLRef1
namespace Go.Proofs.YtoojlpbfldnkpaaDoor
open Go.RowKit

set_option maxRecDepth 100000 in
set_option maxHeartbeats 400000 in
theorem there_short (A : Option Addr) (n c told each : Nat) (w : World) (hn : n < told) (ht : told ≤ 8) (he : each ≤ 32) :
    Calls Tryd.prog 32 #[.slice A n c, .int .i64 (told : Int), .int .i64 (each : Int)] w fun e w' => e = .returned (.tuple #[.int .i64 0, .int .i64 (told : Int), .bool false]) ∧ Below w.heap.size w w' := by
  have C := Lib.hid (loose (refGet_short A n c told w ht hn))
  go_enter Tryd.func32, Tryd.ntmps32
  go_wp2_with fail
  refine (C.out).mono ?_
  rintro e w1 ⟨rfl, hb⟩
  go_wp2_with fail
  go_ret3
  exact ⟨rfl, hb⟩

set_option maxRecDepth 100000 in
set_option maxHeartbeats 400000 in
theorem there_ok (A : Option Addr) (n c told each m E : Nat) (xs : List Nat) (w : World) (hin : In w A n xs) (hb : ∀ x ∈ xs, x < 256) (hn : told ≤ n) (ht : told ≤ 8) (he : each ≤ 32) (hm : val (xs.take told) = m) (hm2 : m ≤ 4294967296)
    (hE : told + m * each = E) (hmax : n ≤ 1000000000) :
    Calls Tryd.prog 32 #[.slice A n c, .int .i64 (told : Int), .int .i64 (each : Int)] w fun e w' => e = .returned (.tuple #[.int .i64 (m : Int), .int .i64 (E : Int), .bool (decide (E ≤ n))]) ∧ Below w.heap.size w w' := by
  have C := Lib.hid (looseN (refGet_ok A n c told xs w hin hb ht hn))
  rw [hm] at C
  have hl : m * each ≤ 4294967296 * 32 := Nat.mul_le_mul hm2 he
  obtain ⟨M, hM⟩ : ∃ M, m * each = M := ⟨_, rfl⟩
  rw [hM] at hl hE
  have k1 : (m : Int) * (each : Int) = (M : Int) := by rw [← hM]; simp
  have HE := Lib.hid hE
  have hE2 : (told : Int) + (M : Int) = (E : Int) := by omega
  have hEl : E ≤ 200000000000 := by omega
  clear hM hE hm
  go_enter Tryd.func32, Tryd.ntmps32
  go_wp2_with fail
  refine (C.out).mono ?_
  rintro e w1 ⟨rfl, hb⟩
  go_wp2_with fail
  go_ret3
  exact ⟨rfl, hb⟩

/-- A slice of bytes from lo on up to hi, its address under a name. -/
theorem cut_name2 {A : Option Addr} {n c lo hi : Nat} (h : lo ≤ hi) (h2 : hi ≤ c) :
    ∃ B, (∀ W : World, (Instr.slice 22 (.slice A n c) (some (.int .i64 (lo : Int))) (some (.int .i64 (hi : Int))) none).run Tryd.prog W = .ok (.slice B (hi - lo) (c - lo)) W) ∧
      B = (if c = lo then A else A.map (·.add lo)) := by
  refine ⟨_, fun W => ?_, rfl⟩
  obtain ⟨i0, hi0, hz0, hz1, hz2⟩ := info_parts infoByte
  have he : Tryd.prog.elem 22 = 5 := by kernel_rfl
  rw [run_slice_lh W 22 A n c (by rw [he]; exact Tryd.underlying22) .i64 .i64 (lo : Int) (hi : Int) (by omega) (by omega) (by omega), he]
  simp [sizeOf, typeInfo, hi0, hz1, sliced]
theorem cut_nil {A : Option Addr} {c lo : Nat} {B : Option Addr} (hnil : A = none → c = 0) (hB : B = (if c = lo then A else A.map (·.add lo))) : B = none → c - lo = 0 := by
  intro e
  rw [hB] at e
  split at e
  · omega
  · cases hA : A with
    | none => have := hnil hA; omega
    | some a => rw [hA] at e; cases e

/-- A call has answered: there is too little. -/
def Short3b (w : World) (e : Ending) (w' : World) : Prop := e = .returned (.tuple #[.slice none 0 0, .int .i64 0, .int .i64 5]) ∧ Below w.heap.size w w'

set_option maxRecDepth 100000 in
set_option maxHeartbeats 400000 in
theorem refGetBytes_short (A : Option Addr) (n c : Nat) (xs : List Nat) (w : World) (hin : In w A n xs) (hb : ∀ x ∈ xs, x < 256) (hmax : n ≤ 1000000000) (hs : n < 4 ∨ n < 4 + val (xs.take 4)) :
    Calls Tryd.prog 14 #[.slice A n c] w (Short3b w) := by
  by_cases h4 : n < 4
  · go_enter Tryd.func14, Tryd.ntmps14
    go_wp2_with fail
    refine (there_short A n c 4 1 w h4 (by omega) (by omega)).mono ?_
    rintro e w1 ⟨rfl, hb1⟩
    go_wp2_with fail
    go_ret3
    exact ⟨rfl, hb1⟩
  · obtain ⟨m, hm⟩ : ∃ m, val (xs.take 4) = m := ⟨_, rfl⟩
    rw [hm] at hs
    have hl : m < 256 ^ 4 := by
      have h1 := val_lt (xs.take 4) (fun x hx => hb x (List.mem_of_mem_take hx))
      rw [List.length_take, hin.len, Nat.min_eq_left (by omega), hm] at h1
      exact h1
    have C := Lib.hid (there_ok A n c 4 1 m (4 + m) xs w hin hb (by omega) (by omega) (by omega) hm (by omega) (by omega) hmax)
    rw [show decide (4 + m ≤ n) = false by simp; omega] at C
    clear hm hb
    go_enter Tryd.func14, Tryd.ntmps14
    go_wp2_with fail
    refine (C.out).mono ?_
    rintro e w1 ⟨rfl, hb1⟩
    go_wp2_with fail
    go_ret3
    exact ⟨rfl, hb1⟩

set_option maxRecDepth 100000 in
set_option maxHeartbeats 400000 in
theorem refGetBytes_ok (A : Option Addr) (n c m : Nat) (xs : List Nat) (w : World) (hin : In w A n xs) (hb : ∀ x ∈ xs, x < 256) (hnil : A = none → c = 0) (hc : n ≤ c) (hmax : n ≤ 1000000000) (h4 : 4 ≤ n) (hm : val (xs.take 4) = m) (hs : 4 + m ≤ n) :
    Calls Tryd.prog 14 #[.slice A n c] w (Gives3 w.heap.size w m ((xs.drop 4).take m) (4 + (m : Int))) := by
  have C := Lib.hid (there_ok A n c 4 1 m (4 + m) xs w hin hb (by omega) (by omega) (by omega) hm (by omega) (by omega) hmax)
  rw [show decide (4 + m ≤ n) = true by simp; omega] at C
  obtain ⟨B, hsl, hB⟩ := cut_name2 (A := A) (n := n) (c := c) (lo := 4) (hi := 4 + m) (by omega) (by omega)
  have i1 := (hin.cut (k := 4) (c := c) (by omega) hc).take (k := m) (by omega)
  rw [← hB] at i1
  have z1 := cut_nil hnil hB
  rw [show ((4 : Nat) : Int) = 4 from rfl, show 4 + m - 4 = m by omega] at hsl
  rw [show ((4 + m : Nat) : Int) = 4 + (m : Int) by omega] at hsl C
  clear hm hb hB
  go_enter Tryd.func14, Tryd.ntmps14
  go_wp2_with fail
  refine (C.out).mono ?_
  rintro e w1 ⟨rfl, hb1⟩
  have i2 := i1.below hb1
  have z2 := hb1.size
  go_wp2_with (at_builtin; refine wpList_app _ rfl (.const (.slice none 0 0)) (.tmp 18) rfl w.heap.size none 0 0 [] rfl (World.ownsRow_nil _ _ _ _) B m (c - 4) _ rfl i2 z1 (by omega) z2 ?_; intro A2 c2 w2 ho2 hb2)
  go_ret3
  rw [Nat.zero_add] at ho2
  exact ⟨A2, c2, rfl, ho2, hb1.trans hb2⟩

end Go.Proofs.YtoojlpbfldnkpaaDoor
