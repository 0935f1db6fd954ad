/-
  almonerlaw08.text: a sum as digits of 16.
-/
import Derived.Test.YtigmbiigaiajdaaDoorVRoot
import Derived.Lib.Strings
import Derived.Laws.Concat
namespace Go.Proofs.YtigmbiigaiajdaaDoor
open Go.RowKit

def sixteen : ByteArray := { data := #[48, 49, 50, 51, 52, 53, 54, 55, 56, 57, 97, 98, 99, 100, 101, 102] }
def digS (k : Nat) : ByteArray := sixteen.extract k (k + 1)
def textS (xs : List Nat) : ByteArray := xs.foldl (fun out x => (out ++ digS (x / 16)) ++ digS (x % 16)) { data := #[] }
theorem textS_snoc (xs : List Nat) (x : Nat) : textS (xs ++ [x]) = (textS xs ++ digS (x / 16)) ++ digS (x % 16) := by rw [textS, List.foldl_append]; rfl

theorem digS_size {k : Nat} (hk : k < 16) : (digS k).size = 1 := by
  have h : ∀ k : Fin 16, (digS k.val).size = 1 := by decide +kernel
  exact h ⟨k, hk⟩
theorem text_fold (xs : List Nat) (h : ∀ x ∈ xs, x < 256) : ∀ a : ByteArray, (xs.foldl (fun out x => (out ++ digS (x / 16)) ++ digS (x % 16)) a).size = a.size + 2 * xs.length := by
  induction xs with
  | nil => intro a; rfl
  | cons x l ih =>
    intro a
    have hx := h x (List.mem_cons_self ..)
    rw [List.foldl_cons, ih (fun y hy => h y (List.mem_cons_of_mem _ hy)), ByteArray.size_append, ByteArray.size_append, digS_size (by omega), digS_size (by omega), List.length_cons]
    omega
theorem textS_size (xs : List Nat) (h : ∀ x ∈ xs, x < 256) : (textS xs).size = 2 * xs.length := by
  rw [textS, text_fold xs h]
  show 0 + 2 * xs.length = _
  omega

theorem low_half : ∀ x : Fin 256, bits BinOp.and IntKind.u8 (x.val : Int) 15 = ((x.val % 16 : Nat) : Int) := by decide +kernel

theorem dig_slice {k : Nat} (hk : k < 16) (W : World) :
    (Instr.slice 9 (.string { data := #[48, 49, 50, 51, 52, 53, 54, 55, 56, 57, 97, 98, 99, 100, 101, 102] }) (some (.int .u8 (k : Int))) (some (.int .u8 ((k : Int) + 1))) none).run Tryd.prog W = .ok (.string (digS k)) W := by
  rw [run_slice_string W 9 _ .u8 .u8 (k : Int) ((k : Int) + 1) Tryd.underlying9 (by omega) (by omega) (by show (k : Int) + 1 ≤ 16; omega)]
  have e1 : ((k : Int) + 1).toNat = k + 1 := by omega
  rw [e1, Int.toNat_natCast]
  rfl

set_option maxRecDepth 100000 in
set_option maxHeartbeats 1000000 in
theorem text_any (s : List Nat) (w : World) (hl : s.length = 32) (hx : ∀ x ∈ s, x < 256) :
    Calls Tryd.prog 26 #[sv s] w fun e w' => e = .returned (.string (textS s)) ∧ Below w.heap.size w w' := by
  have f0 := BArr.new w 24 s
  have b0 := below_alloc w (.cells (bvs s).toArray 24)
  obtain ⟨w1, hw1⟩ : ∃ w1, w1 = w.alloc (.cells (bvs s).toArray 24) := ⟨_, rfl⟩
  rw [← hw1] at f0 b0
  have HF := Lib.hid (And.intro f0.at_ b0)
  have HW := Lib.hid hw1
  have HL := Lib.hid hl
  clear f0 b0 hw1 hl
  unfold sv
  go_enter Tryd.func26, Tryd.ntmps26
  go_upto_region 1 with fail
  rw [← HW.out]
  go_wp2
  go_loopw [3, 4] (fun o i wr => ∃ j : Nat, j ≤ 32 ∧ i = .int .i64 (j : Int) ∧ o = .string (textS (s.take j)) ∧ ∃ q, wr = w1.drewN q) (fun _ i _ => 32 - (intOf i).toNat)
  case atStart => exact ⟨0, by omega, rfl, rfl, 0, rfl⟩
  case round =>
    obtain ⟨j, hj, rfl, rfl, q, rfl⟩ := hrel
    by_cases hlt : j < 32
    · obtain ⟨x, hxj⟩ : ∃ x, s[j]? = some x := ⟨_, List.getElem?_eq_getElem (by rw [HL.out]; exact hlt)⟩
      have hx256 := hx x (List.mem_of_getElem? hxj)
      have hcell := HF.out.1 j x hxj
      rw [show (⟨w.heap.size, 0, none⟩ : Addr).add j = ⟨w.heap.size, j, none⟩ from by unfold Addr.add; split <;> simp_all] at hcell
      unfold bv at hcell
      have HT : Hid _ := Lib.hid (take_snoc_of hxj)
      have hi1 : (j : Int) < 32 := by omega
      obtain ⟨hi, hhi⟩ : ∃ hi, x / 16 = hi := ⟨_, rfl⟩
      obtain ⟨lo, hlo⟩ : ∃ lo, x % 16 = lo := ⟨_, rfl⟩
      have hd : (x : Int) / 16 = (hi : Int) := by omega
      have hm : (x : Int) % 16 = (lo : Int) := by omega
      have hsl1 := dig_slice (k := hi) (by omega)
      have hsl2 := dig_slice (k := lo) (by omega)
      have hlow := low_half ⟨x, hx256⟩
      dsimp only at hlow
      rw [hlo] at hlow
      have hz := textS_size (s.take j) (fun y hy => hx y (List.mem_of_mem_take hy))
      have hjl : (s.take j).length = j := by rw [List.length_take, HL.out]; omega
      rw [hjl] at hz
      have hz1 := digS_size (k := hi) (by omega)
      have hz2 := digS_size (k := lo) (by omega)
      have hc1 := fun W => run_string_add (P := Tryd.prog) (w := W) (textS (s.take j)) (digS hi) (by omega) (by omega)
      have hc2 := fun W => run_string_add (P := Tryd.prog) (w := W) (textS (s.take j) ++ digS hi) (digS lo) (by rw [ByteArray.size_append]; omega) (by omega)
      clear hz hjl hz1 hz2
      have hi16 : (hi : Int) < 16 := by omega
      have lo16 : (lo : Int) < 16 := by omega
      have hw1 : IntKind.u8.wrap ((hi : Int) + 1) = (hi : Int) + 1 := IntWalk.u8_in _ (by omega)
      have hw2 : IntKind.u8.wrap ((lo : Int) + 1) = (lo : Int) + 1 := IntWalk.u8_in _ (by omega)
      have HD := Lib.hid (And.intro hhi hlo)
      clear hxj hhi hlo hm
      go_wp2
      refine wp_region_quiet_lit (by kernel_rfl) (by kernel_rfl) ?_
      repeat quiet_step (fail)
      refine wpQuiet_nil ?_
      intro _ hw'
      obtain ⟨nq, hw''⟩ := hw'
      subst hw''
      go_wp2
      go_roundw
      case rel =>
        refine ⟨j + 1, by omega, by go_num, ?_, q + nq, rfl⟩
        rw [HT.out, textS_snoc, HD.out.1, HD.out.2]
      case measure => simp [intOf]; omega
    · obtain rfl : j = 32 := by omega
      rw [List.take_of_length_le (by rw [HL.out]; omega)]
      have hd : decide ((32 : Int) < 32) = false := by decide
      go_wp2
      go_ret
      exact ⟨rfl, ⟨HF.out.2.os, HF.out.2.tape, HF.out.2.output, HF.out.2.size, HF.out.2.block⟩⟩

end Go.Proofs.YtigmbiigaiajdaaDoor
