/-
  A key is its bits.
-/
import Derived.Test.YtnaebjdccngeoaaDoorJPure
namespace Go.Proofs.YtnaebjdccngeoaaDoor
open Go.RowKit

/-- The bytes that the first d bits make. -/
def backL (k : List Nat) : Nat → List Nat
  | 0 => zero32
  | d + 1 => (backL k d).set (d / 8) ((backL k d).getD (d / 8) 0 * 2 % 256 + bitN k d)
/-- Is one of the first d bits another one? -/
def partB (k o : List Nat) : Nat → Bool
  | 0 => false
  | d + 1 => partB k o d || bitN k d != bitN o d
theorem backL_length (k : List Nat) : ∀ d, (backL k d).length = 32
  | 0 => rfl
  | d + 1 => by rw [backL, List.length_set, backL_length k d]
theorem getD_setJ (l : List Nat) (i j v : Nat) (hi : i < l.length) : (l.set i v).getD j 0 = if j = i then v else l.getD j 0 := by
  simp only [List.getD_eq_getElem?_getD]
  by_cases h : j = i
  · subst h; rw [if_pos rfl, List.getElem?_set_self hi]; rfl
  · rw [if_neg h, List.getElem?_set_ne (fun e => h e.symm)]
theorem getD_ltJ {l : List Nat} (h : ∀ x ∈ l, x < 256) (j : Nat) : l.getD j 0 < 256 := by
  rw [List.getD_eq_getElem?_getD]
  cases hx : l[j]? with
  | none => show 0 < 256; omega
  | some x => exact h x (List.mem_of_getElem? hx)
theorem back_byte {k : List Nat} (hk : ∀ x ∈ k, x < 256) : ∀ d, d ≤ 256 → ∀ j, j < 32 → (backL k d).getD j 0 = if j < d / 8 then k.getD j 0 else if j = d / 8 then k.getD j 0 / 2 ^ (8 - d % 8) else 0 := by
  intro d
  induction d with
  | zero =>
    intro _ j hj
    have hz : (backL k 0).getD j 0 = 0 := by
      show (List.replicate 32 0).getD j 0 = 0
      rw [List.getD_eq_getElem?_getD, List.getElem?_replicate]
      split <;> rfl
    rw [hz, if_neg (by omega)]
    split
    · rw [show 8 - 0 % 8 = 8 by omega, show (2 : Nat) ^ 8 = 256 by decide]
      exact (Nat.div_eq_of_lt (getD_ltJ hk j)).symm
    · rfl
  | succ d ih =>
    intro hd j hj
    have hq : d / 8 < 32 := by omega
    rw [backL, getD_setJ _ _ _ _ (by rw [backL_length]; exact hq)]
    have hx := ih (by omega) (d / 8) hq
    rw [if_neg (by omega), if_pos rfl] at hx
    have hkb := getD_ltJ hk (d / 8)
    have hr : d % 8 < 8 := Nat.mod_lt _ (by omega)
    have hval : (backL k d).getD (d / 8) 0 * 2 % 256 + bitN k d = k.getD (d / 8) 0 / 2 ^ (7 - d % 8) := by
      rw [hx]
      unfold bitN
      have h1 : k.getD (d / 8) 0 / 2 ^ (8 - d % 8) = k.getD (d / 8) 0 / 2 ^ (7 - d % 8) / 2 := by
        rw [Nat.div_div_eq_div_mul, ← Nat.pow_succ, show (7 - d % 8).succ = 8 - d % 8 by omega]
      have h2 : k.getD (d / 8) 0 / 2 ^ (7 - d % 8) < 256 := Nat.lt_of_le_of_lt (Nat.div_le_self _ _) hkb
      rw [h1]
      omega
    rw [hval]
    by_cases h7 : d % 8 = 7
    · have e1 : (d + 1) / 8 = d / 8 + 1 := by omega
      have e2 : (d + 1) % 8 = 0 := by omega
      rw [e1, e2, h7]
      by_cases hj1 : j = d / 8
      · rw [if_pos hj1, if_pos (by omega), hj1]; simp
      · rw [if_neg hj1, ih (by omega) j hj]
        by_cases hj2 : j < d / 8
        · rw [if_pos hj2, if_pos (by omega)]
        · rw [if_neg hj2, if_neg hj1, if_neg (by omega)]
          split
          · rw [show 8 - 0 = 8 by omega, show (2 : Nat) ^ 8 = 256 by decide]
            exact (Nat.div_eq_of_lt (getD_ltJ hk j)).symm
          · rfl
    · have e1 : (d + 1) / 8 = d / 8 := by omega
      have e2 : (d + 1) % 8 = d % 8 + 1 := by omega
      rw [e1, e2]
      by_cases hj1 : j = d / 8
      · rw [if_pos hj1, if_neg (by omega), if_pos hj1, hj1, show 8 - (d % 8 + 1) = 7 - d % 8 by omega]
      · rw [if_neg hj1, ih (by omega) j hj, if_neg hj1, if_neg hj1]
theorem back_all {k : List Nat} (hl : k.length = 32) (hk : ∀ x ∈ k, x < 256) : backL k 256 = k := by
  apply List.ext_getElem?
  intro j
  by_cases hj : j < 32
  · have h := back_byte hk 256 (Nat.le_refl _) j hj
    rw [if_pos (by omega)] at h
    rw [List.getD_eq_getElem?_getD, List.getD_eq_getElem?_getD, List.getElem?_eq_getElem (by rw [backL_length]; exact hj), List.getElem?_eq_getElem (by omega)] at h
    rw [List.getElem?_eq_getElem (by rw [backL_length]; exact hj), List.getElem?_eq_getElem (by omega)]
    exact congrArg some h
  · rw [List.getElem?_eq_none (by rw [backL_length]; omega), List.getElem?_eq_none (by omega)]
theorem back_lt {k : List Nat} (hk : ∀ x ∈ k, x < 256) (d : Nat) (hd : d ≤ 256) (j : Nat) : (backL k d).getD j 0 < 256 := by
  by_cases hj : j < 32
  · rw [back_byte hk d hd j hj]
    have h := getD_ltJ hk j
    split
    · exact h
    · split
      · exact Nat.lt_of_le_of_lt (Nat.div_le_self _ _) h
      · omega
  · rw [List.getD_eq_getElem?_getD, List.getElem?_eq_none (by rw [backL_length]; omega)]; show 0 < 256; omega
theorem part_same {k o : List Nat} : ∀ d, partB k o d = false → backL k d = backL o d
  | 0, _ => rfl
  | d + 1, h => by
    rw [partB, Bool.or_eq_false_iff] at h
    have h2 : bitN k d = bitN o d := by have := h.2; simpa using this
    rw [backL, backL, part_same d h.1, h2]
theorem part_self (k : List Nat) : ∀ d, partB k k d = false
  | 0 => rfl
  | d + 1 => by rw [partB, part_self k d]; simp
theorem part_all {k o : List Nat} (hl : k.length = 32) (hk : ∀ x ∈ k, x < 256) (hl' : o.length = 32) (ho : ∀ x ∈ o, x < 256) : partB k o 256 = !decide (k = o) := by
  by_cases h : k = o
  · subst h; rw [part_self]; simp
  · rw [decide_eq_false h]
    cases hp : partB k o 256 with
    | true => rfl
    | false =>
      have := part_same 256 hp
      rw [back_all hl hk, back_all hl' ho] at this
      exact absurd this h
theorem or_bit8 : ∀ (x : Fin 256) (b : Fin 2), bits BinOp.or IntKind.u8 ((x.val * 2 % 256 : Nat) : Int) ((b.val : Nat) : Int) = ((x.val * 2 % 256 + b.val : Nat) : Int) := by decide +kernel
theorem or_bit {x b : Nat} (hx : x < 256) (hb : b < 2) : bits BinOp.or IntKind.u8 ((x * 2 % 256 : Nat) : Int) (b : Int) = ((x * 2 % 256 + b : Nat) : Int) := or_bit8 ⟨x, hx⟩ ⟨b, hb⟩

end Go.Proofs.YtnaebjdccngeoaaDoor
