/-
  What follows of frames as plain lists.
-/
import Derived.Test.YthbgcijkpincfaaGreatDoorFPure
namespace Go.Proofs.YthbgcijkpincfaaGreatDoor

theorem dg_snoc (n k : Nat) : dg n (k + 1) = dg (n / 256) k ++ [n % 256] := by
  have := dg_split n k 1
  rw [this]
  simp [dg]
theorem dg_val (ys : List Nat) (h : ∀ x ∈ ys, x < 256) : ∀ k, ys.length = k → dg (val ys) k = ys := by
  intro k
  induction k generalizing ys with
  | zero => intro hl; rw [List.eq_nil_of_length_eq_zero hl]; rfl
  | succ k ih =>
    intro hl
    have hne : ys ≠ [] := fun e => by rw [e] at hl; cases hl
    obtain ⟨zs, d, rfl⟩ : ∃ zs d, ys = zs ++ [d] := ⟨ys.dropLast, ys.getLast hne, (List.dropLast_concat_getLast hne).symm⟩
    have hd : d < 256 := h d (by simp)
    rw [dg_snoc, val_snoc, show (val zs * 256 + d) / 256 = val zs by omega, show (val zs * 256 + d) % 256 = d by omega, ih zs (fun x hx => h x (by simp [hx])) (by rw [List.length_append] at hl; simpa using hl)]

theorem drop_append_len {α : Type} (a b : List α) (k : Nat) (h : a.length = k) : (a ++ b).drop k = b := by rw [List.drop_append, List.drop_of_length_le (by omega), show k - a.length = 0 by omega]; rfl
theorem take_append_len {α : Type} (a b : List α) (k : Nat) (h : a.length = k) : (a ++ b).take k = a := by rw [List.take_append, List.take_of_length_le (by omega), show k - a.length = 0 by omega]; simp

section
variable {num : Nat} {b ys : List Nat}
/-- Bytes that begin with as much of a frame as has its head. -/
theorem frame_split (num : Nat) (b zs : List Nat) : frameL num b ++ zs = recMark ++ (dg num 8 ++ (dg b.length 2 ++ (dg (sumL num b) 4 ++ (b ++ (List.replicate (noug b.length) 0 ++ zs))))) := by
  unfold frameL headL toldL
  simp only [List.append_assoc]
theorem take4_frame : (frameL num b ++ ys).take 4 = recMark := by rw [frame_split]; exact take_append_len _ _ 4 rfl
theorem drop4_frame : (frameL num b ++ ys).drop 4 = dg num 8 ++ (dg b.length 2 ++ (dg (sumL num b) 4 ++ (b ++ (List.replicate (noug b.length) 0 ++ ys)))) := by rw [frame_split]; exact drop_append_len _ _ 4 rfl
theorem drop12_frame : (frameL num b ++ ys).drop 12 = dg b.length 2 ++ (dg (sumL num b) 4 ++ (b ++ (List.replicate (noug b.length) 0 ++ ys))) := by
  rw [show 12 = 4 + 8 from rfl, ← List.drop_drop, drop4_frame]; exact drop_append_len _ _ 8 (dg_length _ _)
theorem drop14_frame : (frameL num b ++ ys).drop 14 = dg (sumL num b) 4 ++ (b ++ (List.replicate (noug b.length) 0 ++ ys)) := by
  rw [show 14 = 12 + 2 from rfl, ← List.drop_drop, drop12_frame]; exact drop_append_len _ _ 2 (dg_length _ _)
theorem drop18_frame : (frameL num b ++ ys).drop 18 = b ++ (List.replicate (noug b.length) 0 ++ ys) := by
  rw [show 18 = 14 + 4 from rfl, ← List.drop_drop, drop14_frame]; exact drop_append_len _ _ 4 (dg_length _ _)
theorem numOf_frame (h : num < 18446744073709551616) : numOf (frameL num b ++ ys) = num := by
  unfold numOf; rw [drop4_frame, val_told _ _ _ (by simpa using h)]
theorem cntOf_frame (h : b.length < 65536) : cntOf (frameL num b ++ ys) = b.length := by
  unfold cntOf; rw [drop12_frame, val_told _ _ _ (by simpa using h)]
theorem sumIn_frame : sumIn (frameL num b ++ ys) = sumL num b := by
  unfold sumIn; rw [drop14_frame, val_told _ _ _ (by have := sumL_lt num b; simpa using this)]
theorem recOf_frame (h : b.length < 65536) : recOf (frameL num b ++ ys) = b := by
  unfold recOf; rw [cntOf_frame h, drop18_frame]; exact take_append_len _ _ _ rfl
theorem restOf_frame (h : b.length < 65536) : restOf (frameL num b ++ ys) = List.replicate (noug b.length) 0 := by
  unfold restOf; rw [cntOf_frame h, ← List.drop_drop, drop18_frame, drop_append_len _ _ _ rfl]; exact take_append_len _ _ _ List.length_replicate

/-- What is put is got, whatever stands behind it. -/
theorem cutL_frame (hnum : num < 18446744073709551616) (h : b.length ≤ 256) : cutL (frameL num b ++ ys) = none := by
  have hl := frameL_length num b
  have hs := secs_pos b.length
  unfold cutL
  rw [if_neg (by rw [List.length_append]; omega), if_neg (fun k => k take4_frame), cntOf_frame (by omega), if_neg (by omega), if_neg (by rw [List.length_append]; omega), restOf_frame (by omega), if_neg (fun k => k rfl), sumIn_frame, numOf_frame hnum, recOf_frame (by omega), if_neg (fun k => k rfl)]

/-- Cut anywhere it is too short. -/
theorem cutL_cut (h : b.length ≤ 256) {k : Nat} (hk : k < (frameL num b).length) : cutL ((frameL num b).take k) = some .short := by
  have hl := frameL_length num b
  have hlt : ((frameL num b).take k).length = k := by rw [List.length_take]; omega
  unfold cutL
  by_cases h64 : k < 64
  · rw [hlt, if_pos h64]
  · have e : ∀ a m : Nat, a + m ≤ 64 → (((frameL num b).take k).drop a).take m = ((frameL num b ++ []).drop a).take m := fun a m ha => by
      rw [List.append_nil, List.drop_take, List.take_take, Nat.min_eq_left (by omega)]
    have e4 := e 0 4 (by omega)
    have e2 : cntOf ((frameL num b).take k) = b.length := by
      have := cntOf_frame (num := num) (ys := []) (show b.length < 65536 by omega)
      unfold cntOf at this ⊢
      rw [e 12 2 (by omega)]
      exact this
    rw [List.drop_zero, List.drop_zero] at e4
    rw [e4, hlt, e2, if_neg h64, if_neg (fun j => j take4_frame), if_neg (by omega), if_pos (by omega)]
end

/-- Of bytes of which a record is got its frame is their beginning. -/
theorem cutL_again (xs : List Nat) (hx : ∀ x ∈ xs, x < 256) (h : cutL xs = none) :
    frameL (numOf xs) (recOf xs) = xs.take (64 * secs (cntOf xs)) ∧ cntOf xs ≤ 256 ∧ 64 * secs (cntOf xs) ≤ xs.length ∧ (recOf xs).length = cntOf xs := by
  unfold cutL at h
  split at h
  · cases h
  rename_i h1
  split at h
  · cases h
  rename_i h2
  split at h
  · cases h
  rename_i h3
  split at h
  · cases h
  rename_i h4
  split at h
  · cases h
  rename_i h5
  split at h
  · cases h
  rename_i h6
  have h2 := Decidable.not_not.1 h2
  have h5 := Decidable.not_not.1 h5
  have h6 := Decidable.not_not.1 h6
  have hl : (recOf xs).length = cntOf xs := recOf_length (by omega)
  have hs := secs_ge (cntOf xs)
  refine ⟨?_, by omega, by omega, hl⟩
  have d1 : dg (numOf xs) 8 = (xs.drop 4).take 8 := dg_val _ (drop_take_lt hx 4 8) 8 (by rw [List.length_take, List.length_drop]; omega)
  have d2 : dg (cntOf xs) 2 = (xs.drop 12).take 2 := dg_val _ (drop_take_lt hx 12 2) 2 (by rw [List.length_take, List.length_drop]; omega)
  have d3 : dg (sumIn xs) 4 = (xs.drop 14).take 4 := dg_val _ (drop_take_lt hx 14 4) 4 (by rw [List.length_take, List.length_drop]; omega)
  have e := frame_split (numOf xs) (recOf xs) []
  rw [List.append_nil, hl, ← h6, d1, d2, d3, ← h2, ← h5] at e
  rw [e, List.append_nil]
  have t : 64 * secs (cntOf xs) = 4 + (8 + (2 + (4 + (cntOf xs + noug (cntOf xs))))) := by unfold noug; omega
  rw [t, take_more, take_more, List.drop_drop, take_more, List.drop_drop, take_more, List.drop_drop, take_more, List.drop_drop]
  rfl

end Go.Proofs.YthbgcijkpincfaaGreatDoor
