/-
  SHA-256, as plain functions on natural numbers and lists of them. No program is named here.
-/
import Derived.Test.YthbgcijkpincfaaDoorLPre
namespace Go.Proofs.YthbgcijkpincfaaDoor
open Go.RowKit

/-- The bits of x moved n places to the right, those that fall out coming in on the left. -/
def rotr (x n : Nat) : Nat := (x * 2 ^ (32 - n) % 4294967296) ||| (x / 2 ^ n)

theorem or_lt32 {a b : Nat} (ha : a < 4294967296) (hb : b < 4294967296) : a ||| b < 4294967296 := Nat.or_lt_two_pow (n := 32) ha hb
theorem xor_lt32 {a b : Nat} (ha : a < 4294967296) (hb : b < 4294967296) : a ^^^ b < 4294967296 := Nat.xor_lt_two_pow (n := 32) ha hb
theorem and_lt32 {a b : Nat} (ha : a < 4294967296) : a &&& b < 4294967296 := Nat.lt_of_le_of_lt Nat.and_le_left ha
theorem div_lt32 {a : Nat} (n : Nat) (ha : a < 4294967296) : a / n < 4294967296 := Nat.lt_of_le_of_lt (Nat.div_le_self _ _) ha
theorem rotr_lt {x : Nat} (n : Nat) (hx : x < 4294967296) : rotr x n < 4294967296 := or_lt32 (Nat.mod_lt _ (by omega)) (div_lt32 _ hx)

def far (x : Nat) : Nat := rotr x 7 ^^^ rotr x 18 ^^^ x / 2 ^ 3
def near (x : Nat) : Nat := rotr x 17 ^^^ rotr x 19 ^^^ x / 2 ^ 10
def mixE (x : Nat) : Nat := rotr x 6 ^^^ rotr x 11 ^^^ rotr x 25
def mixA (x : Nat) : Nat := rotr x 2 ^^^ rotr x 13 ^^^ rotr x 22
theorem far_lt {x : Nat} (h : x < 4294967296) : far x < 4294967296 := xor_lt32 (xor_lt32 (rotr_lt _ h) (rotr_lt _ h)) (div_lt32 _ h)
theorem near_lt {x : Nat} (h : x < 4294967296) : near x < 4294967296 := xor_lt32 (xor_lt32 (rotr_lt _ h) (rotr_lt _ h)) (div_lt32 _ h)
theorem mixE_lt {x : Nat} (h : x < 4294967296) : mixE x < 4294967296 := xor_lt32 (xor_lt32 (rotr_lt _ h) (rotr_lt _ h)) (rotr_lt _ h)
theorem mixA_lt {x : Nat} (h : x < 4294967296) : mixA x < 4294967296 := xor_lt32 (xor_lt32 (rotr_lt _ h) (rotr_lt _ h)) (rotr_lt _ h)

/-- What is added at each of the 64 times. -/
def kAdd : List Nat := [
  1116352408, 1899447441, 3049323471, 3921009573, 961987163, 1508970993, 2453635748, 2870763221,
  3624381080, 310598401, 607225278, 1426881987, 1925078388, 2162078206, 2614888103, 3248222580,
  3835390401, 4022224774, 264347078, 604807628, 770255983, 1249150122, 1555081692, 1996064986,
  2554220882, 2821834349, 2952996808, 3210313671, 3336571891, 3584528711, 113926993, 338241895,
  666307205, 773529912, 1294757372, 1396182291, 1695183700, 1986661051, 2177026350, 2456956037,
  2730485921, 2820302411, 3259730800, 3345764771, 3516065817, 3600352804, 4094571909, 275423344,
  430227734, 506948616, 659060556, 883997877, 958139571, 1322822218, 1537002063, 1747873779,
  1955562222, 2024104815, 2227730452, 2361852424, 2428436474, 2756734187, 3204031479, 3329325298
]
/-- The eight numbers at first. -/
def h0 : List Nat := [1779033703, 3144134277, 1013904242, 2773480762, 1359893119, 2600822924, 528734635, 1541459225]

theorem kAdd_length : kAdd.length = 64 := rfl
theorem kAdd_lt : ∀ x ∈ kAdd, x < 4294967296 := by decide
theorem h0_lt : ∀ x ∈ h0, x < 4294967296 := by decide

/-- One more w behind those that there are. -/
def nextW (l : List Nat) : Nat :=
  (l.getD (l.length - 16) 0 + l.getD (l.length - 7) 0 + far (l.getD (l.length - 15) 0) + near (l.getD (l.length - 2) 0)) % 4294967296
def sched (B : List Nat) : Nat → List Nat
  | 0 => B
  | k + 1 => sched B k ++ [nextW (sched B k)]

/-- One of the 64 times. -/
def ch (e f g : Nat) : Nat := (e &&& f) ||| ((4294967295 ^^^ e) &&& g)
def maj (a b c : Nat) : Nat := (a &&& b) ||| (a &&& c) ||| (b &&& c)
def rndP (k w : Nat) (S : List Nat) : Nat := (S.getD 7 0 + k + w + mixE (S.getD 4 0) + ch (S.getD 4 0) (S.getD 5 0) (S.getD 6 0)) % 4294967296
def rndQ (S : List Nat) : Nat := (mixA (S.getD 0 0) + maj (S.getD 0 0) (S.getD 1 0) (S.getD 2 0)) % 4294967296
def rnd (k w : Nat) (S : List Nat) : List Nat :=
  [(rndP k w S + rndQ S) % 4294967296, S.getD 0 0, S.getD 1 0, S.getD 2 0, (S.getD 3 0 + rndP k w S) % 4294967296, S.getD 4 0, S.getD 5 0, S.getD 6 0]
def rounds (W S : List Nat) : Nat → List Nat
  | 0 => S
  | t + 1 => rnd (kAdd.getD t 0) (W.getD t 0) (rounds W S t)
/-- The eight numbers behind one more block, of sixteen numbers. -/
def take16 (S B : List Nat) : List Nat := List.zipWith (fun x y => (x + y) % 4294967296) (rounds (sched B 48) S 64) S

theorem getD_lt {l : List Nat} (h : ∀ x ∈ l, x < 4294967296) (i : Nat) : l.getD i 0 < 4294967296 := by
  rw [List.getD_eq_getElem?_getD]
  cases e : l[i]? with
  | none => simp
  | some x => exact h x (List.mem_of_getElem? e)
theorem sched_length (B : List Nat) (k : Nat) : (sched B k).length = B.length + k := by
  induction k with
  | zero => rfl
  | succ k ih => rw [sched, List.length_append, ih]; simp; omega
theorem sched_lt (B : List Nat) (h : ∀ x ∈ B, x < 4294967296) (k : Nat) : ∀ x ∈ sched B k, x < 4294967296 := by
  induction k with
  | zero => exact h
  | succ k ih =>
    intro x hx
    rw [sched, List.mem_append, List.mem_singleton] at hx
    rcases hx with hx | rfl
    · exact ih x hx
    · exact Nat.mod_lt _ (by omega)
theorem sched_old (B : List Nat) (k m i : Nat) (h : i < B.length + k) : (sched B (k + m)).getD i 0 = (sched B k).getD i 0 := by
  induction m with
  | zero => rfl
  | succ m ih =>
    rw [← Nat.add_assoc, sched, List.getD_eq_getElem?_getD, List.getElem?_append_left (by rw [sched_length]; omega), ← List.getD_eq_getElem?_getD, ih]
theorem sched_first (B : List Nat) (hB : B.length = 16) (n i : Nat) (h : i < 16) : (sched B n).getD i 0 = B.getD i 0 := by
  induction n with
  | zero => rfl
  | succ n ih => rw [sched, List.getD_eq_getElem?_getD, List.getElem?_append_left (by rw [sched_length]; omega), ← List.getD_eq_getElem?_getD, ih]
theorem sched_next (B : List Nat) (hB : B.length = 16) (n t : Nat) (h : 16 ≤ t) (h2 : t < 16 + n) :
    (sched B n).getD t 0 = ((sched B n).getD (t - 16) 0 + (sched B n).getD (t - 7) 0 + far ((sched B n).getD (t - 15) 0) + near ((sched B n).getD (t - 2) 0)) % 4294967296 := by
  obtain ⟨k, rfl⟩ : ∃ k, t = 16 + k := ⟨t - 16, by omega⟩
  have e : ∀ i, i < 16 + k → (sched B n).getD i 0 = (sched B k).getD i 0 := fun i hi => by
    have := sched_old B k (n - k) i (by omega)
    rwa [show k + (n - k) = n by omega] at this
  have e2 : (sched B n).getD (16 + k) 0 = nextW (sched B k) := by
    have := sched_old B (k + 1) (n - 1 - k) (16 + k) (by omega)
    rw [show k + 1 + (n - 1 - k) = n by omega] at this
    have hl : (sched B k).length = 16 + k := by rw [sched_length, hB]
    rw [this, sched, List.getD_eq_getElem?_getD, List.getElem?_append_right (by omega), hl, Nat.sub_self, List.getElem?_cons_zero, Option.getD_some]
  have hl : (sched B k).length = 16 + k := by rw [sched_length, hB]
  rw [e2, nextW, hl, e _ (by omega), e _ (by omega), e _ (by omega), e _ (by omega)]
theorem rounds_length (W S : List Nat) (hS : S.length = 8) (t : Nat) : (rounds W S t).length = 8 := by
  cases t with
  | zero => exact hS
  | succ t => rfl
theorem rounds_lt (W S : List Nat) (h : ∀ x ∈ S, x < 4294967296) (t : Nat) : ∀ x ∈ rounds W S t, x < 4294967296 := by
  induction t with
  | zero => exact h
  | succ t ih =>
    intro x hx
    have g := getD_lt ih
    have m : ∀ n : Nat, n % 4294967296 < 4294967296 := fun n => Nat.mod_lt _ (by omega)
    rw [rounds, rnd] at hx
    simp only [List.mem_cons, List.not_mem_nil, or_false] at hx
    rcases hx with rfl | rfl | rfl | rfl | rfl | rfl | rfl | rfl
    · exact m _
    · exact g _
    · exact g _
    · exact g _
    · exact m _
    · exact g _
    · exact g _
    · exact g _
theorem take16_length (S B : List Nat) (hS : S.length = 8) : (take16 S B).length = 8 := by
  rw [take16, List.length_zipWith, rounds_length _ _ hS, hS]
  rfl
theorem take16_lt (S B : List Nat) : ∀ x ∈ take16 S B, x < 4294967296 := by
  intro x hx
  rw [take16] at hx
  obtain ⟨i, h, rfl⟩ := List.mem_iff_getElem.1 hx
  rw [List.getElem_zipWith]
  exact Nat.mod_lt _ (by omega)

theorem getD_set (l : List Nat) (i j v : Nat) (h : i < l.length) : (l.set i v).getD j 0 = if i = j then v else l.getD j 0 := by
  rw [List.getD_eq_getElem?_getD, List.getElem?_set]
  by_cases e : i = j
  · subst e; simp [h]
  · rw [if_neg e, if_neg e, List.getD_eq_getElem?_getD]

/-- The eight numbers go round in a ring: the place of the first goes down by one each time. -/
def Ring (A : Nat) (R N : List Nat) : Prop := ∀ i, i < 8 → N.getD ((A + i) % 8) 0 = R.getD i 0
theorem Ring.step {A : Nat} {R N : List Nat} (h : Ring (A + 1) R N) (hN : N.length = 8) (X Y : Nat) :
    Ring A [Y, R.getD 0 0, R.getD 1 0, R.getD 2 0, X, R.getD 4 0, R.getD 5 0, R.getD 6 0] ((N.set ((A + 1 + 3) % 8) X).set ((A + 1 + 7) % 8) Y) := by
  intro i hi
  have hl : (N.set ((A + 1 + 3) % 8) X).length = 8 := by rw [List.length_set, hN]
  rw [getD_set _ _ _ _ (by rw [hl]; omega), getD_set _ _ _ _ (by rw [hN]; omega)]
  have z := fun k (hk : k < 8) => h k hk
  match i, hi with
  | 0, _ => rw [if_pos (by omega)]; rfl
  | 1, _ => rw [if_neg (by omega), if_neg (by omega)]; exact h 0 (by omega)
  | 2, _ => rw [if_neg (by omega), if_neg (by omega), show A + 2 = A + 1 + 1 by omega]; exact h 1 (by omega)
  | 3, _ => rw [if_neg (by omega), if_neg (by omega), show A + 3 = A + 1 + 2 by omega]; exact h 2 (by omega)
  | 4, _ => rw [if_neg (by omega), if_pos (by omega)]; rfl
  | 5, _ => rw [if_neg (by omega), if_neg (by omega), show A + 5 = A + 1 + 4 by omega]; exact h 4 (by omega)
  | 6, _ => rw [if_neg (by omega), if_neg (by omega), show A + 6 = A + 1 + 5 by omega]; exact h 5 (by omega)
  | 7, _ => rw [if_neg (by omega), if_neg (by omega), show A + 7 = A + 1 + 6 by omega]; exact h 6 (by omega)
theorem Ring.start {R : List Nat} : Ring 64 R R := fun i hi => by rw [show (64 + i) % 8 = i by omega]
theorem Ring.end_ {R N : List Nat} (h : Ring 0 R N) (hR : R.length = 8) (hN : N.length = 8) : N = R := by
  apply List.ext_getElem?
  intro i
  by_cases hi : i < 8
  · have := h i hi
    rw [show (0 + i) % 8 = i by omega, List.getD_eq_getElem?_getD, List.getD_eq_getElem?_getD, List.getElem?_eq_getElem (by omega), List.getElem?_eq_getElem (by omega)] at this
    rw [List.getElem?_eq_getElem (by omega), List.getElem?_eq_getElem (by omega)]
    simpa using this
  · rw [List.getElem?_eq_none (by omega), List.getElem?_eq_none (by omega)]

/-- Sixteen of w go round: the last ones of those that there are. -/
def Win (Z : List Nat) (t : Nat) (W : List Nat) : Prop := ∀ j, j < max t 16 → max t 16 ≤ j + 16 → W.getD (j % 16) 0 = Z.getD j 0
theorem Win.early {Z W : List Nat} {t : Nat} (h : Win Z t W) (ht : t < 16) : Win Z (t + 1) W := fun j h1 h2 => h j (by omega) (by omega)
theorem Win.late {Z W : List Nat} {t : Nat} (h : Win Z t W) (ht : 16 ≤ t) (hW : W.length = 16) (v : Nat) (hv : v = Z.getD t 0) : Win Z (t + 1) (W.set (t % 16) v) := by
  intro j h1 h2
  rw [getD_set _ _ _ _ (by omega)]
  by_cases e : j = t
  · rw [if_pos (by omega), hv, e]
  · rw [if_neg (by omega)]
    exact h j (by omega) (by omega)

end Go.Proofs.YthbgcijkpincfaaDoor
