/-
  Several texts in one: LPre, LByte, LMem, LRef1, Adler, FPure, LDig, LApp, LGrown, LPut, LGet, SumChunk, SumNum, SumAdd.
-/
import Derived.WalkKit
import Derived.Lib.Hide
import Derived.RangeFuncBox
import Derived.Laws.BitsAllLaws
import Derived.Deep.Draws
import Derived.Laws.CopyOwn
import Derived.Test.YtfniddnfkciblaaGreatDoorRows
import Derived.WalkSpells
import Derived.Laws.AppendOwnNone
import Derived.Deep.RegionLaw
import Derived.Deep.QuietTactic
import Derived.BigQuiet
import Derived.RangeFuncNested
import Derived.RangeFuncBound
import Derived.RangeFuncCalls
import Derived.RangeFuncLeaves
import Derived.Shelf.Abstract
import Derived.OwnWalkIn
import Derived.TacticsInMore
import Derived.LoopNIn
import Derived.LoopIn
import Derived.Maps.AppendAt
import Derived.Deep.WholeRow
/-
  Plain facts: bytes as lists of natural numbers, digits to the base 256, what a slice reads as. No program is named here.
-/
namespace Go.Proofs.YtfniddnfkciblaaGreatDoor
open Go.RowKit

/-- A byte as a value. -/
def bv (x : Nat) : Value := .int .u8 (x : Int)
def bvs (xs : List Nat) : List Value := xs.map bv
theorem bvs_length (xs : List Nat) : (bvs xs).length = xs.length := List.length_map ..
theorem bvs_append (xs ys : List Nat) : bvs (xs ++ ys) = bvs xs ++ bvs ys := List.map_append ..
theorem bvs_one (x : Nat) : bvs [x] = [bv x] := rfl
theorem bvs_get (xs : List Nat) (j : Nat) : (bvs xs)[j]? = (xs[j]?).map bv := List.getElem?_map ..
theorem bvs_oneCell (xs : List Nat) : ∀ u ∈ bvs xs, u.oneCell' = true := by
  intro u hu
  obtain ⟨x, _, rfl⟩ := List.mem_map.1 hu
  rfl

/-- The digits of n to the base 256, k of them, the highest first. -/
def dg (n : Nat) : Nat → List Nat
  | 0 => []
  | k + 1 => (n / 256 ^ k % 256) :: dg n k
theorem dg_length (n k : Nat) : (dg n k).length = k := by
  induction k with
  | zero => rfl
  | succ k ih => simp [dg, ih]
theorem dg_lt (n k : Nat) : ∀ x ∈ dg n k, x < 256 := by
  induction k with
  | zero => intro x hx; cases hx
  | succ k ih =>
    intro x hx
    rcases List.mem_cons.1 hx with rfl | h
    · exact Nat.mod_lt _ (by omega)
    · exact ih x h

/-- The slice value '.slice A xs.length c' reads as the bytes xs. -/
def Rd (w : World) (A : Option Addr) (xs : List Nat) : Prop :=
  ∀ j x, xs[j]? = some x → ∃ ad, A = some ad ∧ w.cell? (ad.add j) = some (bv x)

theorem block_add (a : Addr) (n : Nat) : (a.add n).block = a.block := by unfold Addr.add; split <;> rfl
theorem add_add (a : Addr) (i j : Nat) : (a.add i).add j = a.add (i + j) := by
  unfold Addr.add
  by_cases hi : i = 0 <;> by_cases hj : j = 0 <;> simp [hi, hj, Nat.add_assoc]

section
variable {w w' : World} {A : Option Addr} {xs : List Nat}
theorem Rd.nil (w : World) (A : Option Addr) : Rd w A [] := fun j x h => by simp at h
theorem Rd.below (h : Rd w A xs) (hb : Below w.heap.size w w') : Rd w' A xs := fun j x hx => by
  obtain ⟨ad, e, hc⟩ := h j x hx
  exact ⟨ad, e, (hb.cell (World.block_lt_of_cell? w _ hc)).trans hc⟩
theorem Rd.at_ (h : Rd w A xs) {k : Nat} (hk : k < xs.length) : ∃ ad, A = some ad ∧ w.cell? (ad.add k) = some (bv xs[k]) :=
  h k _ (List.getElem?_eq_getElem hk)
theorem Rd.take (h : Rd w A xs) (k : Nat) : Rd w A (xs.take k) := fun j x hx => by
  rw [List.getElem?_take] at hx
  split at hx
  · exact h j x hx
  · cases hx
theorem Rd.drop {a : Addr} (h : Rd w (some a) xs) (k : Nat) : Rd w (some (a.add k)) (xs.drop k) := fun j x hx => by
  rw [List.getElem?_drop] at hx
  obtain ⟨ad, e, hc⟩ := h _ x hx
  cases e
  exact ⟨_, rfl, by rw [add_add]; exact hc⟩
end

/-- '.slice A n c' reads as the bytes xs: n of them. -/
structure In (w : World) (A : Option Addr) (n : Nat) (xs : List Nat) : Prop where
  len : xs.length = n
  rd : Rd w A xs

section
variable {w w' : World} {A : Option Addr} {n : Nat} {xs : List Nat}
theorem In.none_ (w : World) (A : Option Addr) : In w A 0 [] := ⟨rfl, Rd.nil _ _⟩
theorem In.below (h : In w A n xs) (hb : Below w.heap.size w w') : In w' A n xs := ⟨h.len, h.rd.below hb⟩
theorem In.at_ (h : In w A n xs) {k : Nat} (hk : k < n) : ∃ ad x, A = some ad ∧ xs[k]? = some x ∧ w.cell? (ad.add k) = some (.int .u8 (x : Int)) := by
  have hl : k < xs.length := by rw [h.len]; exact hk
  obtain ⟨ad, e, hc⟩ := h.rd.at_ hl
  exact ⟨ad, _, e, List.getElem?_eq_getElem hl, hc⟩
theorem In.take (h : In w A n xs) {k : Nat} (hk : k ≤ n) : In w A k (xs.take k) := ⟨by rw [List.length_take, h.len]; omega, h.rd.take k⟩
theorem In.of_own {base : Nat} {e : TypeId} {c : Nat} (h : w.ownsRow base e 1 (.slice A n c) n (bvs xs)) : In w A n xs := by
  refine ⟨by have := h.1; rw [bvs_length] at this; omega, fun j x hx => ?_⟩
  rcases h.2 with ⟨e1, h0⟩ | ⟨g, cap, cur, e1, _⟩
  · have hl := h.1
    rw [bvs_length, h0] at hl
    have : xs = [] := List.eq_nil_of_length_eq_zero (by omega)
    subst this
    simp at hx
  · cases e1
    exact ⟨_, rfl, h.cells rfl j _ (by rw [bvs_get, hx]; rfl)⟩
theorem own_form {base : Nat} {e : TypeId} {v : Value} (h : w.ownsRow base e 1 v n (bvs xs)) : ∃ A c, v = .slice A n c := by
  rcases h.2 with ⟨rfl, rfl⟩ | ⟨g, cap, cur, rfl, _⟩
  · exact ⟨_, _, rfl⟩
  · exact ⟨_, _, rfl⟩
end

/-- The number whose digits to the base 256 these are, the highest first. -/
def val (xs : List Nat) : Nat := xs.foldl (fun n d => n * 256 + d) 0
theorem val_snoc (xs : List Nat) (d : Nat) : val (xs ++ [d]) = val xs * 256 + d := by simp [val, List.foldl_append]
theorem fold_lt (xs : List Nat) (h : ∀ x ∈ xs, x < 256) : ∀ a, xs.foldl (fun n d => n * 256 + d) a < (a + 1) * 256 ^ xs.length := by
  induction xs with
  | nil => intro a; simp
  | cons d xs ih =>
    intro a
    have h1 := ih (fun x hx => h x (by simp [hx])) (a * 256 + d)
    have h2 := h d (by simp)
    rw [List.foldl_cons, List.length_cons, Nat.pow_succ, Nat.mul_comm (256 ^ xs.length) 256, ← Nat.mul_assoc]
    refine Nat.lt_of_lt_of_le h1 (Nat.mul_le_mul_right _ ?_)
    omega
theorem val_lt (xs : List Nat) (h : ∀ x ∈ xs, x < 256) : val xs < 256 ^ xs.length := by
  have := fold_lt xs h 0
  simpa [val] using this

theorem or_low (a x : Nat) (hx : x < 256) : a * 256 ||| x = a * 256 + x := by
  have := Nat.two_pow_add_eq_or_of_lt (i := 8) (b := x) (by omega) a
  rw [Nat.mul_comm a 256]
  exact this.symm

/-- One digit more. -/
theorem or_step (a x : Nat) (ha : a < 72057594037927936) (hx : x < 256) :
    bits .or .u64 (IntKind.u64.wrap ((a : Int) * 256)) (IntKind.u64.wrap (x : Int)) = ((a * 256 + x : Nat) : Int) := by
  have e1 : IntKind.u64.wrap ((a : Int) * 256) = ((a * 256 : Nat) : Int) := by rw [IntKind.wrap_u64]; omega
  have e2 : IntKind.u64.wrap (x : Int) = ((x : Nat) : Int) := by rw [IntKind.wrap_u64]; omega
  rw [e1, e2, u64_or_nat _ _ (by omega) (by omega), or_low a x hx]

theorem take_snoc_of {xs : List Nat} {j x : Nat} (h : xs[j]? = some x) : xs.take (j + 1) = xs.take j ++ [x] := by
  rw [List.take_add_one, h]; rfl

theorem val_step {xs : List Nat} {j x : Nat} (h : xs[j]? = some x) (hb : ∀ y ∈ xs, y < 256) (hj : j < 8) :
    bits .or .u64 (IntKind.u64.wrap ((val (xs.take j) : Int) * 256)) (IntKind.u64.wrap (x : Int)) = (val (xs.take (j + 1)) : Int) := by
  have hx : x < 256 := hb x (List.mem_of_getElem? h)
  have h1 := val_lt (xs.take j) (fun y hy => hb y (List.mem_of_mem_take hy))
  have h2 : (xs.take j).length ≤ 7 := by rw [List.length_take]; omega
  have h3 : 256 ^ (xs.take j).length ≤ 256 ^ 7 := Nat.pow_le_pow_right (by omega) h2
  rw [or_step _ _ (by have : (256 : Nat) ^ 7 = 72057594037927936 := by decide
                      omega) hx, take_snoc_of h, val_snoc]

theorem dg_get (n k i : Nat) (h : i < k) : (dg n k)[i]? = some (n / 256 ^ (k - 1 - i) % 256) := by
  induction k generalizing i with
  | zero => omega
  | succ k ih =>
    cases i with
    | zero => simp [dg]
    | succ i =>
      rw [show k + 1 - 1 - (i + 1) = k - 1 - i by omega, dg, List.getElem?_cons_succ]
      exact ih i (by omega)

theorem wrap_digit (n t : Nat) (ht : t < 8) : n % 18446744073709551616 / 256 ^ t % 256 = n / 256 ^ t % 256 := by
  have e : 18446744073709551616 = 256 ^ t * (256 * 256 ^ (7 - t)) := by
    rw [← Nat.mul_assoc, ← Nat.pow_succ, ← Nat.pow_add, show t + 1 + (7 - t) = 8 by omega]
  rw [e, Nat.mod_mul_right_div_self, Nat.mod_mul_right_mod]

theorem dg_wrap (n k : Nat) (hk : k ≤ 8) : dg (n % 18446744073709551616) k = dg n k := by
  induction k with
  | zero => rfl
  | succ k ih => rw [dg, dg, ih (by omega), wrap_digit n k (by omega)]

theorem fold_dg (n k : Nat) : ∀ a, (dg n k).foldl (fun n d => n * 256 + d) a = a * 256 ^ k + n % 256 ^ k := by
  induction k with
  | zero => intro a; simp [dg, Nat.mod_one]
  | succ k ih =>
    intro a
    rw [dg, List.foldl_cons, ih, Nat.pow_succ, Nat.mod_mul, Nat.add_mul, Nat.mul_assoc, Nat.mul_comm 256 (256 ^ k), Nat.mul_comm (n / 256 ^ k % 256)]
    omega
theorem val_dg (n k : Nat) : val (dg n k) = n % 256 ^ k := by
  have := fold_dg n k 0
  simpa [val] using this
theorem val_told (n k : Nat) (xs : List Nat) (h : n < 256 ^ k) : val ((dg n k ++ xs).take k) = n := by
  have e : (dg n k ++ xs).take k = dg n k := by
    rw [List.take_append, dg_length, Nat.sub_self, List.take_of_length_le (Nat.le_of_eq (dg_length n k))]
    simp
  rw [e, val_dg, Nat.mod_eq_of_lt h]
theorem bytes_append {xs ys : List Nat} (h : ∀ x ∈ xs, x < 256) (k : ∀ x ∈ ys, x < 256) : ∀ x ∈ xs ++ ys, x < 256 := by
  intro x hx
  rcases List.mem_append.1 hx with hx | hx
  · exact h x hx
  · exact k x hx
theorem drop_dg (n k : Nat) (xs : List Nat) : (dg n k ++ xs).drop k = xs := by
  rw [List.drop_append, dg_length, Nat.sub_self, List.drop_of_length_le (Nat.le_of_eq (dg_length n k))]
  rfl
theorem own_cap {w : World} {base : Nat} {e : TypeId} {size : Nat} {A : Option Addr} {n c : Nat} {xs : List Value} (h : w.ownsRow base e size (.slice A n c) n xs) : n ≤ c := by
  rcases h.2 with ⟨e1, h0⟩ | ⟨g, cap, cur, e1, _, _, hle, _⟩
  · omega
  · cases e1; exact hle

theorem dg_split (n a b : Nat) : dg n (a + b) = dg (n / 256 ^ b) a ++ dg n b := by
  induction a with
  | zero => simp [dg]
  | succ a ih =>
    rw [show a + 1 + b = (a + b) + 1 by omega, dg, dg, ih, Nat.div_div_eq_div_mul, ← Nat.pow_add, Nat.add_comm b a]
    rfl

theorem own_nil {w : World} {base : Nat} {e : TypeId} {size : Nat} {A : Option Addr} {n c : Nat} {xs : List Value} (h : w.ownsRow base e size (.slice A n c) n xs) : A = none → c = 0 := by
  intro hA
  rcases h.2 with ⟨e1, _⟩ | ⟨g, cap, cur, e1, _⟩
  · injection e1
  · rw [hA] at e1; cases e1

theorem hi_nat (n low : Nat) : (n : Int) / 2 ^ (8 * low) = ((n / 256 ^ low : Nat) : Int) := by
  rw [Int.pow_mul]
  simp

theorem take_all (n k : Nat) : (dg n k).take k = dg n k := List.take_of_length_le (Nat.le_of_eq (dg_length n k))
theorem take_high (n k low : Nat) (h : low ≤ k) : (dg n k).take (k - low) = dg (n / 256 ^ low) (k - low) := by
  have e := dg_split n (k - low) low
  rw [show k - low + low = k by omega] at e
  rw [e, List.take_append, dg_length, Nat.sub_self, take_all]
  simp
theorem drop_low (n k low : Nat) (h : low ≤ k) : (dg n k).drop (k - low) = dg n low := by
  have e := dg_split n (k - low) low
  rw [show k - low + low = k by omega] at e
  rw [e, drop_dg]

theorem In.cut {w : World} {A : Option Addr} {n : Nat} {xs : List Nat} (h : In w A n xs) {k c : Nat} (hk : k ≤ n) (hc : n ≤ c) :
    In w (if c = k then A else A.map (·.add k)) (n - k) (xs.drop k) := by
  refine ⟨by rw [List.length_drop, h.len], ?_⟩
  by_cases hn : n = k
  · have : xs.drop k = [] := List.eq_nil_of_length_eq_zero (by rw [List.length_drop, h.len]; omega)
    rw [this]
    exact Rd.nil _ _
  · rw [if_neg (by omega)]
    obtain ⟨ad, x, rfl, _⟩ := h.at_ (show 0 < n by omega)
    exact h.rd.drop k

theorem In.drop_take {w : World} {ad : Addr} {n : Nat} {xs : List Nat} (h : In w (some ad) n xs) {k m : Nat} (hm : k + m ≤ n) : In w (some (ad.add k)) m ((xs.drop k).take m) :=
  ⟨by rw [List.length_take, List.length_drop, h.len]; omega, (h.rd.drop k).take m⟩

theorem In.drewN {w : World} {A : Option Addr} {n : Nat} {xs : List Nat} (h : In w A n xs) (q : Nat) : In (w.drewN q) A n xs := ⟨h.len, h.rd⟩

theorem add_pos (a : Addr) {k : Nat} (hk : 0 < k) : a.add k = ⟨a.block, a.off + k, none⟩ := by
  unfold Addr.add
  rw [if_neg (by omega)]

theorem take_more (ys : List Nat) (a b : Nat) : ys.take (a + b) = ys.take a ++ (ys.drop a).take b := List.take_add ..

theorem below_alloc (w : World) (o : Obj) : Below w.heap.size w (w.alloc o) := (Below.refl _ w).alloc (Nat.le_refl _) o
theorem below_on {B : Nat} {a b c : World} (h : Below B a b) (hB : B ≤ a.heap.size) (k : Below b.heap.size b c) : Below B a c := h.trans (k.mono (Nat.le_trans hB h.size))

theorem acc {B : Nat} {a b c : World} {o : Obj} (h : Below B a b) (hB : B ≤ a.heap.size) (k : Below (b.alloc o).heap.size (b.alloc o) c) : Below B a c :=
  below_on (below_on h hB (below_alloc b o)) hB k

/-- The bytes s lie from the address ad on. -/
def At (w : World) (ad : Addr) (s : List Nat) : Prop := ∀ j x, s[j]? = some x → w.cell? (ad.add j) = some (bv x)

theorem At.below {w w' : World} {ad : Addr} {s : List Nat} (h : At w ad s) (hb : Below w.heap.size w w') : At w' ad s := fun j x hx =>
  (hb.cell (World.block_lt_of_cell? w _ (h j x hx))).trans (h j x hx)

/-- '.slice A n c', a slice of sums, reads as n sums, whose bytes are ys. -/
structure InS (w : World) (A : Option Addr) (n : Nat) (ys : List Nat) : Prop where
  len : ys.length = 32 * n
  rd : Rd w A ys

/-- The k-th sum of a row. -/
def nth (ys : List Nat) (k : Nat) : List Nat := (ys.drop (32 * k)).take 32

section
variable {w w' : World} {A : Option Addr} {n : Nat} {ys : List Nat}
theorem InS.below (h : InS w A n ys) (hb : Below w.heap.size w w') : InS w' A n ys := ⟨h.len, h.rd.below hb⟩
theorem InS.drewN (h : InS w A n ys) (q : Nat) : InS (w.drewN q) A n ys := ⟨h.len, h.rd⟩
theorem InS.none_ (w : World) (A : Option Addr) : InS w A 0 [] := ⟨rfl, Rd.nil _ _⟩
theorem nth_length (h : ys.length = 32 * n) {k : Nat} (hk : k < n) : (nth ys k).length = 32 := by
  unfold nth; rw [List.length_take, List.length_drop]; omega
theorem InS.at_ (h : InS w A n ys) {k : Nat} (hk : k < n) : ∃ ad, A = some ad ∧ (nth ys k).length = 32 ∧ At w (ad.add (k * 32)) (nth ys k) := by
  obtain ⟨ad, rfl, _⟩ := h.rd.at_ (show 0 < ys.length by rw [h.len]; omega)
  refine ⟨ad, rfl, nth_length h.len hk, fun j x hx => ?_⟩
  unfold nth at hx
  rw [List.getElem?_take] at hx
  split at hx
  · rw [List.getElem?_drop] at hx
    obtain ⟨ad', e, hc⟩ := h.rd _ x hx
    cases e
    rw [add_add, Nat.mul_comm k 32]
    exact hc
  · cases hx
end

theorem In.new' (W : World) (xs : List Nat) (t : TypeId) : In (W.alloc (.cells (bvs xs).toArray t)) (some ⟨W.heap.size, 0, none⟩) xs.length xs :=
  ⟨rfl, fun j x hx => ⟨_, rfl, by
    rw [show (⟨W.heap.size, 0, none⟩ : Addr).add j = ⟨W.heap.size, j, none⟩ from by unfold Addr.add; split <;> simp_all]
    rw [cell_of_row _ W.heap.size j _ t (0, 0) (World.alloc_heap_new W _), List.getElem?_toArray, bvs_get, hx]
    rfl⟩⟩

theorem take_nth (ys : List Nat) (j : Nat) : ys.take (32 * (j + 1)) = ys.take (32 * j) ++ nth ys j := by
  rw [show 32 * (j + 1) = 32 * j + 32 by omega, take_more]
  rfl

theorem InS.take {w : World} {A : Option Addr} {n : Nat} {ys : List Nat} (h : InS w A n ys) {k : Nat} (hk : k ≤ n) : InS w A k (ys.take (32 * k)) :=
  ⟨by rw [List.length_take, h.len]; omega, h.rd.take _⟩
theorem InS.of_own {w : World} {base : Nat} {A : Option Addr} {n c : Nat} {ys : List Nat} {e : TypeId} (h : w.ownsRow base e 32 (.slice A n c) n (bvs ys)) : InS w A n ys := by
  refine ⟨by have := h.1; rw [bvs_length] at this; omega, fun j x hx => ?_⟩
  rcases h.2 with ⟨e1, h0⟩ | ⟨g, cap, cur, e1, _⟩
  · have hl := h.1
    rw [bvs_length, h0] at hl
    have : ys = [] := List.eq_nil_of_length_eq_zero (by omega)
    subst this
    simp at hx
  · cases e1
    exact ⟨_, rfl, h.cells rfl j _ (by rw [bvs_get, hx]; rfl)⟩
theorem InS.cut {w : World} {A : Option Addr} {n : Nat} {ys : List Nat} (h : InS w A n ys) {k c : Nat} (hk : k ≤ n) (hc : n ≤ c) :
    InS w (if c = k then A else A.map (·.add (k * 32))) (n - k) (ys.drop (32 * k)) := by
  refine ⟨by rw [List.length_drop, h.len]; omega, ?_⟩
  by_cases hn : n = k
  · have : ys.drop (32 * k) = [] := List.eq_nil_of_length_eq_zero (by rw [List.length_drop, h.len]; omega)
    rw [this]
    exact Rd.nil _ _
  · rw [if_neg (by omega)]
    obtain ⟨ad, rfl, _⟩ := h.rd.at_ (show 0 < ys.length by rw [h.len]; omega)
    have := h.rd.drop (32 * k)
    rw [Nat.mul_comm k 32]
    exact this

theorem zeroCells_bytes (m : Nat) : Builtin.zeroCells #[.int .u8 0] m = (bvs (List.replicate m 0)).toArray := by
  apply Array.ext'
  simp only [Builtin.zeroCells, bvs, List.map_replicate, Array.toList_map, Array.toList_range]
  rw [List.eq_replicate_iff]
  refine ⟨by simp, fun b hb => ?_⟩
  obtain ⟨i, _, rfl⟩ := List.mem_map.1 hb
  simp [Nat.mod_one, bv]

theorem bv_digit (N i : Nat) : bv (N / 256 ^ i % 256) = .int .u8 ((N : Int) / 2 ^ (8 * i) % 256) := by
  have h : ((N / 256 ^ i % 256 : Nat) : Int) = (N : Int) / 2 ^ (8 * i) % 256 := by
    rw [Int.pow_mul]
    simp
  unfold bv
  rw [h]

end Go.Proofs.YtfniddnfkciblaaGreatDoor

/-
  The type byte.
-/
namespace Go.Proofs.YtfniddnfkciblaaGreatDoor
open Go.RowKit

theorem infoByte : (Tryz.prog.info? 5).map (fun i => (i.zero, i.size, i.bytes)) = some (some (.int .u8 0), 1, 1) := by kernel_rfl

theorem sizeByte : (Tryz.prog.info? 5).map (·.size) = some 1 := by kernel_rfl

theorem cellsByte : Tryz.prog.cellsOf 5 = 1 := by kernel_rfl

end Go.Proofs.YtfniddnfkciblaaGreatDoor

/-
  The type []byte in a walk: make, append, slices, answers in memory of their own.
-/
namespace Go.Proofs.YtfniddnfkciblaaGreatDoor
open Go.RowKit

theorem make_bytes (n c : Nat) (hnc : n ≤ c) (hc : c ≤ 200000000000000) (W : World) :
    (Instr.makeSlice 23 (.int .i64 (n : Int)) (.int .i64 (c : Int))).run Tryz.prog W = .ok (.slice (some ⟨W.heap.size, 0, none⟩) n c) (W.alloc (.cells (madeCells #[.int .u8 0] c) 5)) := by
  obtain ⟨i0, hi, hz0, hz1, hz2⟩ := info_parts infoByte
  have hr := run_make (P := Tryz.prog) W 23 5 i0 _ Tryz.underlying23 hi hz0 .i64 .i64 n c (by omega) (by omega) (by rw [hz2]; omega) (by omega)
  rw [hz1] at hr
  simpa [Value.cells] using hr

/-- A call has answered the bytes ys, n of them, in memory of its own: from block number 'base' on. -/
def Gives (base : Nat) (w : World) (n : Nat) (ys : List Nat) (e : Ending) (w' : World) : Prop :=
  ∃ A c, e = .returned (.slice A n c) ∧ w'.ownsRow base 5 1 (.slice A n c) n (bvs ys) ∧ Below base w w'

theorem gives_of {base : Nat} {w w' : World} {n : Nat} {ys : List Nat} {e : Ending} (h : ∃ v, e = .returned v ∧ w'.ownsRow base 5 1 v n (bvs ys) ∧ Below base w w') : Gives base w n ys e w' := by
  obtain ⟨v, rfl, ho, hb⟩ := h
  obtain ⟨A, c, rfl⟩ := own_form ho
  exact ⟨A, c, rfl, ho, hb⟩

/-- A call has answered the bytes ys, a number, and no error. -/
def Gives3 (base : Nat) (w : World) (n : Nat) (ys : List Nat) (took : Int) (e : Ending) (w' : World) : Prop :=
  ∃ A c, e = .returned (.tuple #[.slice A n c, .int .i64 took, .int .i64 0]) ∧ w'.ownsRow base 5 1 (.slice A n c) n (bvs ys) ∧ Below base w w'

def Short3 (w : World) (e : Ending) (w' : World) : Prop := e = .returned (.tuple #[.slice none 0 0, .int .i64 0, .int .i64 5]) ∧ w = w'

/-- 'append(out, l...)' of bytes, out a row of the call's own, l whatever: nil, empty, or not. -/
theorem wpList_app {ops : Array Oper} {rest : List Oper} {o : Oper} {a : Act} {Q : Exit → Act → World → Prop} (w : World) (hgd : o.guard = none) (s x : Operand)
    (ho : o.op = .call { callee := .builtin .append, args := #[s, x], argTypes := #[23, 23] })
    (base : Nat) (A : Option Addr) (n c : Nat) (xs : List Nat) (hs : a.eval s = .slice A n c) (hown : w.ownsRow base 5 1 (.slice A n c) n (bvs xs))
    (A2 : Option Addr) (m c2 : Nat) (ys : List Nat) (hx : a.eval x = .slice A2 m c2) (hin : In w A2 m ys) (hnil : A2 = none → c2 = 0) (hle : n + m ≤ 140737488355328) (hbase : base ≤ w.heap.size)
    (h : ∀ A' c' w', w'.ownsRow base 5 1 (.slice A' (n + m) c') (n + m) (bvs (xs ++ ys)) → Below base w w' → wpList Tryz.prog ops Q rest (a.put o.dst (.slice A' (n + m) c')) w') :
    wpList Tryz.prog ops Q (o :: rest) a w := by
  obtain ⟨i0, hi, hz0, hz1, hz2⟩ := info_parts infoByte
  cases A2 with
  | none =>
    obtain rfl := hnil rfl
    have hy : ys = [] := by
      cases ys with
      | nil => rfl
      | cons y ys =>
        obtain ⟨ad, e, _⟩ := hin.rd 0 y rfl
        cases e
    subst hy
    obtain rfl : m = 0 := hin.len.symm
    refine wpList_append_own_none hgd s x 23 ho base 5 i0 1 Tryz.underlying23 hi _ n (bvs xs) hs hown hx ?_
    exact h A c w (by simpa using hown) (Below.refl _ _)
  | some ad =>
    refine wpList_append_own w hgd s x 23 ho base 5 i0 _ 1 1 Tryz.underlying23 hi hz0 hz1 hz2 rfl (by decide) _ n (bvs xs) hs hown ad m c2 (bvs ys) hx (by rw [bvs_length, hin.len]; simp) ?_ (bvs_oneCell ys) (by unfold maxLen; omega) (by omega) hbase ?_
    · intro j u hu
      rw [bvs_get] at hu
      obtain ⟨y, hy, rfl⟩ := Option.map_eq_some_iff.1 hu
      obtain ⟨ad', e, hc⟩ := hin.rd j y hy
      cases e
      exact hc
    · intro v' w' h2 h3 _
      rw [← bvs_append] at h2
      obtain ⟨A', c', rfl⟩ := own_form h2
      exact h A' c' w' h2 ((Below.refl _ _).grown h3 hbase fun k hk => (hown.lt k hk).1)

theorem In.new (W : World) (xs : List Nat) : In (W.alloc (.cells (bvs xs).toArray 5)) (some ⟨W.heap.size, 0, none⟩) xs.length xs :=
  ⟨rfl, fun j x hx => ⟨_, rfl, by
    rw [show (⟨W.heap.size, 0, none⟩ : Addr).add j = ⟨W.heap.size, j, none⟩ from by unfold Addr.add; split <;> simp_all]
    rw [cell_of_row _ W.heap.size j _ 5 (0, 0) (World.alloc_heap_new W _), List.getElem?_toArray, bvs_get, hx]
    rfl⟩⟩

/-- What a call that leaves the world alone leaves, said less sharply: so that the world behind it is a name. -/
theorem loose {f : FuncId} {args : Array Value} {w : World} {v : Value} (h : Calls Tryz.prog f args w fun e w' => e = .returned v ∧ w = w') :
    Calls Tryz.prog f args w fun e w' => e = .returned v ∧ Below w.heap.size w w' := h.mono fun _ _ ⟨h1, h2⟩ => ⟨h1, h2 ▸ Below.refl _ _⟩
theorem loose3 {f : FuncId} {args : Array Value} {w : World} (h : Calls Tryz.prog f args w (Short3 w)) :
    Calls Tryz.prog f args w fun e w' => e = .returned (.tuple #[.slice none 0 0, .int .i64 0, .int .i64 5]) ∧ Below w.heap.size w w' := h.mono fun _ _ ⟨h1, h2⟩ => ⟨h1, h2 ▸ Below.refl _ _⟩
theorem looseN {f : FuncId} {args : Array Value} {w : World} {v : Value} (h : Calls Tryz.prog f args w fun e w' => e = .returned v ∧ ∃ q, w' = w.drewN q) :
    Calls Tryz.prog f args w fun e w' => e = .returned v ∧ Below w.heap.size w w' := h.mono fun _ _ ⟨h1, _, h2⟩ => ⟨h1, h2 ▸ ⟨rfl, rfl, rfl, Nat.le_refl _, fun _ _ => rfl⟩⟩

theorem run_app (w : World) (ty : TypeId) (base : Nat) (A : Option Addr) (n c : Nat) (xs : List Nat) (hown : w.ownsRow base 5 1 (.slice A n c) n (bvs xs))
    (A2 : Option Addr) (m c2 : Nat) (ys : List Nat) (hin : In w A2 m ys) (hnil : A2 = none → c2 = 0) (hle : n + m ≤ 140737488355328) (hbase : base ≤ w.heap.size) :
    ∃ A' c' w', (Builtin.append_ #[23, 23] ty #[.slice A n c, .slice A2 m c2]).run Tryz.prog w = .ok (.slice A' (n + m) c') w' ∧
      w'.ownsRow base 5 1 (.slice A' (n + m) c') (n + m) (bvs (xs ++ ys)) ∧ Below base w w' := by
  obtain ⟨i0, hi, hz0, hz1, hz2⟩ := info_parts infoByte
  cases A2 with
  | none =>
    obtain rfl := hnil rfl
    have hy : ys = [] := by
      cases ys with
      | nil => rfl
      | cons y ys =>
        obtain ⟨ad, e, _⟩ := hin.rd 0 y rfl
        cases e
    subst hy
    obtain rfl : m = 0 := hin.len.symm
    exact ⟨A, c, w, run_append_owned_none (P := Tryz.prog) (w := w) base 23 ty 5 i0 1 Tryz.underlying23 hi _ n (bvs xs) hown, by simpa using hown, Below.refl _ _⟩
  | some ad =>
    obtain ⟨v', w', hr, h2, h3, _⟩ := run_append_own (P := Tryz.prog) w base 23 ty 5 i0 _ 1 1 Tryz.underlying23 hi hz0 hz1 hz2 rfl (by decide) _ n (bvs xs) hown ad m c2 (bvs ys) (by rw [bvs_length, hin.len]; simp)
      (fun j u hu => by
        rw [bvs_get] at hu
        obtain ⟨y, hy, rfl⟩ := Option.map_eq_some_iff.1 hu
        obtain ⟨ad', e, hc⟩ := hin.rd j y hy
        cases e
        exact hc) (bvs_oneCell ys) (by unfold maxLen; omega) (by omega) hbase
    rw [← bvs_append] at h2
    obtain ⟨A', c', rfl⟩ := own_form h2
    exact ⟨A', c', w', hr, h2, (Below.refl _ _).grown h3 hbase fun k hk => (hown.lt k hk).1⟩

theorem step_app {ops : Array Oper} {o : Oper} {a : Act} {w : World} {K : Act → World → Prop} {Q : Exit → Act → World → Prop} {E : Prop} (hgd : o.guard = none) (s x : Operand)
    (ho : o.op = .call { callee := .builtin .append, args := #[s, x], argTypes := #[23, 23] })
    (base : Nat) (A : Option Addr) (n c : Nat) (xs : List Nat) (hs : a.eval s = .slice A n c) (hown : w.ownsRow base 5 1 (.slice A n c) n (bvs xs))
    (A2 : Option Addr) (m c2 : Nat) (ys : List Nat) (hx : a.eval x = .slice A2 m c2) (hin : In w A2 m ys) (hnil : A2 = none → c2 = 0) (hle : n + m ≤ 140737488355328) (hbase : base ≤ w.heap.size)
    (h : ∀ A' c' w', w'.ownsRow base 5 1 (.slice A' (n + m) c') (n + m) (bvs (xs ++ ys)) → Below base w w' → K (a.put o.dst (.slice A' (n + m) c')) w') :
    if Region.wanted o (yielded ops a.tmps) = true then Oper.wp Tryz.prog o a w K Q else E := by
  have hw : Region.wanted o (yielded ops a.tmps) = true := by simp [Region.wanted, hgd]
  rw [if_pos hw]
  obtain ⟨A', c', w', hr, h2, h3⟩ := run_app w o.type base A n c xs hown A2 m c2 ys hin hnil hle hbase
  unfold Oper.wp execOp
  simp only [ho, resolve, invoke, builtin, Sem.run_bind, Sem.run_pure, Result.andThen_ok, List.map_toArray, List.map_cons, List.map_nil, hs, hx, hr]
  exact h A' c' w' h2 h3

/-- A slice of bytes from k on, its address under a name: nobody asks whether the room behind it is empty. -/
theorem cut_name {A : Option Addr} {n c k : Nat} (hk : k ≤ n) :
    ∃ B, (∀ W : World, (Instr.slice 23 (.slice A n c) (some (.int .i64 (k : Int))) none none).run Tryz.prog W = .ok (.slice B (n - k) (c - k)) W) ∧
      B = (if c = k then A else A.map (·.add k)) := by
  refine ⟨_, fun W => ?_, rfl⟩
  obtain ⟨i0, hi, hz0, hz1, hz2⟩ := info_parts infoByte
  have he : Tryz.prog.elem 23 = 5 := by kernel_rfl
  rw [run_slice_l W 23 A n c (by rw [he]; exact Tryz.underlying23) .i64 (k : Int) (by omega) (by omega), he]
  simp [sizeOf, typeInfo, hi, hz1, sliced]

theorem run_append_zeros (w : World) (ty : TypeId) (b : Addr) (n c m : Nat) (xs : List Nat) (hin : In w (some b) n xs) (hm : 0 < m) (hg : c < n + m) (hle : n + m ≤ 1000000000) :
    ∃ A' c' w', (Builtin.append_ #[23, 3] ty #[.slice (some b) n c, .int .i64 (m : Int)]).run Tryz.prog w = .ok (.slice A' (n + m) c') w' ∧
      In w' A' (n + m) (xs ++ List.replicate m 0) ∧ n + m ≤ c' ∧ Below w.heap.size w w' := by
  obtain ⟨i0, hi, hz0, hz1, hz2⟩ := info_parts infoByte
  have hn : ¬ (n + m ≤ c) := by omega
  have h63' : ¬ (9223372036854775807 < ((n : Int) + (m : Int))) := by omega
  have hf := growslice_fits (need := n + m) (old := c) (bytes := 1) (by omega) (by omega)
  have h48' : ¬ (281474976710656 < Builtin.nextslicecap (n + m) c) := by omega
  have hw : IntKind.i64.wrap (m : Int) = (m : Int) := by rw [IntKind.wrap_i64]; omega
  have hn0 : ¬ ((m : Int) < 0) := by omega
  have hnb : ¬ (281474976710656 < (m : Int)) := by omega
  have hm0 : ¬ m = 0 := by omega
  have hcl : ∀ j v, (bvs xs)[j]? = some v → w.cell? (b.add j) = some v := by
    intro j v hv
    rw [bvs_get] at hv
    obtain ⟨y, hy, rfl⟩ := Option.map_eq_some_iff.1 hv
    obtain ⟨ad', e, hc'⟩ := hin.rd j y hy
    cases e
    exact hc'
  have hfo := run_firstCells_some (P := Tryz.prog) w.drew 1 n b n c (bvs xs) (by rw [bvs_length, hin.len]; simp) (by simpa using hcl)
  have hge := grownCap_ge w (n + m) c 5
  have hrun : (Builtin.append_ #[23, 3] ty #[.slice (some b) n c, .int .i64 (m : Int)]).run Tryz.prog w =
      .ok (.slice (some ⟨w.heap.size, 0, none⟩) (n + m) (grownCap w (n + m) c 5)) (w.drew.alloc (.cells ((bvs xs).toArray ++ Builtin.zeroCells #[.int .u8 0] m ++ Builtin.zeroCells #[.int .u8 0] (grownCap w (n + m) c 5 - (n + m))) 5)) := by
    simp [Builtin.append_, run_underlying Tryz.underlying23, run_underlying Tryz.underlying3, sizeOf, typeInfo, zeroValue, hi, hz0, hz1, hz2, asInt, asIntOf, hw, hn0, hnb, hn, hm0, h63', h48', Question.forced, hfo, newRow, grownCap, Value.cells]
  refine ⟨_, _, _, hrun, ⟨by rw [List.length_append, hin.len, List.length_replicate], fun j x hx => ⟨_, rfl, ?_⟩⟩, hge, ?_⟩
  · rw [show (⟨w.heap.size, 0, none⟩ : Addr).add j = ⟨w.heap.size, j, none⟩ from by unfold Addr.add; split <;> simp_all]
    rw [cell_of_row _ w.heap.size j _ 5 (0, 0) (World.alloc_heap_new w.drew _)]
    rw [zeroCells_bytes, zeroCells_bytes]
    have hlt : j < (xs ++ List.replicate m 0).length := (List.getElem?_eq_some_iff.1 hx).1
    rw [List.append_toArray, List.append_toArray, List.getElem?_toArray, ← bvs_append, List.getElem?_append_left (by rw [bvs_length]; exact hlt), bvs_get, hx]
    rfl
  · exact ((Below.refl _ w).drew).alloc (Nat.le_refl _) _

theorem wpList_zeros {ops : Array Oper} {rest : List Oper} {o : Oper} {a : Act} {Q : Exit → Act → World → Prop} (w : World) (hgd : o.guard = none) (s x : Operand)
    (ho : o.op = .call { callee := .builtin .append, args := #[s, x], argTypes := #[23, 3] })
    (b : Addr) (n c m : Nat) (xs : List Nat) (hs : a.eval s = .slice (some b) n c) (hx : a.eval x = .int .i64 (m : Int)) (hin : In w (some b) n xs) (hm : 0 < m) (hg : c < n + m) (hle : n + m ≤ 1000000000)
    (h : ∀ A' c' w', In w' A' (n + m) (xs ++ List.replicate m 0) → n + m ≤ c' → Below w.heap.size w w' → wpList Tryz.prog ops Q rest (a.put o.dst (.slice A' (n + m) c')) w') :
    wpList Tryz.prog ops Q (o :: rest) a w := by
  refine wpList_plain hgd fun K hK => ?_
  obtain ⟨A', c', w', hr, h2, h3, h4⟩ := run_append_zeros w o.type b n c m xs hin hm hg hle
  unfold Oper.wp execOp
  simp only [ho, resolve, invoke, builtin, Sem.run_bind, Sem.run_pure, Result.andThen_ok, List.map_toArray, List.map_cons, List.map_nil, hs, hx, hr]
  exact hK _ _ (h A' c' w' h2 h3 h4)

end Go.Proofs.YtfniddnfkciblaaGreatDoor

/-
  The document's own answers of layer 1: power, Get, there, GetBytes.
-/
namespace Go.Proofs.YtfniddnfkciblaaGreatDoor
open Go.RowKit

/-- A callee that leaves the world alone, met in a second region that only reads. -/
theorem quiet_again {P : Program} {f : FuncId} {args : Array Value} {w : World} {a n : Nat} {v : Value} (h : Calls P f args (w.drewN (a + n)) fun e w' => e = .returned v ∧ w' = w.drewN (a + n)) :
    Calls P f args (w.drewN (a + n)) fun e w'' => e = .returned v ∧ ∃ m, w'' = w.drewN (a + m) := h.mono fun _ _ ⟨he, hm⟩ => ⟨he, n, hm⟩

set_option maxRecDepth 100000 in
set_option maxHeartbeats 400000 in
theorem power_any (p P : Nat) (hp : p ≤ 7) (hP : 256 ^ p = P) (w : World) :
    Calls Tryz.prog 55 #[.int .i64 (p : Int)] w fun e w' => e = .returned (.int .u64 (P : Int)) ∧ w' = w := by
  have HP := Lib.hid hP
  clear hP
  go_enter Tryz.func55, Tryz.ntmps55
  go_wp2
  go_loop [3, 4] (fun t i => ∃ j Q : Nat, j ≤ p ∧ i = .int .i64 (j : Int) ∧ t = .int .u64 (Q : Int) ∧ 256 ^ j = Q) (fun _ i => p - (intOf i).toNat)
  case atStart => exact ⟨0, 1, Nat.zero_le _, rfl, rfl, rfl⟩
  case round =>
    obtain ⟨j, Q, hj, rfl, rfl, hQ⟩ := hrel
    by_cases hlt : j < p
    · have hb : Q ≤ 281474976710656 := by
        rw [← hQ]
        exact Nat.le_trans (Nat.pow_le_pow_right (by omega) (show j ≤ 6 by omega)) (by decide)
      have HQ := Lib.hid hQ
      clear hQ
      go_wp2
      go_round
      case rel => exact ⟨j + 1, 256 * Q, by omega, by go_num, by go_num, by rw [Nat.pow_succ, HQ.out]; omega⟩
      case measure => simp [intOf]; omega
    · obtain rfl : j = p := by omega
      obtain rfl : Q = P := hQ.symm.trans HP.out
      go_wp2
      go_ret
      exact ⟨rfl, rfl⟩

theorem fold_acc (ys : List Nat) : ∀ a, ys.foldl (fun n d => n * 256 + d) a = a * 256 ^ ys.length + val ys := by
  induction ys with
  | nil => intro a; simp [val]
  | cons d ys ih =>
    intro a
    have h0 : val (d :: ys) = d * 256 ^ ys.length + val ys := by
      have := ih (0 * 256 + d)
      simpa [val] using this
    rw [List.foldl_cons, ih, h0, List.length_cons, Nat.pow_succ, Nat.add_mul, Nat.mul_assoc, Nat.mul_comm 256 (256 ^ ys.length)]
    omega
theorem val_cons (d : Nat) (ys : List Nat) : val (d :: ys) = d * 256 ^ ys.length + val ys := by
  have := fold_acc ys (0 * 256 + d)
  simpa [val] using this
theorem drop_one {xs : List Nat} {k x : Nat} (h : xs[k]? = some x) : xs.drop k = x :: xs.drop (k + 1) := by
  have hl := (List.getElem?_eq_some_iff.1 h)
  rw [List.drop_eq_getElem_cons hl.1, hl.2]

set_option maxRecDepth 100000 in
set_option maxHeartbeats 400000 in
theorem refGet_arg (A : Option Addr) (n c : Nat) (bytes : Int) (w : World) (h : bytes < 0 ∨ 8 < bytes) :
    Calls Tryz.prog 21 #[.slice A n c, .int .i64 bytes] w fun e w' => e = .returned (.tuple #[.int .u64 0, .int .i64 1]) ∧ w = w' := by
  rcases h with h | h
  · go_enter Tryz.func21, Tryz.ntmps21
    go_wp2
    go_ret2
    exact ⟨rfl, rfl⟩
  · have h0 : ¬ bytes < 0 := by omega
    go_enter Tryz.func21, Tryz.ntmps21
    go_wp2
    go_ret2
    exact ⟨rfl, rfl⟩

set_option maxRecDepth 100000 in
set_option maxHeartbeats 400000 in
theorem refGet_short (A : Option Addr) (n c k : Nat) (w : World) (hk : k ≤ 8) (hn : n < k) :
    Calls Tryz.prog 21 #[.slice A n c, .int .i64 (k : Int)] w fun e w' => e = .returned (.tuple #[.int .u64 0, .int .i64 5]) ∧ w = w' := by
  go_enter Tryz.func21, Tryz.ntmps21
  go_wp2
  go_ret2
  exact ⟨rfl, rfl⟩

set_option maxRecDepth 100000 in
set_option maxHeartbeats 1000000 in
theorem refGet_ok (A : Option Addr) (n c k : Nat) (xs : List Nat) (w : World) (hin : In w A n xs) (hb : ∀ x ∈ xs, x < 256) (hk : k ≤ 8) (hn : k ≤ n) :
    Calls Tryz.prog 21 #[.slice A n c, .int .i64 (k : Int)] w fun e w' => e = .returned (.tuple #[.int .u64 (val (xs.take k) : Int), .int .i64 0]) ∧ ∃ q, w' = w.drewN q := by
  have d0 : decide ((k : Int) < 0) = false := by simp
  have d1 : decide (8 < (k : Int)) = false := by simp; omega
  have d2 : decide (n < k) = false := by simp; omega
  have hin' := hin.take hn
  have hbk : ∀ x ∈ xs.take k, x < 256 := fun x hx => hb x (List.mem_of_mem_take hx)
  have HB := Lib.hid hbk
  clear hb hbk hin
  generalize xs.take k = ys at *
  go_enter Tryz.func21, Tryz.ntmps21
  go_wp2
  go_loopw [6, 7] (fun t i wr => ∃ p S : Nat, p ≤ k ∧ i = .int .i64 (p : Int) ∧ t = .int .u64 (S : Int) ∧ val (ys.drop (k - p)) = S ∧ ∃ q, wr = w.drewN q) (fun _ i _ => k - (intOf i).toNat)
  case atStart => exact ⟨0, 0, Nat.zero_le _, rfl, rfl, by rw [Nat.sub_zero, List.drop_of_length_le (by rw [hin'.len]; omega)]; rfl, 0, rfl⟩
  case round =>
    obtain ⟨p, S, hp, rfl, rfl, hS, q, rfl⟩ := hrel
    by_cases hlt : p < k
    · obtain ⟨j, hj⟩ : ∃ j, k - 1 - p = j := ⟨_, rfl⟩
      obtain ⟨ad, x, rfl, hx, hcell⟩ := hin'.at_ (show j < k by omega)
      have hx256 : x < 256 := HB.out x (List.mem_of_getElem? hx)
      obtain ⟨P, hP⟩ : ∃ P, 256 ^ p = P := ⟨_, rfl⟩
      have hPb : P ≤ 72057594037927936 := by
        rw [← hP]
        exact Nat.le_trans (Nat.pow_le_pow_right (by omega) (show p ≤ 7 by omega)) (by decide)
      have hP1 : 1 ≤ P := by rw [← hP]; exact Nat.pow_pos (by omega)
      have hlen : (ys.drop (k - p)).length = p := by rw [List.length_drop, hin'.len]; omega
      have hSb : S < P := by
        have := val_lt (ys.drop (k - p)) (fun y hy => HB.out y (List.mem_of_mem_drop hy))
        rw [hlen, hP, hS] at this
        exact this
      have hS2 : val (ys.drop (k - (p + 1))) = x * P + S := by
        have e : k - (p + 1) + 1 = k - p := by omega
        rw [show j = k - (p + 1) by omega] at hx
        rw [drop_one hx, val_cons, e, hlen, hP, hS]
      have hxP : x * P ≤ 255 * P := Nat.mul_le_mul_right _ (by omega)
      have C1 := Lib.hid (fun W => power_any p P (by omega) hP W)
      have HS2 := Lib.hid hS2
      clear hS2 hS hP hlen hx
      obtain ⟨M, hM⟩ : ∃ M, x * P = M := ⟨_, rfl⟩
      rw [hM] at hxP HS2
      have k1 : IntKind.i64.wrap ((k : Int) - 1) = (k : Int) - 1 := IntWalk.i64_in _ (by omega)
      have k2 : IntKind.i64.wrap ((k : Int) - 1 - (p : Int)) = (j : Int) := by
        rw [show (k : Int) - 1 - (p : Int) = (j : Int) by omega]
        exact IntWalk.i64_in _ (by omega)
      have k3 : (j : Int) < (n : Int) := by omega
      clear hj
      have k6 : IntKind.u64.wrap (x : Int) = (x : Int) := by rw [IntKind.wrap_u64]; omega
      have k7 : IntKind.u64.wrap ((x : Int) * (P : Int)) = (M : Int) := by
        rw [show (x : Int) * (P : Int) = ((x * P : Nat) : Int) from by simp, hM, IntKind.wrap_u64]; omega
      have k8 : IntKind.u64.wrap ((S : Int) + (M : Int)) = (S : Int) + (M : Int) := by rw [IntKind.wrap_u64]; omega
      clear hM
      go_wp2
      go_quiet ((go_at_call 55; exact quiet_again (C1.out _)))
      rw [World.drewN_drewN]
      clear k1 k2 k3 k6 k7 k8
      go_wp2
      go_roundw
      case rel => exact ⟨p + 1, S + M, by omega, by go_num, by go_num, by rw [HS2.out]; omega, q + nq, rfl⟩
      case measure => simp [intOf]; omega
    · obtain rfl : p = k := by omega
      rw [Nat.sub_self, List.drop_zero] at hS
      have HS := Lib.hid hS
      clear hS
      go_wp2
      go_ret2
      exact ⟨by rw [HS.out]; rfl, q, rfl⟩

end Go.Proofs.YtfniddnfkciblaaGreatDoor

/-
  Adler-32 as plain functions on lists of numbers: both kept numbers, step by step and closed; one byte changed, two neighbours changed, noughts, two lists joined. No program is named here.
-/
namespace Go.Proofs.YtfniddnfkciblaaGreatDoor

/-- Both numbers that are kept, behind each byte. -/
def ad (p : Nat × Nat) (xs : List Nat) : Nat × Nat := xs.foldl (fun p x => ((p.1 + x) % 65521, (p.2 + (p.1 + x) % 65521) % 65521)) p
theorem ad_nil (p : Nat × Nat) : ad p [] = p := rfl
theorem ad_snoc (p : Nat × Nat) (xs : List Nat) (x : Nat) : ad p (xs ++ [x]) = (((ad p xs).1 + x) % 65521, ((ad p xs).2 + ((ad p xs).1 + x) % 65521) % 65521) := by
  unfold ad; rw [List.foldl_append]; rfl
theorem ad_append (p : Nat × Nat) (xs ys : List Nat) : ad p (xs ++ ys) = ad (ad p xs) ys := List.foldl_append ..

/-- All bytes together; each as often as there are from it on. -/
def sm (xs : List Nat) : Nat := xs.foldr (· + ·) 0
def wt : List Nat → Nat
  | [] => 0
  | x :: xs => (xs.length + 1) * x + wt xs
theorem sm_cons (x : Nat) (xs : List Nat) : sm (x :: xs) = x + sm xs := rfl
theorem sm_append (xs ys : List Nat) : sm (xs ++ ys) = sm xs + sm ys := by
  induction xs with
  | nil => simp [sm]
  | cons x xs ih => rw [List.cons_append, sm_cons, sm_cons, ih]; omega
theorem wt_append (xs ys : List Nat) : wt (xs ++ ys) = wt xs + ys.length * sm xs + wt ys := by
  induction xs with
  | nil => simp [wt, sm]
  | cons x xs ih =>
    rw [List.cons_append, wt, wt, ih, sm_cons, List.length_append, Nat.mul_add ys.length x, show xs.length + ys.length + 1 = (xs.length + 1) + ys.length by omega, Nat.add_mul (xs.length + 1)]
    omega
theorem sm_snoc (xs : List Nat) (x : Nat) : sm (xs ++ [x]) = sm xs + x := by rw [sm_append]; simp [sm]
theorem wt_snoc (xs : List Nat) (x : Nat) : wt (xs ++ [x]) = wt xs + sm xs + x := by rw [wt_append]; simp [wt]

theorem ad_closed (a b : Nat) (ha : a < 65521) (hb : b < 65521) (xs : List Nat) : ad (a, b) xs = ((a + sm xs) % 65521, (b + xs.length * a + wt xs) % 65521) := by
  suffices h : ∀ n, ∀ xs : List Nat, xs.length = n → ad (a, b) xs = ((a + sm xs) % 65521, (b + xs.length * a + wt xs) % 65521) from h _ xs rfl
  intro n
  induction n with
  | zero =>
    intro xs hx
    obtain rfl := List.eq_nil_of_length_eq_zero hx
    simp [ad, sm, wt, Nat.mod_eq_of_lt ha, Nat.mod_eq_of_lt hb]
  | succ n ih =>
    intro xs hx
    obtain ⟨ys, y, rfl⟩ : ∃ ys y, xs = ys ++ [y] := ⟨xs.dropLast, xs.getLast (by intro h; rw [h] at hx; simp at hx), (List.dropLast_concat_getLast _).symm⟩
    have hy : ys.length = n := by simpa using hx
    rw [ad_snoc, ih ys hy, sm_snoc, wt_snoc, List.length_append, hy]
    simp only [List.length_singleton, Nat.mod_add_mod, Nat.add_mod_mod]
    have e : (n + 1) * a = n * a + a := by rw [Nat.add_mul, Nat.one_mul]
    rw [e, show a + sm ys + y = a + (sm ys + y) by omega]
    congr 1
    rw [show b + (n * a + a) + (wt ys + sm ys + y) = (b + n * a + wt ys) + (a + (sm ys + y)) by omega]
theorem ad_lt (a b : Nat) (ha : a < 65521) (hb : b < 65521) (xs : List Nat) : (ad (a, b) xs).1 < 65521 ∧ (ad (a, b) xs).2 < 65521 := by
  rw [ad_closed a b ha hb]
  exact ⟨Nat.mod_lt _ (by decide), Nat.mod_lt _ (by decide)⟩

/-- The sum of two kept numbers; what a sum tells of them. -/
def two (p : Nat × Nat) : Nat := p.2 * 65536 + p.1
theorem two_low {p : Nat × Nat} (h : p.1 < 65521) : two p % 65536 = p.1 := by unfold two; omega
theorem two_high {p : Nat × Nat} (h : p.1 < 65521) : two p / 65536 = p.2 := by unfold two; omega
theorem two_lt {p : Nat × Nat} (h : p.1 < 65521) (h2 : p.2 < 65521) : two p < 4294967296 := by unfold two; omega
def split (s : Nat) : Nat × Nat := (s % 65536 % 65521, s / 65536 % 65521)
theorem split_lt (s : Nat) : (split s).1 < 65521 ∧ (split s).2 < 65521 := ⟨Nat.mod_lt _ (by decide), Nat.mod_lt _ (by decide)⟩
theorem split_two {p : Nat × Nat} (h : p.1 < 65521) (h2 : p.2 < 65521) : split (two p) = p := by
  unfold split
  rw [two_low h, two_high h, Nat.mod_eq_of_lt h, Nat.mod_eq_of_lt h2]
/-- The document's sum: behind a sum, and of bytes alone. -/
def onL (s : Nat) (xs : List Nat) : Nat := two (ad (split s) xs)
def ofL (xs : List Nat) : Nat := onL 1 xs
theorem split_one : split 1 = (1, 0) := rfl
theorem onL_low (s : Nat) (xs : List Nat) : onL s xs % 65536 = (s % 65536 % 65521 + sm xs) % 65521 := by
  have h := split_lt s
  unfold onL
  rw [two_low (ad_lt _ _ h.1 h.2 xs).1]
  show (ad ((split s).1, (split s).2) xs).1 = _
  rw [ad_closed _ _ h.1 h.2]
  rfl
theorem onL_high (s : Nat) (xs : List Nat) : onL s xs / 65536 = (s / 65536 % 65521 + xs.length * (s % 65536 % 65521) + wt xs) % 65521 := by
  have h := split_lt s
  unfold onL
  rw [two_high (ad_lt _ _ h.1 h.2 xs).1]
  show (ad ((split s).1, (split s).2) xs).2 = _
  rw [ad_closed _ _ h.1 h.2]
  rfl
theorem onL_lt (s : Nat) (xs : List Nat) : onL s xs < 4294967296 := two_lt (ad_lt _ _ (split_lt s).1 (split_lt s).2 xs).1 (ad_lt _ _ (split_lt s).1 (split_lt s).2 xs).2
theorem onL_append (s : Nat) (xs ys : List Nat) : onL s (xs ++ ys) = onL (onL s xs) ys := by
  have h := ad_lt _ _ (split_lt s).1 (split_lt s).2 xs
  unfold onL
  rw [split_two h.1 h.2, ad_append]
theorem ofL_low (xs : List Nat) : ofL xs % 65536 = (1 + sm xs) % 65521 := onL_low 1 xs
theorem ofL_high (xs : List Nat) : ofL xs / 65536 = (xs.length + wt xs) % 65521 := by
  have := onL_high 1 xs
  simpa [ofL] using this
/-- Two sums of one low and one high half are the same. -/
theorem halves_eq {m n : Nat} (h1 : m % 65536 = n % 65536) (h2 : m / 65536 = n / 65536) : m = n := by omega

/-- One byte another one. -/
theorem sm_set {xs : List Nat} {k x : Nat} (y : Nat) (h : xs[k]? = some x) : sm (xs.set k y) + x = sm xs + y := by
  induction xs generalizing k with
  | nil => simp at h
  | cons z xs ih =>
    cases k with
    | zero => simp at h; subst h; rw [List.set_cons_zero, sm_cons, sm_cons]; omega
    | succ k =>
      have := ih (k := k) (by simpa using h)
      rw [List.set_cons_succ, sm_cons, sm_cons]; omega
theorem byte_low {xs : List Nat} {k x y : Nat} (h : xs[k]? = some x) (hx : x < 256) (hy : y < 256) : ofL (xs.set k y) % 65536 = (ofL xs % 65536 + (65521 + y - x)) % 65521 := by
  have := sm_set y h
  rw [ofL_low, ofL_low]
  omega
theorem byte_same {xs : List Nat} {k x y : Nat} (h : xs[k]? = some x) (hx : x < 256) (hy : y < 256) : (ofL xs = ofL (xs.set k y)) ↔ y = x := by
  constructor
  · intro e
    have h1 := byte_low (y := y) h hx hy
    rw [← e] at h1
    have h2 := ofL_low xs
    omega
  · rintro rfl
    have e : xs.set k y = xs := by
      apply List.ext_getElem?
      intro i
      rw [List.getElem?_set]
      by_cases hk : k = i
      · subst hk
        rw [if_pos rfl, if_pos (List.getElem?_eq_some_iff.1 h).1, h]
      · rw [if_neg hk]
    rw [e]

/-- Two neighbours change their places. -/
theorem sm_swap (ps qs : List Nat) (x y : Nat) : sm (ps ++ y :: x :: qs) = sm (ps ++ x :: y :: qs) := by
  rw [sm_append, sm_append, sm_cons, sm_cons, sm_cons, sm_cons]; omega
theorem wt_swap (ps qs : List Nat) (x y : Nat) : wt (ps ++ y :: x :: qs) + x = wt (ps ++ x :: y :: qs) + y := by
  rw [wt_append, wt_append, wt, wt, wt, wt]
  simp only [List.length_cons, Nat.add_mul, Nat.one_mul]
  omega
theorem swap_low (ps qs : List Nat) (x y : Nat) : ofL (ps ++ y :: x :: qs) % 65536 = ofL (ps ++ x :: y :: qs) % 65536 := by rw [ofL_low, ofL_low, sm_swap]
theorem swap_high (ps qs : List Nat) {x y : Nat} (hx : x < 256) : ofL (ps ++ y :: x :: qs) / 65536 = (ofL (ps ++ x :: y :: qs) / 65536 + (65521 + y - x)) % 65521 := by
  have := wt_swap ps qs x y
  rw [ofL_high, ofL_high]
  simp only [List.length_append, List.length_cons]
  omega
theorem swap_same (ps qs : List Nat) {x y : Nat} (hx : x < 256) (hy : y < 256) : (ofL (ps ++ x :: y :: qs) = ofL (ps ++ y :: x :: qs)) ↔ x = y := by
  constructor
  · intro e
    have h1 := swap_high ps qs (x := x) (y := y) hx
    rw [← e] at h1
    have h2 := ofL_high (ps ++ x :: y :: qs)
    omega
  · rintro rfl; rfl

/-- Noughts. -/
theorem sm_zeros (n : Nat) : sm (List.replicate n 0) = 0 := by
  induction n with
  | zero => rfl
  | succ n ih => rw [List.replicate_succ, sm_cons, ih]
theorem wt_zeros (n : Nat) : wt (List.replicate n 0) = 0 := by
  induction n with
  | zero => rfl
  | succ n ih => rw [List.replicate_succ, wt, ih, Nat.mul_zero]
theorem zeros_low (s n : Nat) : onL s (List.replicate n 0) % 65536 = s % 65536 % 65521 := by
  rw [onL_low, sm_zeros, Nat.add_zero, Nat.mod_mod]
theorem zeros_high (s n : Nat) : onL s (List.replicate n 0) / 65536 = (s / 65536 % 65521 + n * (s % 65536 % 65521)) % 65521 := by
  rw [onL_high, wt_zeros, List.length_replicate, Nat.add_zero]

/-- Two lists together. -/
theorem join_low (xs ys : List Nat) : ofL (xs ++ ys) % 65536 = (ofL xs % 65536 + ofL ys % 65536 + 65521 - 1) % 65521 := by
  rw [ofL_low, ofL_low, ofL_low, sm_append]; omega
theorem join_high (xs ys : List Nat) : ofL (xs ++ ys) / 65536 = (ofL xs / 65536 + ofL ys / 65536 + ys.length * (ofL xs % 65536 + 65521 - 1)) % 65521 := by
  rw [ofL_high, ofL_high, ofL_high, ofL_low, wt_append, List.length_append]
  have e : (ys.length * ((1 + sm xs) % 65521 + 65521 - 1)) % 65521 = (ys.length * sm xs) % 65521 := by
    have h : ((1 + sm xs) % 65521 + 65521 - 1) % 65521 = sm xs % 65521 := by omega
    rw [Nat.mul_mod, h, ← Nat.mul_mod]
  omega
theorem join_on (xs ys : List Nat) : ofL (xs ++ ys) = onL (ofL xs) ys := onL_append 1 xs ys

theorem alive_some : ofL [] = 1 ∧ ofL [87, 105, 107, 105, 112, 101, 100, 105, 97] = 300286872 ∧ ofL [97] = 6422626 ∧ onL 1 [97] = 6422626 ∧ onL 65537 [] = 65537 ∧ onL 65521 [] = 0 := by decide

end Go.Proofs.YtfniddnfkciblaaGreatDoor

/-
  A frame as plain lists of bytes.
-/
namespace Go.Proofs.YtfniddnfkciblaaGreatDoor

def recMark : List Nat := [82, 69, 67, 49]
/-- How many sectors. -/
def secs (c : Nat) : Nat := (c + 81) / 64
theorem secs_ge (c : Nat) : 18 + c ≤ 64 * secs c := by unfold secs; omega
theorem secs_le (c : Nat) (h : c ≤ 256) : secs c ≤ 5 := by unfold secs; omega
theorem secs_pos (c : Nat) : 1 ≤ secs c := by unfold secs; omega
theorem secs_lt (c : Nat) : 64 * secs c < 18 + c + 64 := by unfold secs; omega
def noug (c : Nat) : Nat := 64 * secs c - 18 - c
def toldL (num count : Nat) : List Nat := dg num 8 ++ dg count 2
def sumL (num : Nat) (b : List Nat) : Nat := ofL (toldL num b.length ++ b)
def headL (num : Nat) (b : List Nat) : List Nat := recMark ++ toldL num b.length ++ dg (sumL num b) 4
def frameL (num : Nat) (b : List Nat) : List Nat := headL num b ++ b ++ List.replicate (noug b.length) 0
theorem toldL_length (num c : Nat) : (toldL num c).length = 10 := by unfold toldL; rw [List.length_append, dg_length, dg_length]
theorem headL_length (num : Nat) (b : List Nat) : (headL num b).length = 18 := by unfold headL recMark; rw [List.length_append, List.length_append, toldL_length, dg_length]; rfl
theorem frameL_length (num : Nat) (b : List Nat) : (frameL num b).length = 64 * secs b.length := by
  unfold frameL noug
  rw [List.length_append, List.length_append, headL_length, List.length_replicate]
  have := secs_ge b.length
  omega
theorem toldL_lt (num c : Nat) : ∀ x ∈ toldL num c, x < 256 := bytes_append (dg_lt num 8) (dg_lt c 2)
theorem zeros_lt (n : Nat) : ∀ x ∈ List.replicate n 0, x < 256 := fun x h => by rw [List.eq_of_mem_replicate h]; omega
theorem recMark_lt : ∀ x ∈ recMark, x < 256 := by decide
theorem headL_lt (num : Nat) (b : List Nat) : ∀ x ∈ headL num b, x < 256 := bytes_append (bytes_append recMark_lt (toldL_lt _ _)) (dg_lt _ _)
theorem frameL_lt (num : Nat) (b : List Nat) (h : ∀ x ∈ b, x < 256) : ∀ x ∈ frameL num b, x < 256 := bytes_append (bytes_append (headL_lt _ _) h) (zeros_lt _)
theorem sumL_lt (num : Nat) (b : List Nat) : sumL num b < 4294967296 := onL_lt 1 _

/-- What is wrong with bytes of which a frame is cut. -/
inductive Bad | short | form | sum
  deriving DecidableEq
def numOf (xs : List Nat) : Nat := val ((xs.drop 4).take 8)
def cntOf (xs : List Nat) : Nat := val ((xs.drop 12).take 2)
def sumIn (xs : List Nat) : Nat := val ((xs.drop 14).take 4)
def recOf (xs : List Nat) : List Nat := (xs.drop 18).take (cntOf xs)
def restOf (xs : List Nat) : List Nat := (xs.drop (18 + cntOf xs)).take (noug (cntOf xs))
def cutL (xs : List Nat) : Option Bad :=
  if xs.length < 64 then some .short
  else if xs.take 4 ≠ recMark then some .form
  else if 256 < cntOf xs then some .form
  else if xs.length < 64 * secs (cntOf xs) then some .short
  else if restOf xs ≠ List.replicate (noug (cntOf xs)) 0 then some .form
  else if sumIn xs ≠ sumL (numOf xs) (recOf xs) then some .sum
  else none

section
variable {xs : List Nat}
theorem recOf_length (h : 64 * secs (cntOf xs) ≤ xs.length) : (recOf xs).length = cntOf xs := by
  have := secs_ge (cntOf xs)
  unfold recOf
  rw [List.length_take, List.length_drop]
  omega
theorem restOf_length (h : 64 * secs (cntOf xs) ≤ xs.length) : (restOf xs).length = noug (cntOf xs) := by
  have := secs_ge (cntOf xs)
  unfold restOf noug
  rw [List.length_take, List.length_drop]
  omega
theorem drop_take_lt (h : ∀ x ∈ xs, x < 256) (i j : Nat) : ∀ x ∈ (xs.drop i).take j, x < 256 := fun x hx => h x (List.mem_of_mem_drop (List.mem_of_mem_take hx))
theorem recOf_lt (h : ∀ x ∈ xs, x < 256) : ∀ x ∈ recOf xs, x < 256 := drop_take_lt h _ _
theorem numOf_lt (h : ∀ x ∈ xs, x < 256) : numOf xs < 18446744073709551616 := by
  have := val_lt _ (drop_take_lt h 4 8)
  have hl : ((xs.drop 4).take 8).length ≤ 8 := by rw [List.length_take]; omega
  exact Nat.lt_of_lt_of_le this (Nat.le_trans (Nat.pow_le_pow_right (by omega) hl) (by decide))
theorem cntOf_lt (h : ∀ x ∈ xs, x < 256) : cntOf xs < 65536 := by
  have := val_lt _ (drop_take_lt h 12 2)
  have hl : ((xs.drop 12).take 2).length ≤ 2 := by rw [List.length_take]; omega
  exact Nat.lt_of_lt_of_le this (Nat.le_trans (Nat.pow_le_pow_right (by omega) hl) (by decide))
theorem sumIn_lt (h : ∀ x ∈ xs, x < 256) : sumIn xs < 4294967296 := by
  have := val_lt _ (drop_take_lt h 14 4)
  have hl : ((xs.drop 14).take 4).length ≤ 4 := by rw [List.length_take]; omega
  exact Nat.lt_of_lt_of_le this (Nat.le_trans (Nat.pow_le_pow_right (by omega) hl) (by decide))
end

end Go.Proofs.YtfniddnfkciblaaGreatDoor

/-
  nums.digits.
-/
namespace Go.Proofs.YtfniddnfkciblaaGreatDoor
open Go.RowKit Go.Shelf

attribute [local go_sem] Oper.semAt_some

/-- Block B holds what it held. -/
def KeepsB (B : Nat) (W W' : World) : Prop := W'.heap[B]? = W.heap[B]?

set_option maxRecDepth 100000 in
set_option maxHeartbeats 400000 in
theorem it_in (F : Fence) (n : Nat) (h19 : F.fn 95) (hro : F.round = none) (hn : 1 ≤ n) (l Bb Bn k N : Nat) (hk8 : k ≤ 8) (J Jx : List Nat → World → Prop)
    (hY : ∀ pre x W, J pre W → pre.length < k → YieldAt F (n - 1) Tryz.prog l #[bv x] W fun e W' =>
      (e = .returned (.bool true) ∧ J (pre ++ [x]) W' ∧ KeepsB Bn W W') ∨ (e = .returned (.bool false) ∧ Jx (pre ++ [x]) W'))
    (W : World) (hBb : W.cell? ⟨Bb, 0, none⟩ = some (.int .i64 (k : Int))) (hBn : Boxed W Bn 22 (.int .u64 (N : Int))) (h0 : J [] W) :
    CallsIn F n Tryz.prog 95 #[.func (.yield l) #[] #[], .pointer (some ⟨Bb, 0, none⟩), .pointer (some ⟨Bn, 0, none⟩)] W fun e W' => (∃ v, e = .returned v) ∧
      ((∃ ys, ys = dg N k ∧ J ys W') ∨ (∃ pre, pre <+: dg N k ∧ Jx pre W')) := by
  refine callsIn_of_wp Tryz.func95 rfl h19 ?_ hro
  simp only [Tryz.ntmps95, List.size_toArray, List.length_cons, List.length_nil, Nat.reduceAdd, Nat.reduceSub, Array.replicate_succ, Array.replicate_zero, List.push_toArray, List.append_toArray, List.nil_append, List.cons_append]
  gi_wp2
  gi_loopw [4] (fun p wr => ∃ (pre : List Nat) (i : Nat), p = .int .i64 ((i : Int) - 1) ∧ i ≤ k ∧ dg N k = pre ++ dg N i ∧ J pre wr ∧ Boxed wr Bn 22 (.int .u64 (N : Int)))
    (fun p _ => (intOf p + 1).toNat)
  case atStart =>
    exact ⟨[], k, rfl, Nat.le_refl _, rfl, h0, hBn⟩
  case round =>
    obtain ⟨pre, i, rfl, hi, hx, hJs, hbx⟩ := hrel
    cases i with
    | zero =>
      gi_wp2
      go_end0
      exact ⟨⟨_, rfl⟩, .inl ⟨pre, by simp [hx, dg], hJs⟩⟩
    | succ i =>
      have hc := hbx.cell
      have hlen : pre.length < k := by
        have := congrArg List.length hx
        rw [List.length_append, dg_length, dg_length] at this
        omega
      obtain ⟨fn, tmps, assign, body, hy, hR⟩ := hY pre (N / 256 ^ i % 256) wr hJs hlen
      rw [bv_digit] at hy
      have HX := Lib.hid hx
      clear hx
      gi_wp2
      refine hR.mono ?_
      rintro e W3 (⟨rfl, hJ3, hk3⟩ | ⟨rfl, hJx3⟩)
      · have hbx3 : Boxed W3 Bn 22 (.int .u64 (N : Int)) := hk3.trans hbx
        gi_wp2
        go_roundw
        case rel => exact ⟨pre ++ [N / 256 ^ i % 256], i, by go_num, by omega, by rw [HX.out]; simp [dg], hJ3, hbx3⟩
        case measure => simp [intOf]
      · gi_wp2
        refine bodyPost_ret (results_none rfl _ _ _) rfl ?_
        exact ⟨⟨_, rfl⟩, .inr ⟨pre ++ [N / 256 ^ i % 256], ⟨dg N i, by rw [HX.out]; simp [dg]⟩, hJx3⟩⟩

set_option maxRecDepth 100000 in
set_option maxHeartbeats 400000 in
/-- digits hands back a function value that has captured both boxes. -/
theorem digits_in (F : Fence) (n : Nat) (h18 : F.fn 77) (hro : F.round = none) (N k : Int) (w : World) :
    CallsIn F n Tryz.prog 77 #[.int .u64 N, .int .i64 k] w fun e w' =>
      e = .returned (.func (.func 95) #[] #[.pointer (some ⟨w.heap.size + 1, 0, none⟩), .pointer (some ⟨w.heap.size, 0, none⟩)]) ∧
      (w.alloc (.cells #[.int .u64 N] 22)).alloc (.cells #[.int .i64 k] 3) = w' := by
  refine callsIn_of_wp Tryz.func77 rfl h18 ?_ hro
  simp only [Tryz.ntmps77, List.size_toArray, List.length_cons, List.length_nil, Nat.reduceAdd, Nat.reduceSub, Array.replicate_succ, Array.replicate_zero, List.push_toArray, List.append_toArray, List.nil_append, List.cons_append]
  gi_wp2
  go_ret
  exact ⟨rfl, rfl⟩

/-- The iterator's contract: all digits, in their order. -/
theorem digits_stops (F : Fence) (n : Nat) (h19 : F.fn 95) (hro : F.round = none) (hn : 1 ≤ n) (Bb Bn k N : Nat) (hk8 : k ≤ 8) (w : World)
    (hb : Boxed w Bb 3 (.int .i64 (k : Int))) (hN : Boxed w Bn 22 (.int .u64 (N : Int))) :
    SeqStopsK F n Tryz.prog 95 #[.pointer (some ⟨Bb, 0, none⟩), .pointer (some ⟨Bn, 0, none⟩)] (fun x : Nat => #[bv x]) (KeepsB Bn) (fun ys => ys = dg N k) (fun pre => pre <+: dg N k) k w := fun l J Jx W hW _ _ hY h0 =>
  it_in F n h19 hro hn l Bb Bn k N hk8 J Jx hY W ((hW.cell (p := ⟨Bb, 0, none⟩) hb.lt).trans hb.cell) ((hW.block Bn hN.lt).trans hN) h0

end Go.Proofs.YtfniddnfkciblaaGreatDoor

/-
  nums.appendDigits.
-/
namespace Go.Proofs.YtfniddnfkciblaaGreatDoor
open Go.RowKit Go.Shelf

attribute [local go_sem] Oper.semAt_some

theorem keepsB_of {Bn : Nat} {t : TypeId} {u : Value} {W W' : World} (h : Boxed W Bn t u) (h' : Boxed W' Bn t u) : KeepsB Bn W W' := Eq.trans h' (Eq.symm h)
theorem keepsB_t {Bn : Nat} {A B C : World} (h : KeepsB Bn A B) (k : KeepsB Bn B C) : KeepsB Bn A C := Eq.trans k h
theorem keepsB_b {Bn : Nat} {w : World} (hn : Bn < w.heap.size) (W : World) (l : Nat) (o o' : Obj) (hl : w.heap.size ≤ l) (_ : W.heap[l]? = some o) (_ : o.isCells = false) (_ : o.isWalk = false) : KeepsB Bn W (W.putObj l o') :=
  World.putObj_heap_other (by omega)

set_option maxRecDepth 100000 in
set_option maxHeartbeats 1000000 in
theorem appendDigits_in (F : Fence) (n : Nat) (h15 : F.fn 51) (h18 : F.fn 77) (h19 : F.fn 95) (hro : F.round = none) (hn : 3 ≤ n)
    (base : Nat) (A : Option Addr) (L c : Nat) (xs : List Nat) (N k : Nat) (hk : k ≤ 8) (hlen : L ≤ 1000000000000) (w : World) (hbase : base ≤ w.heap.size)
    (hown : w.ownsRow base 5 1 (.slice A L c) L (bvs xs)) :
    CallsIn F n Tryz.prog 51 #[.slice A L c, .int .u64 (N : Int), .int .i64 (k : Int)] w fun e W' =>
      ∃ v, e = .returned v ∧ W'.ownsRow base 5 1 v (L + k) (bvs (xs ++ dg N k)) ∧ Below base w W' := by
  have h1 : 1 ≤ n := by omega
  obtain ⟨i0, hi, hz0, hz1, hz2⟩ := info_parts infoByte
  refine callsIn_of_wp_marks Tryz.func51 rfl h15 ?_ hro
  simp only [Tryz.ntmps51, List.size_toArray, List.length_cons, List.length_nil, Nat.reduceAdd, Nat.reduceSub, Array.replicate_succ, Array.replicate_zero, List.push_toArray, List.append_toArray, List.nil_append, List.cons_append]
  gi_wp2_with (gi_at_call 77; refine (digits_in F (n - 1) h18 hro _ _ _).mono ?_; rintro e w' ⟨rfl, rfl⟩)
  have bO := Boxed.new w 23 (.slice A L c)
  have bN := Boxed.new (w.alloc (.cells #[.slice A L c] 23)) 22 (.int .u64 (N : Int))
  rw [World.size_alloc] at bN
  have bK := Boxed.new ((w.alloc (.cells #[.slice A L c] 23)).alloc (.cells #[.int .u64 (N : Int)] 22)) 3 (.int .i64 (k : Int))
  rw [World.size_alloc, World.size_alloc] at bK
  have hB0 : Below base w (((w.alloc (.cells #[.slice A L c] 23)).alloc (.cells #[.int .u64 (N : Int)] 22)).alloc (.cells #[.int .i64 (k : Int)] 3)) :=
    (((Below.refl _ w).alloc hbase _).alloc (by simp; omega) _).alloc (by simp; omega) _
  refine wpIn_rangeFunc_ownG hro h1 (gf := 95) (lb := #[.pointer (some ⟨w.heap.size + 1 + 1, 0, none⟩), .pointer (some ⟨w.heap.size + 1, 0, none⟩)]) rfl h19 (enters_of Tryz.func95 (by kernel_rfl) rfl)
    (digits_stops F (n - 1) h19 hro (by omega) (w.heap.size + 1 + 1) (w.heap.size + 1) k N hk _ bK (bN.alloc _)) keepsB_t (keepsB_b (by simp)) (Below.refl _ _) (fun _ => rfl)
    (fun pre W => (∃ v, Boxed W w.heap.size 23 v ∧ W.ownsRow base 5 1 v (L + pre.length) (bvs (xs ++ pre)) ∧ True) ∧ (Boxed W (w.heap.size + 1) 22 (.int .u64 (N : Int)) ∧ Below base w W))
    (fun _ _ _ => False)
    (OwnFrom.and (Own.from (holdsRow_own base w.heap.size 23 5 1 (fun pre => L + pre.length) (fun pre => bvs (xs ++ pre)) (fun _ _ => True)) _)
      (OwnFrom.and (Own.from (boxed_own (w.heap.size + 1) 22 (fun _ => .int .u64 (N : Int))) _) (ownFrom_below hbase (by simp; omega))))
    (fun _ _ _ _ _ hs _ _ => hs)
    ⟨⟨_, (bO.alloc _).alloc _, by simpa using ((hown.alloc _).alloc _).alloc _, trivial⟩, bN.alloc _, hB0⟩
    (fun x => { tmps := #[.slice A L c, .int .u64 (N : Int), .int .i64 (k : Int), .pointer (some ⟨w.heap.size, 0, none⟩), undef, undef, .slice none 0 0, .int .u8 (x : Int), .int .u64 (N : Int), .int .i64 (k : Int), .func (.func 95) #[] #[.pointer (some ⟨w.heap.size + 1 + 1, 0, none⟩), .pointer (some ⟨w.heap.size + 1, 0, none⟩)], .int .u8 (x : Int), undef, undef, undef, undef, undef], defers := [] }) ?assign ?body ?done ?stop
  case assign =>
    intro l x W K hK
    unfold bv
    gi_wp2
    exact hK
  case body =>
    rintro l pre x W ⟨⟨v, hv, hrow, _⟩, hbn, hB⟩ hlt
    have hc := hv.cell
    have hsz := hB.size
    have hm : L + pre.length + 1 ≤ maxLen := by unfold maxLen; omega
    gi_wp2_with (gi_at_builtin; refine wpListIn_append_own _ rfl _ _ 23 rfl base 5 i0 (.int .u8 0) 1 1 Tryz.underlying23 hi hz0 hz1 hz2 rfl (by decide) _ _ _ rfl (hrow.alloc _) ⟨W.heap.size, 0, none⟩ 1 1 [.int .u8 (x : Int)] rfl rfl (cell_one_new _ _ _) (by simp [Value.oneCell']) hm (by omega) (by simp; omega) ?_; intro v' w1 hown' hgrow _; obtain ⟨g', cap', rfl⟩ := ownsRow_succ hown'; obtain ⟨hv1, hv2, hr2, hk2, hb2⟩ := hv.appended (by decide) hrow (by omega) hbase hown' hgrow; have hc1 := hv1.cell; have hf1 := hv1.frozen)
    have hbn2 := Boxed.other ((hbn.alloc (.cells #[.int .u8 (x : Int)] 5)).kept hgrow (hbn.not_row (by decide) hrow)) (B' := w.heap.size) (by omega) (.slice (some ⟨g', 0, none⟩) (L + pre.length + 1) cap')
    refine ⟨hk2.from _, keepsB_of hbn hbn2, ⟨_, hv2, ?_, trivial⟩, hbn2, hB.trans hb2⟩
    rw [List.length_append, ← List.append_assoc, bvs_append]
    exact hr2
  case done =>
    rintro D ys W hD rfl ⟨⟨v, hv, hrow, _⟩, hbn, hB⟩ hK
    have hc := hv.cell
    gi_wp2
    refine ⟨by simp, .inl ⟨_, _, rfl, run_takeDeferred hK, ?_⟩⟩
    refine ⟨_, results_tmp rfl _ _ _, v, rfl, ?_, hB.trans (belowK_b (w := w) hbase W D _ _ (by simp at hD; omega) hK rfl rfl)⟩
    have := ownsRow_putObj hrow (.deferred none) hK rfl
    rw [dg_length] at this
    exact this
  case stop =>
    rintro D c pre W _ _ h _
    exact h.elim

end Go.Proofs.YtfniddnfkciblaaGreatDoor

/-
  nums.grown.
-/
namespace Go.Proofs.YtfniddnfkciblaaGreatDoor
open Go.RowKit

set_option maxRecDepth 100000 in
set_option maxHeartbeats 400000 in
theorem grown_any (A : Option Addr) (L c more : Nat) (xs : List Nat) (w : World) (hin : In w A L xs) (hle : L + more ≤ 200000000000000) :
    Calls Tryz.prog 52 #[.slice A L c, .int .i64 (more : Int)] w fun e w' =>
      e = .returned (.slice (some ⟨w.heap.size, 0, none⟩) L (L + more)) ∧
      w'.ownsRow w.heap.size 5 1 (.slice (some ⟨w.heap.size, 0, none⟩) L (L + more)) L (bvs xs) ∧ Below w.heap.size w w' := by
  have HL := Lib.hid hin.len
  have hr := hin.rd
  have hmk := make_bytes L (L + more) (by omega) hle
  have ec : ((L + more : Nat) : Int) = (L : Int) + (more : Int) := by omega
  rw [ec] at hmk
  clear ec
  obtain ⟨M, hM⟩ : ∃ M : List Value, (madeCells #[.int .u8 0] (L + more)).toList = M := ⟨_, rfl⟩
  have hMl : M.length = L + more := by rw [← hM, Array.length_toList, size_madeCells]
  have hM' : madeCells #[.int .u8 0] (L + more) = M.toArray := by rw [← hM]
  rw [hM'] at hmk
  clear hM hM'
  have HM := Lib.hid hMl
  clear hMl
  have hg : Hid ((w.alloc (.cells M.toArray 5)).heap[w.heap.size]? = some (.cells M.toArray 5 (0, 0))) := World.alloc_heap_new w _
  have hb : Below w.heap.size w (w.alloc (.cells M.toArray 5)) := (Below.refl _ w).alloc (Nat.le_refl _) _
  have hr' := hr.below hb
  have hn : Hid ((bvs xs).length = Nat.min L L) := by
    show _ = _
    rw [bvs_length, HL.out]
    exact (Nat.min_self L).symm
  have hpos : 0 < (bvs xs).length → (some ⟨w.heap.size, 0, none⟩ : Option Addr) = some ⟨w.heap.size, 0, none⟩ ∧ ∃ ad, A = some ad ∧ ∀ j v, (bvs xs)[j]? = some v → (w.alloc (.cells M.toArray 5)).cell? (ad.add j) = some v := by
    intro h0
    rw [bvs_length] at h0
    obtain ⟨ad, rfl, _⟩ := hr'.at_ h0
    refine ⟨rfl, ad, rfl, fun j v hv => ?_⟩
    rw [bvs_get] at hv
    obtain ⟨x, hx, rfl⟩ := Option.map_eq_some_iff.1 hv
    obtain ⟨ad', e, hc⟩ := hr' j x hx
    cases e
    exact hc
  have HP := Lib.hid hpos
  clear hpos
  have hfit : Hid (0 + (bvs xs).length ≤ M.length) := by
    show _ ≤ _
    rw [bvs_length, HL.out, HM.out]
    omega
  go_enter Tryz.func52, Tryz.ntmps52
  go_wp2_with (with_reducible refine wpList_copy_splice rfl (.tmp 13) (.tmp 14) 23 23 rfl 5 Tryz.underlying23 sizeByte (some ⟨w.heap.size, 0, none⟩) A L (L + more) L c rfl rfl w.heap.size 0 M 5 hg.out (bvs xs) hn.out HP.out hfit.out (bvs_oneCell xs) w.heap.size w hb (Nat.le_refl _) ?_; intro w1 hw1 hb1)
  go_ret
  refine ⟨rfl, ⟨by rw [bvs_length, HL.out]; simp, .inr ⟨w.heap.size, L + more, _, rfl, Nat.le_refl _, hw1.out, by omega, by unfold maxLen; omega, ?_, ?_⟩⟩, hb1⟩
  · rw [List.size_toArray, length_splice _ _ _ hfit.out, HM.out]; simp
  · simp [splice, bvs_length, HL.out]

end Go.Proofs.YtfniddnfkciblaaGreatDoor

/-
  nums.Put.
-/
namespace Go.Proofs.YtfniddnfkciblaaGreatDoor
open Go.RowKit

theorem appendDigits_any (base : Nat) (A : Option Addr) (L c : Nat) (xs : List Nat) (N k : Nat) (hk : k ≤ 8) (hlen : L ≤ 1000000000000) (w : World) (hbase : base ≤ w.heap.size)
    (hown : w.ownsRow base 5 1 (.slice A L c) L (bvs xs)) :
    Calls Tryz.prog 51 #[.slice A L c, .int .u64 (N : Int), .int .i64 (k : Int)] w (Gives base w (L + k) (xs ++ dg N k)) :=
  (callsIn_wide (n := 3)).1 ((appendDigits_in Fence.wide 3 trivial trivial trivial rfl (Nat.le_refl _) base A L c xs N k hk hlen w hbase hown).mono fun _ _ h => gives_of h)

/-- How many digits Put lays: none below 0, eight above 8. -/
def kk (bytes : Int) : Nat := (min (max bytes 0) 8).toNat
theorem kk_le (b : Int) : kk b ≤ 8 := by unfold kk; omega
theorem kk_nat (k : Nat) (h : k ≤ 8) : kk (k : Int) = k := by unfold kk; omega

set_option maxRecDepth 100000 in
set_option maxHeartbeats 400000 in
theorem put_any (A : Option Addr) (L c : Nat) (xs : List Nat) (N : Nat) (bytes : Int) (k : Nat) (hk : kk bytes = k) (w : World) (hin : In w A L xs) (hle : L ≤ 1000000000000) :
    Calls Tryz.prog 14 #[.slice A L c, .int .u64 (N : Int), .int .i64 bytes] w (Gives w.heap.size w (L + k) (xs ++ dg N k)) := by
  have hk8 : k ≤ 8 := hk ▸ kk_le bytes
  have C1 := Lib.hid (grown_any A L c k xs w hin (by omega))
  have C2 := Lib.hid (appendDigits_any (base := w.heap.size) (L := L) (xs := xs) (N := N) (k := k) (hk := hk8) (hlen := hle))
  unfold kk at hk
  by_cases h0 : bytes < 0
  · obtain rfl : k = 0 := by omega
    clear hk
    go_enter Tryz.func14, Tryz.ntmps14
    go_wp2_with fail
    refine (C1.out).mono ?_
    rintro e w1 ⟨rfl, ho, hb⟩
    go_wp2_with fail
    refine (C2.out _ _ _ hb.size ho).mono ?_
    rintro e w2 ⟨A2, c2, rfl, ho2, hb2⟩
    go_wp2_with fail
    go_ret
    exact ⟨A2, c2, rfl, ho2, hb.trans hb2⟩
  · by_cases h8 : bytes ≤ 8
    · obtain rfl : bytes = (k : Int) := by omega
      clear hk
      go_enter Tryz.func14, Tryz.ntmps14
      go_wp2_with fail
      refine (C1.out).mono ?_
      rintro e w1 ⟨rfl, ho, hb⟩
      go_wp2_with fail
      refine (C2.out _ _ _ hb.size ho).mono ?_
      rintro e w2 ⟨A2, c2, rfl, ho2, hb2⟩
      go_wp2_with fail
      go_ret
      exact ⟨A2, c2, rfl, ho2, hb.trans hb2⟩
    · obtain rfl : k = 8 := by omega
      clear hk
      go_enter Tryz.func14, Tryz.ntmps14
      go_wp2_with fail
      refine (C1.out).mono ?_
      rintro e w1 ⟨rfl, ho, hb⟩
      go_wp2_with fail
      refine (C2.out _ _ _ hb.size ho).mono ?_
      rintro e w2 ⟨A2, c2, rfl, ho2, hb2⟩
      go_wp2_with fail
      go_ret
      exact ⟨A2, c2, rfl, ho2, hb.trans hb2⟩

theorem put_nil (N k : Nat) (hk : k ≤ 8) (w : World) :
    Calls Tryz.prog 14 #[.slice none 0 0, .int .u64 (N : Int), .int .i64 (k : Int)] w (Gives w.heap.size w k (dg N k)) := by
  have := put_any none 0 0 [] N (k : Int) k (kk_nat k hk) w (In.none_ _ _) (by omega)
  rw [Nat.zero_add] at this
  exact this

end Go.Proofs.YtfniddnfkciblaaGreatDoor

/-
  nums.Get.
-/
namespace Go.Proofs.YtfniddnfkciblaaGreatDoor
open Go.RowKit

set_option maxRecDepth 100000 in
set_option maxHeartbeats 400000 in
theorem get_arg (A : Option Addr) (n c : Nat) (bytes : Int) (w : World) (h : bytes < 0 ∨ 8 < bytes) :
    Calls Tryz.prog 100 #[.slice A n c, .int .i64 bytes] w fun e w' => e = .returned (.tuple #[.int .u64 0, .int .i64 1]) ∧ w = w' := by
  rcases h with h | h
  · go_enter Tryz.func100, Tryz.ntmps100
    go_wp2
    go_ret2
    exact ⟨rfl, rfl⟩
  · have h0 : ¬ bytes < 0 := by omega
    go_enter Tryz.func100, Tryz.ntmps100
    go_wp2
    go_ret2
    exact ⟨rfl, rfl⟩

set_option maxRecDepth 100000 in
set_option maxHeartbeats 400000 in
theorem get_short (A : Option Addr) (n c k : Nat) (w : World) (hk : k ≤ 8) (hn : n < k) :
    Calls Tryz.prog 100 #[.slice A n c, .int .i64 (k : Int)] w fun e w' => e = .returned (.tuple #[.int .u64 0, .int .i64 5]) ∧ w = w' := by
  go_enter Tryz.func100, Tryz.ntmps100
  go_wp2
  go_ret2
  exact ⟨rfl, rfl⟩

set_option maxRecDepth 100000 in
set_option maxHeartbeats 400000 in
theorem get_ok (A : Option Addr) (n c k : Nat) (xs : List Nat) (w : World) (hin : In w A n xs) (hb : ∀ x ∈ xs, x < 256) (hk : k ≤ 8) (hn : k ≤ n) (hc : n ≤ c) :
    Calls Tryz.prog 100 #[.slice A n c, .int .i64 (k : Int)] w fun e w' => e = .returned (.tuple #[.int .u64 (val (xs.take k) : Int), .int .i64 0]) ∧ w = w' := by
  have HB := Lib.hid hb
  clear hb
  have d0 : decide ((k : Int) < 0) = false := by simp
  have d1 : decide (8 < (k : Int)) = false := by simp; omega
  have d2 : decide (n < k) = false := by simp; omega
  go_enter Tryz.func100, Tryz.ntmps100
  go_wp2
  go_loop [6, 23] (fun t i => ∃ j : Nat, j ≤ k ∧ i = .int .i64 (j : Int) ∧ t = .int .u64 (val (xs.take j) : Int)) (fun _ i => k - (intOf i).toNat)
  case atStart => exact ⟨0, Nat.zero_le _, rfl, rfl⟩
  case round =>
    obtain ⟨j, hj, rfl, rfl⟩ := hrel
    by_cases hlt : j < k
    · obtain ⟨ad, x, rfl, hx, hcell⟩ := hin.at_ (show j < n by omega)
      have HX := Lib.hid hx
      clear hx
      have hj8 : j < 8 := by omega
      go_wp2
      go_round
      case rel => exact ⟨j + 1, by omega, by go_num, by rw [val_step HX.out HB.out hj8]⟩
      case measure => simp [intOf]; omega
    · go_wp2
      go_ret2
      have e : j = k := by omega
      exact ⟨by rw [e]; rfl, rfl⟩

end Go.Proofs.YtfniddnfkciblaaGreatDoor

/-
  slices.Chunk: pieces of 5552 bytes, one behind the other.
-/
namespace Go.Proofs.YtfniddnfkciblaaGreatDoor
open Go.RowKit Go.Shelf

attribute [local go_sem] Oper.semAt_some

/-- Blocks B and C hold what they held. -/
def Keeps2 (B C : Nat) (W W' : World) : Prop := W'.heap[B]? = W.heap[B]? ∧ W'.heap[C]? = W.heap[C]?

/-- Piece number k of n bytes; how many pieces there are. -/
def ckLen (n k : Nat) : Nat := min 5552 (n - 5552 * k)
def ck (A : Option Addr) (n k : Nat) : Value := .slice (A.map (·.add (5552 * k))) (ckLen n k) (ckLen n k)
def cks (n : Nat) : Nat := (n + 5551) / 5552

theorem range_prefix {k m : Nat} (h : k < m) : List.range k ++ [k] <+: List.range m :=
  ⟨(List.range (m - (k + 1))).map (k + 1 + ·), by rw [← List.range_succ, ← List.range_add, show k + 1 + (m - (k + 1)) = m by omega]⟩
theorem cut_piece {a : Addr} {n c p e : Nat} (hnc : n ≤ c) (h : p + e ≤ n) (he : 0 < e) (W : World) :
    (Instr.slice 23 (.slice (some a) n c) (some (.int .i64 (p : Int))) (some (.int .i64 ((p : Int) + (e : Int)))) (some (.int .i64 ((p : Int) + (e : Int))))).run Tryz.prog W = .ok (.slice (some (a.add p)) e e) W := by
  obtain ⟨i0, hi, hz0, hz1, hz2⟩ := info_parts infoByte
  have hel : Tryz.prog.elem 23 = 5 := by kernel_rfl
  rw [run_slice_lhm W 23 (some a) n c (by rw [hel]; exact Tryz.underlying23) .i64 .i64 .i64 (p : Int) ((p : Int) + (e : Int)) ((p : Int) + (e : Int)) (by omega) (by omega) (by omega) (by omega), hel]
  have e1 : ((p : Int) + (e : Int)).toNat = p + e := by omega
  simp [sizeOf, typeInfo, hi, hz1, sliced, e1]
  omega

set_option maxRecDepth 100000 in
set_option maxHeartbeats 1000000 in
theorem chunk1_in (F : Fence) (m : Nat) (hf : F.fn 96) (hro : F.round = none) (hm : 1 ≤ m) (l Bs Bn n c : Nat) (a : Addr) (hnc : n ≤ c) (hc : n ≤ 140737488355328) (J Jx : List Nat → World → Prop) (B0 : Nat) (hJ : AbidesFrom B0 J)
    (hY : ∀ pre x W, J pre W → pre.length < cks n → YieldAt F (m - 1) Tryz.prog l #[ck (some a) n x] W fun e W' =>
      (e = .returned (.bool true) ∧ J (pre ++ [x]) W' ∧ Keeps2 Bs Bn W W') ∨ (e = .returned (.bool false) ∧ Jx (pre ++ [x]) W'))
    (W : World) (hBs : Boxed W Bs 23 (.slice (some a) n c)) (hBn : Boxed W Bn 3 (.int .i64 5552)) (h0 : J [] W) :
    CallsIn F m Tryz.prog 96 #[.func (.yield l) #[] #[], .pointer (some ⟨Bs, 0, none⟩), .pointer (some ⟨Bn, 0, none⟩)] W fun e W' => (∃ v, e = .returned v) ∧
      ((∃ ys, ys = List.range (cks n) ∧ J ys W') ∨ (∃ pre, pre <+: List.range (cks n) ∧ Jx pre W')) := by
  refine callsIn_of_wp Tryz.func96 rfl hf ?_ hro
  simp only [Tryz.ntmps96, List.size_toArray, List.length_cons, List.length_nil, Nat.reduceAdd, Nat.reduceSub, Array.replicate_succ, Array.replicate_zero, List.push_toArray, List.append_toArray, List.nil_append, List.cons_append]
  gi_wp2
  gi_loopw [4] (fun i wr => ∃ (k : Nat), k ≤ cks n ∧ i = .int .i64 ((5552 * k : Nat) : Int) ∧ J (List.range k) wr ∧ Boxed wr Bs 23 (.slice (some a) n c) ∧ Boxed wr Bn 3 (.int .i64 5552))
    (fun i _ => cks n * 5552 - (intOf i).toNat)
  case atStart =>
    exact ⟨0, Nat.zero_le _, rfl, h0, hBs, hBn⟩
  case round =>
    obtain ⟨k, hk, rfl, hJs, bs, bn⟩ := hrel
    have cs := bs.cell
    have cn := bn.cell
    by_cases hlt : k < cks n
    · have hJd : J (List.range k) wr.drew := hJ _ _ _ none hJs ⟨rfl, rfl, rfl, Nat.le_refl _, fun _ _ _ => rfl⟩ (fun r e => by cases e)
      obtain ⟨fn, tmps, assign, body, hy, hR⟩ := hY (List.range k) k wr.drew hJd (by simpa using hlt)
      have h1 : 5552 * k < n := by unfold cks at hlt; omega
      have hck : ∀ p e, p = 5552 * k → e = ckLen n k → ck (some a) n k = .slice (some (a.add p)) e e := by rintro p e rfl rfl; rfl
      have he : ∀ e, e = ckLen n k → 5552 * k + e ≤ n ∧ 0 < e ∧ e ≤ 5552 ∧ (if ((n - 5552 * k : Nat) : Int) < 5552 then ((n - 5552 * k : Nat) : Int) else 5552) = (e : Int) := by
        rintro e rfl
        unfold ckLen
        refine ⟨by omega, by omega, by omega, ?_⟩
        split <;> omega
      obtain ⟨e, hee⟩ : ∃ e, e = ckLen n k := ⟨_, rfl⟩
      obtain ⟨p, hp⟩ : ∃ p, p = 5552 * k := ⟨_, rfl⟩
      obtain ⟨e1, e2, e3, hif⟩ := he e hee
      have hcks := hck p e hp hee
      rw [← hp] at e1 hif h1 ⊢
      rw [hcks] at hy
      obtain ⟨B, hcut, _⟩ := cut_name (A := some a) (n := n) (c := c) (k := p) (by omega)
      obtain ⟨q, hq⟩ : ∃ q, q = n - p := ⟨_, rfl⟩
      rw [← hq] at hif hcut
      have hcut2 := fun W => cut_piece (a := a) hnc e1 e2 W
      have HP := Lib.hid hp
      have HE := Lib.hid hee
      have HQ := Lib.hid hq
      clear hp hee hq hck he hcks
      gi_wp2
      gi_region
      all_goals
        gi_wp2
        refine hR.mono ?_
        rintro e W3 (⟨rfl, hJ3, hk3⟩ | ⟨rfl, hJx3⟩)
        · have bs3 : Boxed W3 Bs 23 (.slice (some a) n c) := hk3.1.trans bs
          have bn3 : Boxed W3 Bn 3 (.int .i64 5552) := hk3.2.trans bn
          have cn3 := bn3.cell
          gi_wp2
          go_roundw
          case rel => exact ⟨k + 1, by omega, by rw [HP.out]; go_num, by rw [List.range_succ]; exact hJ3, bs3, bn3⟩
          case measure => simp [intOf]; have := HP.out; unfold cks at *; omega
        · gi_wp2
          refine bodyPost_ret (results_none rfl _ _ _) rfl ?_
          exact ⟨⟨_, rfl⟩, .inr ⟨List.range k ++ [k], range_prefix hlt, hJx3⟩⟩
    · obtain rfl : k = cks n := by omega
      have h1 : n ≤ 5552 * cks n := by unfold cks; omega
      gi_wp2
      go_end0
      exact ⟨⟨_, rfl⟩, .inl ⟨_, rfl, hJs⟩⟩

set_option maxRecDepth 100000 in
set_option maxHeartbeats 1000000 in
theorem chunk1_nil_in (F : Fence) (m : Nat) (hf : F.fn 96) (hro : F.round = none) (l Bs Bn c : Nat) (A : Option Addr) (J : List Nat → World → Prop)
    (W : World) (hBs : Boxed W Bs 23 (.slice A 0 c)) (h0 : J [] W) :
    CallsIn F m Tryz.prog 96 #[.func (.yield l) #[] #[], .pointer (some ⟨Bs, 0, none⟩), .pointer (some ⟨Bn, 0, none⟩)] W fun e W' => (∃ v, e = .returned v) ∧ J [] W' := by
  refine callsIn_of_wp Tryz.func96 rfl hf ?_ hro
  simp only [Tryz.ntmps96, List.size_toArray, List.length_cons, List.length_nil, Nat.reduceAdd, Nat.reduceSub, Array.replicate_succ, Array.replicate_zero, List.push_toArray, List.append_toArray, List.nil_append, List.cons_append]
  have cs := hBs.cell
  gi_wp2
  gi_loopw [4] (fun i wr => i = .int .i64 0 ∧ J [] wr ∧ Boxed wr Bs 23 (.slice A 0 c)) (fun _ _ => 0)
  case atStart => exact ⟨rfl, h0, hBs⟩
  case round =>
    obtain ⟨rfl, hJs, hb⟩ := hrel
    have cs := hb.cell
    gi_wp2
    go_end0
    exact ⟨⟨_, rfl⟩, hJs⟩

set_option maxRecDepth 100000 in
set_option maxHeartbeats 400000 in
/-- Chunk hands back a function value that has captured both boxes. -/
theorem chunk_in (F : Fence) (m : Nat) (hf : F.fn 80) (hro : F.round = none) (A : Option Addr) (n c : Nat) (w : World) :
    CallsIn F m Tryz.prog 80 #[.slice A n c, .int .i64 5552] w fun e w' =>
      e = .returned (.func (.func 96) #[] #[.pointer (some ⟨w.heap.size, 0, none⟩), .pointer (some ⟨w.heap.size + 1, 0, none⟩)]) ∧
      (w.alloc (.cells #[.slice A n c] 23)).alloc (.cells #[.int .i64 5552] 3) = w' := by
  refine callsIn_of_wp Tryz.func80 rfl hf ?_ hro
  simp only [Tryz.ntmps80, List.size_toArray, List.length_cons, List.length_nil, Nat.reduceAdd, Nat.reduceSub, Array.replicate_succ, Array.replicate_zero, List.push_toArray, List.append_toArray, List.nil_append, List.cons_append]
  gi_wp2
  go_ret
  exact ⟨rfl, rfl⟩

theorem cks_zero : cks 0 = 0 := rfl

/-- The iterator's contract: all pieces, in their order. -/
theorem chunk_stops (F : Fence) (m : Nat) (hf : F.fn 96) (hro : F.round = none) (hm : 1 ≤ m) (Bs Bn n c : Nat) (A : Option Addr) (hA : A = none → n = 0) (hnc : n ≤ c) (hc : n ≤ 140737488355328) (w : World)
    (hb : Boxed w Bs 23 (.slice A n c)) (hN : Boxed w Bn 3 (.int .i64 5552)) :
    SeqStopsK F m Tryz.prog 96 #[.pointer (some ⟨Bs, 0, none⟩), .pointer (some ⟨Bn, 0, none⟩)] (fun x : Nat => #[ck A n x]) (Keeps2 Bs Bn) (fun ys => ys = List.range (cks n)) (fun pre => pre <+: List.range (cks n)) (cks n) w := fun l J Jx W hW hJ _ hY h0 => by
  have b1 : Boxed W Bs 23 (.slice A n c) := (hW.block Bs hb.lt).trans hb
  have b2 : Boxed W Bn 3 (.int .i64 5552) := (hW.block Bn hN.lt).trans hN
  cases A with
  | none =>
    obtain rfl := hA rfl
    exact (chunk1_nil_in F m hf hro l Bs Bn c none J W b1 h0).mono fun e W' ⟨he, hj⟩ => ⟨he, .inl ⟨_, rfl, hj⟩⟩
  | some a => exact chunk1_in F m hf hro hm l Bs Bn n c a hnc hc J Jx W.heap.size hJ hY W b1 b2 h0

end Go.Proofs.YtfniddnfkciblaaGreatDoor

/-
  sums.numbersOf, sums.divided: both kept numbers as an array.
-/
namespace Go.Proofs.YtfniddnfkciblaaGreatDoor
open Go.RowKit

/-- Both numbers as an array by value. -/
def pv (a b : Nat) : Value := .agg #[.int .u32 (a : Int), .int .u32 (b : Int)]
/-- Block g holds both numbers. -/
def Pair (w : World) (g : Nat) (a b : Nat) : Prop := w.heap[g]? = some (.cells #[.int .u32 (a : Int), .int .u32 (b : Int)] 133 (0, 0))

theorem info2 : (Tryz.prog.info? 133).map (fun i => (i.zero, i.size)) = some (some (.agg #[.int .u32 0, .int .u32 0]), 2) := by kernel_rfl

section
variable {w w' : World} {g a b : Nat}
theorem Pair.lt (h : Pair w g a b) : g < w.heap.size := (Array.getElem?_eq_some_iff.1 h).1
theorem Pair.low (h : Pair w g a b) : w.cell? ⟨g, 0, none⟩ = some (.int .u32 (a : Int)) := by rw [cell_of_row _ g 0 _ 133 (0, 0) h]; rfl
theorem Pair.high (h : Pair w g a b) : w.cell? ⟨g, 1, none⟩ = some (.int .u32 (b : Int)) := by rw [cell_of_row _ g 1 _ 133 (0, 0) h]; rfl
theorem Pair.free (h : Pair w g a b) (i : Nat) : w.frozen? ⟨g, i, none⟩ = false := frozen_of_row w g i _ 133 h
theorem Pair.setLow (h : Pair w g a b) (x : Nat) : Pair (w.setCell ⟨g, 0, none⟩ (.int .u32 (x : Int))) g x b := by
  unfold Pair
  rw [heap_setCell_same w g 0 _ 133 _ h]
  rfl
theorem Pair.setHigh (h : Pair w g a b) (x : Nat) : Pair (w.setCell ⟨g, 1, none⟩ (.int .u32 (x : Int))) g a x := by
  unfold Pair
  rw [heap_setCell_same w g 1 _ 133 _ h]
  rfl
theorem Pair.other (h : Pair w g a b) (p : Addr) (v : Value) (hne : g ≠ p.block) : Pair (w.setCell p v) g a b := by
  unfold Pair
  rw [heap_setCell_other _ _ _ _ hne]
  exact h
theorem Pair.below (h : Pair w g a b) (hb : Below w.heap.size w w') : Pair w' g a b := (hb.block g h.lt).trans h
theorem Pair.alloc (h : Pair w g a b) (o : Obj) : Pair (w.alloc o) g a b := h.below (below_alloc w o)
theorem Pair.new (w : World) (a b : Nat) : Pair (w.alloc (.cells #[.int .u32 (a : Int), .int .u32 (b : Int)] 133)) w.heap.size a b := World.alloc_heap_new w _
end
theorem size2 : (Tryz.prog.info? 133).map (·.size) = some 2 := by kernel_rfl

set_option maxRecDepth 100000 in
set_option maxHeartbeats 1000000 in
theorem numbersOf_any (s : Nat) (hs : s < 4294967296) (w : World) :
    Calls Tryz.prog 79 #[.int .u32 (s : Int)] w fun e w' => e = .returned (pv (s % 65536) (s / 65536)) ∧ Below w.heap.size w w' := by
  go_enter Tryz.func79, Tryz.ntmps79
  go_wp2
  have e1 : bits .and .u32 (s : Int) 65535 = ((s % 65536 : Nat) : Int) := by
    rw [show (65535 : Int) = ((65535 : Nat) : Int) from rfl, u32_and_nat _ _ hs (by decide), show 65535 = 2 ^ 16 - 1 by decide, Nat.and_two_pow_sub_one_eq_mod]
  have e2 : (s : Int) / 65536 = ((s / 65536 : Nat) : Int) := by omega
  rw [e1, e2]
  exact bodyPost_ret_by (results_cell_row (p := 2) (ty := 133) (by kernel_rfl) _ _ w.heap.size 133 _ (0, 0) _ rfl (Pair.new w _ _) Tryz.underlying133 rfl size2) rfl ⟨rfl, below_alloc w _⟩

set_option maxRecDepth 100000 in
set_option maxHeartbeats 1000000 in
theorem divided_any (a b : Nat) (ha : a < 4294967296) (hb : b < 4294967296) (w : World) :
    Calls Tryz.prog 78 #[pv a b] w fun e w' => e = .returned (pv (a % 65521) (b % 65521)) ∧ Below w.heap.size w w' := by
  unfold pv
  go_enter Tryz.func78, Tryz.ntmps78
  go_wp2
  have q1 := (Pair.new w a b).alloc (.cells #[.int .u32 0, .int .u32 0] 133)
  have q2 := Pair.new (w.alloc (.cells #[.int .u32 (a : Int), .int .u32 (b : Int)] 133)) 0 0
  rw [World.size_alloc] at q2
  have hb0 := (below_alloc w (.cells #[.int .u32 (a : Int), .int .u32 (b : Int)] 133)).alloc (by simp) (.cells #[.int .u32 0, .int .u32 0] 133)
  go_loopw [4] (fun i wr => ∃ (j x y : Nat), i = .int .i64 (j : Int) ∧ ((j = 0 ∧ x = a ∧ y = b) ∨ (j = 1 ∧ x = a % 65521 ∧ y = b) ∨ (j = 2 ∧ x = a % 65521 ∧ y = b % 65521)) ∧ Pair wr w.heap.size x y ∧ Pair wr (w.heap.size + 1) 0 0 ∧ Below w.heap.size w wr) (fun i _ => 2 - (intOf i).toNat)
  case atStart => exact ⟨0, a, b, rfl, .inl ⟨rfl, rfl, rfl⟩, q1, q2, hb0⟩
  case round =>
    obtain ⟨j, x, y, rfl, ⟨rfl, rfl, rfl⟩ | ⟨rfl, rfl, rfl⟩ | ⟨rfl, rfl, rfl⟩, p1, p2, bel⟩ := hrel
    · have c := p1.low
      have f := p1.free 0
      go_wp2
      have e : (x : Int) % 65521 = ((x % 65521 : Nat) : Int) := by omega
      rw [e]
      exact ⟨⟨1, _, _, rfl, .inr (.inl ⟨rfl, rfl, rfl⟩), p1.setLow _, p2.other _ _ (by show w.heap.size + 1 ≠ w.heap.size; omega), bel.setCell (by show w.heap.size ≤ w.heap.size; omega) _⟩, by simp [intOf]⟩
    · have c := p1.high
      have f := p1.free 1
      go_wp2
      have e : (y : Int) % 65521 = ((y % 65521 : Nat) : Int) := by omega
      rw [e]
      exact ⟨⟨2, _, _, rfl, .inr (.inr ⟨rfl, rfl, rfl⟩), p1.setHigh _, p2.other _ _ (by show w.heap.size + 1 ≠ w.heap.size; omega), bel.setCell (by show w.heap.size ≤ w.heap.size; omega) _⟩, by simp [intOf]⟩
    · have c0 := p1.low
      have c1 := p1.high
      have f0 := p2.free 0
      have f1 := p2.free 1
      have hx := p2.low
      have hy := p2.high
      go_wp2
      refine bodyPost_ret_by (results_cell_row (p := 2) (ty := 133) (by kernel_rfl) _ _ (w.heap.size + 1) 133 _ (0, 0) _ rfl ((p2.setLow _).setHigh _) Tryz.underlying133 rfl size2) rfl ⟨rfl, (bel.setCell (by show w.heap.size ≤ w.heap.size + 1; omega) _).setCell (by show w.heap.size ≤ w.heap.size + 1; omega) _⟩

end Go.Proofs.YtfniddnfkciblaaGreatDoor

/-
  sums.added: both numbers behind a piece, not divided.
-/
namespace Go.Proofs.YtfniddnfkciblaaGreatDoor
open Go.RowKit

theorem sm_le {xs : List Nat} (h : ∀ x ∈ xs, x < 256) : sm xs ≤ xs.length * 255 := by
  induction xs with
  | nil => simp [sm]
  | cons x xs ih =>
    have h1 := h x (by simp)
    have h2 := ih (fun y hy => h y (by simp [hy]))
    rw [sm_cons, List.length_cons, Nat.add_mul]
    omega
theorem wt_le {xs : List Nat} (h : ∀ x ∈ xs, x < 256) : 2 * wt xs ≤ xs.length * (xs.length + 1) * 255 := by
  induction xs with
  | nil => simp [wt]
  | cons x xs ih =>
    have h1 := h x (by simp)
    have h2 := ih (fun y hy => h y (by simp [hy]))
    rw [wt, List.length_cons]
    have h3 : (xs.length + 1) * x ≤ (xs.length + 1) * 255 := Nat.mul_le_mul_left _ (by omega)
    have e : (xs.length + 1) * (xs.length + 1 + 1) = xs.length * (xs.length + 1) + 2 * (xs.length + 1) := by
      rw [Nat.mul_add (xs.length + 1), Nat.mul_one, Nat.mul_comm (xs.length + 1) (xs.length + 1), Nat.add_mul xs.length, Nat.one_mul]
      omega
    generalize (xs.length + 1) * x = p at h3 ⊢
    rw [e]
    generalize xs.length * (xs.length + 1) = q at h2 ⊢
    omega
/-- What both numbers come to within a piece. -/
def lo (a : Nat) (xs : List Nat) : Nat := a + sm xs
def hi (a b : Nat) (xs : List Nat) : Nat := b + xs.length * a + wt xs
theorem lo_lt {a : Nat} {xs : List Nat} (ha : a < 65521) (h : ∀ x ∈ xs, x < 256) (hl : xs.length ≤ 5552) : lo a xs < 4294967296 := by
  have := sm_le h
  unfold lo
  omega
theorem hi_lt {a b : Nat} {xs : List Nat} (ha : a < 65521) (hb : b < 65521) (h : ∀ x ∈ xs, x < 256) (hl : xs.length ≤ 5552) : hi a b xs < 4294967296 := by
  have h1 := wt_le h
  have h2 : xs.length * a ≤ 5552 * 65520 := Nat.mul_le_mul hl (by omega)
  have h3 : xs.length * (xs.length + 1) ≤ 5552 * 5553 := Nat.mul_le_mul hl (by omega)
  unfold hi
  omega
theorem ad_piece {a b : Nat} (ha : a < 65521) (hb : b < 65521) (xs : List Nat) : ad (a, b) xs = (lo a xs % 65521, hi a b xs % 65521) := ad_closed a b ha hb xs
theorem lo_snoc (a : Nat) (xs : List Nat) (x : Nat) : lo a (xs ++ [x]) = lo a xs + x := by unfold lo; rw [sm_snoc]; omega
theorem hi_snoc (a b : Nat) (xs : List Nat) (x : Nat) : hi a b (xs ++ [x]) = hi a b xs + lo a (xs ++ [x]) := by
  unfold hi lo
  rw [wt_snoc, sm_snoc, List.length_append, List.length_singleton, Nat.add_mul, Nat.one_mul]
  omega

set_option maxRecDepth 100000 in
set_option maxHeartbeats 1000000 in
theorem added_any (a b : Nat) (ha : a < 65521) (hb : b < 65521) (A : Option Addr) (n c : Nat) (xs : List Nat) (w : World) (hin : In w A n xs) (hx : ∀ x ∈ xs, x < 256) (hn : n ≤ 5552) :
    Calls Tryz.prog 81 #[pv a b, .slice A n c] w fun e w' => e = .returned (pv (lo a xs) (hi a b xs)) ∧ Below w.heap.size w w' := by
  unfold pv
  go_enter Tryz.func81, Tryz.ntmps81
  go_wp2
  have q1 := (Pair.new w a b).alloc (.cells #[.int .u32 0, .int .u32 0] 133)
  have q2 := Pair.new (w.alloc (.cells #[.int .u32 (a : Int), .int .u32 (b : Int)] 133)) 0 0
  rw [World.size_alloc] at q2
  have hb0 := (below_alloc w (.cells #[.int .u32 (a : Int), .int .u32 (b : Int)] 133)).alloc (by simp) (.cells #[.int .u32 0, .int .u32 0] 133)
  go_loopw [9] (fun i wr => ∃ (j : Nat), j ≤ n ∧ i = .int .i64 (j : Int) ∧ Pair wr w.heap.size (lo a (xs.take j)) (hi a b (xs.take j)) ∧ Pair wr (w.heap.size + 1) 0 0 ∧ Below w.heap.size w wr) (fun i _ => n - (intOf i).toNat)
  case atStart => exact ⟨0, by omega, rfl, by simpa [lo, hi, sm, wt] using q1, q2, hb0⟩
  case round =>
    obtain ⟨j, hj, rfl, p1, p2, bel⟩ := hrel
    by_cases hlt : j < n
    · obtain ⟨ad, x, rfl, hxj, hcell⟩ := (hin.below bel).at_ hlt
      have hx256 : x < 256 := hx x (List.mem_of_getElem? hxj)
      have tk : xs.take (j + 1) = xs.take j ++ [x] := take_snoc_of hxj
      have hlen : (xs.take (j + 1)).length ≤ 5552 := by rw [List.length_take]; omega
      have b1 := lo_lt (a := a) ha (xs := xs.take (j + 1)) (fun y hy => hx y (List.mem_of_mem_take hy)) hlen
      have b2 := hi_lt (a := a) (b := b) ha hb (xs := xs.take (j + 1)) (fun y hy => hx y (List.mem_of_mem_take hy)) hlen
      rw [tk, lo_snoc] at b1
      rw [tk, hi_snoc, lo_snoc] at b2
      have HX := Lib.hid tk
      obtain ⟨l, hl⟩ : ∃ l, lo a (xs.take j) = l := ⟨_, rfl⟩
      obtain ⟨m, hm⟩ : ∃ m, hi a b (xs.take j) = m := ⟨_, rfl⟩
      rw [hl, hm] at p1
      rw [hl] at b1
      rw [hl, hm] at b2
      have HL := Lib.hid hl
      have HM := Lib.hid hm
      clear hl hm tk hxj hlen
      have c0 := p1.low
      have c1 := p1.high
      have f0 := p1.free 0
      have f1 := p1.free 1
      go_wp2
      refine ⟨⟨j + 1, by omega, by go_num, ?_, (p2.other _ _ (by show w.heap.size + 1 ≠ w.heap.size; omega)).other _ _ (by show w.heap.size + 1 ≠ w.heap.size; omega), (bel.setCell (by show w.heap.size ≤ w.heap.size; omega) _).setCell (by show w.heap.size ≤ w.heap.size; omega) _⟩, by simp [intOf]; omega⟩
      rw [HX.out, hi_snoc, lo_snoc, HL.out, HM.out]
      exact (p1.setLow (l + x)).setHigh (m + (l + x))
    · obtain rfl : j = n := by omega
      have c0 := p1.low
      have c1 := p1.high
      have f0 := p2.free 0
      have f1 := p2.free 1
      have hx := p2.low
      have hy := p2.high
      rw [List.take_of_length_le (by rw [hin.len]; omega)] at *
      go_wp2
      exact bodyPost_ret_by (results_cell_row (p := 4) (ty := 133) (by kernel_rfl) _ _ (w.heap.size + 1) 133 _ (0, 0) _ rfl ((p2.setLow _).setHigh _) Tryz.underlying133 rfl size2) rfl ⟨rfl, (bel.setCell (by show w.heap.size ≤ w.heap.size + 1; omega) _).setCell (by show w.heap.size ≤ w.heap.size + 1; omega) _⟩

end Go.Proofs.YtfniddnfkciblaaGreatDoor
