/-
  Plain facts: bytes as lists of natural numbers, digits to the base 256, what a slice reads as. No program is named here.
-/
import Derived.WalkKit
import Derived.Lib.Hide
import Derived.RangeFuncBox
import Derived.Laws.BitsAllLaws
import Derived.Deep.Draws
import Derived.Laws.CopyOwn
namespace Go.Proofs.YthbgcijkpincfaaGreatDoor
open Go.RowKit

/-- A byte as a value. -/
def bv (x : Nat) : Value := .int .u8 (x : Int)
def bvs (xs : List Nat) : List Value := xs.map bv
theorem bvs_length (xs : List Nat) : (bvs xs).length = xs.length := List.length_map ..
theorem bvs_append (xs ys : List Nat) : bvs (xs ++ ys) = bvs xs ++ bvs ys := List.map_append ..
theorem bvs_one (x : Nat) : bvs [x] = [bv x] := rfl
theorem bvs_get (xs : List Nat) (j : Nat) : (bvs xs)[j]? = (xs[j]?).map bv := List.getElem?_map ..
theorem bvs_oneCell (xs : List Nat) : ∀ u ∈ bvs xs, u.oneCell' = true := by
  intro u hu
  obtain ⟨x, _, rfl⟩ := List.mem_map.1 hu
  rfl

/-- The digits of n to the base 256, k of them, the highest first. -/
def dg (n : Nat) : Nat → List Nat
  | 0 => []
  | k + 1 => (n / 256 ^ k % 256) :: dg n k
theorem dg_length (n k : Nat) : (dg n k).length = k := by
  induction k with
  | zero => rfl
  | succ k ih => simp [dg, ih]
theorem dg_lt (n k : Nat) : ∀ x ∈ dg n k, x < 256 := by
  induction k with
  | zero => intro x hx; cases hx
  | succ k ih =>
    intro x hx
    rcases List.mem_cons.1 hx with rfl | h
    · exact Nat.mod_lt _ (by omega)
    · exact ih x h

/-- The slice value '.slice A xs.length c' reads as the bytes xs. -/
def Rd (w : World) (A : Option Addr) (xs : List Nat) : Prop :=
  ∀ j x, xs[j]? = some x → ∃ ad, A = some ad ∧ w.cell? (ad.add j) = some (bv x)

theorem block_add (a : Addr) (n : Nat) : (a.add n).block = a.block := by unfold Addr.add; split <;> rfl
theorem add_add (a : Addr) (i j : Nat) : (a.add i).add j = a.add (i + j) := by
  unfold Addr.add
  by_cases hi : i = 0 <;> by_cases hj : j = 0 <;> simp [hi, hj, Nat.add_assoc]

section
variable {w w' : World} {A : Option Addr} {xs : List Nat}
theorem Rd.nil (w : World) (A : Option Addr) : Rd w A [] := fun j x h => by simp at h
theorem Rd.below (h : Rd w A xs) (hb : Below w.heap.size w w') : Rd w' A xs := fun j x hx => by
  obtain ⟨ad, e, hc⟩ := h j x hx
  exact ⟨ad, e, (hb.cell (World.block_lt_of_cell? w _ hc)).trans hc⟩
theorem Rd.at_ (h : Rd w A xs) {k : Nat} (hk : k < xs.length) : ∃ ad, A = some ad ∧ w.cell? (ad.add k) = some (bv xs[k]) :=
  h k _ (List.getElem?_eq_getElem hk)
theorem Rd.take (h : Rd w A xs) (k : Nat) : Rd w A (xs.take k) := fun j x hx => by
  rw [List.getElem?_take] at hx
  split at hx
  · exact h j x hx
  · cases hx
theorem Rd.drop {a : Addr} (h : Rd w (some a) xs) (k : Nat) : Rd w (some (a.add k)) (xs.drop k) := fun j x hx => by
  rw [List.getElem?_drop] at hx
  obtain ⟨ad, e, hc⟩ := h _ x hx
  cases e
  exact ⟨_, rfl, by rw [add_add]; exact hc⟩
end

/-- '.slice A n c' reads as the bytes xs: n of them. -/
structure In (w : World) (A : Option Addr) (n : Nat) (xs : List Nat) : Prop where
  len : xs.length = n
  rd : Rd w A xs

section
variable {w w' : World} {A : Option Addr} {n : Nat} {xs : List Nat}
theorem In.none_ (w : World) (A : Option Addr) : In w A 0 [] := ⟨rfl, Rd.nil _ _⟩
theorem In.below (h : In w A n xs) (hb : Below w.heap.size w w') : In w' A n xs := ⟨h.len, h.rd.below hb⟩
theorem In.at_ (h : In w A n xs) {k : Nat} (hk : k < n) : ∃ ad x, A = some ad ∧ xs[k]? = some x ∧ w.cell? (ad.add k) = some (.int .u8 (x : Int)) := by
  have hl : k < xs.length := by rw [h.len]; exact hk
  obtain ⟨ad, e, hc⟩ := h.rd.at_ hl
  exact ⟨ad, _, e, List.getElem?_eq_getElem hl, hc⟩
theorem In.take (h : In w A n xs) {k : Nat} (hk : k ≤ n) : In w A k (xs.take k) := ⟨by rw [List.length_take, h.len]; omega, h.rd.take k⟩
theorem In.of_own {base : Nat} {e : TypeId} {c : Nat} (h : w.ownsRow base e 1 (.slice A n c) n (bvs xs)) : In w A n xs := by
  refine ⟨by have := h.1; rw [bvs_length] at this; omega, fun j x hx => ?_⟩
  rcases h.2 with ⟨e1, h0⟩ | ⟨g, cap, cur, e1, _⟩
  · have hl := h.1
    rw [bvs_length, h0] at hl
    have : xs = [] := List.eq_nil_of_length_eq_zero (by omega)
    subst this
    simp at hx
  · cases e1
    exact ⟨_, rfl, h.cells rfl j _ (by rw [bvs_get, hx]; rfl)⟩
theorem own_form {base : Nat} {e : TypeId} {v : Value} (h : w.ownsRow base e 1 v n (bvs xs)) : ∃ A c, v = .slice A n c := by
  rcases h.2 with ⟨rfl, rfl⟩ | ⟨g, cap, cur, rfl, _⟩
  · exact ⟨_, _, rfl⟩
  · exact ⟨_, _, rfl⟩
end

/-- The number whose digits to the base 256 these are, the highest first. -/
def val (xs : List Nat) : Nat := xs.foldl (fun n d => n * 256 + d) 0
theorem val_snoc (xs : List Nat) (d : Nat) : val (xs ++ [d]) = val xs * 256 + d := by simp [val, List.foldl_append]
theorem fold_lt (xs : List Nat) (h : ∀ x ∈ xs, x < 256) : ∀ a, xs.foldl (fun n d => n * 256 + d) a < (a + 1) * 256 ^ xs.length := by
  induction xs with
  | nil => intro a; simp
  | cons d xs ih =>
    intro a
    have h1 := ih (fun x hx => h x (by simp [hx])) (a * 256 + d)
    have h2 := h d (by simp)
    rw [List.foldl_cons, List.length_cons, Nat.pow_succ, Nat.mul_comm (256 ^ xs.length) 256, ← Nat.mul_assoc]
    refine Nat.lt_of_lt_of_le h1 (Nat.mul_le_mul_right _ ?_)
    omega
theorem val_lt (xs : List Nat) (h : ∀ x ∈ xs, x < 256) : val xs < 256 ^ xs.length := by
  have := fold_lt xs h 0
  simpa [val] using this

theorem or_low (a x : Nat) (hx : x < 256) : a * 256 ||| x = a * 256 + x := by
  have := Nat.two_pow_add_eq_or_of_lt (i := 8) (b := x) (by omega) a
  rw [Nat.mul_comm a 256]
  exact this.symm

/-- One digit more. -/
theorem or_step (a x : Nat) (ha : a < 72057594037927936) (hx : x < 256) :
    bits .or .u64 (IntKind.u64.wrap ((a : Int) * 256)) (IntKind.u64.wrap (x : Int)) = ((a * 256 + x : Nat) : Int) := by
  have e1 : IntKind.u64.wrap ((a : Int) * 256) = ((a * 256 : Nat) : Int) := by rw [IntKind.wrap_u64]; omega
  have e2 : IntKind.u64.wrap (x : Int) = ((x : Nat) : Int) := by rw [IntKind.wrap_u64]; omega
  rw [e1, e2, u64_or_nat _ _ (by omega) (by omega), or_low a x hx]

theorem take_snoc_of {xs : List Nat} {j x : Nat} (h : xs[j]? = some x) : xs.take (j + 1) = xs.take j ++ [x] := by
  rw [List.take_add_one, h]; rfl

theorem val_step {xs : List Nat} {j x : Nat} (h : xs[j]? = some x) (hb : ∀ y ∈ xs, y < 256) (hj : j < 8) :
    bits .or .u64 (IntKind.u64.wrap ((val (xs.take j) : Int) * 256)) (IntKind.u64.wrap (x : Int)) = (val (xs.take (j + 1)) : Int) := by
  have hx : x < 256 := hb x (List.mem_of_getElem? h)
  have h1 := val_lt (xs.take j) (fun y hy => hb y (List.mem_of_mem_take hy))
  have h2 : (xs.take j).length ≤ 7 := by rw [List.length_take]; omega
  have h3 : 256 ^ (xs.take j).length ≤ 256 ^ 7 := Nat.pow_le_pow_right (by omega) h2
  rw [or_step _ _ (by have : (256 : Nat) ^ 7 = 72057594037927936 := by decide
                      omega) hx, take_snoc_of h, val_snoc]

theorem dg_get (n k i : Nat) (h : i < k) : (dg n k)[i]? = some (n / 256 ^ (k - 1 - i) % 256) := by
  induction k generalizing i with
  | zero => omega
  | succ k ih =>
    cases i with
    | zero => simp [dg]
    | succ i =>
      rw [show k + 1 - 1 - (i + 1) = k - 1 - i by omega, dg, List.getElem?_cons_succ]
      exact ih i (by omega)

theorem wrap_digit (n t : Nat) (ht : t < 8) : n % 18446744073709551616 / 256 ^ t % 256 = n / 256 ^ t % 256 := by
  have e : 18446744073709551616 = 256 ^ t * (256 * 256 ^ (7 - t)) := by
    rw [← Nat.mul_assoc, ← Nat.pow_succ, ← Nat.pow_add, show t + 1 + (7 - t) = 8 by omega]
  rw [e, Nat.mod_mul_right_div_self, Nat.mod_mul_right_mod]

theorem dg_wrap (n k : Nat) (hk : k ≤ 8) : dg (n % 18446744073709551616) k = dg n k := by
  induction k with
  | zero => rfl
  | succ k ih => rw [dg, dg, ih (by omega), wrap_digit n k (by omega)]

theorem fold_dg (n k : Nat) : ∀ a, (dg n k).foldl (fun n d => n * 256 + d) a = a * 256 ^ k + n % 256 ^ k := by
  induction k with
  | zero => intro a; simp [dg, Nat.mod_one]
  | succ k ih =>
    intro a
    rw [dg, List.foldl_cons, ih, Nat.pow_succ, Nat.mod_mul, Nat.add_mul, Nat.mul_assoc, Nat.mul_comm 256 (256 ^ k), Nat.mul_comm (n / 256 ^ k % 256)]
    omega
theorem val_dg (n k : Nat) : val (dg n k) = n % 256 ^ k := by
  have := fold_dg n k 0
  simpa [val] using this
theorem val_told (n k : Nat) (xs : List Nat) (h : n < 256 ^ k) : val ((dg n k ++ xs).take k) = n := by
  have e : (dg n k ++ xs).take k = dg n k := by
    rw [List.take_append, dg_length, Nat.sub_self, List.take_of_length_le (Nat.le_of_eq (dg_length n k))]
    simp
  rw [e, val_dg, Nat.mod_eq_of_lt h]
theorem bytes_append {xs ys : List Nat} (h : ∀ x ∈ xs, x < 256) (k : ∀ x ∈ ys, x < 256) : ∀ x ∈ xs ++ ys, x < 256 := by
  intro x hx
  rcases List.mem_append.1 hx with hx | hx
  · exact h x hx
  · exact k x hx
theorem drop_dg (n k : Nat) (xs : List Nat) : (dg n k ++ xs).drop k = xs := by
  rw [List.drop_append, dg_length, Nat.sub_self, List.drop_of_length_le (Nat.le_of_eq (dg_length n k))]
  rfl
theorem own_cap {w : World} {base : Nat} {e : TypeId} {size : Nat} {A : Option Addr} {n c : Nat} {xs : List Value} (h : w.ownsRow base e size (.slice A n c) n xs) : n ≤ c := by
  rcases h.2 with ⟨e1, h0⟩ | ⟨g, cap, cur, e1, _, _, hle, _⟩
  · omega
  · cases e1; exact hle

theorem dg_split (n a b : Nat) : dg n (a + b) = dg (n / 256 ^ b) a ++ dg n b := by
  induction a with
  | zero => simp [dg]
  | succ a ih =>
    rw [show a + 1 + b = (a + b) + 1 by omega, dg, dg, ih, Nat.div_div_eq_div_mul, ← Nat.pow_add, Nat.add_comm b a]
    rfl

theorem own_nil {w : World} {base : Nat} {e : TypeId} {size : Nat} {A : Option Addr} {n c : Nat} {xs : List Value} (h : w.ownsRow base e size (.slice A n c) n xs) : A = none → c = 0 := by
  intro hA
  rcases h.2 with ⟨e1, _⟩ | ⟨g, cap, cur, e1, _⟩
  · injection e1
  · rw [hA] at e1; cases e1

theorem hi_nat (n low : Nat) : (n : Int) / 2 ^ (8 * low) = ((n / 256 ^ low : Nat) : Int) := by
  rw [Int.pow_mul]
  simp

theorem take_all (n k : Nat) : (dg n k).take k = dg n k := List.take_of_length_le (Nat.le_of_eq (dg_length n k))
theorem take_high (n k low : Nat) (h : low ≤ k) : (dg n k).take (k - low) = dg (n / 256 ^ low) (k - low) := by
  have e := dg_split n (k - low) low
  rw [show k - low + low = k by omega] at e
  rw [e, List.take_append, dg_length, Nat.sub_self, take_all]
  simp
theorem drop_low (n k low : Nat) (h : low ≤ k) : (dg n k).drop (k - low) = dg n low := by
  have e := dg_split n (k - low) low
  rw [show k - low + low = k by omega] at e
  rw [e, drop_dg]

theorem In.cut {w : World} {A : Option Addr} {n : Nat} {xs : List Nat} (h : In w A n xs) {k c : Nat} (hk : k ≤ n) (hc : n ≤ c) :
    In w (if c = k then A else A.map (·.add k)) (n - k) (xs.drop k) := by
  refine ⟨by rw [List.length_drop, h.len], ?_⟩
  by_cases hn : n = k
  · have : xs.drop k = [] := List.eq_nil_of_length_eq_zero (by rw [List.length_drop, h.len]; omega)
    rw [this]
    exact Rd.nil _ _
  · rw [if_neg (by omega)]
    obtain ⟨ad, x, rfl, _⟩ := h.at_ (show 0 < n by omega)
    exact h.rd.drop k

theorem In.drop_take {w : World} {ad : Addr} {n : Nat} {xs : List Nat} (h : In w (some ad) n xs) {k m : Nat} (hm : k + m ≤ n) : In w (some (ad.add k)) m ((xs.drop k).take m) :=
  ⟨by rw [List.length_take, List.length_drop, h.len]; omega, (h.rd.drop k).take m⟩

theorem In.drewN {w : World} {A : Option Addr} {n : Nat} {xs : List Nat} (h : In w A n xs) (q : Nat) : In (w.drewN q) A n xs := ⟨h.len, h.rd⟩

theorem add_pos (a : Addr) {k : Nat} (hk : 0 < k) : a.add k = ⟨a.block, a.off + k, none⟩ := by
  unfold Addr.add
  rw [if_neg (by omega)]

theorem take_more (ys : List Nat) (a b : Nat) : ys.take (a + b) = ys.take a ++ (ys.drop a).take b := List.take_add ..

theorem below_alloc (w : World) (o : Obj) : Below w.heap.size w (w.alloc o) := (Below.refl _ w).alloc (Nat.le_refl _) o
theorem below_on {B : Nat} {a b c : World} (h : Below B a b) (hB : B ≤ a.heap.size) (k : Below b.heap.size b c) : Below B a c := h.trans (k.mono (Nat.le_trans hB h.size))

theorem acc {B : Nat} {a b c : World} {o : Obj} (h : Below B a b) (hB : B ≤ a.heap.size) (k : Below (b.alloc o).heap.size (b.alloc o) c) : Below B a c :=
  below_on (below_on h hB (below_alloc b o)) hB k

/-- The bytes s lie from the address ad on. -/
def At (w : World) (ad : Addr) (s : List Nat) : Prop := ∀ j x, s[j]? = some x → w.cell? (ad.add j) = some (bv x)

theorem At.below {w w' : World} {ad : Addr} {s : List Nat} (h : At w ad s) (hb : Below w.heap.size w w') : At w' ad s := fun j x hx =>
  (hb.cell (World.block_lt_of_cell? w _ (h j x hx))).trans (h j x hx)

/-- '.slice A n c', a slice of sums, reads as n sums, whose bytes are ys. -/
structure InS (w : World) (A : Option Addr) (n : Nat) (ys : List Nat) : Prop where
  len : ys.length = 32 * n
  rd : Rd w A ys

/-- The k-th sum of a row. -/
def nth (ys : List Nat) (k : Nat) : List Nat := (ys.drop (32 * k)).take 32

section
variable {w w' : World} {A : Option Addr} {n : Nat} {ys : List Nat}
theorem InS.below (h : InS w A n ys) (hb : Below w.heap.size w w') : InS w' A n ys := ⟨h.len, h.rd.below hb⟩
theorem InS.drewN (h : InS w A n ys) (q : Nat) : InS (w.drewN q) A n ys := ⟨h.len, h.rd⟩
theorem InS.none_ (w : World) (A : Option Addr) : InS w A 0 [] := ⟨rfl, Rd.nil _ _⟩
theorem nth_length (h : ys.length = 32 * n) {k : Nat} (hk : k < n) : (nth ys k).length = 32 := by
  unfold nth; rw [List.length_take, List.length_drop]; omega
theorem InS.at_ (h : InS w A n ys) {k : Nat} (hk : k < n) : ∃ ad, A = some ad ∧ (nth ys k).length = 32 ∧ At w (ad.add (k * 32)) (nth ys k) := by
  obtain ⟨ad, rfl, _⟩ := h.rd.at_ (show 0 < ys.length by rw [h.len]; omega)
  refine ⟨ad, rfl, nth_length h.len hk, fun j x hx => ?_⟩
  unfold nth at hx
  rw [List.getElem?_take] at hx
  split at hx
  · rw [List.getElem?_drop] at hx
    obtain ⟨ad', e, hc⟩ := h.rd _ x hx
    cases e
    rw [add_add, Nat.mul_comm k 32]
    exact hc
  · cases hx
end

theorem In.new' (W : World) (xs : List Nat) (t : TypeId) : In (W.alloc (.cells (bvs xs).toArray t)) (some ⟨W.heap.size, 0, none⟩) xs.length xs :=
  ⟨rfl, fun j x hx => ⟨_, rfl, by
    rw [show (⟨W.heap.size, 0, none⟩ : Addr).add j = ⟨W.heap.size, j, none⟩ from by unfold Addr.add; split <;> simp_all]
    rw [cell_of_row _ W.heap.size j _ t (0, 0) (World.alloc_heap_new W _), List.getElem?_toArray, bvs_get, hx]
    rfl⟩⟩

theorem take_nth (ys : List Nat) (j : Nat) : ys.take (32 * (j + 1)) = ys.take (32 * j) ++ nth ys j := by
  rw [show 32 * (j + 1) = 32 * j + 32 by omega, take_more]
  rfl

theorem InS.take {w : World} {A : Option Addr} {n : Nat} {ys : List Nat} (h : InS w A n ys) {k : Nat} (hk : k ≤ n) : InS w A k (ys.take (32 * k)) :=
  ⟨by rw [List.length_take, h.len]; omega, h.rd.take _⟩
theorem InS.of_own {w : World} {base : Nat} {A : Option Addr} {n c : Nat} {ys : List Nat} {e : TypeId} (h : w.ownsRow base e 32 (.slice A n c) n (bvs ys)) : InS w A n ys := by
  refine ⟨by have := h.1; rw [bvs_length] at this; omega, fun j x hx => ?_⟩
  rcases h.2 with ⟨e1, h0⟩ | ⟨g, cap, cur, e1, _⟩
  · have hl := h.1
    rw [bvs_length, h0] at hl
    have : ys = [] := List.eq_nil_of_length_eq_zero (by omega)
    subst this
    simp at hx
  · cases e1
    exact ⟨_, rfl, h.cells rfl j _ (by rw [bvs_get, hx]; rfl)⟩
theorem InS.cut {w : World} {A : Option Addr} {n : Nat} {ys : List Nat} (h : InS w A n ys) {k c : Nat} (hk : k ≤ n) (hc : n ≤ c) :
    InS w (if c = k then A else A.map (·.add (k * 32))) (n - k) (ys.drop (32 * k)) := by
  refine ⟨by rw [List.length_drop, h.len]; omega, ?_⟩
  by_cases hn : n = k
  · have : ys.drop (32 * k) = [] := List.eq_nil_of_length_eq_zero (by rw [List.length_drop, h.len]; omega)
    rw [this]
    exact Rd.nil _ _
  · rw [if_neg (by omega)]
    obtain ⟨ad, rfl, _⟩ := h.rd.at_ (show 0 < ys.length by rw [h.len]; omega)
    have := h.rd.drop (32 * k)
    rw [Nat.mul_comm k 32]
    exact this

theorem zeroCells_bytes (m : Nat) : Builtin.zeroCells #[.int .u8 0] m = (bvs (List.replicate m 0)).toArray := by
  apply Array.ext'
  simp only [Builtin.zeroCells, bvs, List.map_replicate, Array.toList_map, Array.toList_range]
  rw [List.eq_replicate_iff]
  refine ⟨by simp, fun b hb => ?_⟩
  obtain ⟨i, _, rfl⟩ := List.mem_map.1 hb
  simp [Nat.mod_one, bv]

theorem bv_digit (N i : Nat) : bv (N / 256 ^ i % 256) = .int .u8 ((N : Int) / 2 ^ (8 * i) % 256) := by
  have h : ((N / 256 ^ i % 256 : Nat) : Int) = (N : Int) / 2 ^ (8 * i) % 256 := by
    rw [Int.pow_mul]
    simp
  unfold bv
  rw [h]

end Go.Proofs.YthbgcijkpincfaaGreatDoor
