/-
  Adler-32 as plain functions on lists of numbers: both kept numbers, step by step and closed; one byte changed, two neighbours changed, noughts, two lists joined. No program is named here.
-/
namespace Go.Proofs.YthbgcijkpincfaaGreatDoor

/-- Both numbers that are kept, behind each byte. -/
def ad (p : Nat × Nat) (xs : List Nat) : Nat × Nat := xs.foldl (fun p x => ((p.1 + x) % 65521, (p.2 + (p.1 + x) % 65521) % 65521)) p
theorem ad_nil (p : Nat × Nat) : ad p [] = p := rfl
theorem ad_snoc (p : Nat × Nat) (xs : List Nat) (x : Nat) : ad p (xs ++ [x]) = (((ad p xs).1 + x) % 65521, ((ad p xs).2 + ((ad p xs).1 + x) % 65521) % 65521) := by
  unfold ad; rw [List.foldl_append]; rfl
theorem ad_append (p : Nat × Nat) (xs ys : List Nat) : ad p (xs ++ ys) = ad (ad p xs) ys := List.foldl_append ..

/-- All bytes together; each as often as there are from it on. -/
def sm (xs : List Nat) : Nat := xs.foldr (· + ·) 0
def wt : List Nat → Nat
  | [] => 0
  | x :: xs => (xs.length + 1) * x + wt xs
theorem sm_cons (x : Nat) (xs : List Nat) : sm (x :: xs) = x + sm xs := rfl
theorem sm_append (xs ys : List Nat) : sm (xs ++ ys) = sm xs + sm ys := by
  induction xs with
  | nil => simp [sm]
  | cons x xs ih => rw [List.cons_append, sm_cons, sm_cons, ih]; omega
theorem wt_append (xs ys : List Nat) : wt (xs ++ ys) = wt xs + ys.length * sm xs + wt ys := by
  induction xs with
  | nil => simp [wt, sm]
  | cons x xs ih =>
    rw [List.cons_append, wt, wt, ih, sm_cons, List.length_append, Nat.mul_add ys.length x, show xs.length + ys.length + 1 = (xs.length + 1) + ys.length by omega, Nat.add_mul (xs.length + 1)]
    omega
theorem sm_snoc (xs : List Nat) (x : Nat) : sm (xs ++ [x]) = sm xs + x := by rw [sm_append]; simp [sm]
theorem wt_snoc (xs : List Nat) (x : Nat) : wt (xs ++ [x]) = wt xs + sm xs + x := by rw [wt_append]; simp [wt]

theorem ad_closed (a b : Nat) (ha : a < 65521) (hb : b < 65521) (xs : List Nat) : ad (a, b) xs = ((a + sm xs) % 65521, (b + xs.length * a + wt xs) % 65521) := by
  suffices h : ∀ n, ∀ xs : List Nat, xs.length = n → ad (a, b) xs = ((a + sm xs) % 65521, (b + xs.length * a + wt xs) % 65521) from h _ xs rfl
  intro n
  induction n with
  | zero =>
    intro xs hx
    obtain rfl := List.eq_nil_of_length_eq_zero hx
    simp [ad, sm, wt, Nat.mod_eq_of_lt ha, Nat.mod_eq_of_lt hb]
  | succ n ih =>
    intro xs hx
    obtain ⟨ys, y, rfl⟩ : ∃ ys y, xs = ys ++ [y] := ⟨xs.dropLast, xs.getLast (by intro h; rw [h] at hx; simp at hx), (List.dropLast_concat_getLast _).symm⟩
    have hy : ys.length = n := by simpa using hx
    rw [ad_snoc, ih ys hy, sm_snoc, wt_snoc, List.length_append, hy]
    simp only [List.length_singleton, Nat.mod_add_mod, Nat.add_mod_mod]
    have e : (n + 1) * a = n * a + a := by rw [Nat.add_mul, Nat.one_mul]
    rw [e, show a + sm ys + y = a + (sm ys + y) by omega]
    congr 1
    rw [show b + (n * a + a) + (wt ys + sm ys + y) = (b + n * a + wt ys) + (a + (sm ys + y)) by omega]
theorem ad_lt (a b : Nat) (ha : a < 65521) (hb : b < 65521) (xs : List Nat) : (ad (a, b) xs).1 < 65521 ∧ (ad (a, b) xs).2 < 65521 := by
  rw [ad_closed a b ha hb]
  exact ⟨Nat.mod_lt _ (by decide), Nat.mod_lt _ (by decide)⟩

/-- The sum of two kept numbers; what a sum tells of them. -/
def two (p : Nat × Nat) : Nat := p.2 * 65536 + p.1
theorem two_low {p : Nat × Nat} (h : p.1 < 65521) : two p % 65536 = p.1 := by unfold two; omega
theorem two_high {p : Nat × Nat} (h : p.1 < 65521) : two p / 65536 = p.2 := by unfold two; omega
theorem two_lt {p : Nat × Nat} (h : p.1 < 65521) (h2 : p.2 < 65521) : two p < 4294967296 := by unfold two; omega
def split (s : Nat) : Nat × Nat := (s % 65536 % 65521, s / 65536 % 65521)
theorem split_lt (s : Nat) : (split s).1 < 65521 ∧ (split s).2 < 65521 := ⟨Nat.mod_lt _ (by decide), Nat.mod_lt _ (by decide)⟩
theorem split_two {p : Nat × Nat} (h : p.1 < 65521) (h2 : p.2 < 65521) : split (two p) = p := by
  unfold split
  rw [two_low h, two_high h, Nat.mod_eq_of_lt h, Nat.mod_eq_of_lt h2]
/-- The document's sum: behind a sum, and of bytes alone. -/
def onL (s : Nat) (xs : List Nat) : Nat := two (ad (split s) xs)
def ofL (xs : List Nat) : Nat := onL 1 xs
theorem split_one : split 1 = (1, 0) := rfl
theorem onL_low (s : Nat) (xs : List Nat) : onL s xs % 65536 = (s % 65536 % 65521 + sm xs) % 65521 := by
  have h := split_lt s
  unfold onL
  rw [two_low (ad_lt _ _ h.1 h.2 xs).1]
  show (ad ((split s).1, (split s).2) xs).1 = _
  rw [ad_closed _ _ h.1 h.2]
  rfl
theorem onL_high (s : Nat) (xs : List Nat) : onL s xs / 65536 = (s / 65536 % 65521 + xs.length * (s % 65536 % 65521) + wt xs) % 65521 := by
  have h := split_lt s
  unfold onL
  rw [two_high (ad_lt _ _ h.1 h.2 xs).1]
  show (ad ((split s).1, (split s).2) xs).2 = _
  rw [ad_closed _ _ h.1 h.2]
  rfl
theorem onL_lt (s : Nat) (xs : List Nat) : onL s xs < 4294967296 := two_lt (ad_lt _ _ (split_lt s).1 (split_lt s).2 xs).1 (ad_lt _ _ (split_lt s).1 (split_lt s).2 xs).2
theorem onL_append (s : Nat) (xs ys : List Nat) : onL s (xs ++ ys) = onL (onL s xs) ys := by
  have h := ad_lt _ _ (split_lt s).1 (split_lt s).2 xs
  unfold onL
  rw [split_two h.1 h.2, ad_append]
theorem ofL_low (xs : List Nat) : ofL xs % 65536 = (1 + sm xs) % 65521 := onL_low 1 xs
theorem ofL_high (xs : List Nat) : ofL xs / 65536 = (xs.length + wt xs) % 65521 := by
  have := onL_high 1 xs
  simpa [ofL] using this
/-- Two sums of one low and one high half are the same. -/
theorem halves_eq {m n : Nat} (h1 : m % 65536 = n % 65536) (h2 : m / 65536 = n / 65536) : m = n := by omega

/-- One byte another one. -/
theorem sm_set {xs : List Nat} {k x : Nat} (y : Nat) (h : xs[k]? = some x) : sm (xs.set k y) + x = sm xs + y := by
  induction xs generalizing k with
  | nil => simp at h
  | cons z xs ih =>
    cases k with
    | zero => simp at h; subst h; rw [List.set_cons_zero, sm_cons, sm_cons]; omega
    | succ k =>
      have := ih (k := k) (by simpa using h)
      rw [List.set_cons_succ, sm_cons, sm_cons]; omega
theorem byte_low {xs : List Nat} {k x y : Nat} (h : xs[k]? = some x) (hx : x < 256) (hy : y < 256) : ofL (xs.set k y) % 65536 = (ofL xs % 65536 + (65521 + y - x)) % 65521 := by
  have := sm_set y h
  rw [ofL_low, ofL_low]
  omega
theorem byte_same {xs : List Nat} {k x y : Nat} (h : xs[k]? = some x) (hx : x < 256) (hy : y < 256) : (ofL xs = ofL (xs.set k y)) ↔ y = x := by
  constructor
  · intro e
    have h1 := byte_low (y := y) h hx hy
    rw [← e] at h1
    have h2 := ofL_low xs
    omega
  · rintro rfl
    have e : xs.set k y = xs := by
      apply List.ext_getElem?
      intro i
      rw [List.getElem?_set]
      by_cases hk : k = i
      · subst hk
        rw [if_pos rfl, if_pos (List.getElem?_eq_some_iff.1 h).1, h]
      · rw [if_neg hk]
    rw [e]

/-- Two neighbours change their places. -/
theorem sm_swap (ps qs : List Nat) (x y : Nat) : sm (ps ++ y :: x :: qs) = sm (ps ++ x :: y :: qs) := by
  rw [sm_append, sm_append, sm_cons, sm_cons, sm_cons, sm_cons]; omega
theorem wt_swap (ps qs : List Nat) (x y : Nat) : wt (ps ++ y :: x :: qs) + x = wt (ps ++ x :: y :: qs) + y := by
  rw [wt_append, wt_append, wt, wt, wt, wt]
  simp only [List.length_cons, Nat.add_mul, Nat.one_mul]
  omega
theorem swap_low (ps qs : List Nat) (x y : Nat) : ofL (ps ++ y :: x :: qs) % 65536 = ofL (ps ++ x :: y :: qs) % 65536 := by rw [ofL_low, ofL_low, sm_swap]
theorem swap_high (ps qs : List Nat) {x y : Nat} (hx : x < 256) : ofL (ps ++ y :: x :: qs) / 65536 = (ofL (ps ++ x :: y :: qs) / 65536 + (65521 + y - x)) % 65521 := by
  have := wt_swap ps qs x y
  rw [ofL_high, ofL_high]
  simp only [List.length_append, List.length_cons]
  omega
theorem swap_same (ps qs : List Nat) {x y : Nat} (hx : x < 256) (hy : y < 256) : (ofL (ps ++ x :: y :: qs) = ofL (ps ++ y :: x :: qs)) ↔ x = y := by
  constructor
  · intro e
    have h1 := swap_high ps qs (x := x) (y := y) hx
    rw [← e] at h1
    have h2 := ofL_high (ps ++ x :: y :: qs)
    omega
  · rintro rfl; rfl

/-- Noughts. -/
theorem sm_zeros (n : Nat) : sm (List.replicate n 0) = 0 := by
  induction n with
  | zero => rfl
  | succ n ih => rw [List.replicate_succ, sm_cons, ih]
theorem wt_zeros (n : Nat) : wt (List.replicate n 0) = 0 := by
  induction n with
  | zero => rfl
  | succ n ih => rw [List.replicate_succ, wt, ih, Nat.mul_zero]
theorem zeros_low (s n : Nat) : onL s (List.replicate n 0) % 65536 = s % 65536 % 65521 := by
  rw [onL_low, sm_zeros, Nat.add_zero, Nat.mod_mod]
theorem zeros_high (s n : Nat) : onL s (List.replicate n 0) / 65536 = (s / 65536 % 65521 + n * (s % 65536 % 65521)) % 65521 := by
  rw [onL_high, wt_zeros, List.length_replicate, Nat.add_zero]

/-- Two lists together. -/
theorem join_low (xs ys : List Nat) : ofL (xs ++ ys) % 65536 = (ofL xs % 65536 + ofL ys % 65536 + 65521 - 1) % 65521 := by
  rw [ofL_low, ofL_low, ofL_low, sm_append]; omega
theorem join_high (xs ys : List Nat) : ofL (xs ++ ys) / 65536 = (ofL xs / 65536 + ofL ys / 65536 + ys.length * (ofL xs % 65536 + 65521 - 1)) % 65521 := by
  rw [ofL_high, ofL_high, ofL_high, ofL_low, wt_append, List.length_append]
  have e : (ys.length * ((1 + sm xs) % 65521 + 65521 - 1)) % 65521 = (ys.length * sm xs) % 65521 := by
    have h : ((1 + sm xs) % 65521 + 65521 - 1) % 65521 = sm xs % 65521 := by omega
    rw [Nat.mul_mod, h, ← Nat.mul_mod]
  omega
theorem join_on (xs ys : List Nat) : ofL (xs ++ ys) = onL (ofL xs) ys := onL_append 1 xs ys

theorem alive_some : ofL [] = 1 ∧ ofL [87, 105, 107, 105, 112, 101, 100, 105, 97] = 300286872 ∧ ofL [97] = 6422626 ∧ onL 1 [97] = 6422626 ∧ onL 65537 [] = 65537 ∧ onL 65521 [] = 0 := by decide

end Go.Proofs.YthbgcijkpincfaaGreatDoor
