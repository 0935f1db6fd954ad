/-
  A store as plain lists: records in frames, one behind the other; what is found in a region.
-/
import Derived.Test.YthbgcijkpincfaaGreatDoorFBack
import Derived.Test.YthbgcijkpincfaaGreatDoorDSync
namespace Go.Proofs.YthbgcijkpincfaaGreatDoor

/-- Bytes cut into n sectors. -/
def chop : Nat → List Nat → List (List Nat)
  | 0, _ => []
  | n + 1, xs => xs.take 64 :: chop n (xs.drop 64)
theorem chop_length (n : Nat) (xs : List Nat) : (chop n xs).length = n := by
  induction n generalizing xs with
  | zero => rfl
  | succ n ih => rw [chop, List.length_cons, ih]
theorem chop_flat (n : Nat) (xs : List Nat) (h : xs.length = 64 * n) : (chop n xs).flatten = xs := by
  induction n generalizing xs with
  | zero =>
    have : xs = [] := List.length_eq_zero_iff.1 (by omega)
    subst this; rfl
  | succ n ih => rw [chop, List.flatten_cons, ih _ (by rw [List.length_drop]; omega), List.take_append_drop]
theorem chop_sec (n : Nat) (xs : List Nat) (h : 64 * n ≤ xs.length) (hx : ∀ x ∈ xs, x < 256) : ∀ s ∈ chop n xs, Sec s := by
  induction n generalizing xs with
  | zero => intro s hs; cases hs
  | succ n ih =>
    intro s hs
    rcases List.mem_cons.1 hs with rfl | hs
    · exact ⟨by rw [List.length_take]; omega, fun x hm => hx x (List.mem_of_mem_take hm)⟩
    · exact ih _ (by rw [List.length_drop]; omega) (fun x hm => hx x (List.mem_of_mem_drop hm)) s hs
theorem chop_get (n : Nat) (xs : List Nat) (k : Nat) (hk : k < n) : (chop n xs)[k]? = some ((xs.drop (64 * k)).take 64) := by
  induction n generalizing xs k with
  | zero => omega
  | succ n ih =>
    cases k with
    | zero => rfl
    | succ k =>
      rw [chop, List.getElem?_cons_succ, ih _ k (by omega), List.drop_drop, show 64 + 64 * k = 64 * (k + 1) by omega]

/-- A frame's sectors. -/
def fsecs (num : Nat) (b : List Nat) : List (List Nat) := chop (secs b.length) (frameL num b)
theorem fsecs_length (num : Nat) (b : List Nat) : (fsecs num b).length = secs b.length := chop_length _ _
theorem fsecs_flat (num : Nat) (b : List Nat) : (fsecs num b).flatten = frameL num b := chop_flat _ _ (frameL_length num b)
theorem fsecs_sec (num : Nat) (b : List Nat) (h : ∀ x ∈ b, x < 256) : ∀ s ∈ fsecs num b, Sec s := chop_sec _ _ (by rw [frameL_length]; omega) (frameL_lt num b h)

/-- Records in frames, by the numbers k + 1 and so on; of how many sectors. -/
def lsecs : Nat → List (List Nat) → List (List Nat)
  | _, [] => []
  | k, b :: l => fsecs (k + 1) b ++ lsecs (k + 1) l
def usedL (l : List (List Nat)) : Nat := (l.map (fun b => secs b.length)).sum
theorem usedL_nil : usedL [] = 0 := rfl
theorem usedL_cons (b : List Nat) (l : List (List Nat)) : usedL (b :: l) = secs b.length + usedL l := by simp [usedL]
theorem usedL_snoc (l : List (List Nat)) (b : List Nat) : usedL (l ++ [b]) = usedL l + secs b.length := by simp [usedL]
theorem lsecs_length (k : Nat) (l : List (List Nat)) : (lsecs k l).length = usedL l := by
  induction l generalizing k with
  | nil => rfl
  | cons b l ih => rw [lsecs, List.length_append, fsecs_length, ih, usedL_cons]
theorem lsecs_snoc (k : Nat) (l : List (List Nat)) (b : List Nat) : lsecs k (l ++ [b]) = lsecs k l ++ fsecs (k + l.length + 1) b := by
  induction l generalizing k with
  | nil => simp [lsecs]
  | cons c l ih =>
    rw [List.cons_append, lsecs, ih, lsecs, List.append_assoc, List.length_cons, show k + 1 + l.length + 1 = k + (l.length + 1) + 1 by omega]
theorem lsecs_sec (k : Nat) (l : List (List Nat)) (h : ∀ b ∈ l, ∀ x ∈ b, x < 256) : ∀ s ∈ lsecs k l, Sec s := by
  induction l generalizing k with
  | nil => intro s hs; cases hs
  | cons b l ih =>
    intro s hs
    rcases List.mem_append.1 hs with e | e
    · exact fsecs_sec _ _ (h b (by simp)) s e
    · exact ih (k + 1) (fun c hc => h c (by simp [hc])) s e
theorem len_le_used (l : List (List Nat)) : l.length ≤ usedL l := by
  induction l with
  | nil => exact Nat.le_refl _
  | cons b l ih => rw [usedL_cons, List.length_cons]; have := secs_pos b.length; omega

/-- The records that are found, k being there already. -/
def Next_ (k : Nat) (xs : List Nat) : Prop := cutL xs = none ∧ numOf xs = k + 1
instance (k : Nat) (xs : List Nat) : Decidable (Next_ k xs) := by unfold Next_; exact inferInstance
def parse : Nat → Nat → List Nat → List (List Nat)
  | 0, _, _ => []
  | f + 1, k, xs => if Next_ k xs then recOf xs :: parse f (k + 1) (xs.drop (64 * secs (cntOf xs))) else []
theorem parse_stop {f k : Nat} {xs : List Nat} (h : ¬ Next_ k xs) : parse f k xs = [] := by
  cases f with
  | zero => rfl
  | succ f => rw [parse, if_neg h]
theorem parse_next {f k : Nat} {xs : List Nat} (h : Next_ k xs) : parse (f + 1) k xs = recOf xs :: parse f (k + 1) (xs.drop (64 * secs (cntOf xs))) := by rw [parse, if_pos h]
theorem next_len {k : Nat} {xs : List Nat} (h : Next_ k xs) : 64 * secs (cntOf xs) ≤ xs.length := by
  have h1 := h.1
  unfold cutL at h1
  split at h1
  · cases h1
  split at h1
  · cases h1
  split at h1
  · cases h1
  split at h1
  · cases h1
  rename_i h2
  omega
theorem next_cnt {k : Nat} {xs : List Nat} (h : Next_ k xs) : cntOf xs ≤ 256 := by
  have h1 := h.1
  unfold cutL at h1
  split at h1
  · cases h1
  split at h1
  · cases h1
  split at h1
  · cases h1
  rename_i h2
  omega
/-- What is found in sectors. -/
def found (T : List (List Nat)) : List (List Nat) := parse T.length 0 T.flatten

theorem parse_props (f k : Nat) (xs : List Nat) (hx : ∀ x ∈ xs, x < 256) : (∀ b ∈ parse f k xs, b.length ≤ 256 ∧ ∀ x ∈ b, x < 256) ∧ 64 * usedL (parse f k xs) ≤ xs.length := by
  induction f generalizing k xs with
  | zero => exact ⟨(fun b hb => by cases hb), (by simp [parse, usedL])⟩
  | succ f ih =>
    by_cases h : Next_ k xs
    · rw [parse_next h]
      have hl := next_len h
      have hc := next_cnt h
      have hr := recOf_length hl
      have := ih (k + 1) (xs.drop (64 * secs (cntOf xs))) (fun x hm => hx x (List.mem_of_mem_drop hm))
      refine ⟨fun b hb => ?_, ?_⟩
      · rcases List.mem_cons.1 hb with rfl | hb
        · exact ⟨by omega, recOf_lt hx⟩
        · exact this.1 b hb
      · rw [usedL_cons, hr]
        have h2 := this.2
        rw [List.length_drop] at h2
        omega
    · rw [parse_stop h]
      exact ⟨(fun b hb => by cases hb), (by simp [usedL])⟩

theorem flat_len {T : List (List Nat)} (h : ∀ s ∈ T, s.length = 64) : T.flatten.length = 64 * T.length := by
  induction T with
  | nil => rfl
  | cons s T ih => rw [List.flatten_cons, List.length_append, h s (by simp), ih (fun t ht => h t (by simp [ht])), List.length_cons]; omega
theorem flat_lt {T : List (List Nat)} (h : ∀ s ∈ T, ∀ x ∈ s, x < 256) : ∀ x ∈ T.flatten, x < 256 := fun x hx => by
  obtain ⟨s, hs, hm⟩ := List.mem_flatten.1 hx
  exact h s hs x hm
theorem found_props {T : List (List Nat)} (h : ∀ s ∈ T, Sec s) : (∀ b ∈ found T, b.length ≤ 256 ∧ ∀ x ∈ b, x < 256) ∧ usedL (found T) ≤ T.length := by
  have := parse_props T.length 0 T.flatten (flat_lt (fun s hs => (h s hs).2))
  refine ⟨this.1, ?_⟩
  have h2 := this.2
  rw [flat_len (fun s hs => (h s hs).1)] at h2
  unfold found
  omega

theorem next_frame {k : Nat} {b ys : List Nat} (hk : k + 1 < 18446744073709551616) (hb : b.length ≤ 256) : Next_ k (frameL (k + 1) b ++ ys) := ⟨cutL_frame hk hb, numOf_frame hk⟩
theorem parse_lsecs (l : List (List Nat)) (k f : Nat) (Z : List Nat) (hl : ∀ b ∈ l, b.length ≤ 256) (hk : k + l.length < 18446744073709551615) (hf : l.length ≤ f) :
    parse f k ((lsecs k l).flatten ++ Z) = l ++ parse (f - l.length) (k + l.length) Z := by
  induction l generalizing k f with
  | nil => simp [lsecs]
  | cons b l ih =>
    obtain ⟨f, rfl⟩ : ∃ g, f = g + 1 := ⟨f - 1, by rw [List.length_cons] at hf; omega⟩
    have hb := hl b (by simp)
    rw [List.length_cons] at hk hf
    rw [lsecs, List.flatten_append, fsecs_flat, List.append_assoc, parse_next (next_frame (by omega) hb), recOf_frame (by omega), cntOf_frame (by omega),
      show (frameL (k + 1) b ++ ((lsecs (k + 1) l).flatten ++ Z)).drop (64 * secs b.length) = (lsecs (k + 1) l).flatten ++ Z from by rw [← frameL_length (k + 1) b, List.drop_left], ih (k + 1) f (fun c hc => hl c (by simp [hc])) (by omega) (by omega),
      List.cons_append, List.length_cons, show k + 1 + l.length = k + (l.length + 1) by omega, show f + 1 - (l.length + 1) = f - l.length by omega]
/-- Where no frame of the next number stands all is found. -/
theorem found_of {l Z : List (List Nat)} (hl : ∀ b ∈ l, b.length ≤ 256) (hk : l.length < 18446744073709551615) (hz : ¬ Next_ l.length Z.flatten) : found (lsecs 0 l ++ Z) = l := by
  have h1 := len_le_used l
  unfold found
  rw [List.flatten_append, parse_lsecs l 0 _ _ hl (by omega) (by rw [List.length_append, lsecs_length]; omega), Nat.zero_add, parse_stop hz, List.append_nil]
theorem next_nil (k : Nat) : ¬ Next_ k [] := fun h => by have := h.1; revert this; decide
theorem next_zero (k : Nat) (Z : List Nat) : ¬ Next_ k (nought ++ Z) := fun h => by
  have h1 := h.1
  have e : (nought ++ Z).take 4 ≠ recMark := by rw [List.take_append_of_le_length (by show 4 ≤ (List.replicate 64 0).length; simp)]; decide
  unfold cutL at h1
  split at h1
  · cases h1
  · cases h1
theorem next_noughts (k n : Nat) : ¬ Next_ k (List.replicate n nought).flatten := by
  cases n with
  | zero => exact next_nil k
  | succ n => rw [List.replicate_succ, List.flatten_cons]; exact next_zero k _

/-- The sectors of a region. -/
def regionL (R : List (List Nat)) (from_ many : Nat) : List (List Nat) := (R.drop from_).take many
theorem regionL_length {R : List (List Nat)} {from_ many : Nat} (h : from_ + many ≤ R.length) : (regionL R from_ many).length = many := by
  unfold regionL; rw [List.length_take, List.length_drop]; omega
theorem regionL_get {R : List (List Nat)} {from_ many k : Nat} (hk : k < many) : (regionL R from_ many)[k]? = R[from_ + k]? := by
  unfold regionL; rw [List.getElem?_take, if_pos hk, List.getElem?_drop]

/-- Which sectors behind the end are not all noughts. -/
def soils (T : List (List Nat)) (u k : Nat) : List Nat := (List.range k).filter (fun n => decide (u ≤ n) && decide (T[n]? ≠ some nought))
theorem soils_zero (T : List (List Nat)) (u : Nat) : soils T u 0 = [] := rfl
theorem soils_yes {T : List (List Nat)} {u k : Nat} (h : u ≤ k) (h2 : T[k]? ≠ some nought) : soils T u (k + 1) = soils T u k ++ [k] := by
  unfold soils; rw [List.range_succ, List.filter_append]; simp [h, h2]
theorem soils_no {T : List (List Nat)} {u k : Nat} (h : ¬ (u ≤ k ∧ T[k]? ≠ some nought)) : soils T u (k + 1) = soils T u k := by
  unfold soils; rw [List.range_succ, List.filter_append]
  simp only [List.filter_cons, List.filter_nil]
  have : ¬ (decide (u ≤ k) && decide (T[k]? ≠ some nought)) = true := by
    rw [Bool.and_eq_true, decide_eq_true_eq, decide_eq_true_eq]; exact h
  rw [if_neg this, List.append_nil]
theorem soils_mem {T : List (List Nat)} {u k n : Nat} : n ∈ soils T u k ↔ n < k ∧ u ≤ n ∧ T[n]? ≠ some nought := by
  unfold soils; rw [List.mem_filter, List.mem_range]; simp

/-- A call of the disk: its answer, and what is left. -/
def St.sc (s : St) : Int := if s.lets = 0 then 9 else 0
def St.sn (s : St) : St := if s.lets = 0 then s.burnt else s.burnt.settled
def St.wn (s : St) (k : Nat) (xs : List Nat) : St := if s.lets = 0 then s.burnt else s.wrote k xs
/-- Sectors are written, one behind the other, up to what is let be. -/
def St.puts (s : St) (k : Nat) : List (List Nat) → Int × St
  | [] => (0, s)
  | x :: l => if s.lets = 0 then (9, s.burnt) else (s.wrote k x).puts (k + 1) l
/-- Calls of the disk, one behind the other, up to what is not let be. -/
def runs : List (St → Int × St) → St → Int × St
  | [], s => (0, s)
  | f :: fs, s => if (f s).1 = 0 then runs fs (f s).2 else f s
theorem runs_append (fs gs : List (St → Int × St)) (s : St) : runs (fs ++ gs) s = if (runs fs s).1 = 0 then runs gs (runs fs s).2 else runs fs s := by
  induction fs generalizing s with
  | nil => rfl
  | cons f fs ih =>
    rw [List.cons_append, runs, runs]
    by_cases h : (f s).1 = 0
    · rw [if_pos h, if_pos h, ih]
    · rw [if_neg h, if_neg h, if_neg h]
theorem runs_step {fs : List (St → Int × St)} {s : St} {j : Nat} {f : St → Int × St} (h : (runs (fs.take j) s).1 = 0) (hf : fs[j]? = some f) : runs (fs.take (j + 1)) s = f (runs (fs.take j) s).2 := by
  rw [List.take_add_one, hf, runs_append, if_pos h]
  show runs [f] _ = _
  rw [runs]
  by_cases h1 : (f (runs (fs.take j) s).2).1 = 0
  · rw [if_pos h1]; exact Prod.ext h1.symm rfl
  · rw [if_neg h1]
theorem runs_fall {fs : List (St → Int × St)} {s : St} {j : Nat} (h : (runs (fs.take j) s).1 ≠ 0) : runs fs s = runs (fs.take j) s := by
  conv => lhs; rw [← List.take_append_drop j fs]
  rw [runs_append, if_neg h]
def stepS (s : St) : Int × St := (s.sc, s.sn)
def stepW (k : Nat) (x : List Nat) (s : St) : Int × St := (s.sc, s.wn k x)
def stepO (k : Nat) (L : List (List Nat)) (s : St) : Int × St := s.puts k L
/-- Noughts are written there, and then all is made sure. -/
def wipeSteps (from_ : Nat) (L : List Nat) : List (St → Int × St) := L.map (fun n => stepW (from_ + n) [])
def St.wipes (s : St) (from_ : Nat) (L : List Nat) : Int × St := runs (wipeSteps from_ L ++ [stepS]) s
/-- A frame is added. -/
def addSteps (k : Nat) (L : List (List Nat)) : List (St → Int × St) :=
  if L.length = 1 then [stepS, stepW k (L.headD [])] else [stepS, stepO (k + 1) L.tail, stepS, stepW k (L.headD [])]

/-- A disk and a store on it. -/
structure Sm where
  st : St
  l : List (List Nat)
  down : Bool
/-- Add, and Sync. -/
def Sm.add (m : Sm) (from_ many : Nat) (xs : List Nat) : Int × Sm :=
  if 256 < xs.length then (3, m)
  else if many - usedL m.l < secs xs.length then (11, m)
  else if m.down then (9, m)
  else
    let r := runs (addSteps (from_ + usedL m.l) (fsecs (m.l.length + 1) xs)) m.st
    if r.1 = 0 then (0, ⟨r.2, m.l ++ [xs], false⟩) else (r.1, ⟨r.2, m.l, true⟩)
def Sm.sync (m : Sm) : Int × Sm :=
  if m.down then (9, m) else (m.st.sc, ⟨m.st.sn, m.l, decide (m.st.sc ≠ 0)⟩)

end Go.Proofs.YthbgcijkpincfaaGreatDoor
