/-
  frames.cut: its parts, one by one.
-/
import Derived.Test.YthbgcijkpincfaaGreatDoorFTable
import Derived.Test.YthbgcijkpincfaaGreatDoorFMark
import Derived.Test.YthbgcijkpincfaaGreatDoorLBut
namespace Go.Proofs.YthbgcijkpincfaaGreatDoor
open Go.RowKit

section
variable {xs : List Nat}
theorem cutL_len (h : xs.length < 64) : cutL xs = some .short := by unfold cutL; rw [if_pos h]
theorem cutL_mark (h64 : ¬ xs.length < 64) (h : xs.take 4 ≠ recMark) : cutL xs = some .form := by unfold cutL; rw [if_neg h64, if_pos h]
theorem cutL_count (h64 : ¬ xs.length < 64) (hm : xs.take 4 = recMark) (h : 256 < cntOf xs) : cutL xs = some .form := by
  unfold cutL; rw [if_neg h64, if_neg (fun k => k hm), if_pos h]
theorem cutL_short (h64 : ¬ xs.length < 64) (hm : xs.take 4 = recMark) (hc : cntOf xs ≤ 256) (h : xs.length < 64 * secs (cntOf xs)) : cutL xs = some .short := by
  unfold cutL; rw [if_neg h64, if_neg (fun k => k hm), if_neg (by omega), if_pos h]
theorem cutL_rest (h64 : ¬ xs.length < 64) (hm : xs.take 4 = recMark) (hc : cntOf xs ≤ 256) (hl : 64 * secs (cntOf xs) ≤ xs.length) (h : restOf xs ≠ List.replicate (noug (cntOf xs)) 0) : cutL xs = some .form := by
  unfold cutL; rw [if_neg h64, if_neg (fun k => k hm), if_neg (by omega), if_neg (by omega), if_pos h]
theorem cutL_sum (h64 : ¬ xs.length < 64) (hm : xs.take 4 = recMark) (hc : cntOf xs ≤ 256) (hl : 64 * secs (cntOf xs) ≤ xs.length) (hr : restOf xs = List.replicate (noug (cntOf xs)) 0) (h : sumIn xs ≠ sumL (numOf xs) (recOf xs)) : cutL xs = some .sum := by
  unfold cutL; rw [if_neg h64, if_neg (fun k => k hm), if_neg (by omega), if_neg (by omega), if_neg (fun k => k hr), if_pos h]
theorem cutL_none (h64 : ¬ xs.length < 64) (hm : xs.take 4 = recMark) (hc : cntOf xs ≤ 256) (hl : 64 * secs (cntOf xs) ≤ xs.length) (hr : restOf xs = List.replicate (noug (cntOf xs)) 0) (h : sumIn xs = sumL (numOf xs) (recOf xs)) : cutL xs = none := by
  unfold cutL; rw [if_neg h64, if_neg (fun k => k hm), if_neg (by omega), if_neg (by omega), if_neg (fun k => k hr), if_neg (fun k => k h)]
end

/-- What is known when j parts are cut: P bytes. -/
def Stage (xs : List Nat) (n : Nat) (w0 : World) (j P num cnt sum : Nat) (r : Value) : Prop :=
  (j = 0 ∧ P = 0) ∨
  (j = 1 ∧ P = 4 ∧ xs.take 4 = recMark) ∨
  (j = 2 ∧ P = 12 ∧ xs.take 4 = recMark ∧ num = numOf xs) ∨
  (j = 3 ∧ P = 14 ∧ xs.take 4 = recMark ∧ num = numOf xs ∧ cnt = cntOf xs ∧ cntOf xs ≤ 256) ∨
  (j = 4 ∧ P = 18 ∧ xs.take 4 = recMark ∧ num = numOf xs ∧ cnt = cntOf xs ∧ cntOf xs ≤ 256 ∧ sum = sumIn xs) ∨
  (j = 5 ∧ P = 18 + cntOf xs ∧ xs.take 4 = recMark ∧ num = numOf xs ∧ cnt = cntOf xs ∧ cntOf xs ≤ 256 ∧ sum = sumIn xs ∧ ∃ A c, r = .slice A (cntOf xs) c ∧ cntOf xs ≤ c ∧ In w0 A (cntOf xs) (recOf xs) ∧ (A = none → cntOf xs = 0)) ∨
  (j = 6 ∧ P = 18 + cntOf xs + noug (cntOf xs) ∧ xs.take 4 = recMark ∧ num = numOf xs ∧ cnt = cntOf xs ∧ cntOf xs ≤ 256 ∧ sum = sumIn xs ∧ (∃ A c, r = .slice A (cntOf xs) c ∧ cntOf xs ≤ c ∧ In w0 A (cntOf xs) (recOf xs) ∧ (A = none → cntOf xs = 0)) ∧
    P ≤ n ∧ restOf xs = List.replicate (noug (cntOf xs)) 0)

abbrev OnlyF (F : Nat) := But (fun b => b = F)

/-- What the taking of a part leaves. -/
def Took (E : Errs) (xs : List Nat) (w0 : World) (n F j P : Nat) (W : World) (e : Ending) (W' : World) : Prop :=
  OnlyF F W W' ∧ ∃ num cnt sum r, Fr W' F num cnt sum r ∧ (∃ Ar nr cr, r = .slice Ar nr cr) ∧
    ((∃ b, cutL xs = some b ∧ e = .returned (E.val b)) ∨ (e = .returned .nilIface ∧ Stage xs n w0 j P num cnt sum r))

/-- The j-th part: k bytes, behind P. -/
structure Part (E : Errs) (xs : List Nat) (w0 : World) (n F G j P k m : Nat) (A : Option Addr) (f1 f2 : FuncId) (caps args : Array Value) (W : World) : Prop where
  ar : #[.pointer (some ⟨F, 0, none⟩)] ++ caps = args
  r1 : ∀ (zs : Array Value) (W' : World), (callFunc f1 zs).run Tryz.prog W' = .ok (.enter f1 zs) W'
  r2 : ∀ (zs : Array Value) (W' : World), (callFunc f2 zs).run Tryz.prog W' = .ok (.enter f2 zs) W'
  c0 : W.cell? ⟨G, j * 2, none⟩ = some (.func (.func f1) #[] caps)
  c1 : W.cell? ⟨G, j * 2 + 1, none⟩ = some (.func (.func f2) #[] #[])
  size : ∀ W', Below W.heap.size W W' → Calls Tryz.prog f1 args W' fun e w' => e = .returned (.int .i64 (k : Int)) ∧ W' = w'
  short : m < k → cutL xs = some .short
  take : k ≤ m → ∀ W' c, Below W.heap.size W W' → k ≤ c → Calls Tryz.prog f2 #[.pointer (some ⟨F, 0, none⟩), .slice A k c] W' (Took E xs w0 n F (j + 1) (P + k) W')

theorem onlyF_set (F : Nat) (W : World) (i : Nat) (v : Value) : OnlyF F W (W.setCell ⟨F, i, none⟩ v) := (But.refl _ W).set i v (fun _ => rfl)

theorem part_of (E : Errs) (xs : List Nat) (n F G B j P num cnt sum m : Nat) (r : Value) (A : Option Addr) (W : World) (hE : Laid W E) (hx : ∀ x ∈ xs, x < 256) (hl : xs.length = n) (h64 : ¬ n < 64)
    (pts : Pts W G B) (fr : Fr W F num cnt sum r) (w0 : World) (bel : Below w0.heap.size w0 W) (st : Stage xs n w0 j P num cnt sum r) (hj : j < 6) (hm : m + P = n) (hin : In w0 A m (xs.drop P)) (hA : A = none → m = 0) (hrs : ∃ Ar nr cr, r = .slice Ar nr cr) :
    ∃ f1 f2 caps args k, Part E xs w0 n F G j P k m A f1 f2 caps args W := by
  have h64' : ¬ xs.length < 64 := by omega
  have gr := pts.row
  have hs := secs_ge (cntOf xs)
  have hcut : ∀ k, ∀ W' : World, k ≤ m → Below W.heap.size W W' → In W' A k ((xs.drop P).take k) := fun k W' hk hb => (hin.below (below_on bel (Nat.le_refl _) hb)).take hk
  have hlt : ∀ k, ∀ x ∈ (xs.drop P).take k, x < 256 := fun k => drop_take_lt hx P k
  rcases st with ⟨rfl, rfl⟩ | ⟨rfl, rfl, mk⟩ | ⟨rfl, rfl, mk, hnum⟩ | ⟨rfl, rfl, mk, hnum, hcnt, hc⟩ | ⟨rfl, rfl, mk, hnum, hcnt, hc, hsum⟩ | ⟨rfl, rfl, mk, hnum, hcnt, hc, hsum, hr⟩ | ⟨rfl, _⟩
  · refine ⟨316, 299, #[.pointer (some ⟨B, 0, none⟩)], #[.pointer (some ⟨F, 0, none⟩), .pointer (some ⟨B, 0, none⟩)], 4, rfl, fun _ _ => by kernel_rfl, fun _ _ => by kernel_rfl, by rw [cell_of_row _ G _ _ _ _ gr]; rfl, by rw [cell_of_row _ G _ _ _ _ gr]; rfl, fun W' hb => always1_any _ B 4 W' (boxed_below pts.b0 hb), fun h => by omega, fun hk W' c hb hc => ?_⟩
    have hi := hcut 4 W' hk hb
    by_cases hmk : xs.take 4 = recMark
    · refine (takeMark_yes E _ A 4 c _ W' (hE.below hb) hi hmk).mono ?_
      rintro e w' ⟨rfl, rfl⟩
      exact ⟨But.refl _ _, num, cnt, sum, r, fr.below hb, hrs, .inr ⟨rfl, .inr (.inl ⟨rfl, rfl, hmk⟩)⟩⟩
    · refine (takeMark_no E _ A 4 c _ W' (hE.below hb) hi (hlt 4) hmk).mono ?_
      rintro e w' ⟨rfl, rfl⟩
      exact ⟨But.refl _ _, num, cnt, sum, r, fr.below hb, hrs, .inl ⟨_, cutL_mark h64' hmk, rfl⟩⟩
  · refine ⟨316, 300, #[.pointer (some ⟨B + 1, 0, none⟩)], #[.pointer (some ⟨F, 0, none⟩), .pointer (some ⟨B + 1, 0, none⟩)], 8, rfl, fun _ _ => by kernel_rfl, fun _ _ => by kernel_rfl, by rw [cell_of_row _ G _ _ _ _ gr]; rfl, by rw [cell_of_row _ G _ _ _ _ gr]; rfl, fun W' hb => always1_any _ (B + 1) 8 W' (boxed_below pts.b1 hb), fun h => by omega, fun hk W' c hb hc => ?_⟩
    refine (takeNum_any F num cnt sum r A 8 c _ W' (fr.below hb) (hcut 8 W' hk hb) (hlt 8) (by omega) hc).mono ?_
    rintro e w' ⟨rfl, rfl⟩
    exact ⟨onlyF_set _ _ _ _, _, cnt, sum, r, (fr.below hb).set0 _, hrs, .inr ⟨rfl, .inr (.inr (.inl ⟨rfl, rfl, mk, rfl⟩))⟩⟩
  · refine ⟨316, 301, #[.pointer (some ⟨B + 2, 0, none⟩)], #[.pointer (some ⟨F, 0, none⟩), .pointer (some ⟨B + 2, 0, none⟩)], 2, rfl, fun _ _ => by kernel_rfl, fun _ _ => by kernel_rfl, by rw [cell_of_row _ G _ _ _ _ gr]; rfl, by rw [cell_of_row _ G _ _ _ _ gr]; rfl, fun W' hb => always1_any _ (B + 2) 2 W' (boxed_below pts.b2 hb), fun h => by omega, fun hk W' c hb hc => ?_⟩
    refine (takeCount_any E F num cnt sum r A 2 c _ (cntOf xs) rfl (cntOf_lt hx) W' (fr.below hb) (hE.below hb) (hcut 2 W' hk hb) (hlt 2) (by omega) hc).mono ?_
    rintro e w' ⟨rfl, rfl⟩
    by_cases hbig : 256 < cntOf xs
    · exact ⟨onlyF_set _ _ _ _, num, _, sum, r, (fr.below hb).set1 _, hrs, .inl ⟨_, cutL_count h64' mk hbig, by rw [if_pos hbig]⟩⟩
    · exact ⟨onlyF_set _ _ _ _, num, _, sum, r, (fr.below hb).set1 _, hrs, .inr ⟨by rw [if_neg hbig], .inr (.inr (.inr (.inl ⟨rfl, rfl, mk, hnum, rfl, by omega⟩)))⟩⟩
  · refine ⟨316, 302, #[.pointer (some ⟨B + 3, 0, none⟩)], #[.pointer (some ⟨F, 0, none⟩), .pointer (some ⟨B + 3, 0, none⟩)], 4, rfl, fun _ _ => by kernel_rfl, fun _ _ => by kernel_rfl, by rw [cell_of_row _ G _ _ _ _ gr]; rfl, by rw [cell_of_row _ G _ _ _ _ gr]; rfl, fun W' hb => always1_any _ (B + 3) 4 W' (boxed_below pts.b3 hb), fun h => by omega, fun hk W' c hb hc' => ?_⟩
    refine (takeSum_any F num cnt sum r A 4 c _ W' (fr.below hb) (hcut 4 W' hk hb) (hlt 4) (by omega) hc').mono ?_
    rintro e w' ⟨rfl, rfl⟩
    exact ⟨onlyF_set _ _ _ _, num, cnt, _, r, (fr.below hb).set2 _, hrs, .inr ⟨rfl, .inr (.inr (.inr (.inr (.inl ⟨rfl, rfl, mk, hnum, hcnt, hc, rfl⟩))))⟩⟩
  · subst hcnt
    refine ⟨303, 304, #[], #[.pointer (some ⟨F, 0, none⟩)], cntOf xs, rfl, fun _ _ => by kernel_rfl, fun _ _ => by kernel_rfl, by rw [cell_of_row _ G _ _ _ _ gr]; rfl, by rw [cell_of_row _ G _ _ _ _ gr]; rfl, fun W' hb => parts1_any F num _ sum r W' (fr.below hb), fun h => cutL_short h64' mk hc (by omega), fun hk W' c hb hc' => ?_⟩
    refine (takeRecord_any F num _ sum r A (cntOf xs) c W' (fr.below hb)).mono ?_
    rintro e w' ⟨rfl, rfl⟩
    refine ⟨onlyF_set _ _ _ _, num, _, sum, _, (fr.below hb).set3 _, ⟨_, _, _, rfl⟩, .inr ⟨rfl, .inr (.inr (.inr (.inr (.inr (.inl ⟨rfl, rfl, mk, hnum, rfl, hc, hsum, A, c, rfl, hc', ?_, fun e => by have := hA e; omega⟩)))))⟩⟩
    exact hin.take hk
  · subst hcnt
    have hcc : cntOf xs ≤ 1000000000000 := by omega
    refine ⟨305, 307, #[], #[.pointer (some ⟨F, 0, none⟩)], noug (cntOf xs), rfl, fun _ _ => by kernel_rfl, fun _ _ => by kernel_rfl, by rw [cell_of_row _ G _ _ _ _ gr]; rfl, by rw [cell_of_row _ G _ _ _ _ gr]; rfl, fun W' hb => parts2_any F num _ sum hcc r W' (fr.below hb), fun h => cutL_short h64' mk hc (by unfold noug at h; omega), fun hk W' c hb hc' => ?_⟩
    refine (takeNoughts_any E _ A (noug (cntOf xs)) c _ W' (hE.below hb) (hcut _ W' hk hb) (by unfold noug; unfold secs; omega)).mono ?_
    rintro e w' ⟨hz, rfl⟩
    have h1 : 64 * secs (cntOf xs) ≤ xs.length := by unfold noug at hk; omega
    rcases hz with ⟨hz, rfl⟩ | ⟨hz, rfl⟩
    · obtain ⟨A', c', hr1, hr2, hr3, hr4⟩ := hr
      exact ⟨But.refl _ _, num, _, sum, r, fr.below hb, hrs, .inr ⟨rfl, .inr (.inr (.inr (.inr (.inr (.inr ⟨rfl, rfl, mk, hnum, rfl, hc, hsum, ⟨A', c', hr1, hr2, hr3, hr4⟩, by omega, hz⟩)))))⟩⟩
    · exact ⟨But.refl _ _, num, _, sum, r, fr.below hb, hrs, .inl ⟨_, cutL_rest h64' mk hc h1 hz, rfl⟩⟩
  · omega

end Go.Proofs.YthbgcijkpincfaaGreatDoor
