/-
  paths.pathTo whole; paths.Of.
-/
import Derived.Test.YtppfdpnplemfkaaDoorWPath
namespace Go.Proofs.YtppfdpnplemfkaaDoor
open Go.RowKit

theorem path_any : ∀ (n at_ : Nat) (A : Option Addr) (c : Nat) (ys : List Nat) (w : World), InS w A n ys → (∀ x ∈ ys, x < 256) → n ≤ c → n ≤ 65536 → at_ < n → Knows w → Starts w →
    Calls Tryd.prog 12 #[.slice A n c, .int .i64 (at_ : Int)] w (GivesS w.heap.size w (dep at_ n) (pathL (nth ys) 0 n at_).flatten) := by
  intro n
  induction n using Nat.strongRecOn with
  | ind n ih =>
    intro at_ A c ys w hin hy hc hn hat hk hs
    by_cases h1 : n < 2
    · obtain rfl : n = 1 := by omega
      rw [dep_one h1, pathL_one _ h1]
      exact path_one
    · have hcl := cutN_lt (m := n) (by omega)
      have hcp := cutN_pos n
      obtain ⟨ad, rfl⟩ := hin.some_ (by omega)
      have hd := dep_64 (n := n) (at_ := at_) hat (by omega)
      have lk : ∀ {i m : Nat}, i + m ≤ n → (rt (nth ys) i m).length = 32 := fun {i m} h => rt_length _ i m fun j hj => nth_length hin.len (by omega)
      have dr : Below w.heap.size w w.drew := (Below.refl _ w).drew
      have ytake : ∀ x ∈ ys.take (32 * cutN n), x < 256 := fun x hx => hy x (List.mem_of_mem_take hx)
      have ydrop : ∀ x ∈ ys.drop (32 * cutN n), x < 256 := fun x hx => hy x (List.mem_of_mem_drop hx)
      by_cases ha : at_ < cutN n
      · rw [dep_low (by omega) ha] at hd ⊢
        rw [pathL_low _ (by omega) ha, List.flatten_append, List.flatten_singleton, Nat.zero_add]
        refine path_low hc hn (by omega) rfl rfl ha (by omega) (lk (by omega)) ?_ ?_
        · have := ih (cutN n) hcl at_ (some ad) c (ys.take (32 * cutN n)) w.drew ((hin.take (k := cutN n) (by omega)).below dr) ytake (by omega) (by omega) ha (hk.below dr) (hs.below dr)
          rw [pathL_congr (nth (ys.take (32 * cutN n))) (nth ys) (cutN n) 0 0 at_ (fun j hj => by rw [Nat.zero_add]; exact nth_take hj)] at this
          exact this.mono fun e w' ⟨A', c', he, ho, hb⟩ => ⟨A', c', he, ho, dr.trans hb⟩
        · intro W hW
          have := root_any (some (ad.add (cutN n * 32))) (n - cutN n) (c - cutN n) (ys.drop (32 * cutN n)) W ((hin.drop_ _ (by omega)).below hW) ydrop (by omega) (by omega) (hk.below hW) (hs.below hW)
          rw [rt_drop] at this
          exact this
      · rw [dep_high (by omega) ha] at hd ⊢
        rw [pathL_high _ (by omega) ha, List.flatten_append, List.flatten_singleton, Nat.zero_add]
        refine path_high hc hn (by omega) rfl rfl ha rfl hat (by omega) (lk (by omega)) ?_ ?_
        · have := ih (n - cutN n) (by omega) (at_ - cutN n) (some (ad.add (cutN n * 32))) (c - cutN n) (ys.drop (32 * cutN n)) w.drew ((hin.drop_ (cutN n) (by omega)).below dr) ydrop (by omega) (by omega) (by omega) (hk.below dr) (hs.below dr)
          rw [pathL_congr (nth (ys.drop (32 * cutN n))) (nth ys) (n - cutN n) 0 (cutN n) (at_ - cutN n) (fun j hj => by rw [Nat.zero_add]; exact nth_drop _ _ _)] at this
          exact this.mono fun e w' ⟨A', c', he, ho, hb⟩ => ⟨A', c', he, ho, dr.trans hb⟩
        · intro W hW
          have := root_any (some ad) (cutN n) c (ys.take (32 * cutN n)) W ((hin.take (by omega)).below hW) ytake (by omega) (by omega) (hk.below hW) (hs.below hW)
          rw [rt_take] at this
          exact this

set_option maxRecDepth 100000 in
set_option maxHeartbeats 1000000 in
/-- paths.Of at a place that there is not. -/
theorem pof_no {w : World} {n c : Nat} {A : Option Addr} (z : Int) (h : z < 0 ∨ (n : Int) ≤ z) :
    Calls Tryd.prog 7 #[.slice A n c, .int .i64 z] w fun e w' => e = .returned (.tuple #[.slice none 0 0, .int .i64 1]) ∧ w' = w := by
  by_cases h0 : z < 0
  · go_enter Tryd.func7, Tryd.ntmps7
    go_wp2_with fail
    go_ret2
    exact ⟨rfl, rfl⟩
  · have h1 : (n : Int) ≤ z := by omega
    go_enter Tryd.func7, Tryd.ntmps7
    go_wp2_with fail
    go_ret2
    exact ⟨rfl, rfl⟩

set_option maxRecDepth 100000 in
set_option maxHeartbeats 1000000 in
/-- paths.Of. -/
theorem pof_yes {w : World} {n c at_ : Nat} {A : Option Addr} {ys : List Nat} (hin : InS w A n ys) (hy : ∀ x ∈ ys, x < 256) (hc : n ≤ c) (hn : n ≤ 65536) (hat : at_ < n) (hk : Knows w) (hs : Starts w) :
    Calls Tryd.prog 7 #[.slice A n c, .int .i64 (at_ : Int)] w fun e w' => ∃ A' c', e = .returned (.tuple #[.slice A' (dep at_ n) c', .int .i64 0]) ∧ w'.ownsRow w.heap.size 24 32 (.slice A' (dep at_ n) c') (dep at_ n) (bvs (pathL (nth ys) 0 n at_).flatten) ∧ Below w.heap.size w w' := by
  have C := Lib.hid (path_any n at_ A c ys w hin hy hc hn hat hk hs)
  have h0 : ¬ (at_ : Int) < 0 := by omega
  have h1 : ¬ (n : Int) ≤ (at_ : Int) := by omega
  clear hin hy hc hn hat hk hs
  go_enter Tryd.func7, Tryd.ntmps7
  go_wp2_with fail
  refine C.out.mono ?_
  rintro e w1 ⟨A', c', rfl, ho, hb⟩
  go_wp2_with fail
  go_ret2
  exact ⟨A', c', rfl, ho, hb⟩

end Go.Proofs.YtppfdpnplemfkaaDoor
