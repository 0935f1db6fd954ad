/-
  What is added: sectors, writeFirst, calls.
-/
import Derived.Test.YthbgcijkpincfaaGreatDoorTCall
import Derived.BigQuiet
import Derived.Deep.RegionWith
namespace Go.Proofs.YthbgcijkpincfaaGreatDoor
open Go.RowKit

/-- Write and Sync, whatever the fuse. -/
theorem write_gen {w : World} {g : Nat} {F : Nat → Prop} {s : St} {k : Nat} (hk : k < s.sure.length) (A : Option Addr) (n c : Nat) (xs : List Nat) (hin : In w A n xs) (hA : 0 < n → ∀ ad, A = some ad → ¬ F ad.block) (hb : ∀ x ∈ xs, x < 256) (hn : n ≤ 64) (hw : s.waits.length ≤ 1000000)
    (h : Disk w g F s) :
    Calls Tryz.prog 20 #[.pointer (some ⟨g, 0, none⟩), .int .i64 (k : Int), .slice A n c] w fun e w' => e = .returned (.int .i64 s.sc) ∧ Acted w g F (s.wn k xs) w' := by
  unfold St.sc St.wn
  by_cases h0 : s.lets = 0
  · rw [if_pos h0, if_pos h0]; exact write_blow hk A n c hn h0 h
  · rw [if_neg h0, if_neg h0]; exact write_any hk A n c xs hin (fun hn ad e e2 => hA hn ad e (by rw [e2]; exact h.mem)) hb hn h0 (by omega) h
theorem sync_gen {w : World} {g : Nat} {F : Nat → Prop} {s : St} (h : Disk w g F s) :
    Calls Tryz.prog 80 #[.pointer (some ⟨g, 0, none⟩)] w fun e w' => e = .returned (.int .i64 s.sc) ∧ Acted w g F s.sn w' := by
  unfold St.sc St.sn
  by_cases h0 : s.lets = 0
  · rw [if_pos h0, if_pos h0]; exact sync_blow h0 h
  · rw [if_neg h0, if_neg h0]; exact sync_any h0 h

/-- What is left in new blocks, too. -/
theorem Acted.after {w w1 w2 : World} {g : Nat} {F : Nat → Prop} {s' : St} (h1 : Below w.heap.size w w1) (h : Acted w1 g F s' w2) : Acted w g F s' w2 := by
  obtain ⟨F', hd, hb, hf⟩ := h
  exact ⟨F', hd, (But.of_below h1).trans (hb.mono (fun x _ e => e) : But F w1 w2), fun x hx => (hf x hx).imp id (fun e => Nat.le_trans h1.size e)⟩

def addedV (gd at_ : Nat) (u : Value) : Value := .agg #[.pointer (some ⟨gd, 0, none⟩), .int .i64 (at_ : Int), u]

set_option maxRecDepth 100000 in
theorem sectors_added {w : World} {gd at_ : Nat} {A : Option Addr} {k c : Nat} (hk : k ≤ 1000) :
    Calls Tryz.prog 93 #[addedV gd at_ (.slice A (64 * k) c)] w fun e w' => e = .returned (.int .i64 (k : Int)) ∧ Below w.heap.size w w' := by
  unfold addedV
  have c0 : ∀ i v, #[Value.pointer (some ⟨gd, 0, none⟩), .int .i64 (at_ : Int), .slice A (64 * k) c][i]? = some v → (w.alloc (.cells #[.pointer (some ⟨gd, 0, none⟩), .int .i64 (at_ : Int), .slice A (64 * k) c] 147)).cell? ⟨w.heap.size, i, none⟩ = some v := fun i v h => by
    rw [cell_of_row _ _ i _ _ (0, 0) (World.alloc_heap_new w _)]; exact h
  have c2 := c0 2 _ rfl
  obtain ⟨n, hn⟩ : ∃ n, 64 * k = n := ⟨_, rfl⟩
  have hq : Int.tdiv (n : Int) 64 = (k : Int) := by rw [← hn, Int.tdiv_eq_ediv_of_nonneg (by omega)]; push_cast; omega
  rw [hn] at c2 ⊢
  have HB := Lib.hid (below_alloc w (.cells #[.pointer (some ⟨gd, 0, none⟩), .int .i64 (at_ : Int), .slice A n c] 147))
  have HN := Lib.hid hn
  clear hn c0
  go_enter Tryz.func93, Tryz.ntmps93
  go_wp2
  go_ret
  exact ⟨by simp, HB.out⟩

set_option maxRecDepth 100000 in
set_option maxHeartbeats 1000000 in
theorem first_added {w : World} {gd at_ : Nat} {F : Nat → Prop} {s : St} {A : Option Addr} {k c : Nat} {L : List (List Nat)} (h : Disk w gd F s) (hin : In w A (64 * k) L.flatten) (hL : L.length = k) (hs : ∀ x ∈ L, Sec x) (hA : ∀ ad, A = some ad → ¬ F ad.block) (h0 : 0 < k) (hk : k ≤ 5) (hnc : 64 * k ≤ c)
    (hat : at_ < s.sure.length) (hw : s.waits.length ≤ 1000000) :
    Calls Tryz.prog 179 #[addedV gd at_ (.slice A (64 * k) c)] w fun e w' => e = .returned (.int .i64 s.sc) ∧ Acted w gd F (s.wn at_ (L.headD [])) w' := by
  have hw1 := (below_alloc w (.cells #[.pointer (some ⟨gd, 0, none⟩), .int .i64 (at_ : Int), .slice A (64 * k) c] 147)).drew
  obtain ⟨a, rfl⟩ : ∃ a, A = some a := by
    obtain ⟨a, x, e, _⟩ := hin.at_ (k := 0) (by omega)
    exact ⟨a, e⟩
  obtain ⟨x, L', rfl⟩ : ∃ x L', L = x :: L' := by
    cases L with
    | nil => simp at hL; omega
    | cons x L' => exact ⟨x, L', rfl⟩
  have hx := hs x (by simp)
  have hin1 : In w (some a) 64 x := by
    have := hin.take (k := 64) (by omega)
    rwa [List.flatten_cons, List.take_append_of_le_length (by rw [hx.1]; exact Nat.le_refl _), List.take_of_length_le (by rw [hx.1]; exact Nat.le_refl _)] at this
  have C := write_gen (k := at_) hat (some a) 64 c x (hin1.below hw1) (fun _ ad e => hA ad e) hx.2 (Nat.le_refl _) hw (h.below hw1)
  have HF := h.2.2
  have hc0 : (64 : Int) ≤ (c : Int) := by omega
  have HX := Lib.hid (And.intro HF hw1)
  unfold addedV
  obtain ⟨w1, hw1e⟩ : ∃ w1, w.alloc (.cells #[.pointer (some ⟨gd, 0, none⟩), .int .i64 (at_ : Int), .slice (some a) (64 * k) c] 147) = w1 := ⟨_, rfl⟩
  obtain ⟨B, hB⟩ : ∃ B, w.heap.size = B := ⟨_, rfl⟩
  have row : w1.heap[B]? = some (.cells #[.pointer (some ⟨gd, 0, none⟩), .int .i64 (at_ : Int), .slice (some a) (64 * k) c] 147 (0, 0)) := by rw [← hw1e, ← hB]; exact World.alloc_heap_new w _
  have c0 : w1.cell? ⟨B, 0, none⟩ = some (.pointer (some ⟨gd, 0, none⟩)) := by rw [cell_of_row _ B 0 _ _ (0, 0) row]; rfl
  have c1 : w1.cell? ⟨B, 1, none⟩ = some (.int .i64 (at_ : Int)) := by rw [cell_of_row _ B 1 _ _ (0, 0) row]; rfl
  have c2 : w1.cell? ⟨B, 2, none⟩ = some (.slice (some a) (64 * k) c) := by rw [cell_of_row _ B 2 _ _ (0, 0) row]; rfl
  rw [hw1e] at C HX
  have HC := Lib.hid C
  have HB := Lib.hid hB
  have HE := Lib.hid hw1e
  clear C h hin hL hs hA hx hin1 hat hw hw1 HF row hB hw1e
  go_enter Tryz.func179, Tryz.ntmps179
  go_wp2_with fail
  rw [HE.out, HB.out]
  go_region_law (first
    | (go_simp; go_at_call 20; refine HC.out.mono ?_; rintro e w2 ⟨rfl, ha⟩))
  all_goals
    go_wp2
    go_ret
    exact ⟨rfl, Acted.after HX.out.2 ha⟩

end Go.Proofs.YthbgcijkpincfaaGreatDoor
