/-
  almonerlaw06.alive: the chapter's examples.
-/
import Derived.Test.YtfniddnfkciblaaDoorFPut
import Derived.Test.YtfniddnfkciblaaDoorFGet
namespace Go.Proofs.YtfniddnfkciblaaDoor
open Go.RowKit

theorem below_next {n : Nat} {w w1 w2 : World} (h : Below n w w1) (hn : n ≤ w.heap.size) (k : Below w1.heap.size w1 w2) : Below n w w2 := h.trans (k.mono (Nat.le_trans hn h.size))

theorem make_in (k : Nat) (hk : k ≤ 1000) : ∃ M : Array Value, (∀ W : World, (Instr.makeSlice 23 (.int .i64 (k : Int)) (.int .i64 (k : Int))).run Tryd.prog W = .ok (.slice (some ⟨W.heap.size, 0, none⟩) k k) (W.alloc (.cells M 5))) ∧
    ∀ W : World, In (W.alloc (.cells M 5)) (some ⟨W.heap.size, 0, none⟩) k (List.replicate k 0) := by
  refine ⟨(bvs (List.replicate k 0)).toArray, fun W => ?_, fun W => ?_⟩
  · have := make_bytes k k (Nat.le_refl _) (by omega) W
    rw [made_noughts] at this
    exact this
  · have := In.lit_ W (List.replicate k 0) (0, 0)
    rw [List.length_replicate] at this
    exact this

def ab : List Nat := [97, 98]

section
variable {E : Errs}
theorem al_put_none (W : World) : Calls Tryd.prog 7 #[.int .u64 1, .slice none 0 0] W fun e w' =>
    ∃ A c, e = .returned (.tuple #[.slice A 64 c, .int .i64 0]) ∧ In w' A 4 recMark ∧ 64 ≤ c ∧ Below W.heap.size W w' :=
  (put_frame 1 0 0 none [] W (by omega) (In.none_ _ _) (by intro x hx; cases hx) (fun _ => rfl) (by omega)).mono fun e w' ⟨A, c, he, ho, hb⟩ => by
    have hi := (In.of_own ho).take (k := 4) (by decide)
    have e4 := take4_frame (num := 1) (b := []) (ys := [])
    rw [List.append_nil] at e4
    rw [e4] at hi
    exact ⟨A, c, he, hi, own_cap ho, hb⟩
theorem al_put_zeros (k s : Nat) (hk : k ≤ 256) (hs : 64 * secs k = s) (M : Array Value) (hM : ∀ W : World, In (W.alloc (.cells M 5)) (some ⟨W.heap.size, 0, none⟩) k (List.replicate k 0)) (W : World) :
    Calls Tryd.prog 7 #[.int .u64 1, .slice (some ⟨W.heap.size, 0, none⟩) k k] (W.alloc (.cells M 5)) fun e w' => ∃ A c, e = .returned (.tuple #[.slice A s c, .int .i64 0]) ∧ Below W.heap.size W w' :=
  (put_frame 1 k k _ (List.replicate k 0) _ hk (hM W) (zeros_lt k) (fun e => by cases e) (Nat.le_refl _)).mono fun e w' ⟨A, c, he, ho, hb⟩ => by
    rw [hs] at he
    exact ⟨A, c, he, below_next (below_alloc W _) (Nat.le_refl _) hb⟩
theorem al_put_great (M : Array Value) (W : World) :
    Calls Tryd.prog 7 #[.int .u64 1, .slice (some ⟨W.heap.size, 0, none⟩) 257 257] (W.alloc (.cells M 5)) fun e w' => e = .returned (.tuple #[.slice none 0 0, .int .i64 3]) ∧ Below W.heap.size W w' :=
  (put_great 1 257 257 _ _ (by omega)).mono fun e w' ⟨he, hw⟩ => ⟨he, hw ▸ below_alloc W _⟩
theorem al_put_ab (W : World) : Calls Tryd.prog 7 #[.int .u64 7, .slice (some ⟨W.heap.size, 0, none⟩) 2 2] (W.alloc (.cells #[.int .u8 97, .int .u8 98] 5 (2, 3))) fun e w' =>
    ∃ A c, e = .returned (.tuple #[.slice A 64 c, .int .i64 0]) ∧ In w' A 64 (frameL 7 ab) ∧ (A = none → 64 = 0) ∧ 64 ≤ c ∧ Below W.heap.size W w' :=
  (put_frame 7 2 2 _ ab _ (by omega) (In.lit_ W ab (2, 3)) (by decide) (fun e => by cases e) (by omega)).mono fun e w' ⟨A, c, he, ho, hb⟩ =>
    ⟨A, c, he, In.of_own ho, (fun e => by obtain ⟨g, hg⟩ := own_ad ho (by decide); rw [e] at hg; cases hg), own_cap ho, below_next (below_alloc W _) (Nat.le_refl _) hb⟩
theorem al_get_ab (A : Option Addr) (c : Nat) (W : World) (hE : Laid W E) (hin : In W A 64 (frameL 7 ab)) (hA : A = none → 64 = 0) (hc : 64 ≤ c) : Calls Tryd.prog 9 #[.slice A 64 c] W fun e w' =>
    ∃ A' c', e = .returned (.tuple #[.int .u64 7, .slice A' 2 c', .int .i64 1, .int .i64 0]) ∧ In w' A' 2 ab ∧ Below W.heap.size W w' :=
  (get_frame E A 64 c _ W hE hin (frameL_lt 7 ab (by decide)) hA hc (by omega)).mono fun e w' ⟨hb, h⟩ => by
    have h1 := cutL_frame (num := 7) (b := ab) (ys := []) (by decide) (by decide)
    have h2 := numOf_frame (num := 7) (b := ab) (ys := []) (by decide)
    have h3 := cntOf_frame (num := 7) (b := ab) (ys := []) (by decide)
    have h4 := recOf_frame (num := 7) (b := ab) (ys := []) (by decide)
    rw [List.append_nil] at h1 h2 h3 h4
    rcases h with ⟨b, hc, _⟩ | ⟨_, A', c', he, ho⟩
    · rw [h1] at hc; cases hc
    · rw [h2, h3] at he
      rw [h3, h4] at ho
      exact ⟨A', c', he, In.of_own ho, hb⟩
theorem al_get_short (M : Array Value) (hM : ∀ W : World, In (W.alloc (.cells M 5)) (some ⟨W.heap.size, 0, none⟩) 63 (List.replicate 63 0)) (W : World) (hE : Laid W E) :
    Calls Tryd.prog 9 #[.slice (some ⟨W.heap.size, 0, none⟩) 63 63] (W.alloc (.cells M 5)) fun e w' => e = .returned (.tuple #[.int .u64 0, .slice none 0 0, .int .i64 0, .int .i64 5]) ∧ Below W.heap.size W w' :=
  (get_frame E _ 63 63 _ _ (hE.below (below_alloc W _)) (hM W) (zeros_lt 63) (fun e => by cases e) (Nat.le_refl _) (by omega)).mono fun e w' ⟨hb, h⟩ => by
    have h1 : cutL (List.replicate 63 0) = some .short := cutL_len (by simp)
    rcases h with ⟨b, hc, he⟩ | ⟨hc, _⟩
    · rw [h1] at hc; cases hc; exact ⟨he, below_next (below_alloc W _) (Nat.le_refl _) hb⟩
    · rw [h1] at hc; cases hc
theorem al_get_form (M : Array Value) (hM : ∀ W : World, In (W.alloc (.cells M 5)) (some ⟨W.heap.size, 0, none⟩) 64 (List.replicate 64 0)) (W : World) (hE : Laid W E) :
    Calls Tryd.prog 9 #[.slice (some ⟨W.heap.size, 0, none⟩) 64 64] (W.alloc (.cells M 5)) fun e w' => e = .returned (.tuple #[.int .u64 0, .slice none 0 0, .int .i64 0, .int .i64 4]) ∧ Below W.heap.size W w' :=
  (get_frame E _ 64 64 _ _ (hE.below (below_alloc W _)) (hM W) (zeros_lt 64) (fun e => by cases e) (Nat.le_refl _) (by omega)).mono fun e w' ⟨hb, h⟩ => by
    have h1 : cutL (List.replicate 64 0) = some .form := cutL_mark (by simp) (by decide)
    rcases h with ⟨b, hc, he⟩ | ⟨hc, _⟩
    · rw [h1] at hc; cases hc; exact ⟨he, below_next (below_alloc W _) (Nat.le_refl _) hb⟩
    · rw [h1] at hc; cases hc
end

set_option maxRecDepth 100000 in
set_option maxHeartbeats 2000000 in
theorem alive_any (E : Errs) (w : World) (hE : Laid w E) : Calls Tryd.prog 8 #[] w fun e W' => e = .returned (.bool true) ∧ Below w.heap.size w W' := by
  obtain ⟨M46, m46, i46⟩ := make_in 46 (by omega)
  obtain ⟨M47, m47, i47⟩ := make_in 47 (by omega)
  obtain ⟨M257, m257, i257⟩ := make_in 257 (by omega)
  obtain ⟨M63, m63, i63⟩ := make_in 63 (by omega)
  obtain ⟨M64, m64, i64⟩ := make_in 64 (by omega)
  have n46 : ∀ W : World, (Instr.makeSlice 23 (.int .i64 46) (.int .i64 46)).run Tryd.prog W = .ok (.slice (some ⟨W.heap.size, 0, none⟩) 46 46) (W.alloc (.cells M46 5)) := m46
  have n47 : ∀ W : World, (Instr.makeSlice 23 (.int .i64 47) (.int .i64 47)).run Tryd.prog W = .ok (.slice (some ⟨W.heap.size, 0, none⟩) 47 47) (W.alloc (.cells M47 5)) := m47
  have n257 : ∀ W : World, (Instr.makeSlice 23 (.int .i64 257) (.int .i64 257)).run Tryd.prog W = .ok (.slice (some ⟨W.heap.size, 0, none⟩) 257 257) (W.alloc (.cells M257 5)) := m257
  have n63 : ∀ W : World, (Instr.makeSlice 23 (.int .i64 63) (.int .i64 63)).run Tryd.prog W = .ok (.slice (some ⟨W.heap.size, 0, none⟩) 63 63) (W.alloc (.cells M63 5)) := m63
  have n64 : ∀ W : World, (Instr.makeSlice 23 (.int .i64 64) (.int .i64 64)).run Tryd.prog W = .ok (.slice (some ⟨W.heap.size, 0, none⟩) 64 64) (W.alloc (.cells M64 5)) := m64
  have C2 := Lib.hid (al_put_zeros 46 64 (by omega) (by decide) M46 i46)
  have C3 := Lib.hid (al_put_zeros 47 128 (by omega) (by decide) M47 i47)
  have C4 := Lib.hid (al_put_great M257)
  have C7 := Lib.hid (al_get_short (E := E) M63 i63)
  have C8 := Lib.hid (al_get_form (E := E) M64 i64)
  have HE := Lib.hid hE
  have kc := fun (W : World) (C : Array Value) (n c g : Nat) (hg : g = W.heap.size) => Joins.run_convert_bytes_const_at (P := Tryd.prog) W 23 5 C n c g hg Tryd.underlying23 Tryd.underlying5
  clear m46 m47 m257 m63 m64 i46 i47 i257 i63 i64 hE
  go_enter Tryd.func8, Tryd.ntmps8
  go_wp2_with fail
  refine (al_put_none _).mono ?_
  rintro e w1 ⟨A1, c1, rfl, hi1, hc1, hb1⟩
  have HI1 := Lib.hid hi1
  have B1 := Lib.hid hb1
  clear hi1 hb1
  go_wp2_with fail
  refine (C2.out _).mono ?_
  rintro e w2 ⟨A2, c2, rfl, hb2⟩
  have B2 := Lib.hid hb2
  clear hb2
  go_wp2_with fail
  refine (C3.out _).mono ?_
  rintro e w3 ⟨A3, c3, rfl, hb3⟩
  have B3 := Lib.hid hb3
  clear hb3
  go_wp2_with fail
  refine (C4.out _).mono ?_
  rintro e w4 ⟨rfl, hb4⟩
  have B4 := Lib.hid hb4
  clear hb4
  go_wp2_with fail
  refine (al_put_ab _).mono ?_
  rintro e w5 ⟨A5, c5, rfl, hi5, hA5, hc5, hb5⟩
  have B5 : Hid (Below w.heap.size w w5) := below_next (below_next (below_next (below_next B1.out (Nat.le_refl _) B2.out) (Nat.le_refl _) B3.out) (Nat.le_refl _) B4.out) (Nat.le_refl _) hb5
  have D5 : Hid (Below w1.heap.size w1 w5) := below_next (below_next (below_next B2.out (Nat.le_refl _) B3.out) (Nat.le_refl _) B4.out) (Nat.le_refl _) hb5
  have C6 := Lib.hid (al_get_ab (E := E) A5 c5 w5 (HE.out.below B5.out) hi5 hA5 hc5)
  clear hi5 hA5 hb5 hc5
  go_wp2_with fail
  refine C6.out.mono ?_
  rintro e w6 ⟨A6, c6, rfl, hi6, hb6⟩
  have B6 : Hid (Below w.heap.size w w6) := below_next B5.out (Nat.le_refl _) hb6
  have D6 : Hid (Below w1.heap.size w1 w6) := below_next D5.out (Nat.le_refl _) hb6
  have HI6 := Lib.hid hi6
  clear hi6 hb6
  go_wp2_with fail
  refine (C7.out _ (HE.out.below B6.out)).mono ?_
  rintro e w7 ⟨rfl, hb7⟩
  have B7 : Hid (Below w.heap.size w w7) := below_next B6.out (Nat.le_refl _) hb7
  have D7 : Hid (Below w1.heap.size w1 w7) := below_next D6.out (Nat.le_refl _) hb7
  have HI7 := Lib.hid (HI6.out.below hb7)
  clear hb7
  go_wp2_with fail
  refine (C8.out _ (HE.out.below B7.out)).mono ?_
  rintro e w8 ⟨rfl, hb8⟩
  have B8 : Hid (Below w.heap.size w w8) := below_next B7.out (Nat.le_refl _) hb8
  have s1 : (convert 23 9 (.slice A1 4 c1)).run Tryd.prog w8 = .ok (.string { data := #[82, 69, 67, 49] }) w8 := conv_str (HI1.out.below (below_next D7.out (Nat.le_refl _) hb8)) recMark_lt c1
  have s2 : (convert 23 9 (.slice A6 2 c6)).run Tryd.prog w8 = .ok (.string { data := #[97, 98] }) w8 := conv_str (HI7.out.below hb8) (by decide) c6
  clear hb8
  go_wp2_with fail
  go_ret
  exact ⟨rfl, B8.out⟩

end Go.Proofs.YtfniddnfkciblaaDoor
