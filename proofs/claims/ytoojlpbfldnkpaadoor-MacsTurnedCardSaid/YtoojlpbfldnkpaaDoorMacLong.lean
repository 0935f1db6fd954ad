/-
  MacsLong: a key that has more than a block is as its sum, and that as itself with noughts up to a block.
-/
import Derived.Test.YtoojlpbfldnkpaaDoorMacKnown
import Derived.Test.YtoojlpbfldnkpaaDoorLZeros
namespace Go.Proofs.YtoojlpbfldnkpaaDoor
open Go.RowKit

theorem fil_zeros (s : List Nat) (k m : Nat) : fil (s ++ List.replicate k 0) m = fil s m := by
  unfold fil
  congr 1
  funext i
  congr 1
  rw [List.getD_eq_getElem?_getD, List.getD_eq_getElem?_getD, List.getElem?_append]
  split
  · rfl
  · rename_i h
    rw [List.getElem?_eq_none (show s.length ≤ i by omega), List.getElem?_replicate]
    split <;> rfl
theorem mac_long (xs ys : List Nat) (k : Nat) (h : 64 < xs.length) (hk : k < 33) : mac xs ys = mac (sha xs ++ List.replicate k 0) ys := by
  have h1 : shortL xs = sha xs := by unfold shortL; rw [if_neg (by omega)]
  have h2 : shortL (sha xs ++ List.replicate k 0) = sha xs ++ List.replicate k 0 := by
    unfold shortL
    rw [if_pos (by rw [List.length_append, sha_length, List.length_replicate]; omega)]
  unfold mac
  rw [h1, h2, fil_zeros, fil_zeros]

theorem rows_one' {W : World} {b n c : Nat} {A : Option Addr} {ys : List Nat} (hc : W.cell? ⟨b, 0, none⟩ = some (.slice A n c)) (hy : Came W A n c ys) (hn : n ≤ 140737488355328) : CameRows W (some ⟨b, 0, none⟩) 1 [ys] :=
  ⟨rfl, fun r xs hx => by
    have hr := (List.getElem?_eq_some_iff.1 hx).1
    obtain rfl : r = 0 := by simp at hr; omega
    cases hx
    exact ⟨_, _, n, c, rfl, hc, hy, hn⟩⟩
theorem rem33 (x : Nat) : Int.tmod (x : Int) 33 = ((x % 33 : Nat) : Int) := by
  rw [Int.tmod_eq_emod_of_nonneg (by omega)]; omega

theorem own_some {w : World} {base n c : Nat} {A : Option Addr} {e : TypeId} {size : Nat} {xs : List Value} (h : w.ownsRow base e size (.slice A n c) n xs) (hn : 0 < n) : ∃ g, A = some ⟨g, 0, none⟩ := by
  rcases h.2 with ⟨_, h0⟩ | ⟨g, cap, cur, e1, _⟩
  · omega
  · cases e1; exact ⟨g, rfl⟩

/-- macs.Of of one part, which stands in the newest block. -/
theorem macOf_one (A : Option Addr) (n c : Nat) (xs : List Nat) (B : Option Addr) (m d : Nat) (ys : List Nat) (w : World) (T : TypeId) (hx : Came w A n c xs) (hy : Came w B m d ys) (hk : Knows w) (hs : Starts w) (hn : n ≤ 900000000) (hm : m ≤ 800000000) :
    Calls Tryd.prog 22 #[.slice A n c, .slice (some ⟨w.heap.size, 0, none⟩) 1 1] (w.alloc (.cells #[.slice B m d] T)) fun e w' => e = .returned (sv (mac xs ys)) ∧ Below w.heap.size w w' := by
  have hb := below_alloc w (.cells #[.slice B m d] T)
  refine (macOf_any A n c xs (some ⟨w.heap.size, 0, none⟩) 1 1 [ys] _ (hx.below hb) (rows_one' (cell_new1 _ _ _) (hy.below hb) (by omega)) (hk.below hb) (hs.below hb) hn (by simp [tot]; rw [hy.in_.len]; exact hm) (by omega)).mono fun e w' h => ⟨by rw [h.1]; simp, below_on hb (Nat.le_refl _) h.2⟩

set_option maxRecDepth 100000 in
set_option maxHeartbeats 1000000 in
theorem long_long (A B : Option Addr) (n c m d : Nat) (z : Int) (w : World) (hk : Knows w) (hs : Starts w) (h : 10000 < n ∨ 10000 < m) :
    Calls Tryd.prog 6 #[.slice A n c, .int .u8 z, .slice B m d] w fun e w' => e = .returned (.bool true) ∧ Below w.heap.size w w' := by
  have C := Lib.hid (known_any w hk hs)
  by_cases h1 : 10000 < n
  · have hi : (10000 : Int) < (n : Int) := by omega
    go_enter Tryd.func6, Tryd.ntmps6
    go_wp2_with fail
    refine C.out.mono ?_
    rintro e w1 ⟨rfl, hb1⟩
    go_wp2
    go_ret
    exact ⟨rfl, hb1⟩
  · have h2 : 10000 < m := by omega
    have hi : decide ((10000 : Int) < (n : Int)) = false := by simp; omega
    have hj : (10000 : Int) < (m : Int) := by omega
    go_enter Tryd.func6, Tryd.ntmps6
    go_wp2_with fail
    refine C.out.mono ?_
    rintro e w1 ⟨rfl, hb1⟩
    go_wp2
    go_ret
    exact ⟨rfl, hb1⟩

set_option maxRecDepth 100000 in
set_option maxHeartbeats 2000000 in
theorem long_short (A B : Option Addr) (n c m d z : Nat) (xs ys : List Nat) (w : World) (hx : Came w A n c xs) (hy : Came w B m d ys) (hk : Knows w) (hs : Starts w) (hn : n ≤ 10000) (hm : m ≤ 10000) (hz : z < 256) :
    Calls Tryd.prog 6 #[.slice A n c, .int .u8 (z : Int), .slice B m d] w fun e w' => e = .returned (.bool true) ∧ Below w.heap.size w w' := by
  have C1 := Lib.hid (of_any A n c xs w hx.in_ hx.lt hx.cap hk hs (by omega))
  obtain ⟨s, hs0⟩ : ∃ s, sha xs = s := ⟨_, rfl⟩
  have hl : s.length = 32 := by rw [← hs0]; exact sha_length xs
  have ls : ∀ x ∈ s, x < 256 := by rw [← hs0]; exact sha_lt xs
  rw [hs0] at C1
  have HS := Lib.hid (And.intro hs0 (And.intro hl ls))
  have HX := Lib.hid (And.intro hx hy)
  clear hs0 hl ls hx hy
  have hi : decide ((10000 : Int) < (n : Int)) = false := by simp; omega
  have hj : decide ((10000 : Int) < (m : Int)) = false := by simp; omega
  have hsl := run_arr_all Tryd.underlying54
  have q1 := rem33 z
  have hk33 : z % 33 < 33 := Nat.mod_lt _ (by omega)
  obtain ⟨k, hk0⟩ : ∃ k, z % 33 = k := ⟨_, rfl⟩
  rw [hk0] at q1 hk33
  clear hk0
  go_enter Tryd.func6, Tryd.ntmps6
  go_wp2_with fail
  refine C1.out.mono ?_
  rintro e w1 ⟨rfl, hb1⟩
  go_upto_region 4 with ((with_reducible refine wpList_store_new w1 _ ?_ rfl (.tmp 7) (.tmp 20) rfl rfl s HS.out.2.1 rfl ?_); · simp)
  obtain ⟨w2, hw2⟩ : ∃ w2, w2 = w1.alloc (.cells (bvs s).toArray 54) := ⟨_, rfl⟩
  obtain ⟨g, hg⟩ : ∃ g, w1.heap.size = g := ⟨_, rfl⟩
  have i2 : In w2 (some ⟨g, 0, none⟩) 32 s := by rw [hw2, ← hg, ← HS.out.2.1]; exact In.new' w1 s _
  have hb2 : Below w.heap.size w w2 := by rw [hw2]; exact below_on hb1 (Nat.le_refl _) (below_alloc w1 _)
  rw [← hw2, hg]
  have H2 := Lib.hid (And.intro i2 hb2)
  clear hw2 hg i2 hb2 hb1 C1
  go_upto_region 5 with (first
    | (at_builtin; refine wpList_app _ rfl (.const (.slice none 0 0)) (.tmp 21) rfl w2.heap.size none 0 0 [] rfl (World.ownsRow_nil _ _ _ _) (some ⟨g, 0, none⟩) 32 32 s rfl H2.out.1 (fun h => by cases h) (by omega) (Nat.le_refl _) ?_; intro A3 c3 w3 ho3 hb3; obtain ⟨g3, rfl⟩ := own_some ho3 (by omega); rw [List.nil_append, Nat.zero_add] at ho3)
    | (at_builtin; refine wpList_zeros_own _ rfl (.tmp 22) (.tmp 25) rfl w2.heap.size g3 32 c3 k s rfl rfl ho3 hb3.size (by omega) ?_; intro A4 c4 w4 hi4 hA4 hc4 hb4))
  have b24 : Below w2.heap.size w2 w4 := hb3.trans hb4
  have bel4 : Below w.heap.size w w4 := below_on H2.out.2 (Nat.le_refl _) b24
  have came4 : Came w4 A4 (32 + k) c4 (s ++ List.replicate k 0) := ⟨hi4, bytes_append HS.out.2.2 (fun x hx => by rw [List.eq_of_mem_replicate hx]; omega), (fun h => absurd h hA4), hc4⟩
  have C5 := Lib.hid (macOf_one A n c xs B m d ys w4 22 (HX.out.1.below bel4) (HX.out.2.below bel4) (hk.below bel4) (hs.below bel4) (by omega) (by omega))
  obtain ⟨s1, hs1⟩ : ∃ s, mac xs ys = s := ⟨_, rfl⟩
  obtain ⟨s2, hs2⟩ : ∃ s2, mac (s ++ List.replicate k 0) ys = s2 := ⟨_, rfl⟩
  have l1 : s1.length = 32 := by rw [← hs1]; exact mac_length _ _
  have l2 : s2.length = 32 := by rw [← hs2]; exact mac_length _ _
  have m1 : ∀ x ∈ s1, x < 256 := by rw [← hs1]; exact mac_lt _ _
  have m2 : ∀ x ∈ s2, x < 256 := by rw [← hs2]; exact mac_lt _ _
  rw [hs1] at C5
  have H4 := Lib.hid (And.intro bel4 came4)
  have HM := Lib.hid (And.intro hs1 (And.intro hs2 (And.intro l1 (And.intro l2 (And.intro m1 m2)))))
  clear H2 ho3 hb3 hi4 hA4 hc4 hb4 b24 bel4 came4 hs1 hs2 l1 l2 m1 m2 q1
  go_wp2_with fail
  refine C5.out.mono ?_
  rintro e w5 ⟨rfl, hb5⟩
  have bel5 := below_on H4.out.1 (Nat.le_refl _) hb5
  have C6 := Lib.hid (macOf_one A4 (32 + k) c4 (s ++ List.replicate k 0) B m d ys w5 22 (H4.out.2.below hb5) (HX.out.2.below bel5) (hk.below bel5) (hs.below bel5) (by omega) (by omega))
  rw [HM.out.2.1] at C6
  have H5 := Lib.hid bel5
  clear hb5 bel5 C5 H4
  go_wp2_with fail
  refine C6.out.mono ?_
  rintro e w6 ⟨rfl, hb6⟩
  have bel6 := below_on H5.out (Nat.le_refl _) hb6
  have C7 := Lib.hid (same_any s1 s2 w6 HM.out.2.2.1 HM.out.2.2.2.1 HM.out.2.2.2.2.1 HM.out.2.2.2.2.2)
  obtain ⟨dd, hd⟩ : ∃ b, decide (s1 = s2) = b := ⟨_, rfl⟩
  rw [hd] at C7
  have HD := Lib.hid hd
  have H6 := Lib.hid bel6
  clear hb6 bel6 C6 hd
  go_wp2_with fail
  refine C7.out.mono ?_
  rintro e w7 ⟨rfl, hb7⟩
  have bel7 := below_on H6.out (Nat.le_refl _) hb7
  have C8 := Lib.hid (known_any w7 (hk.below bel7) (hs.below bel7))
  have H7 := Lib.hid bel7
  clear hb7 bel7 C7 H6
  go_wp2_with fail
  refine C8.out.mono ?_
  rintro e w8 ⟨rfl, hb8⟩
  have bel8 := below_on H7.out (Nat.le_refl _) hb8
  by_cases h64 : n ≤ 64
  · have hi6 : (n : Int) ≤ 64 := by omega
    go_wp2
    go_ret
    exact ⟨rfl, bel8⟩
  · have hi6 : decide ((n : Int) ≤ 64) = false := by simp; omega
    have hdt : dd = true := by
      rw [← HD.out, decide_eq_true_eq, ← HM.out.1, ← HM.out.2.1, ← HS.out.1]
      exact mac_long xs ys k (by rw [HX.out.1.in_.len]; omega) hk33
    subst hdt
    go_wp2
    go_ret
    exact ⟨rfl, bel8⟩

theorem macsLong_law (w : World) (hk : Knows w) (hs : Starts w) {A B : Option Addr} {n c m d z : Nat} {xs ys : List Nat} (hx : Came w A n c xs) (hz : z < 256) (hy : Came w B m d ys) :
    Calls Tryd.prog 6 #[.slice A n c, .int .u8 (z : Int), .slice B m d] w fun e w' => e = .returned (.bool true) ∧ Below w.heap.size w w' := by
  by_cases h : 10000 < n ∨ 10000 < m
  · exact long_long A B n c m d z w hk hs h
  · exact long_short A B n c m d z xs ys w hx hy hk hs (by omega) (by omega) hz

end Go.Proofs.YtoojlpbfldnkpaaDoor
