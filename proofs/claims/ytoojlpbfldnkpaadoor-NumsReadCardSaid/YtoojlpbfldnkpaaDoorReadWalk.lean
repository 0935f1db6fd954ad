/-
  NumsRead: of any bytes the number, the bytes, and the sums that they begin with are read as documented.
-/
import Derived.Test.YtoojlpbfldnkpaaDoorLApart
import Derived.Test.YtoojlpbfldnkpaaDoorLReadAll
import Derived.Test.YtoojlpbfldnkpaaDoorLSameBytes
import Derived.Test.YtoojlpbfldnkpaaDoorLSameSums
import Derived.Test.YtoojlpbfldnkpaaDoorLTwin
import Derived.Test.YtoojlpbfldnkpaaDoorLRow
namespace Go.Proofs.YtoojlpbfldnkpaaDoor
open Go.RowKit

theorem Twin.own {w : World} {g n base : Nat} {xs : List Nat} (h : Twin w g n xs) (hb : base ≤ g) (hn : n ≤ 1000000000) : w.ownsRow base 5 1 (.slice (some ⟨g, 0, none⟩) n (n + 1)) n (bvs xs) :=
  ⟨by rw [bvs_length, h.1]; omega, .inr ⟨g, n + 1, _, rfl, hb, h.2, by omega, by unfold maxLen; omega, by rw [List.size_toArray, bvs_length, List.length_append, h.1]; simp, by
    rw [List.toList_toArray, bvs_append, List.take_append_of_le_length (by rw [bvs_length, h.1]; omega), List.take_of_length_le (by rw [bvs_length, h.1]; omega)]⟩⟩
theorem own_le' {w : World} {base base' size n : Nat} {e : TypeId} {v : Value} {xs : List Value} (h : w.ownsRow base e size v n xs) (hb : base' ≤ base) : w.ownsRow base' e size v n xs :=
  ⟨h.1, h.2.elim Or.inl (fun ⟨g, cap, cur, hv, hg, r⟩ => Or.inr ⟨g, cap, cur, hv, Nat.le_trans hb hg, r⟩)⟩

theorem one_list {w : World} {base k num : Nat} {A3 : Option Addr} {c3 : Nat} {xs : List Value} (h : w.ownsRow base 54 32 (.slice A3 k c3) k xs) : ListsS w base [⟨A3, k, c3, none, 0, 0, num⟩] := by
  refine ⟨fun i k' hk => ?_, fun i j h1 h2 hi hj hne => ?_⟩
  · have := (List.getElem?_eq_some_iff.1 hk).1
    obtain rfl : i = 0 := by simp at this; omega
    cases hk
    exact ⟨xs, h⟩
  · have h1' := (List.getElem?_eq_some_iff.1 hi).1
    have h2' := (List.getElem?_eq_some_iff.1 hj).1
    simp at h1' h2'
    omega
theorem one_len {P : Held → Prop} {h : Held} (h1 : P h) : ∀ (i : Nat) (k : Held), [h][i]? = some k → P k := fun i k hk => by
  have := (List.getElem?_eq_some_iff.1 hk).1
  obtain rfl : i = 0 := by simp at this; omega
  cases hk
  exact h1
theorem two_len {P : Held → Prop} {g h : Held} (h1 : P g) (h2 : P h) : ∀ (i : Nat) (k : Held), [g, h][i]? = some k → P k := fun i k hk => by
  have := (List.getElem?_eq_some_iff.1 hk).1
  match i, this, hk with
  | 0, _, hk => cases hk; exact h1
  | 1, _, hk => cases hk; exact h2
theorem two_lists {w : World} {base g n m a b : Nat} {A2 : Option Addr} {c c2 : Nat} {xs ys : List Value} (h1 : w.ownsRow base 5 1 (.slice (some ⟨g, 0, none⟩) n c) n xs) (h2 : w.ownsRow base 5 1 (.slice A2 m c2) m ys)
    (hne : ∀ k, (Value.slice A2 m c2).ownBlock = some k → k ≠ g) : Lists w base [⟨some ⟨g, 0, none⟩, n, c, none, 0, 0, a⟩, ⟨A2, m, c2, none, 0, 0, b⟩] := by
  refine ⟨fun i k' hk => ?_, fun i j k1 k2 hi hj hij => ?_⟩
  · have := (List.getElem?_eq_some_iff.1 hk).1
    match i, this, hk with
    | 0, _, hk => cases hk; exact ⟨xs, h1⟩
    | 1, _, hk => cases hk; exact ⟨ys, h2⟩
  · have hi' := (List.getElem?_eq_some_iff.1 hi).1
    have hj' := (List.getElem?_eq_some_iff.1 hj).1
    match i, j, hi', hj', hi, hj, hij with
    | 0, 1, _, _, hi, hj, _ =>
      cases hi; cases hj
      exact .inr fun e => hne g e.symm rfl
    | 1, 0, _, _, hi, hj, _ =>
      cases hi; cases hj
      show (Value.slice A2 m c2).ownBlock = none ∨ (Value.slice A2 m c2).ownBlock ≠ some g
      cases hk : (Value.slice A2 m c2).ownBlock with
      | none => exact .inl rfl
      | some k => exact .inr fun e => hne k hk (by injection e)
    | 0, 0, _, _, _, _, hij => exact absurd rfl hij
    | 1, 1, _, _, _, _, hij => exact absurd rfl hij

/-- What stands while the document is asked. -/
structure RSt (w : World) (n m k kb : Nat) (xs ys zs : List Nat) (l s bs ss : Value) (h1 h2 : List Held) (W : World) : Prop where
  kept : Kept2 W w.heap.size kb 3 bs ss 2 1 h1 h2
  twin : Twin W w.heap.size n xs
  l : W.ownsRow w.heap.size 5 1 l m (bvs ys)
  s : W.ownsRow w.heap.size 54 32 s k (bvs zs)
  below : Below w.heap.size w W
theorem RSt.on {w W W' : World} {n m k kb : Nat} {xs ys zs : List Nat} {l s bs ss : Value} {h1 h2 : List Held} (h : RSt w n m k kb xs ys zs l s bs ss h1 h2 W) (hb : Below W.heap.size W W') : RSt w n m k kb xs ys zs l s bs ss h1 h2 W' :=
  ⟨h.kept.below hb, h.twin.below hb, own_on h.l hb, own_on h.s hb, below_on h.below (Nat.le_refl _) hb⟩

set_option maxRecDepth 100000 in
set_option maxHeartbeats 1000000 in
theorem read_long (A : Option Addr) (n c : Nat) (z : Int) (w : World) (h : 30000 < n) :
    Calls Tryd.prog 3 #[.slice A n c, .int .i64 z] w fun e w' => e = .returned (.bool true) ∧ Below w.heap.size w w' := by
  have hi : (30000 : Int) < (n : Int) := by omega
  go_enter Tryd.func3, Tryd.ntmps3
  go_wp2
  go_ret
  exact ⟨rfl, Below.refl _ _⟩

set_option maxRecDepth 100000 in
set_option maxHeartbeats 4000000 in
theorem read_short (A : Option Addr) (n c : Nat) (z : Int) (xs : List Nat) (w : World) (hx : Came w A n c xs) (h : n ≤ 30000) :
    Calls Tryd.prog 3 #[.slice A n c, .int .i64 z] w fun e w' => e = .returned (.bool true) ∧ Below w.heap.size w w' := by
  obtain ⟨v, er, hG, hRG⟩ := get_both n z xs hx.lt
  obtain ⟨m, ys, took, er2, hm, hB, hRB⟩ := getBytes_both n xs hx.lt hx.in_.len h
  obtain ⟨k, zs, many, er3, hk, hS, hRS⟩ := getSums_both n xs hx.lt hx.in_.len h
  have HG := Lib.hid (And.intro hG hRG)
  have HB := Lib.hid (And.intro hB hRB)
  have HS := Lib.hid (And.intro hS hRS)
  have HX := Lib.hid hx
  have C1 := Lib.hid (twinBytes_any A n c xs w hx.in_ (by omega))
  clear hG hRG hB hRB hS hRS hx
  have hi : decide ((30000 : Int) < (n : Int)) = false := by simp; omega
  go_enter Tryd.func3, Tryd.ntmps3
  go_wp2_with fail
  refine C1.out.mono ?_
  rintro e w1 ⟨rfl, ht1, hb1⟩
  have lt1 := ht1.lt
  have H1 := Lib.hid (And.intro ht1 hb1)
  clear ht1 hb1 C1
  go_wp2_with fail
  refine (HG.out.1 w1 _ _ H1.out.1.in_ (Nat.le_succ _)).mono ?_
  rintro e _ ⟨rfl, rfl⟩
  go_wp2_with fail
  refine (HB.out.1 w1 _ _ H1.out.1.in_ (Nat.le_succ _)).mono ?_
  rintro e w2 ⟨A2, c2, rfl, ho2, hb2⟩
  have H2 := Lib.hid (And.intro ho2 (And.intro (H1.out.1.below hb2) (below_on H1.out.2 (Nat.le_refl _) hb2)))
  have z12 := hb2.size
  clear ho2 hb2
  go_wp2_with fail
  refine (HS.out.1 w2 _ _ H2.out.2.1.in_ (Nat.le_succ _)).mono ?_
  rintro e w3 ⟨A3, c3, rfl, ho3, hb3⟩
  have H3 := Lib.hid (And.intro ho3 (And.intro (own_on H2.out.1 hb3) (And.intro (H2.out.2.1.below hb3) (below_on H2.out.2.2 (Nat.le_refl _) hb3))))
  have z23 := hb3.size
  clear ho3 hb3
  go_upto_region 8 with (fail)
  obtain ⟨w4, hw4⟩ : ∃ w4, w4 = w3.alloc (.cells #[.int .i64 0, .slice none 0 0, .slice none 0 0, .slice none 0 0, .slice none 0 0, .slice none 0 0, .slice none 0 0, .slice none 0 0, .slice none 0 0, .slice none 0 0] 43) := ⟨_, rfl⟩
  obtain ⟨kb, hkb⟩ : ∃ kb, w3.heap.size = kb := ⟨_, rfl⟩
  have bk4 : BookAt w4 kb 0 (.slice none 0 0) (.slice none 0 0) := by rw [hw4, ← hkb]; exact World.alloc_heap_new w3 _
  have b34 : Below w3.heap.size w3 w4 := by rw [hw4]; exact below_alloc w3 _
  have z4 : w4.heap.size = kb + 1 := by rw [hw4, World.size_alloc, hkb]
  rw [← hw4, hkb]
  have l4 := own_on H3.out.2.1 b34
  have s4 := own_on H3.out.1 b34
  have t4 := H3.out.2.2.1.below b34
  have B4 := below_on H3.out.2.2.2 (Nat.le_refl _) b34
  have hkbw : w.heap.size < kb := by omega
  have hnotk : ∀ {v : Value} {W : World} {b s' n' : Nat} {x : List Value}, BookAt W kb 0 (.slice none 0 0) (.slice none 0 0) → W.ownsRow b 5 s' v n' x → v.ownBlock ≠ some kb := fun hb ho => hb.other (by decide) ho
  have HK := Lib.hid (And.intro bk4 (And.intro l4 (And.intro s4 (And.intro t4 B4))))
  clear hw4 bk4 b34 l4 s4 t4 B4 H1 H2 H3 hnotk
  go_wp2_with fail
  refine (bookBytes_any kb 0 w.heap.size 0 (.slice none 0 0) (.slice none 0 0) [] (some ⟨w.heap.size, 0, none⟩) n (n + 1) w4 HK.out.1 (by omega) (World.ownsRow_nil _ _ _ _) (by omega) (by omega)).mono ?_
  rintro e w5 ⟨rfl, ⟨bs5, bk5, ob5⟩, hb5⟩
  have l5 := own_kept_but HK.out.2.1 hb5 (fun b hb h => h.elim (fun e => HK.out.1.other (by decide) HK.out.2.1 (e ▸ hb)) (fun e => by cases e))
  have s5 := own_kept_but HK.out.2.2.1 hb5 (fun b hb h => h.elim (fun e => HK.out.1.other (by decide) HK.out.2.2.1 (e ▸ hb)) (fun e => by cases e))
  have t5 : Twin w5 w.heap.size n xs := ⟨HK.out.2.2.2.1.1, (hb5.block _ HK.out.2.2.2.1.lt (fun h => h.elim (fun e => by omega) (fun e => by cases e))).trans HK.out.2.2.2.1.2⟩
  have B5 := HK.out.2.2.2.2.trans (hb5.below (base := w.heap.size) (by omega) (fun b h => h.elim (fun e => by omega) (fun e => by cases e)))
  have z5 := hb5.size
  have H5 := Lib.hid (And.intro bk5 (And.intro ob5 (And.intro l5 (And.intro s5 (And.intro t5 B5)))))
  clear bk5 ob5 hb5 l5 s5 t5 B5 HK
  go_wp2_with fail
  refine (bookBytes_any kb (0 + 1) w.heap.size (0 + 1) bs5 (.slice none 0 0) _ A2 m c2 w5 H5.out.1 (by omega) H5.out.2.1 (by omega) (by omega)).mono ?_
  rintro e w6 ⟨rfl, ⟨bs6, bk6, ob6⟩, hb6⟩
  have l6 := own_kept_but H5.out.2.2.1 hb6 (fun b hb h => h.elim (fun e => H5.out.1.other (by decide) H5.out.2.2.1 (e ▸ hb)) (not_row (by decide) H5.out.2.2.1 H5.out.2.1 b hb))
  have s6 := own_kept_but H5.out.2.2.2.1 hb6 (fun b hb h => h.elim (fun e => H5.out.1.other (by decide) H5.out.2.2.2.1 (e ▸ hb)) (not_row (by decide) H5.out.2.2.2.1 H5.out.2.1 b hb))
  have t6 : Twin w6 w.heap.size n xs := ⟨H5.out.2.2.2.2.1.1, (hb6.block _ H5.out.2.2.2.2.1.lt (fun h => h.elim (fun e => by omega) (not_row (by decide) (H5.out.2.2.2.2.1.own (Nat.le_refl _) (by omega)) H5.out.2.1 _ rfl))).trans H5.out.2.2.2.2.1.2⟩
  have B6 := H5.out.2.2.2.2.2.trans (hb6.below (base := w.heap.size) (by omega) (fun b h => h.elim (fun e => by omega) (fun e => (H5.out.2.1.lt b e).1)))
  have z6 := hb6.size
  have H6 := Lib.hid (And.intro bk6 (And.intro ob6 (And.intro l6 (And.intro s6 (And.intro t6 B6)))))
  clear bk6 ob6 hb6 l6 s6 t6 B6 H5
  go_wp2_with fail
  refine (bookSums_any kb (0 + 1 + 1) w.heap.size 0 bs6 (.slice none 0 0) [] A3 k c3 w6 H6.out.1 (by omega) (World.ownsRow_nil _ _ _ _) (by omega) (by omega)).mono ?_
  rintro e w7 ⟨rfl, ⟨ss7, bk7, os7⟩, hb7⟩
  have l7 := own_kept_but H6.out.2.2.1 hb7 (fun b hb h => h.elim (fun e => H6.out.1.other (by decide) H6.out.2.2.1 (e ▸ hb)) (fun e => by cases e))
  have s7 := own_kept_but H6.out.2.2.2.1 hb7 (fun b hb h => h.elim (fun e => H6.out.1.other (by decide) H6.out.2.2.2.1 (e ▸ hb)) (fun e => by cases e))
  have t7 : Twin w7 w.heap.size n xs := ⟨H6.out.2.2.2.2.1.1, (hb7.block _ H6.out.2.2.2.2.1.lt (fun h => h.elim (fun e => by omega) (fun e => by cases e))).trans H6.out.2.2.2.2.1.2⟩
  have ob7 := own_kept_but H6.out.2.1 hb7 (fun b hb h => h.elim (fun e => H6.out.1.other (by decide) H6.out.2.1 (e ▸ hb)) (fun e => by cases e))
  have B7 := H6.out.2.2.2.2.2.trans (hb7.below (base := w.heap.size) (by omega) (fun b h => h.elim (fun e => by omega) (fun e => by cases e)))
  have z7 := hb7.size
  have l7w := own_le' l7 (show w.heap.size ≤ w1.heap.size by omega)
  have s7w := own_le' s7 (show w.heap.size ≤ w2.heap.size by omega)
  have R7 : RSt w n m k kb xs ys zs (.slice A2 m c2) (.slice A3 k c3) bs6 ss7 [⟨some ⟨w.heap.size, 0, none⟩, n, n + 1, none, 0, 0, 1⟩, ⟨A2, m, c2, none, 0, 0, 2⟩] [⟨A3, k, c3, none, 0, 0, 3⟩] w7 :=
    ⟨⟨bk7, ob7, os7, two_lists (t7.own (Nat.le_refl _) (by omega)) l7w (fun b hb => by have := (l7.lt b hb).1; omega), one_list s7w, by omega, by omega,
      two_len (by show n ≤ _; omega) (by show m ≤ _; omega), one_len (by show k ≤ _; omega), by omega, by omega⟩, t7, l7w, s7w, B7⟩
  have HR7 := Lib.hid R7
  clear bk7 os7 hb7 l7 s7 t7 ob7 B7 l7w s7w R7 H6
  go_wp2_with fail
  refine (HG.out.2 w7 A c (HX.out.in_.below HR7.out.below)).mono ?_
  rintro e w8 ⟨rfl, hb8⟩
  have HR8 := Lib.hid (HR7.out.on hb8)
  clear hb8 HR7
  go_wp2_with fail
  refine (HB.out.2 w8 A c (HX.out.in_.below HR8.out.below) HX.out.nil HX.out.cap).mono ?_
  rintro e w9 ⟨A9, c9, rfl, ho9, hb9⟩
  have HR9 := Lib.hid (HR8.out.on hb9)
  have HO9 := Lib.hid ho9
  clear ho9 hb9 HR8
  go_wp2_with fail
  refine (looseN (sameBytes_yes A2 A9 m c2 c9 ys w9 (In.of_own HR9.out.l) (In.of_own HO9.out) (by omega))).mono ?_
  rintro e w10 ⟨rfl, hb10⟩
  have HR10 := Lib.hid (HR9.out.on hb10)
  clear hb10 HR9 HO9
  go_wp2_with fail
  refine (HS.out.2 w10 A c (HX.out.in_.below HR10.out.below)).mono ?_
  rintro e w11 ⟨A11, c11, rfl, ho11, hb11⟩
  have HR11 := Lib.hid (HR10.out.on hb11)
  have HO11 := Lib.hid ho11
  clear ho11 hb11 HR10
  go_wp2_with fail
  refine (looseN (sameSums_yes A3 A11 k c3 c11 zs w11 (InS.of_own HR11.out.s) (InS.of_own HO11.out) (by omega))).mono ?_
  rintro e w12 ⟨rfl, hb12⟩
  have HR12 := Lib.hid (HR11.out.on hb12)
  clear hb12 HR11 HO11
  go_wp2_with fail
  refine (looseN (leftBytes_yes A w.heap.size n c xs w12 HR12.out.twin (HX.out.in_.below HR12.out.below) (by omega))).mono ?_
  rintro e w13 ⟨rfl, hb13⟩
  have HR13 := Lib.hid (HR12.out.on hb13)
  clear hb13 HR12
  go_wp2_with fail
  refine (apart_any kb 3 w.heap.size 2 1 bs6 ss7 _ _ w13 HR13.out.kept).mono ?_
  rintro e w14 ⟨rfl, hb14⟩
  have HE := Lib.hid (HR13.out.below.trans hb14)
  clear hb14 HR13
  go_wp2
  go_ret
  exact ⟨rfl, HE.out⟩

theorem numsRead_law (w : World) {A : Option Addr} {n c : Nat} {xs : List Nat} (hx : Came w A n c xs) (z : Int) :
    Calls Tryd.prog 3 #[.slice A n c, .int .i64 z] w fun e w' => e = .returned (.bool true) ∧ Below w.heap.size w w' := by
  by_cases h : 30000 < n
  · exact read_long A n c z w h
  · exact read_short A n c z xs w hx (by omega)

end Go.Proofs.YtoojlpbfldnkpaaDoor
