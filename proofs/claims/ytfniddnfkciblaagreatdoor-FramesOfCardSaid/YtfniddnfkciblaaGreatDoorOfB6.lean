/-
  Several texts in one: FBook, LTwin, LSameBytes, FOfLaw, FLaid, FLaidZ.
-/
import Derived.Test.YtfniddnfkciblaaGreatDoorOfB5
import Derived.Deep.QuietTactic
import Derived.BigQuiet
import Derived.Test.YtfniddnfkciblaaGreatDoorRows
import Derived.ProofKit
import Derived.LaidMore
import Derived.OpenShut
import Derived.Stop.Joined
import Derived.Stop.LaidErr
import Derived.Stop.LaidTwo
import Derived.LaidSub
/-
  A Book of lists of bytes, list by list.
-/
namespace Go.Proofs.YtfniddnfkciblaaGreatDoor
open Go.RowKit

/-- Block kb is a Book that keeps the lists hs, N of them, whose blocks are below T. -/
structure Keeping (w : World) (base kb N T : Nat) (bs : Value) (hs : List Held) : Prop where
  book : BookAt w kb N bs (.slice none 0 0)
  own : w.ownsRow base 73 3 bs N (heldCells hs)
  lists : Lists w base hs
  len : ∀ (i : Nat) (h : Held), hs[i]? = some h → h.len ≤ 1000000000
  le : N ≤ 1000
  kb : base ≤ kb
  base : base ≤ w.heap.size
  top : ∀ b, inLists hs b → b < T

theorem Keeping.kept2 {w : World} {base kb N T : Nat} {bs : Value} {hs : List Held} (h : Keeping w base kb N T bs hs) : Kept2 w base kb N bs (.slice none 0 0) N 0 hs [] :=
  ⟨h.book, h.own, World.ownsRow_nil _ _ _ _, h.lists, ⟨fun i k hk => by simp at hk, fun i j a b hi _ _ => by simp at hi⟩, by have := h.le; omega, by omega, h.len, fun i k hk => by simp at hk, h.kb, h.base⟩

theorem Keeping.new {w : World} {base T : Nat} (hb : base ≤ w.heap.size) :
    Keeping (w.alloc (.cells #[.int .i64 0, .slice none 0 0, .slice none 0 0, .slice none 0 0, .slice none 0 0, .slice none 0 0, .slice none 0 0, .slice none 0 0, .slice none 0 0, .slice none 0 0] 41)) base w.heap.size 0 T (.slice none 0 0) [] :=
  ⟨World.alloc_heap_new w _, World.ownsRow_nil _ _ _ _, ⟨fun i k hk => by simp at hk, fun i j a b hi _ _ => by simp at hi⟩, fun i k hk => by simp at hk, by omega, hb, by rw [World.size_alloc]; omega, fun b ⟨i, k, hk, _⟩ => by simp at hk⟩

theorem snoc_get {α : Type} {l : List α} {x y : α} {i : Nat} (h : (l ++ [x])[i]? = some y) : l[i]? = some y ∨ (i = l.length ∧ y = x) := by
  by_cases hi : i < l.length
  · rw [List.getElem?_append_left hi] at h; exact .inl h
  · rw [List.getElem?_append_right (by omega)] at h
    have : i - l.length = 0 := by
      have := (List.getElem?_eq_some_iff.1 h).1
      simp at this
      omega
    rw [this] at h
    simp at h
    exact .inr ⟨by omega, h.symm⟩

theorem book_keep {kb N base T T' : Nat} {bs : Value} {hs : List Held} {A : Option Addr} {n c : Nat} {ys : List Value} {w : World} (H : Keeping w base kb N T bs hs) (hv : w.ownsRow base 5 1 (.slice A n c) n ys) (hn : n ≤ 1000000000) (hN : N < 1000)
    (hT : T ≤ T') (hge : ∀ b, (Value.slice A n c).ownBlock = some b → T ≤ b ∧ b < T') :
    Calls Tryz.prog 11 #[.pointer (some ⟨kb, 0, none⟩), .slice A n c] w fun e w' => e = .returned (.tuple #[]) ∧
      (∃ bs' hs', Keeping w' base kb (N + 1) T' bs' hs') ∧ (∀ b2 v m zs, w.ownsRow b2 5 1 v m zs → w'.ownsRow b2 5 1 v m zs) ∧ Below base w w' := by
  refine (bookBytes_any kb N base N bs (.slice none 0 0) (heldCells hs) A n c w H.book H.base H.own (by omega) (by omega)).mono ?_
  rintro e w' ⟨rfl, ⟨bs', bk', ob'⟩, hb⟩
  have keep : ∀ b2 v m zs, w.ownsRow b2 5 1 v m zs → w'.ownsRow b2 5 1 v m zs := fun b2 v m zs ho =>
    own_kept_but ho hb (fun b hbb h => h.elim (fun e => H.book.other (by decide) ho (e ▸ hbb)) (not_row (by decide) ho H.own b hbb))
  have off : ∀ b, (Value.slice A n c).ownBlock = some b → ¬ inLists hs b := fun b hbb hin => by have := H.top b hin; have := hge b hbb; omega
  have hnew : Held.v ⟨A, n, c, none, 0, 0, N + 1⟩ = .slice A n c := rfl
  refine ⟨rfl, ⟨bs', hs ++ [⟨A, n, c, none, 0, 0, N + 1⟩], ⟨bk', by rw [heldCells_append]; exact ob', ⟨fun i k hk => ?_, fun i j k1 k2 hi hj hij => ?_⟩, fun i k hk => ?_, by omega, H.kb, Nat.le_trans H.base hb.size, fun b ⟨i, k, hk, hkb⟩ => ?_⟩⟩, keep, hb.below H.base (fun b h => h.elim (fun e => by rw [e]; exact H.kb) (fun e => (H.own.lt b e).1))⟩
  · rcases snoc_get hk with h | ⟨_, rfl⟩
    · obtain ⟨xs, hx⟩ := H.lists.own i k h
      exact ⟨xs, keep _ _ _ _ hx⟩
    · exact ⟨ys, keep _ _ _ _ hv⟩
  · rcases snoc_get hi with h1 | ⟨e1, rfl⟩
    · rcases snoc_get hj with h2 | ⟨e2, rfl⟩
      · exact H.lists.apart i j k1 k2 h1 h2 hij
      · cases hk : k1.v.ownBlock with
        | none => exact .inl rfl
        | some b => exact .inr fun e => off b e.symm ⟨i, k1, h1, hk⟩
    · rcases snoc_get hj with h2 | ⟨e2, rfl⟩
      · cases hk : (Value.slice A n c).ownBlock with
        | none => exact .inl hk
        | some b => exact .inr fun e => off b hk ⟨j, k2, h2, by rw [← e]; exact hk⟩
      · omega
  · rcases snoc_get hk with h | ⟨_, rfl⟩
    · exact H.len i k h
    · exact hn
  · rcases snoc_get hk with h | ⟨_, rfl⟩
    · have := H.top b ⟨i, k, h, hkb⟩
      omega
    · exact (hge b hkb).2

theorem Twin.own_ {w : World} {g n base : Nat} {xs : List Nat} (h : Twin w g n xs) (hb : base ≤ g) (hn : n ≤ 1000000000) : w.ownsRow base 5 1 (.slice (some ⟨g, 0, none⟩) n (n + 1)) n (bvs xs) :=
  ⟨by rw [bvs_length, h.1]; omega, .inr ⟨g, n + 1, _, rfl, hb, h.2, by omega, by unfold maxLen; omega, by rw [List.size_toArray, bvs_length, List.length_append, h.1]; simp, by
    rw [List.toList_toArray, bvs_append, List.take_append_of_le_length (by rw [bvs_length, h.1]; omega), List.take_of_length_le (by rw [bvs_length, h.1]; omega)]⟩⟩

end Go.Proofs.YtfniddnfkciblaaGreatDoor

/-
  LeftBytes: it is still that copy.
-/
namespace Go.Proofs.YtfniddnfkciblaaGreatDoor
open Go.RowKit


set_option maxRecDepth 100000 in
set_option maxHeartbeats 1000000 in
theorem leftBytes_yes (A : Option Addr) (g n c : Nat) (xs : List Nat) (w : World) (ht : Twin w g n xs) (hin2 : In w A n xs) (hn : n ≤ 1000000000) :
    Calls Tryz.prog 10 #[.slice (some ⟨g, 0, none⟩) n (n + 1), .slice A n c] w fun e w' => e = .returned (.bool true) ∧ ∃ q, w' = w.drewN q := by
  have dn : ((n : Int) != (n : Int)) = false := by simp
  have hin := ht.in_
  have hlast := ht.last
  go_enter Tryz.func10, Tryz.ntmps10
  go_wp2
  go_loopw [5] (fun i wr => ∃ j : Nat, j ≤ n ∧ i = .int .i64 (j : Int) ∧ ∃ q, wr = w.drewN q) (fun i _ => n - (intOf i).toNat)
  case atStart => exact ⟨0, Nat.zero_le _, rfl, 0, rfl⟩
  case round =>
    obtain ⟨j, hj, rfl, q, rfl⟩ := hrel
    by_cases hlt : j < n
    · obtain ⟨ad, x, e1, hx, hc1⟩ := hin.at_ hlt
      obtain ⟨ad2, x2, rfl, hx2, hc2⟩ := hin2.at_ hlt
      obtain rfl : x2 = x := by rw [hx] at hx2; injection hx2 with h; exact h.symm
      cases e1
      rw [show (⟨g, 0, none⟩ : Addr).add j = ⟨g, j, none⟩ from by unfold Addr.add; split <;> simp_all] at hc1
      clear hx hx2
      have i1 : (j : Int) < (n : Int) := by omega
      go_wp2
      go_quiet (fail)
      rw [World.drewN_drewN]
      go_wp2
      go_roundw
      case rel => exact ⟨j + 1, by omega, by go_num, q + nq, rfl⟩
      case measure => simp [intOf]; omega
    · obtain rfl : j = n := by omega
      go_wp2
      go_ret
      exact ⟨rfl, q, rfl⟩

end Go.Proofs.YtfniddnfkciblaaGreatDoor

/-
  SameBytes.
-/
namespace Go.Proofs.YtfniddnfkciblaaGreatDoor
open Go.RowKit

set_option maxRecDepth 100000 in
set_option maxHeartbeats 400000 in
theorem sameBytes_yes (A A2 : Option Addr) (n c c2 : Nat) (xs : List Nat) (w : World) (hin : In w A n xs) (hin2 : In w A2 n xs) (hn : n ≤ 200000000000000) :
    Calls Tryz.prog 9 #[.slice A n c, .slice A2 n c2] w fun e w' => e = .returned (.bool true) ∧ ∃ q, w' = w.drewN q := by
  have dn : ((n : Int) != (n : Int)) = false := by simp
  go_enter Tryz.func9, Tryz.ntmps9
  go_wp2
  go_loopw [5] (fun i wr => ∃ j : Nat, j ≤ n ∧ i = .int .i64 (j : Int) ∧ ∃ q, wr = w.drewN q) (fun i _ => n - (intOf i).toNat)
  case atStart => exact ⟨0, Nat.zero_le _, rfl, 0, rfl⟩
  case round =>
    obtain ⟨j, hj, rfl, q, rfl⟩ := hrel
    by_cases hlt : j < n
    · obtain ⟨ad, x, rfl, hx, hc1⟩ := hin.at_ hlt
      obtain ⟨ad2, x2, rfl, hx2, hc2⟩ := hin2.at_ hlt
      obtain rfl : x2 = x := by rw [hx] at hx2; injection hx2 with h; exact h.symm
      clear hx hx2
      have i1 : (j : Int) < (n : Int) := by omega
      go_wp2
      go_quiet (fail)
      rw [World.drewN_drewN]
      go_wp2
      go_roundw
      case rel => exact ⟨j + 1, by omega, by go_num, q + nq, rfl⟩
      case measure => simp [intOf]; omega
    · go_wp2
      go_ret
      exact ⟨rfl, q, rfl⟩

end Go.Proofs.YtfniddnfkciblaaGreatDoor

/-
  FramesOf: frames are as documented, or refused; what was handed in stays, and answers are memory of their own.
-/
namespace Go.Proofs.YtfniddnfkciblaaGreatDoor
open Go.RowKit

theorem row_len {w w' : World} {b b' n n' : Nat} {e e' : TypeId} {v v' : Value} {xs : List Nat} (h : w.ownsRow b e 1 v n (bvs xs)) (h' : w'.ownsRow b' e' 1 v' n' (bvs xs)) : n' = n := by
  have h1 := h.1
  have h2 := h'.1
  omega

theorem putRes_len (num : Nat) (xs : List Nat) : (putRes num xs).length ≤ 320 := by
  unfold putRes
  split
  · simp
  · rw [frameL_length]
    have := secs_le xs.length (by omega)
    omega
theorem getRec_len (xs : List Nat) (hx : ∀ x ∈ xs, x < 256) : (getRec xs).length ≤ 256 := by
  unfold getRec
  cases h : cutL xs with
  | some b => simp
  | none =>
    obtain ⟨_, h2, _, h4⟩ := cutL_again xs hx h
    show (recOf xs).length ≤ 256
    omega

set_option maxRecDepth 100000 in
theorem of_great (num : Nat) (A : Option Addr) (n c : Nat) (B : Option Addr) (m d : Nat) (w : World) (h : 3000 < n ∨ 3000 < m) :
    Calls Tryz.prog 3 #[.int .u64 (num : Int), .slice A n c, .slice B m d] w fun e W' => e = .returned (.bool true) ∧ Below w.heap.size w W' := by
  by_cases h1 : 3000 < n
  · have d1 : decide ((3000 : Int) < (n : Int)) = true := by simp; omega
    go_enter Tryz.func3, Tryz.ntmps3
    go_wp2_with fail
    go_ret
    exact ⟨rfl, Below.refl _ _⟩
  · have d1 : decide ((3000 : Int) < (n : Int)) = false := by simp; omega
    have d2 : decide ((3000 : Int) < (m : Int)) = true := by simp; omega
    go_enter Tryz.func3, Tryz.ntmps3
    go_wp2_with fail
    go_ret
    exact ⟨rfl, Below.refl _ _⟩

set_option maxRecDepth 100000 in
set_option maxHeartbeats 4000000 in
theorem of_small (E : Errs) {num : Nat} (hnum : num < 18446744073709551616) (A : Option Addr) (n c : Nat) (xs : List Nat) (B : Option Addr) (m d : Nat) (zs : List Nat) (w : World) (hE : Laid w E) (hx : Came w A n c xs) (hz : Came w B m d zs) (hn : n ≤ 3000) (hm : m ≤ 3000) :
    Calls Tryz.prog 3 #[.int .u64 (num : Int), .slice A n c, .slice B m d] w fun e W' => e = .returned (.bool true) ∧ Below w.heap.size w W' := by
  have d1 : decide ((3000 : Int) < (n : Int)) = false := by simp; omega
  have d2 : decide ((3000 : Int) < (m : Int)) = false := by simp; omega
  have HE := Lib.hid hE
  have HX := Lib.hid hx
  have HZ := Lib.hid hz
  clear hE hx hz
  go_enter Tryz.func3, Tryz.ntmps3
  go_wp2_with fail
  refine (twinBytes_any A n c xs w HX.out.in_ (by omega)).mono ?_
  rintro e w1 ⟨rfl, ht1, hb1⟩
  have B1 := Lib.hid hb1
  have T1 := Lib.hid ht1
  obtain ⟨g1, hg1⟩ : ∃ g, w.heap.size = g := ⟨_, rfl⟩
  rw [hg1] at T1 ⊢
  have G1 := Lib.hid hg1
  have L1 := Lib.hid ht1.lt
  clear ht1 hb1 hg1
  go_wp2_with fail
  refine (twinBytes_any B m d zs w1 (HZ.out.in_.below B1.out) (by omega)).mono ?_
  rintro e w2 ⟨rfl, ht2, hb2⟩
  have B2 := Lib.hid (below_on B1.out (Nat.le_refl _) hb2)
  have D2 := Lib.hid hb2
  have T2 := Lib.hid ht2
  obtain ⟨g2, hg2⟩ : ∃ g, w1.heap.size = g := ⟨_, rfl⟩
  rw [hg2] at T2 ⊢
  have G2 := Lib.hid hg2
  have L2 := Lib.hid T2.out.lt
  have U2 := Lib.hid (T1.out.below hb2)
  clear ht2 hb2 hg2
  go_wp2_with fail
  refine (put_uni num n (n + 1) _ xs w2 U2.out.in_ HX.out.lt (fun e => by cases e) (by omega)).mono ?_
  rintro e w3 ⟨A3, n3, c3, rfl, ho3, hb3⟩
  have B3 := Lib.hid (below_on B2.out (Nat.le_refl _) hb3)
  have D3 := Lib.hid hb3
  have O3 := Lib.hid ho3
  clear ho3 hb3
  go_wp2_with fail
  refine (refPut_uni num n c hnum A xs w3 (HX.out.in_.below B3.out) HX.out.lt HX.out.nil).mono ?_
  rintro e w4 ⟨A4, n4, c4, rfl, ho4, hb4⟩
  obtain rfl := row_len O3.out ho4
  have B4 := Lib.hid (below_on B3.out (Nat.le_refl _) hb4)
  have D4 := Lib.hid hb4
  have O4 := Lib.hid ho4
  have U4 := Lib.hid (((T2.out.below D3.out).below hb4).in_)
  clear ho4 hb4
  go_wp2_with fail
  refine ((get_frame E _ m (m + 1) zs w4 (HE.out.below B4.out) U4.out HZ.out.lt (fun e => by cases e) (by omega) (by omega)).mono fun _ _ h => get_uni h).mono ?_
  rintro e w5 ⟨A5, n5, c5, rfl, ho5, hb5⟩
  have B5 := Lib.hid (below_on B4.out (Nat.le_refl _) hb5)
  have D5 := Lib.hid hb5
  have O5 := Lib.hid ho5
  clear ho5 hb5
  go_wp2_with fail
  refine ((refGetF_any B m d zs w5 (HZ.out.in_.below B5.out) HZ.out.lt HZ.out.cap (by omega)).mono fun _ _ h => get_uni h).mono ?_
  rintro e w6 ⟨A6, n6, c6, rfl, ho6, hb6⟩
  obtain rfl := row_len O5.out ho6
  have B6 := Lib.hid (below_on B5.out (Nat.le_refl _) hb6)
  have D6 := Lib.hid hb6
  have O6 := Lib.hid ho6
  clear ho6 hb6
  have hn3 : n4 ≤ 320 := by have h := O3.out.1; rw [bvs_length] at h; have := putRes_len num xs; omega
  have hn5 : n6 ≤ 256 := by have h := O5.out.1; rw [bvs_length] at h; have := getRec_len zs HZ.out.lt; omega
  have O3' := Lib.hid (own_on (own_on (own_on O3.out D4.out) D5.out) D6.out)
  have O4' := Lib.hid (own_on (own_on O4.out D5.out) D6.out)
  have O5' := Lib.hid (own_on O5.out D6.out)
  have D26 : Hid (Below w2.heap.size w2 w6) := below_on (below_on (below_on D3.out (Nat.le_refl _) D4.out) (Nat.le_refl _) D5.out) (Nat.le_refl _) D6.out
  have V1 := Lib.hid (U2.out.below D26.out)
  have V2 := Lib.hid (T2.out.below D26.out)
  have S56 : Hid (w5.heap.size ≤ w6.heap.size) := D6.out.size
  have S3 : Hid (w2.heap.size ≤ w3.heap.size ∧ w3.heap.size ≤ w4.heap.size ∧ w4.heap.size ≤ w5.heap.size) := ⟨D3.out.size, D4.out.size, D5.out.size⟩
  obtain ⟨pe, hpe⟩ : ∃ pe, putErr xs = pe := ⟨_, rfl⟩
  obtain ⟨gn, hgn⟩ : ∃ gn, getNum zs = gn := ⟨_, rfl⟩
  obtain ⟨gt, hgt⟩ : ∃ gt, getTook zs = gt := ⟨_, rfl⟩
  obtain ⟨ge, hge⟩ : ∃ ge, getErr zs = ge := ⟨_, rfl⟩
  rw [hpe, hgn, hgt, hge]
  clear hpe hgn hgt hge D4 D5 D6 D26 O4 O5 U4
  go_wp2_with fail
  refine (looseN (sameBytes_yes A3 A4 n4 c3 c4 _ w6 (In.of_own O3'.out) (In.of_own O4'.out) (by omega))).mono ?_
  rintro e w7 ⟨rfl, hb7⟩
  have B7 := Lib.hid (below_on B6.out (Nat.le_refl _) hb7)
  have O37 := Lib.hid (own_on O3'.out hb7)
  have O57 := Lib.hid (own_on O5'.out hb7)
  have O67 := Lib.hid (own_on O6.out hb7)
  have V17 := Lib.hid (V1.out.below hb7)
  have V27 := Lib.hid (V2.out.below hb7)
  have S57 : Hid (w5.heap.size ≤ w7.heap.size) := Nat.le_trans S56.out hb7.size
  clear hb7 O3' O4' O5' V1 V2
  go_wp2_with fail
  refine (looseN (sameBytes_yes A5 A6 n6 c5 c6 _ w7 (In.of_own O57.out) (In.of_own O67.out) (by omega))).mono ?_
  rintro e w8 ⟨rfl, hb8⟩
  have B8 := Lib.hid (below_on B7.out (Nat.le_refl _) hb8)
  have O38 := Lib.hid (own_on O37.out hb8)
  have O58 := Lib.hid (own_on O57.out hb8)
  have V18 := Lib.hid (V17.out.below hb8)
  have V28 := Lib.hid (V27.out.below hb8)
  have S58 : Hid (w5.heap.size ≤ w8.heap.size) := Nat.le_trans S57.out hb8.size
  clear hb8 O37 O57 O67 V17 V27
  go_wp2_with fail
  refine (looseN (leftBytes_yes A g1 n c xs w8 V18.out (HX.out.in_.below B8.out) (by omega))).mono ?_
  rintro e w9 ⟨rfl, hb9⟩
  have B9 := Lib.hid (below_on B8.out (Nat.le_refl _) hb9)
  have O39 := Lib.hid (own_on O38.out hb9)
  have O59 := Lib.hid (own_on O58.out hb9)
  have V19 := Lib.hid (V18.out.below hb9)
  have V29 := Lib.hid (V28.out.below hb9)
  have S59 : Hid (w5.heap.size ≤ w9.heap.size) := Nat.le_trans S58.out hb9.size
  clear hb9 O38 O58 V18 V28
  go_wp2_with fail
  refine (looseN (leftBytes_yes B g2 m d zs w9 V29.out (HZ.out.in_.below B9.out) (by omega))).mono ?_
  rintro e wa ⟨rfl, hba⟩
  have Ba := Lib.hid (below_on B9.out (Nat.le_refl _) hba)
  have O3a := own_on O39.out hba
  have O5a := own_on O59.out hba
  have V1a := V19.out.below hba
  have V2a := V29.out.below hba
  have hk0 := Keeping.new (w := wa) (base := w.heap.size) (T := g1) Ba.out.size
  have bb := below_alloc wa (.cells #[.int .i64 0, .slice none 0 0, .slice none 0 0, .slice none 0 0, .slice none 0 0, .slice none 0 0, .slice none 0 0, .slice none 0 0, .slice none 0 0, .slice none 0 0] 41)
  have P1 := Lib.hid (own_on (V1a.own_ (base := w.heap.size) (Nat.le_of_eq G1.out) (by omega)) bb)
  have P2 := Lib.hid (own_on (V2a.own_ (base := w.heap.size) (Nat.le_trans B1.out.size (Nat.le_of_eq G2.out)) (by omega)) bb)
  have P3 := Lib.hid (own_on O3a bb)
  have P5 := Lib.hid (own_on O5a bb)
  have LT3 : Hid (∀ b, (Value.slice A3 n4 c3).ownBlock = some b → b < w3.heap.size) := fun b hb => (O3.out.lt b hb).2
  have LT5 : Hid (∀ b, (Value.slice A5 n6 c5).ownBlock = some b → b < wa.heap.size) := fun b hb => (O5a.lt b hb).2
  have BB : Hid (Below w.heap.size w (wa.alloc (.cells #[.int .i64 0, .slice none 0 0, .slice none 0 0, .slice none 0 0, .slice none 0 0, .slice none 0 0, .slice none 0 0, .slice none 0 0, .slice none 0 0, .slice none 0 0] 41))) := below_on Ba.out (Nat.le_refl _) bb
  have SA : Hid (w5.heap.size ≤ wa.heap.size) := Nat.le_trans S59.out hba.size
  obtain ⟨kb, hkb⟩ : ∃ kb, wa.heap.size = kb := ⟨_, rfl⟩
  obtain ⟨wb, hwb⟩ : ∃ wb, wa.alloc (.cells #[.int .i64 0, .slice none 0 0, .slice none 0 0, .slice none 0 0, .slice none 0 0, .slice none 0 0, .slice none 0 0, .slice none 0 0, .slice none 0 0, .slice none 0 0] 41) = wb := ⟨_, rfl⟩
  go_wp2_with fail
  rw [hwb] at hk0 P1 P2 P3 P5 BB
  rw [hkb] at hk0 LT5 SA
  clear O3a O5a V1a V2a bb hba hwb hkb
  have K0 := Lib.hid hk0
  clear hk0
  refine (book_keep (T' := g2) K0.out P1.out (by omega) (by omega) (by have := G1.out; have := G2.out; have := B1.out.size; omega) (fun b hb => by
    have e : g1 = b := by injection hb
    have := L1.out
    have := G1.out
    have := G2.out
    omega)).mono ?_
  rintro e wc ⟨rfl, ⟨bs1, hs1, k1⟩, kp1, hbc⟩
  have K1 := Lib.hid k1
  have Bc := Lib.hid (BB.out.trans hbc)
  have Q2 := Lib.hid (kp1 _ _ _ _ P2.out)
  have Q3 := Lib.hid (kp1 _ _ _ _ P3.out)
  have Q5 := Lib.hid (kp1 _ _ _ _ P5.out)
  clear k1 kp1 hbc P1 P2 P3 P5 K0
  go_wp2_with fail
  refine (book_keep (T' := w2.heap.size) K1.out Q2.out (by omega) (by omega) (by have := L2.out; omega) (fun b hb => by
    have e : g2 = b := by injection hb
    have := L2.out
    omega)).mono ?_
  rintro e wd ⟨rfl, ⟨bs2, hs2, k2⟩, kp2, hbd⟩
  have K2 := Lib.hid k2
  have Bd := Lib.hid (Bc.out.trans hbd)
  have R3 := Lib.hid (kp2 _ _ _ _ Q3.out)
  have R5 := Lib.hid (kp2 _ _ _ _ Q5.out)
  clear k2 kp2 hbd Q2 Q3 Q5 K1
  go_wp2_with fail
  refine (book_keep (T' := w3.heap.size) K2.out (own_low R3.out B2.out.size) (by omega) (by omega) S3.out.1 (fun b hb => ⟨(R3.out.lt b hb).1, LT3.out b hb⟩)).mono ?_
  rintro e we ⟨rfl, ⟨bs3, hs3, k3⟩, kp3, hbe⟩
  have K3 := Lib.hid k3
  have Be := Lib.hid (Bd.out.trans hbe)
  have X5 := Lib.hid (kp3 _ _ _ _ R5.out)
  clear k3 kp3 hbe R3 R5 K2
  go_wp2_with fail
  refine (book_keep (T' := kb) K3.out (own_low X5.out B4.out.size) (by omega) (by omega) (by have := S3.out; have := SA.out; omega) (fun b hb => ⟨by have := (X5.out.lt b hb).1; have := S3.out; omega, LT5.out b hb⟩)).mono ?_
  rintro e wf ⟨rfl, ⟨bs4, hs4, k4⟩, kp4, hbf⟩
  have K4 := Lib.hid k4
  have Bf := Lib.hid (Be.out.trans hbf)
  clear k4 kp4 hbf X5 K3
  go_wp2_with fail
  refine (apart_any kb _ w.heap.size _ 0 bs4 (.slice none 0 0) hs4 [] wf K4.out.kept2).mono ?_
  rintro e wg ⟨rfl, hbg⟩
  have Bg := Lib.hid (Bf.out.trans hbg)
  clear hbg K4
  go_wp2_with fail
  go_ret
  exact ⟨rfl, Bg.out⟩

theorem framesOf_law (w : World) (E : Errs) (hE : Laid w E) {num : Nat} (hnum : num < 18446744073709551616) {A : Option Addr} {n c : Nat} {xs : List Nat} (hx : Came w A n c xs) {B : Option Addr} {m d : Nat} {zs : List Nat} (hz : Came w B m d zs) :
    Calls Tryz.prog 3 #[.int .u64 (num : Int), .slice A n c, .slice B m d] w fun e W' => e = .returned (.bool true) ∧ Below w.heap.size w W' := by
  by_cases h : 3000 < n ∨ 3000 < m
  · exact of_great num A n c B m d w h
  · exact of_small E hnum A n c xs B m d zs w hE hx hz (by omega) (by omega)

end Go.Proofs.YtfniddnfkciblaaGreatDoor

/-
  What the three listed variables hold when a call begins.
-/
namespace Go.Proofs.YtfniddnfkciblaaGreatDoor
open Go.ChangeShapes Go.WideShapes Go.ChangeAt Go.RowKit

theorem gShort : Tryz.prog.globalNamed "almoner/frames.errShort" = some 0 := by kernel_rfl
theorem gForm : Tryz.prog.globalNamed "almoner/frames.errForm" = some 2 := by kernel_rfl
theorem gSum : Tryz.prog.globalNamed "almoner/frames.errSum" = some 1 := by kernel_rfl
theorem tShort : (Tryz.prog.globals[0]?).map (·.type) = some 54 := by kernel_rfl
theorem tForm : (Tryz.prog.globals[2]?).map (·.type) = some 54 := by kernel_rfl
theorem tSum : (Tryz.prog.globals[1]?).map (·.type) = some 54 := by kernel_rfl
theorem cellsEs : Tryz.prog.cellsOf 199 = 1 := by kernel_rfl
theorem cellsStr : Tryz.prog.cellsOf 9 = 1 := by kernel_rfl
theorem starEs : "*" ++ "errors.errorString" = "*errors.errorString" := by decide
theorem rowEs (u : TypeId) (h : Tryz.prog.typeName? 3 u = some "*errors.errorString") : u = 174 :=
  typeName_ptr_named (nm := "errors.errorString") (by rw [starEs]; kernel_rfl) (by kernel_rfl) (by decide) u (by rw [starEs]; exact h)

def laid3 : List (String × DataW Unit) := [("almoner/frames.errShort", Rows.laid_almoner_frames_errShort), ("almoner/frames.errForm", Rows.laid_almoner_frames_errForm), ("almoner/frames.errSum", Rows.laid_almoner_frames_errSum)]

set_option maxRecDepth 100000 in
theorem of_laid {W : World} (h : laidMetH Tryz.prog laid3 W) : ∃ E, Laid W E := by
  rw [MakeChecks.laidMetH_plain _ _ _ (by kernel_rfl)] at h
  obtain ⟨ps, ⟨g0', t0', cs0, f0, p0, q0, hg0', ht0', hv0, hd0, ⟨g1', t1', cs1, f1, p1, q1, hg1', ht1', hv1, hd1, ⟨g2', t2', cs2, f2, p2, q2, hg2', ht2', hv2, hd2, _, e2⟩, e1⟩, e0⟩, hnd, hrows⟩ := h
  obtain rfl := Option.some.inj (gShort.symm.trans hg0')
  obtain rfl := Option.some.inj (gForm.symm.trans hg1')
  obtain rfl := Option.some.inj (gSum.symm.trans hg2')
  obtain rfl := Option.some.inj (tShort.symm.trans ht0')
  obtain rfl := Option.some.inj (tForm.symm.trans ht1')
  obtain rfl := Option.some.inj (tSum.symm.trans ht2')
  subst e2
  subst e1
  subst e0
  obtain ⟨l0⟩ := cs0
  obtain ⟨l1⟩ := cs1
  obtain ⟨l2⟩ := cs2
  have ok0 : ∀ u v, l0 = [.iface u v] → Value.okWide Tryz.prog W .any 0 u v := fun u v e => by
    subst e
    exact (hrows 0 0 (by simp [MemPlace.row])).2 u v (by simpa using World.var?_cell hg0' hv0 0)
  have ok1 : ∀ u v, l1 = [.iface u v] → Value.okWide Tryz.prog W .any 0 u v := fun u v e => by
    subst e
    exact (hrows 2 0 (by simp [MemPlace.row])).2 u v (by simpa using World.var?_cell hg1' hv1 0)
  have ok2 : ∀ u v, l2 = [.iface u v] → Value.okWide Tryz.prog W .any 0 u v := fun u v e => by
    subst e
    exact (hrows 1 0 (by simp [MemPlace.row])).2 u v (by simpa using World.var?_cell hg2' hv2 0)
  obtain ⟨a0, s0, rfl, hc0, hs0, hz0, rfl⟩ := errorString_of_trod Tryz.underlying54 rowEs Tryz.underlying174 Tryz.underlying199 rfl rfl Tryz.underlying9 cellsEs cellsStr hd0 ok0
  obtain ⟨a1, s1, rfl, hc1, hs1, hz1, rfl⟩ := errorString_of_trod Tryz.underlying54 rowEs Tryz.underlying174 Tryz.underlying199 rfl rfl Tryz.underlying9 cellsEs cellsStr hd1 ok1
  obtain ⟨a2, s2, rfl, hc2, hs2, hz2, rfl⟩ := errorString_of_trod Tryz.underlying54 rowEs Tryz.underlying174 Tryz.underlying199 rfl rfl Tryz.underlying9 cellsEs cellsStr hd2 ok2
  have hb0 := (hrows a0.block a0.off (by simp [MemPlace.row])).1
  have hb1 := (hrows a1.block a1.off (by simp [MemPlace.row])).1
  have hb2 := (hrows a2.block a2.off (by simp [MemPlace.row])).1
  refine ⟨⟨a0, a1, a2⟩, by simpa using World.var?_cell hg0' hv0 0, by simpa using World.var?_cell hg1' hv1 0, by simpa using World.var?_cell hg2' hv2 0, ?_, ?_, ?_, ?_⟩
  · intro b
    cases b
    · exact hb0
    · exact hb1
    · exact hb2
  · show a0 ≠ a1
    rintro rfl
    simp [MemPlace.row] at hnd
  · show a0 ≠ a2
    rintro rfl
    simp [MemPlace.row] at hnd
  · show a1 ≠ a2
    rintro rfl
    simp [MemPlace.row] at hnd

end Go.Proofs.YtfniddnfkciblaaGreatDoor

/-
  The six listed variables: three of them are the sentinels.
-/
namespace Go.Proofs.YtfniddnfkciblaaGreatDoor
open Go.ChangeShapes Go.WideShapes Go.ChangeAt Go.RowKit

def laid6 : List (String × DataW Unit) := [("math/bits.deBruijn32tab", Rows.laid_math_bits_deBruijn32tab), ("math/bits.deBruijn64tab", Rows.laid_math_bits_deBruijn64tab), ("internal/strconv.uint64pow10", Rows.laid_internal_strconv_uint64pow10), ("almoner/frames.errShort", Rows.laid_almoner_frames_errShort), ("almoner/frames.errForm", Rows.laid_almoner_frames_errForm), ("almoner/frames.errSum", Rows.laid_almoner_frames_errSum)]
def isErr (x : String × DataW Unit) : Bool := ["almoner/frames.errShort", "almoner/frames.errForm", "almoner/frames.errSum"].contains x.1
theorem laid6_errs : laid6.filter isErr = laid3 := by
  unfold laid6 laid3 isErr
  simp [List.filter]

theorem of_laid6 {W : World} (h : laidMetH Tryz.prog laid6 W) : ∃ E, Laid W E := by
  have h3 := h.filter isErr
  rw [laid6_errs] at h3
  exact of_laid h3

end Go.Proofs.YtfniddnfkciblaaGreatDoor
