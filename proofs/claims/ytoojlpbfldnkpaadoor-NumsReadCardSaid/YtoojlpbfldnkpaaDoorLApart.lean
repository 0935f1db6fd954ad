/-
  The Book of the statements: Apart: no list shares memory with another one.
-/
import Derived.Test.YtoojlpbfldnkpaaDoorLLookS
import Derived.Test.YtoojlpbfldnkpaaDoorLNil
namespace Go.Proofs.YtoojlpbfldnkpaaDoor
open Go.RowKit

theorem nil_same {P : Program} {f : FuncId} {args : Array Value} {w : World} {v : Value} (h : Calls P f args w fun e w' => e = .returned v ∧ w' = w) : Calls P f args w fun e w' => e = .returned v ∧ w = w' := h.mono fun _ _ ⟨h1, h2⟩ => ⟨h1, h2.symm⟩

/-- A Book whose lists are rows of the call's own, no two of which share a block. -/
structure Kept2 (w : World) (base kb N : Nat) (bs ss : Value) (K1 K2 : Nat) (h1 h2 : List Held) : Prop where
  book : BookAt w kb N bs ss
  own1 : w.ownsRow base 77 3 bs K1 (heldCells h1)
  own2 : w.ownsRow base 79 3 ss K2 (heldCells h2)
  lists1 : Lists w base h1
  lists2 : ListsS w base h2
  le1 : K1 ≤ 1000000
  le2 : K2 ≤ 1000000
  len1 : ∀ (i : Nat) (h : Held), h1[i]? = some h → h.len ≤ 1000000000
  len2 : ∀ (i : Nat) (h : Held), h2[i]? = some h → h.len ≤ 1000000000
  kb : base ≤ kb
  base : base ≤ w.heap.size

theorem inLists_ge {w : World} {base : Nat} {hs : List Held} (h : Lists w base hs) : ∀ b, inLists hs b → base ≤ b := by
  rintro b ⟨i, k, hk, hb⟩
  obtain ⟨xs, hx⟩ := h.own i k hk
  exact (hx.lt b hb).1
theorem inListsS_ge {w : World} {base : Nat} {hs : List Held} (h : ListsS w base hs) : ∀ b, inLists hs b → base ≤ b := by
  rintro b ⟨i, k, hk, hb⟩
  obtain ⟨xs, hx⟩ := h.own i k hk
  exact (hx.lt b hb).1

/-- A row of another element type than the lists' is no list's. -/
theorem not_in {w : World} {base b2 : Nat} {hs : List Held} {e : TypeId} {s n : Nat} {v : Value} {xs : List Value} (h : Lists w base hs) (he : 5 ≠ e) (hv : w.ownsRow b2 e s v n xs) : ∀ b, v.ownBlock = some b → ¬ inLists hs b := by
  rintro b hb ⟨i, k, hk, hb'⟩
  obtain ⟨ys, hy⟩ := h.own i k hk
  rcases rows_ne he hy hv with e0 | e0
  · rw [e0] at hb'; cases hb'
  · exact e0 (hb'.trans hb.symm)
theorem not_inS {w : World} {base b2 : Nat} {hs : List Held} {e : TypeId} {s n : Nat} {v : Value} {xs : List Value} (h : ListsS w base hs) (he : 54 ≠ e) (hv : w.ownsRow b2 e s v n xs) : ∀ b, v.ownBlock = some b → ¬ inLists hs b := by
  rintro b hb ⟨i, k, hk, hb'⟩
  obtain ⟨ys, hy⟩ := h.own i k hk
  rcases rows_ne he hy hv with e0 | e0
  · rw [e0] at hb'; cases hb'
  · exact e0 (hb'.trans hb.symm)
theorem book_not_in {w : World} {base kb N : Nat} {bs ss : Value} {hs : List Held} (h : Lists w base hs) (hb : BookAt w kb N bs ss) : ¬ inLists hs kb := by
  rintro ⟨i, k, hk, hb'⟩
  obtain ⟨ys, hy⟩ := h.own i k hk
  exact hb.other (by decide) hy hb'
theorem book_not_inS {w : World} {base kb N : Nat} {bs ss : Value} {hs : List Held} (h : ListsS w base hs) (hb : BookAt w kb N bs ss) : ¬ inLists hs kb := by
  rintro ⟨i, k, hk, hb'⟩
  obtain ⟨ys, hy⟩ := h.own i k hk
  exact hb.other (by decide) hy hb'
theorem not_row {w : World} {b1 b2 : Nat} {e1 e2 : TypeId} {s1 s2 n1 n2 : Nat} {v1 v2 : Value} {x1 x2 : List Value} (he : e1 ≠ e2) (h1 : w.ownsRow b1 e1 s1 v1 n1 x1) (h2 : w.ownsRow b2 e2 s2 v2 n2 x2) : ∀ b, v1.ownBlock = some b → v2.ownBlock ≠ some b := by
  intro b hb hb'
  rcases rows_ne he h1 h2 with e0 | e0
  · rw [e0] at hb; cases hb
  · exact e0 (hb.trans hb'.symm)

/-- What is left alone by writes to blocks of S stays. -/
theorem Kept2.but {S : Nat → Prop} {w w' : World} {base kb N : Nat} {bs ss : Value} {K1 K2 : Nat} {h1 h2 : List Held} (h : Kept2 w base kb N bs ss K1 K2 h1 h2) (hb : But S w w') (hkb : ¬ S kb) (hbs : ∀ b, bs.ownBlock = some b → ¬ S b) (hss : ∀ b, ss.ownBlock = some b → ¬ S b)
    (l1 : Lists w' base h1) (l2 : ListsS w' base h2) : Kept2 w' base kb N bs ss K1 K2 h1 h2 :=
  ⟨h.book.but hb hkb, own_kept_but h.own1 hb hbs, own_kept_but h.own2 hb hss, l1, l2, h.le1, h.le2, h.len1, h.len2, h.kb, Nat.le_trans h.base hb.size⟩
theorem Kept2.below {w w' : World} {base kb N : Nat} {bs ss : Value} {K1 K2 : Nat} {h1 h2 : List Held} (h : Kept2 w base kb N bs ss K1 K2 h1 h2) (hb : Below w.heap.size w w') : Kept2 w' base kb N bs ss K1 K2 h1 h2 :=
  h.but (S := fun _ => False) (But.of_below hb) (fun e => e) (fun _ _ e => e) (fun _ _ e => e)
    ⟨fun i k hk => by obtain ⟨xs, hx⟩ := h.lists1.own i k hk; exact ⟨xs, own_on hx hb⟩, h.lists1.apart⟩ ⟨fun i k hk => by obtain ⟨xs, hx⟩ := h.lists2.own i k hk; exact ⟨xs, own_on hx hb⟩, h.lists2.apart⟩

theorem Lists.of_filled {w w' : World} {base K : Nat} {hs : List Held} (h : Lists w base hs) (hf : Filled w' base hs K) : Lists w' base hs :=
  ⟨fun i k hk => by obtain ⟨xs, hx, _⟩ := hf i k hk; exact ⟨xs, hx⟩, h.apart⟩
theorem ListsS.of_filled {w w' : World} {base K : Nat} {hs : List Held} (h : ListsS w base hs) (hf : FilledS w' base hs K) : ListsS w' base hs :=
  ⟨fun i k hk => by obtain ⟨xs, hx, _⟩ := hf i k hk; exact ⟨xs, hx⟩, h.apart⟩
theorem Lists.but {S : Nat → Prop} {w w' : World} {base : Nat} {hs : List Held} (h : Lists w base hs) (hb : But S w w') (hn : ∀ b, inLists hs b → ¬ S b) : Lists w' base hs :=
  ⟨fun i k hk => by obtain ⟨xs, hx⟩ := h.own i k hk; exact ⟨xs, own_kept_but hx hb (fun b e => hn b ⟨i, k, hk, e⟩)⟩, h.apart⟩
theorem ListsS.but {S : Nat → Prop} {w w' : World} {base : Nat} {hs : List Held} (h : ListsS w base hs) (hb : But S w w') (hn : ∀ b, inLists hs b → ¬ S b) : ListsS w' base hs :=
  ⟨fun i k hk => by obtain ⟨xs, hx⟩ := h.own i k hk; exact ⟨xs, own_kept_but hx hb (fun b e => hn b ⟨i, k, hk, e⟩)⟩, h.apart⟩
theorem Filled.but {S : Nat → Prop} {w w' : World} {base K : Nat} {hs : List Held} (h : Filled w base hs K) (hb : But S w w') (hn : ∀ b, inLists hs b → ¬ S b) : Filled w' base hs K := fun i k hk => by
  obtain ⟨xs, hx, e⟩ := h i k hk
  exact ⟨xs, own_kept_but hx hb (fun b e => hn b ⟨i, k, hk, e⟩), e⟩
theorem FilledS.but {S : Nat → Prop} {w w' : World} {base K : Nat} {hs : List Held} (h : FilledS w base hs K) (hb : But S w w') (hn : ∀ b, inLists hs b → ¬ S b) : FilledS w' base hs K := fun i k hk => by
  obtain ⟨xs, hx, e⟩ := h i k hk
  exact ⟨xs, own_kept_but hx hb (fun b e => hn b ⟨i, k, hk, e⟩), e⟩
/-- Lists of unlike elements lie in unlike blocks. -/
theorem lists_off {w : World} {base : Nat} {h1 h2 : List Held} (l1 : Lists w base h1) (l2 : ListsS w base h2) : ∀ b, inLists h1 b → ¬ inLists h2 b := by
  rintro b ⟨i, k, hk, hb⟩ hin
  obtain ⟨xs, hx⟩ := l1.own i k hk
  exact not_inS l2 (by decide) hx b hb hin

theorem GrownTo.marked {w w' : World} {base K : Nat} {hs hs' : List Held} (h : GrownTo w w' base hs hs' K) (hK : hs.length = K) (hlen : ∀ (i : Nat) (h : Held), hs[i]? = some h → h.len ≤ 1000000000) : Marked w' base hs' := fun i k' hk' => by
  have hi := (List.getElem?_eq_some_iff.1 hk').1
  rw [h.1] at hi
  obtain ⟨k'', hk'', G⟩ := h.2 i _ (List.getElem?_eq_getElem hi)
  rw [hk'] at hk''
  cases hk''
  obtain ⟨l1, l2, _⟩ := G.long (by omega)
  have l3 := hlen i _ (List.getElem?_eq_getElem hi)
  rw [G.len, G.v, G.num]
  exact ⟨l1, G.row, l2, l3⟩
theorem GrownToS.marked {w w' : World} {base K : Nat} {hs hs' : List Held} (h : GrownToS w w' base hs hs' K) (hK : hs.length = K) (hlen : ∀ (i : Nat) (h : Held), hs[i]? = some h → h.len ≤ 1000000000) : MarkedS w' base hs' := fun i k' hk' => by
  have hi := (List.getElem?_eq_some_iff.1 hk').1
  rw [h.1] at hi
  obtain ⟨k'', hk'', G⟩ := h.2 i _ (List.getElem?_eq_getElem hi)
  rw [hk'] at hk''
  cases hk''
  obtain ⟨l1, l2, _⟩ := G.long (by omega)
  have l3 := hlen i _ (List.getElem?_eq_getElem hi)
  rw [G.len, G.v, G.num]
  exact ⟨l1, G.row, l2, l3⟩
theorem Marked.but {S : Nat → Prop} {w w' : World} {base : Nat} {hs : List Held} (h : Marked w base hs) (hb : But S w w') (hn : ∀ v n xs, w.ownsRow base 5 1 v n xs → ∀ b, v.ownBlock = some b → ¬ S b) : Marked w' base hs := fun i k hk => by
  obtain ⟨a, b, c, d⟩ := h i k hk
  exact ⟨a, own_kept_but b hb (hn _ _ _ b), own_kept_but c hb (hn _ _ _ c), d⟩
theorem MarkedS.but {S : Nat → Prop} {w w' : World} {base : Nat} {hs : List Held} (h : MarkedS w base hs) (hb : But S w w') (hn : ∀ v n xs, w.ownsRow base 54 32 v n xs → ∀ b, v.ownBlock = some b → ¬ S b) : MarkedS w' base hs := fun i k hk => by
  obtain ⟨a, b, c, d⟩ := h i k hk
  exact ⟨a, own_kept_but b hb (hn _ _ _ b), own_kept_but c hb (hn _ _ _ c), d⟩

set_option maxRecDepth 100000 in
set_option maxHeartbeats 4000000 in
theorem apart_any (kb N base K1 K2 : Nat) (bs ss : Value) (h1 h2 : List Held) (w : World) (H : Kept2 w base kb N bs ss K1 K2 h1 h2) :
    Calls Tryd.prog 19 #[.pointer (some ⟨kb, 0, none⟩)] w fun e w' => e = .returned (.bool true) ∧ Below base w w' := by
  have H0 := Lib.hid H
  clear H
  go_enter Tryd.func19, Tryd.ntmps19
  go_wp2_with fail
  refine (fillByte_any kb N base K1 bs ss h1 w H0.out.book H0.out.own1 H0.out.lists1 H0.out.le1 H0.out.len1).mono ?_
  rintro e w1 ⟨rfl, hf1, hb1⟩
  have H1 := Lib.hid (H0.out.but hb1 (book_not_in H0.out.lists1 H0.out.book) (not_in H0.out.lists1 (by decide) H0.out.own1) (not_in H0.out.lists1 (by decide) H0.out.own2) (H0.out.lists1.of_filled hf1) (H0.out.lists2.but hb1 (fun b hb hb' => lists_off H0.out.lists1 H0.out.lists2 b hb' hb)))
  have B1 := Lib.hid (hb1.below H0.out.base (inLists_ge H0.out.lists1))
  have F1 := Lib.hid hf1
  have K1b := Lib.hid H1.out.book
  clear hf1 hb1 H0
  go_wp2_with fail
  refine (nil_same (fillInt_nil K1b.out)).mono ?_
  rintro e _ ⟨rfl, rfl⟩
  go_wp2_with fail
  refine (nil_same (fillText_nil K1b.out)).mono ?_
  rintro e _ ⟨rfl, rfl⟩
  go_wp2_with fail
  refine (nil_same (fillByteList_nil K1b.out)).mono ?_
  rintro e _ ⟨rfl, rfl⟩
  go_wp2_with fail
  refine (fillSum_any kb N base K2 bs ss h2 w1 H1.out.book H1.out.own2 H1.out.lists2 H1.out.le2 H1.out.len2).mono ?_
  rintro e w2 ⟨rfl, hf2, hb2⟩
  have H2 := Lib.hid (H1.out.but hb2 (book_not_inS H1.out.lists2 H1.out.book) (not_inS H1.out.lists2 (by decide) H1.out.own1) (not_inS H1.out.lists2 (by decide) H1.out.own2) (H1.out.lists1.but hb2 (lists_off H1.out.lists1 H1.out.lists2)) (H1.out.lists2.of_filled hf2))
  have B2 := Lib.hid (B1.out.trans (hb2.below H1.out.base (inListsS_ge H1.out.lists2)))
  have F2 := Lib.hid (F1.out.but hb2 (lists_off H1.out.lists1 H1.out.lists2))
  have F2S := Lib.hid hf2
  have K2b := Lib.hid H2.out.book
  clear hf2 hb2 H1 B1 F1 K1b
  go_wp2_with fail
  refine (nil_same (fillPair_nil K2b.out)).mono ?_
  rintro e _ ⟨rfl, rfl⟩
  go_wp2_with fail
  refine (nil_same (fillTenant_nil K2b.out)).mono ?_
  rintro e _ ⟨rfl, rfl⟩
  go_wp2_with fail
  refine (nil_same (fillLease_nil K2b.out)).mono ?_
  rintro e _ ⟨rfl, rfl⟩
  go_wp2_with fail
  refine (nil_same (fillEvent_nil K2b.out)).mono ?_
  rintro e _ ⟨rfl, rfl⟩
  go_wp2_with fail
  refine (growByte_any kb N base K1 bs ss h1 w2 H2.out.book H2.out.own1 H2.out.lists1 F2.out H2.out.le1 H2.out.len1 H2.out.base).mono ?_
  rintro e w3 ⟨rfl, hs1, ho3, hg3, hb3⟩
  have M3 := Lib.hid (hg3.marked (by have := H2.out.own1.1; rw [heldCells_length] at this; omega) H2.out.len1)
  have bk3 := H2.out.book.but hb3 (fun h => h.elim (book_not_in H2.out.lists1 H2.out.book) (H2.out.book.other (by decide) H2.out.own1))
  have os3 := own_kept_but H2.out.own2 hb3 (fun b hb h => h.elim (not_in H2.out.lists1 (by decide) H2.out.own2 b hb) (not_row (by decide) H2.out.own2 H2.out.own1 b hb))
  have off3 : ∀ b, inLists h2 b → ¬ (inLists h1 b ∨ bs.ownBlock = some b) := fun b hb h => h.elim (fun h' => lists_off H2.out.lists1 H2.out.lists2 b h' hb) (fun h' => not_inS H2.out.lists2 (by decide) H2.out.own1 b h' hb)
  have L3 := H2.out.lists2.but hb3 off3
  have F3 := Lib.hid (F2S.out.but hb3 off3)
  have B3 := Lib.hid (B2.out.trans (hb3.below H2.out.base (fun b h => h.elim (inLists_ge H2.out.lists1 b) (fun h' => (H2.out.own1.lt b h').1))))
  have H3 := Lib.hid (And.intro bk3 (And.intro ho3 (And.intro os3 (And.intro L3 (And.intro H2.out.le1 (And.intro H2.out.le2 (And.intro H2.out.len2 (Nat.le_trans H2.out.base hb3.size))))))))
  have K3b := Lib.hid bk3
  clear hg3 hb3 bk3 os3 off3 L3 ho3 H2 B2 F2 F2S K2b
  go_wp2_with fail
  refine (nil_same (growInt_nil K3b.out)).mono ?_
  rintro e _ ⟨rfl, rfl⟩
  go_wp2_with fail
  refine (nil_same (growText_nil K3b.out)).mono ?_
  rintro e _ ⟨rfl, rfl⟩
  go_wp2_with fail
  refine (nil_same (growByteList_nil K3b.out)).mono ?_
  rintro e _ ⟨rfl, rfl⟩
  go_wp2_with fail
  refine (growSum_any kb N base K2 bs ss h2 w3 H3.out.1 H3.out.2.2.1 H3.out.2.2.2.1 F3.out H3.out.2.2.2.2.2.1 H3.out.2.2.2.2.2.2.1 H3.out.2.2.2.2.2.2.2).mono ?_
  rintro e w4 ⟨rfl, hs2, ho4, hg4, hb4⟩
  have M4S := Lib.hid (hg4.marked (by have := H3.out.2.2.1.1; rw [heldCells_length] at this; omega) H3.out.2.2.2.2.2.2.1)
  have M4 := Lib.hid (M3.out.but hb4 (fun v n xs hv b hb h => h.elim (not_inS H3.out.2.2.2.1 (by decide) hv b hb) (not_row (by decide) hv H3.out.2.2.1 b hb)))
  have bk4 := H3.out.1.but hb4 (fun h => h.elim (book_not_inS H3.out.2.2.2.1 H3.out.1) (H3.out.1.other (by decide) H3.out.2.2.1))
  have ob4 := own_kept_but H3.out.2.1 hb4 (fun b hb h => h.elim (not_inS H3.out.2.2.2.1 (by decide) H3.out.2.1 b hb) (not_row (by decide) H3.out.2.1 H3.out.2.2.1 b hb))
  have B4 := Lib.hid (B3.out.trans (hb4.below H3.out.2.2.2.2.2.2.2 (fun b h => h.elim (inListsS_ge H3.out.2.2.2.1 b) (fun h' => (H3.out.2.2.1.lt b h').1))))
  have H4 := Lib.hid (And.intro bk4 (And.intro ob4 (And.intro ho4 (And.intro H3.out.2.2.2.2.1 (And.intro H3.out.2.2.2.2.2.1 (Nat.le_trans H3.out.2.2.2.2.2.2.2 hb4.size))))))
  have K4b := Lib.hid bk4
  clear hg4 hb4 bk4 ob4 ho4 H3 B3 F3 M3 K3b
  go_wp2_with fail
  refine (nil_same (growPair_nil K4b.out)).mono ?_
  rintro e _ ⟨rfl, rfl⟩
  go_wp2_with fail
  refine (nil_same (growTenant_nil K4b.out)).mono ?_
  rintro e _ ⟨rfl, rfl⟩
  go_wp2_with fail
  refine (nil_same (growLease_nil K4b.out)).mono ?_
  rintro e _ ⟨rfl, rfl⟩
  go_wp2_with fail
  refine (nil_same (growEvent_nil K4b.out)).mono ?_
  rintro e _ ⟨rfl, rfl⟩
  go_wp2_with fail
  refine (lookByte_any kb N base K1 bs ss hs1 w4 H4.out.1 H4.out.2.1 M4.out H4.out.2.2.2.1).mono ?_
  rintro e w5 ⟨rfl, hb5⟩
  have bk5 := H4.out.1.but hb5 (fun e => e)
  have os5 := own_kept_but H4.out.2.2.1 hb5 (fun _ _ e => e)
  have M5S := Lib.hid (M4S.out.but hb5 (fun _ _ _ _ _ _ e => e))
  have B5 := Lib.hid (B4.out.trans (hb5.below H4.out.2.2.2.2.2 (fun _ e => e.elim)))
  have H5 := Lib.hid (And.intro bk5 (And.intro os5 (And.intro H4.out.2.2.2.2.1 (Nat.le_trans H4.out.2.2.2.2.2 hb5.size))))
  have K5b := Lib.hid bk5
  clear hb5 bk5 os5 H4 B4 M4 M4S K4b
  go_wp2_with fail
  refine (nil_same (lookInt_nil K5b.out)).mono ?_
  rintro e _ ⟨rfl, rfl⟩
  go_wp2_with fail
  refine (nil_same (lookText_nil K5b.out)).mono ?_
  rintro e _ ⟨rfl, rfl⟩
  go_wp2_with fail
  refine (nil_same (lookByteList_nil K5b.out)).mono ?_
  rintro e _ ⟨rfl, rfl⟩
  go_wp2_with fail
  refine (lookSum_any kb N base K2 bs ss hs2 w5 H5.out.1 H5.out.2.1 M5S.out H5.out.2.2.1).mono ?_
  rintro e w6 ⟨rfl, hb6⟩
  have bk6 := H5.out.1.but hb6 (fun e => e)
  have B6 := Lib.hid (B5.out.trans (hb6.below H5.out.2.2.2 (fun _ e => e.elim)))
  have K6b := Lib.hid bk6
  clear hb6 bk6 H5 B5 M5S K5b
  go_wp2_with fail
  refine (nil_same (lookPair_nil K6b.out)).mono ?_
  rintro e _ ⟨rfl, rfl⟩
  go_wp2_with fail
  refine (nil_same (lookTenant_nil K6b.out)).mono ?_
  rintro e _ ⟨rfl, rfl⟩
  go_wp2_with fail
  refine (nil_same (lookLease_nil K6b.out)).mono ?_
  rintro e _ ⟨rfl, rfl⟩
  go_wp2_with fail
  refine (nil_same (lookEvent_nil K6b.out)).mono ?_
  rintro e _ ⟨rfl, rfl⟩
  go_wp2
  go_ret
  exact ⟨rfl, B6.out⟩

end Go.Proofs.YtoojlpbfldnkpaaDoor
