/-
  Several texts in one: LApart, LBookS, LBook, HPlayMem, VRefLeaf, VRefCut, WRefPath, WRefOf, KRefLink, KRefOf, HRef, HRefTell, HAsk, LFlat, LTwinB, LTwin, LSameSums, LSameBytes, HNeq.
-/
import Derived.Test.YtnaebjdccngeoaaGreatDoorHpY2
import Derived.Deep.RegionHeld3
import Derived.Deep.AppendLies
import Derived.Laws.Pointers
import Derived.StillTactics
import Derived.Test.YtnaebjdccngeoaaGreatDoorLApp2
import Derived.Test.YtnaebjdccngeoaaGreatDoorVRefA
import Derived.Test.YtnaebjdccngeoaaGreatDoorVRefB
import Derived.Test.YtnaebjdccngeoaaGreatDoorRefOf
import Derived.Test.YtnaebjdccngeoaaGreatDoorLTot
import Derived.Deep.CutRange
import Derived.Test.YtnaebjdccngeoaaGreatDoorLSum
import Derived.Test.YtnaebjdccngeoaaGreatDoorLRow
import Derived.Deep.Slices
import Derived.Test.YtnaebjdccngeoaaGreatDoorLMem
import Derived.Deep.QuietTactic
import Derived.BigQuiet
import Derived.Test.YtnaebjdccngeoaaGreatDoorLSums
/-
  The Book of the statements: Apart: no list shares memory with another one.
-/
namespace Go.Proofs.YtnaebjdccngeoaaGreatDoor
open Go.RowKit

theorem nil_same {P : Program} {f : FuncId} {args : Array Value} {w : World} {v : Value} (h : Calls P f args w fun e w' => e = .returned v ∧ w' = w) : Calls P f args w fun e w' => e = .returned v ∧ w = w' := h.mono fun _ _ ⟨h1, h2⟩ => ⟨h1, h2.symm⟩

/-- A Book whose lists are rows of the call's own, no two of which share a block. -/
structure Kept2 (w : World) (base kb N : Nat) (bs ss : Value) (K1 K2 : Nat) (h1 h2 : List Held) : Prop where
  book : BookAt w kb N bs ss
  own1 : w.ownsRow base 131 3 bs K1 (heldCells h1)
  own2 : w.ownsRow base 142 3 ss K2 (heldCells h2)
  lists1 : Lists w base h1
  lists2 : ListsS w base h2
  le1 : K1 ≤ 1000000
  le2 : K2 ≤ 1000000
  len1 : ∀ (i : Nat) (h : Held), h1[i]? = some h → h.len ≤ 1000000000
  len2 : ∀ (i : Nat) (h : Held), h2[i]? = some h → h.len ≤ 1000000000
  kb : base ≤ kb
  base : base ≤ w.heap.size

theorem inLists_ge {w : World} {base : Nat} {hs : List Held} (h : Lists w base hs) : ∀ b, inLists hs b → base ≤ b := by
  rintro b ⟨i, k, hk, hb⟩
  obtain ⟨xs, hx⟩ := h.own i k hk
  exact (hx.lt b hb).1
theorem inListsS_ge {w : World} {base : Nat} {hs : List Held} (h : ListsS w base hs) : ∀ b, inLists hs b → base ≤ b := by
  rintro b ⟨i, k, hk, hb⟩
  obtain ⟨xs, hx⟩ := h.own i k hk
  exact (hx.lt b hb).1

/-- A row of another element type than the lists' is no list's. -/
theorem not_in {w : World} {base b2 : Nat} {hs : List Held} {e : TypeId} {s n : Nat} {v : Value} {xs : List Value} (h : Lists w base hs) (he : 5 ≠ e) (hv : w.ownsRow b2 e s v n xs) : ∀ b, v.ownBlock = some b → ¬ inLists hs b := by
  rintro b hb ⟨i, k, hk, hb'⟩
  obtain ⟨ys, hy⟩ := h.own i k hk
  rcases rows_ne he hy hv with e0 | e0
  · rw [e0] at hb'; cases hb'
  · exact e0 (hb'.trans hb.symm)
theorem not_inS {w : World} {base b2 : Nat} {hs : List Held} {e : TypeId} {s n : Nat} {v : Value} {xs : List Value} (h : ListsS w base hs) (he : 50 ≠ e) (hv : w.ownsRow b2 e s v n xs) : ∀ b, v.ownBlock = some b → ¬ inLists hs b := by
  rintro b hb ⟨i, k, hk, hb'⟩
  obtain ⟨ys, hy⟩ := h.own i k hk
  rcases rows_ne he hy hv with e0 | e0
  · rw [e0] at hb'; cases hb'
  · exact e0 (hb'.trans hb.symm)
theorem book_not_in {w : World} {base kb N : Nat} {bs ss : Value} {hs : List Held} (h : Lists w base hs) (hb : BookAt w kb N bs ss) : ¬ inLists hs kb := by
  rintro ⟨i, k, hk, hb'⟩
  obtain ⟨ys, hy⟩ := h.own i k hk
  exact hb.other (by decide) hy hb'
theorem book_not_inS {w : World} {base kb N : Nat} {bs ss : Value} {hs : List Held} (h : ListsS w base hs) (hb : BookAt w kb N bs ss) : ¬ inLists hs kb := by
  rintro ⟨i, k, hk, hb'⟩
  obtain ⟨ys, hy⟩ := h.own i k hk
  exact hb.other (by decide) hy hb'
theorem not_row {w : World} {b1 b2 : Nat} {e1 e2 : TypeId} {s1 s2 n1 n2 : Nat} {v1 v2 : Value} {x1 x2 : List Value} (he : e1 ≠ e2) (h1 : w.ownsRow b1 e1 s1 v1 n1 x1) (h2 : w.ownsRow b2 e2 s2 v2 n2 x2) : ∀ b, v1.ownBlock = some b → v2.ownBlock ≠ some b := by
  intro b hb hb'
  rcases rows_ne he h1 h2 with e0 | e0
  · rw [e0] at hb; cases hb
  · exact e0 (hb.trans hb'.symm)

/-- What is left alone by writes to blocks of S stays. -/
theorem Kept2.but {S : Nat → Prop} {w w' : World} {base kb N : Nat} {bs ss : Value} {K1 K2 : Nat} {h1 h2 : List Held} (h : Kept2 w base kb N bs ss K1 K2 h1 h2) (hb : But S w w') (hkb : ¬ S kb) (hbs : ∀ b, bs.ownBlock = some b → ¬ S b) (hss : ∀ b, ss.ownBlock = some b → ¬ S b)
    (l1 : Lists w' base h1) (l2 : ListsS w' base h2) : Kept2 w' base kb N bs ss K1 K2 h1 h2 :=
  ⟨h.book.but hb hkb, own_kept_but h.own1 hb hbs, own_kept_but h.own2 hb hss, l1, l2, h.le1, h.le2, h.len1, h.len2, h.kb, Nat.le_trans h.base hb.size⟩
theorem Kept2.below {w w' : World} {base kb N : Nat} {bs ss : Value} {K1 K2 : Nat} {h1 h2 : List Held} (h : Kept2 w base kb N bs ss K1 K2 h1 h2) (hb : Below w.heap.size w w') : Kept2 w' base kb N bs ss K1 K2 h1 h2 :=
  h.but (S := fun _ => False) (But.of_below hb) (fun e => e) (fun _ _ e => e) (fun _ _ e => e)
    ⟨fun i k hk => by obtain ⟨xs, hx⟩ := h.lists1.own i k hk; exact ⟨xs, own_on hx hb⟩, h.lists1.apart⟩ ⟨fun i k hk => by obtain ⟨xs, hx⟩ := h.lists2.own i k hk; exact ⟨xs, own_on hx hb⟩, h.lists2.apart⟩

theorem Lists.of_filled {w w' : World} {base K : Nat} {hs : List Held} (h : Lists w base hs) (hf : Filled w' base hs K) : Lists w' base hs :=
  ⟨fun i k hk => by obtain ⟨xs, hx, _⟩ := hf i k hk; exact ⟨xs, hx⟩, h.apart⟩
theorem ListsS.of_filled {w w' : World} {base K : Nat} {hs : List Held} (h : ListsS w base hs) (hf : FilledS w' base hs K) : ListsS w' base hs :=
  ⟨fun i k hk => by obtain ⟨xs, hx, _⟩ := hf i k hk; exact ⟨xs, hx⟩, h.apart⟩
theorem Lists.but {S : Nat → Prop} {w w' : World} {base : Nat} {hs : List Held} (h : Lists w base hs) (hb : But S w w') (hn : ∀ b, inLists hs b → ¬ S b) : Lists w' base hs :=
  ⟨fun i k hk => by obtain ⟨xs, hx⟩ := h.own i k hk; exact ⟨xs, own_kept_but hx hb (fun b e => hn b ⟨i, k, hk, e⟩)⟩, h.apart⟩
theorem ListsS.but {S : Nat → Prop} {w w' : World} {base : Nat} {hs : List Held} (h : ListsS w base hs) (hb : But S w w') (hn : ∀ b, inLists hs b → ¬ S b) : ListsS w' base hs :=
  ⟨fun i k hk => by obtain ⟨xs, hx⟩ := h.own i k hk; exact ⟨xs, own_kept_but hx hb (fun b e => hn b ⟨i, k, hk, e⟩)⟩, h.apart⟩
theorem Filled.but {S : Nat → Prop} {w w' : World} {base K : Nat} {hs : List Held} (h : Filled w base hs K) (hb : But S w w') (hn : ∀ b, inLists hs b → ¬ S b) : Filled w' base hs K := fun i k hk => by
  obtain ⟨xs, hx, e⟩ := h i k hk
  exact ⟨xs, own_kept_but hx hb (fun b e => hn b ⟨i, k, hk, e⟩), e⟩
theorem FilledS.but {S : Nat → Prop} {w w' : World} {base K : Nat} {hs : List Held} (h : FilledS w base hs K) (hb : But S w w') (hn : ∀ b, inLists hs b → ¬ S b) : FilledS w' base hs K := fun i k hk => by
  obtain ⟨xs, hx, e⟩ := h i k hk
  exact ⟨xs, own_kept_but hx hb (fun b e => hn b ⟨i, k, hk, e⟩), e⟩
/-- Lists of unlike elements lie in unlike blocks. -/
theorem lists_off {w : World} {base : Nat} {h1 h2 : List Held} (l1 : Lists w base h1) (l2 : ListsS w base h2) : ∀ b, inLists h1 b → ¬ inLists h2 b := by
  rintro b ⟨i, k, hk, hb⟩ hin
  obtain ⟨xs, hx⟩ := l1.own i k hk
  exact not_inS l2 (by decide) hx b hb hin

theorem GrownTo.marked {w w' : World} {base K : Nat} {hs hs' : List Held} (h : GrownTo w w' base hs hs' K) (hK : hs.length = K) (hlen : ∀ (i : Nat) (h : Held), hs[i]? = some h → h.len ≤ 1000000000) : Marked w' base hs' := fun i k' hk' => by
  have hi := (List.getElem?_eq_some_iff.1 hk').1
  rw [h.1] at hi
  obtain ⟨k'', hk'', G⟩ := h.2 i _ (List.getElem?_eq_getElem hi)
  rw [hk'] at hk''
  cases hk''
  obtain ⟨l1, l2, _⟩ := G.long (by omega)
  have l3 := hlen i _ (List.getElem?_eq_getElem hi)
  rw [G.len, G.v, G.num]
  exact ⟨l1, G.row, l2, l3⟩
theorem GrownToS.marked {w w' : World} {base K : Nat} {hs hs' : List Held} (h : GrownToS w w' base hs hs' K) (hK : hs.length = K) (hlen : ∀ (i : Nat) (h : Held), hs[i]? = some h → h.len ≤ 1000000000) : MarkedS w' base hs' := fun i k' hk' => by
  have hi := (List.getElem?_eq_some_iff.1 hk').1
  rw [h.1] at hi
  obtain ⟨k'', hk'', G⟩ := h.2 i _ (List.getElem?_eq_getElem hi)
  rw [hk'] at hk''
  cases hk''
  obtain ⟨l1, l2, _⟩ := G.long (by omega)
  have l3 := hlen i _ (List.getElem?_eq_getElem hi)
  rw [G.len, G.v, G.num]
  exact ⟨l1, G.row, l2, l3⟩
theorem Marked.but {S : Nat → Prop} {w w' : World} {base : Nat} {hs : List Held} (h : Marked w base hs) (hb : But S w w') (hn : ∀ v n xs, w.ownsRow base 5 1 v n xs → ∀ b, v.ownBlock = some b → ¬ S b) : Marked w' base hs := fun i k hk => by
  obtain ⟨a, b, c, d⟩ := h i k hk
  exact ⟨a, own_kept_but b hb (hn _ _ _ b), own_kept_but c hb (hn _ _ _ c), d⟩
theorem MarkedS.but {S : Nat → Prop} {w w' : World} {base : Nat} {hs : List Held} (h : MarkedS w base hs) (hb : But S w w') (hn : ∀ v n xs, w.ownsRow base 50 32 v n xs → ∀ b, v.ownBlock = some b → ¬ S b) : MarkedS w' base hs := fun i k hk => by
  obtain ⟨a, b, c, d⟩ := h i k hk
  exact ⟨a, own_kept_but b hb (hn _ _ _ b), own_kept_but c hb (hn _ _ _ c), d⟩

set_option maxRecDepth 100000 in
set_option maxHeartbeats 4000000 in
theorem apart_any (kb N base K1 K2 : Nat) (bs ss : Value) (h1 h2 : List Held) (w : World) (H : Kept2 w base kb N bs ss K1 K2 h1 h2) :
    Calls Tryz.prog 24 #[.pointer (some ⟨kb, 0, none⟩)] w fun e w' => e = .returned (.bool true) ∧ Below base w w' := by
  have H0 := Lib.hid H
  clear H
  go_enter Tryz.func24, Tryz.ntmps24
  go_wp2_with fail
  refine (fillByte_any kb N base K1 bs ss h1 w H0.out.book H0.out.own1 H0.out.lists1 H0.out.le1 H0.out.len1).mono ?_
  rintro e w1 ⟨rfl, hf1, hb1⟩
  have H1 := Lib.hid (H0.out.but hb1 (book_not_in H0.out.lists1 H0.out.book) (not_in H0.out.lists1 (by decide) H0.out.own1) (not_in H0.out.lists1 (by decide) H0.out.own2) (H0.out.lists1.of_filled hf1) (H0.out.lists2.but hb1 (fun b hb hb' => lists_off H0.out.lists1 H0.out.lists2 b hb' hb)))
  have B1 := Lib.hid (hb1.below H0.out.base (inLists_ge H0.out.lists1))
  have F1 := Lib.hid hf1
  have K1b := Lib.hid H1.out.book
  clear hf1 hb1 H0
  go_wp2_with fail
  refine (nil_same (fillInt_nil K1b.out)).mono ?_
  rintro e _ ⟨rfl, rfl⟩
  go_wp2_with fail
  refine (nil_same (fillText_nil K1b.out)).mono ?_
  rintro e _ ⟨rfl, rfl⟩
  go_wp2_with fail
  refine (nil_same (fillByteList_nil K1b.out)).mono ?_
  rintro e _ ⟨rfl, rfl⟩
  go_wp2_with fail
  refine (fillSum_any kb N base K2 bs ss h2 w1 H1.out.book H1.out.own2 H1.out.lists2 H1.out.le2 H1.out.len2).mono ?_
  rintro e w2 ⟨rfl, hf2, hb2⟩
  have H2 := Lib.hid (H1.out.but hb2 (book_not_inS H1.out.lists2 H1.out.book) (not_inS H1.out.lists2 (by decide) H1.out.own1) (not_inS H1.out.lists2 (by decide) H1.out.own2) (H1.out.lists1.but hb2 (lists_off H1.out.lists1 H1.out.lists2)) (H1.out.lists2.of_filled hf2))
  have B2 := Lib.hid (B1.out.trans (hb2.below H1.out.base (inListsS_ge H1.out.lists2)))
  have F2 := Lib.hid (F1.out.but hb2 (lists_off H1.out.lists1 H1.out.lists2))
  have F2S := Lib.hid hf2
  have K2b := Lib.hid H2.out.book
  clear hf2 hb2 H1 B1 F1 K1b
  go_wp2_with fail
  refine (nil_same (fillPair_nil K2b.out)).mono ?_
  rintro e _ ⟨rfl, rfl⟩
  go_wp2_with fail
  refine (nil_same (fillTenant_nil K2b.out)).mono ?_
  rintro e _ ⟨rfl, rfl⟩
  go_wp2_with fail
  refine (nil_same (fillLease_nil K2b.out)).mono ?_
  rintro e _ ⟨rfl, rfl⟩
  go_wp2_with fail
  refine (nil_same (fillEvent_nil K2b.out)).mono ?_
  rintro e _ ⟨rfl, rfl⟩
  go_wp2_with fail
  refine (growByte_any kb N base K1 bs ss h1 w2 H2.out.book H2.out.own1 H2.out.lists1 F2.out H2.out.le1 H2.out.len1 H2.out.base).mono ?_
  rintro e w3 ⟨rfl, hs1, ho3, hg3, hb3⟩
  have M3 := Lib.hid (hg3.marked (by have := H2.out.own1.1; rw [heldCells_length] at this; omega) H2.out.len1)
  have bk3 := H2.out.book.but hb3 (fun h => h.elim (book_not_in H2.out.lists1 H2.out.book) (H2.out.book.other (by decide) H2.out.own1))
  have os3 := own_kept_but H2.out.own2 hb3 (fun b hb h => h.elim (not_in H2.out.lists1 (by decide) H2.out.own2 b hb) (not_row (by decide) H2.out.own2 H2.out.own1 b hb))
  have off3 : ∀ b, inLists h2 b → ¬ (inLists h1 b ∨ bs.ownBlock = some b) := fun b hb h => h.elim (fun h' => lists_off H2.out.lists1 H2.out.lists2 b h' hb) (fun h' => not_inS H2.out.lists2 (by decide) H2.out.own1 b h' hb)
  have L3 := H2.out.lists2.but hb3 off3
  have F3 := Lib.hid (F2S.out.but hb3 off3)
  have B3 := Lib.hid (B2.out.trans (hb3.below H2.out.base (fun b h => h.elim (inLists_ge H2.out.lists1 b) (fun h' => (H2.out.own1.lt b h').1))))
  have H3 := Lib.hid (And.intro bk3 (And.intro ho3 (And.intro os3 (And.intro L3 (And.intro H2.out.le1 (And.intro H2.out.le2 (And.intro H2.out.len2 (Nat.le_trans H2.out.base hb3.size))))))))
  have K3b := Lib.hid bk3
  clear hg3 hb3 bk3 os3 off3 L3 ho3 H2 B2 F2 F2S K2b
  go_wp2_with fail
  refine (nil_same (growInt_nil K3b.out)).mono ?_
  rintro e _ ⟨rfl, rfl⟩
  go_wp2_with fail
  refine (nil_same (growText_nil K3b.out)).mono ?_
  rintro e _ ⟨rfl, rfl⟩
  go_wp2_with fail
  refine (nil_same (growByteList_nil K3b.out)).mono ?_
  rintro e _ ⟨rfl, rfl⟩
  go_wp2_with fail
  refine (growSum_any kb N base K2 bs ss h2 w3 H3.out.1 H3.out.2.2.1 H3.out.2.2.2.1 F3.out H3.out.2.2.2.2.2.1 H3.out.2.2.2.2.2.2.1 H3.out.2.2.2.2.2.2.2).mono ?_
  rintro e w4 ⟨rfl, hs2, ho4, hg4, hb4⟩
  have M4S := Lib.hid (hg4.marked (by have := H3.out.2.2.1.1; rw [heldCells_length] at this; omega) H3.out.2.2.2.2.2.2.1)
  have M4 := Lib.hid (M3.out.but hb4 (fun v n xs hv b hb h => h.elim (not_inS H3.out.2.2.2.1 (by decide) hv b hb) (not_row (by decide) hv H3.out.2.2.1 b hb)))
  have bk4 := H3.out.1.but hb4 (fun h => h.elim (book_not_inS H3.out.2.2.2.1 H3.out.1) (H3.out.1.other (by decide) H3.out.2.2.1))
  have ob4 := own_kept_but H3.out.2.1 hb4 (fun b hb h => h.elim (not_inS H3.out.2.2.2.1 (by decide) H3.out.2.1 b hb) (not_row (by decide) H3.out.2.1 H3.out.2.2.1 b hb))
  have B4 := Lib.hid (B3.out.trans (hb4.below H3.out.2.2.2.2.2.2.2 (fun b h => h.elim (inListsS_ge H3.out.2.2.2.1 b) (fun h' => (H3.out.2.2.1.lt b h').1))))
  have H4 := Lib.hid (And.intro bk4 (And.intro ob4 (And.intro ho4 (And.intro H3.out.2.2.2.2.1 (And.intro H3.out.2.2.2.2.2.1 (Nat.le_trans H3.out.2.2.2.2.2.2.2 hb4.size))))))
  have K4b := Lib.hid bk4
  clear hg4 hb4 bk4 ob4 ho4 H3 B3 F3 M3 K3b
  go_wp2_with fail
  refine (nil_same (growPair_nil K4b.out)).mono ?_
  rintro e _ ⟨rfl, rfl⟩
  go_wp2_with fail
  refine (nil_same (growTenant_nil K4b.out)).mono ?_
  rintro e _ ⟨rfl, rfl⟩
  go_wp2_with fail
  refine (nil_same (growLease_nil K4b.out)).mono ?_
  rintro e _ ⟨rfl, rfl⟩
  go_wp2_with fail
  refine (nil_same (growEvent_nil K4b.out)).mono ?_
  rintro e _ ⟨rfl, rfl⟩
  go_wp2_with fail
  refine (lookByte_any kb N base K1 bs ss hs1 w4 H4.out.1 H4.out.2.1 M4.out H4.out.2.2.2.1).mono ?_
  rintro e w5 ⟨rfl, hb5⟩
  have bk5 := H4.out.1.but hb5 (fun e => e)
  have os5 := own_kept_but H4.out.2.2.1 hb5 (fun _ _ e => e)
  have M5S := Lib.hid (M4S.out.but hb5 (fun _ _ _ _ _ _ e => e))
  have B5 := Lib.hid (B4.out.trans (hb5.below H4.out.2.2.2.2.2 (fun _ e => e.elim)))
  have H5 := Lib.hid (And.intro bk5 (And.intro os5 (And.intro H4.out.2.2.2.2.1 (Nat.le_trans H4.out.2.2.2.2.2 hb5.size))))
  have K5b := Lib.hid bk5
  clear hb5 bk5 os5 H4 B4 M4 M4S K4b
  go_wp2_with fail
  refine (nil_same (lookInt_nil K5b.out)).mono ?_
  rintro e _ ⟨rfl, rfl⟩
  go_wp2_with fail
  refine (nil_same (lookText_nil K5b.out)).mono ?_
  rintro e _ ⟨rfl, rfl⟩
  go_wp2_with fail
  refine (nil_same (lookByteList_nil K5b.out)).mono ?_
  rintro e _ ⟨rfl, rfl⟩
  go_wp2_with fail
  refine (lookSum_any kb N base K2 bs ss hs2 w5 H5.out.1 H5.out.2.1 M5S.out H5.out.2.2.1).mono ?_
  rintro e w6 ⟨rfl, hb6⟩
  have bk6 := H5.out.1.but hb6 (fun e => e)
  have B6 := Lib.hid (B5.out.trans (hb6.below H5.out.2.2.2 (fun _ e => e.elim)))
  have K6b := Lib.hid bk6
  clear hb6 bk6 H5 B5 M5S K5b
  go_wp2_with fail
  refine (nil_same (lookPair_nil K6b.out)).mono ?_
  rintro e _ ⟨rfl, rfl⟩
  go_wp2_with fail
  refine (nil_same (lookTenant_nil K6b.out)).mono ?_
  rintro e _ ⟨rfl, rfl⟩
  go_wp2_with fail
  refine (nil_same (lookLease_nil K6b.out)).mono ?_
  rintro e _ ⟨rfl, rfl⟩
  go_wp2_with fail
  refine (nil_same (lookEvent_nil K6b.out)).mono ?_
  rintro e _ ⟨rfl, rfl⟩
  go_wp2
  go_ret
  exact ⟨rfl, B6.out⟩

end Go.Proofs.YtnaebjdccngeoaaGreatDoor

/-
  The Book of the statements: lists of sums.
-/
namespace Go.Proofs.YtnaebjdccngeoaaGreatDoor
open Go.RowKit

theorem infoHeldSum : (Tryz.prog.info? 142).map (fun i => (i.zero, i.size, i.bytes)) = some (some (.agg #[.slice none 0 0, .slice none 0 0, .int .i64 0]), 3, 56) := by kernel_rfl

set_option maxRecDepth 100000 in
set_option maxHeartbeats 1000000 in
theorem keepSum_at (kb N base k : Nat) (bs ss : Value) (es : List Value) (A : Option Addr) (n c : Nat) (w : World) (hbk : BookAt w kb N bs ss) (hbase : base ≤ w.heap.size)
    (hown : w.ownsRow base 142 3 ss k es) (hN : N ≤ 1000000) (hk : k ≤ 1000000) :
    Calls Tryz.prog 68 #[.pointer (some ⟨kb, 0, none⟩), .slice A n c] w fun e w' => e = .returned (.tuple #[]) ∧
      (∃ ss', BookAt w' kb (N + 1) bs ss' ∧ w'.ownsRow base 142 3 ss' (k + 1) (es ++ [.slice A n c, .slice none 0 0, .int .i64 ((N + 1 : Nat) : Int)]) ∧ ∀ b, ss'.ownBlock = some b → ss.ownBlock = some b ∨ w.heap.size ≤ b) ∧ But (fun b => b = kb ∨ ss.ownBlock = some b) w w' := by
  obtain ⟨i0, hi0, hz0, hz1, hz2⟩ := info_parts infoHeldSum
  have h0 := hbk.n
  have h1 := hbk.s
  have f0 := hbk.fz 0
  have f1 := hbk.fz 5
  go_enter Tryz.func68, Tryz.ntmps68
  go_wp2_with fail
  have hbk1 := hbk.setN (N + 1)
  have hown1 := hown.kept (grown_set w kb 0 (.int .i64 ((N + 1 : Nat) : Int))) (.inr (hbk.other (by decide) hown))
  have hB1 : But (fun b => b = kb ∨ ss.ownBlock = some b) w (w.setCell ⟨kb, 0, none⟩ (.int .i64 ((N + 1 : Nat) : Int))) := (But.refl _ w).set 0 _ (fun _ => .inl rfl)
  have hbase1 : base ≤ (w.setCell ⟨kb, 0, none⟩ (.int .i64 ((N + 1 : Nat) : Int))).heap.size := by simpa [World.setCell] using hbase
  have hsz1 : w.heap.size ≤ (w.setCell ⟨kb, 0, none⟩ (.int .i64 ((N + 1 : Nat) : Int))).heap.size := by simp [World.setCell]
  rw [show ((N + 1 : Nat) : Int) = (N : Int) + 1 by omega] at hbk1 hown1 hbase1 hB1 hsz1
  generalize w.setCell ⟨kb, 0, none⟩ (.int .i64 ((N : Int) + 1)) = w1 at *
  clear h0 h1 f0 f1 hbk hown hbase
  have h0 := hbk1.n
  have h1 := hbk1.s
  rw [show ((N + 1 : Nat) : Int) = (N : Int) + 1 by omega] at h0
  have lk := hbk1.lt
  have ag := hbk1.other (by decide) hown1
  go_region_law
    ((refine step_append_lies _ (by rfl) _ _ _ (by rfl) base 142 i0 _ 3 56 Tryz.underlying31 hi0 hz0 hz1 hz2 rfl (by omega) ss k es (by rfl) ((hown1.alloc _).drew)
        ⟨w1.heap.size, 0, none⟩ 1 1 [.slice A n c, .slice none 0 0, .int .i64 ((N : Int) + 1)] (by rfl) (by rfl) (World.news_of_block (cs := #[.slice A n c, .slice none 0 0, .int .i64 ((N : Int) + 1)]) (t := 142) (fr := (0, 0)) (heap_alloc_new w1 _)) (by simp [Value.oneCell'])
        (by omega) (by unfold maxLen; omega) (by omega) (by simp; omega) (w1.heap.size + 1) (by simp) ?_; intro gg cap w2 hown2 hgrow hat hlt; have hbk2 := BookAt.grown (hbk1.below (below_alloc w1 (.cells #[.slice A n c, .slice none 0 0, .int .i64 ((N : Int) + 1)] 142)).drew) hgrow ag; have hc2 := hbk2.s; have hf2 := hbk2.fz 5))
  all_goals
    have hown3 := hown2.kept (grown_set w2 kb 5 (.slice (some ⟨gg, 0, none⟩) (k + 1) cap)) (.inr (hbk2.other (by decide) hown2))
    have hB3 : But (fun b => b = kb ∨ ss.ownBlock = some b) w (w2.setCell ⟨kb, 5, none⟩ (.slice (some ⟨gg, 0, none⟩) (k + 1) cap)) :=
      (((hB1.alloc _).drew).grown hgrow (fun _ e _ => .inr e)).set 5 _ (fun _ => .inl rfl)
    go_end0
    exact ⟨rfl, ⟨_, hbk2.setS _, hown3, fun b hb => by
      have e : gg = b := by injection hb
      rcases hat with h | h
      · exact .inl (e ▸ h)
      · right; omega⟩, hB3⟩

theorem keepSum_any (kb N base k : Nat) (bs ss : Value) (es : List Value) (A : Option Addr) (n c : Nat) (w : World) (hbk : BookAt w kb N bs ss) (hbase : base ≤ w.heap.size)
    (hown : w.ownsRow base 142 3 ss k es) (hN : N ≤ 1000000) (hk : k ≤ 1000000) :
    Calls Tryz.prog 68 #[.pointer (some ⟨kb, 0, none⟩), .slice A n c] w fun e w' => e = .returned (.tuple #[]) ∧
      (∃ ss', BookAt w' kb (N + 1) bs ss' ∧ w'.ownsRow base 142 3 ss' (k + 1) (es ++ [.slice A n c, .slice none 0 0, .int .i64 ((N + 1 : Nat) : Int)])) ∧ But (fun b => b = kb ∨ ss.ownBlock = some b) w w' :=
  (keepSum_at kb N base k bs ss es A n c w hbk hbase hown hN hk).mono fun _ _ ⟨h1, ⟨ss', h2, h3, _⟩, h4⟩ => ⟨h1, ⟨ss', h2, h3⟩, h4⟩

set_option maxRecDepth 100000 in
set_option maxHeartbeats 400000 in
theorem bookSums_at (kb N base k : Nat) (bs ss : Value) (es : List Value) (A : Option Addr) (n c : Nat) (w : World) (hbk : BookAt w kb N bs ss) (hbase : base ≤ w.heap.size)
    (hown : w.ownsRow base 142 3 ss k es) (hN : N ≤ 1000000) (hk : k ≤ 1000000) :
    Calls Tryz.prog 23 #[.pointer (some ⟨kb, 0, none⟩), .slice A n c] w fun e w' => e = .returned (.tuple #[]) ∧
      (∃ ss', BookAt w' kb (N + 1) bs ss' ∧ w'.ownsRow base 142 3 ss' (k + 1) (es ++ [.slice A n c, .slice none 0 0, .int .i64 ((N + 1 : Nat) : Int)]) ∧ ∀ b, ss'.ownBlock = some b → ss.ownBlock = some b ∨ w.heap.size ≤ b) ∧ But (fun b => b = kb ∨ ss.ownBlock = some b) w w' := by
  go_enter Tryz.func23, Tryz.ntmps23
  go_wp2_with fail
  refine (keepSum_at kb N base k bs ss es A n c w hbk hbase hown hN hk).mono ?_
  rintro e w1 ⟨rfl, h1, h2⟩
  go_wp2_with fail
  go_end0
  exact ⟨rfl, h1, h2⟩

theorem bookSums_any (kb N base k : Nat) (bs ss : Value) (es : List Value) (A : Option Addr) (n c : Nat) (w : World) (hbk : BookAt w kb N bs ss) (hbase : base ≤ w.heap.size)
    (hown : w.ownsRow base 142 3 ss k es) (hN : N ≤ 1000000) (hk : k ≤ 1000000) :
    Calls Tryz.prog 23 #[.pointer (some ⟨kb, 0, none⟩), .slice A n c] w fun e w' => e = .returned (.tuple #[]) ∧
      (∃ ss', BookAt w' kb (N + 1) bs ss' ∧ w'.ownsRow base 142 3 ss' (k + 1) (es ++ [.slice A n c, .slice none 0 0, .int .i64 ((N + 1 : Nat) : Int)])) ∧ But (fun b => b = kb ∨ ss.ownBlock = some b) w w' :=
  (bookSums_at kb N base k bs ss es A n c w hbk hbase hown hN hk).mono fun _ _ ⟨h1, ⟨ss', h2, h3, _⟩, h4⟩ => ⟨h1, ⟨ss', h2, h3⟩, h4⟩

end Go.Proofs.YtnaebjdccngeoaaGreatDoor

/-
  The Book of the statements: which lists it keeps.
-/
namespace Go.Proofs.YtnaebjdccngeoaaGreatDoor
open Go.RowKit

set_option maxRecDepth 100000 in
set_option maxHeartbeats 1000000 in
theorem keepByte_at (kb N base k : Nat) (bs ss : Value) (es : List Value) (A : Option Addr) (n c : Nat) (w : World) (hbk : BookAt w kb N bs ss) (hbase : base ≤ w.heap.size)
    (hown : w.ownsRow base 131 3 bs k es) (hN : N ≤ 1000000) (hk : k ≤ 1000000) :
    Calls Tryz.prog 52 #[.pointer (some ⟨kb, 0, none⟩), .slice A n c] w fun e w' => e = .returned (.tuple #[]) ∧
      (∃ bs', BookAt w' kb (N + 1) bs' ss ∧ w'.ownsRow base 131 3 bs' (k + 1) (es ++ [.slice A n c, .slice none 0 0, .int .i64 ((N + 1 : Nat) : Int)]) ∧ ∀ b, bs'.ownBlock = some b → bs.ownBlock = some b ∨ w.heap.size ≤ b) ∧ But (fun b => b = kb ∨ bs.ownBlock = some b) w w' := by
  obtain ⟨i0, hi0, hz0, hz1, hz2⟩ := info_parts infoHeldByte
  have h0 := hbk.n
  have h1 := hbk.b
  have f0 := hbk.fz 0
  have f1 := hbk.fz 1
  go_enter Tryz.func52, Tryz.ntmps52
  go_wp2_with fail
  have hbk1 := hbk.setN (N + 1)
  have hown1 := hown.kept (grown_set w kb 0 (.int .i64 ((N + 1 : Nat) : Int))) (.inr (hbk.other (by decide) hown))
  have hB1 : But (fun b => b = kb ∨ bs.ownBlock = some b) w (w.setCell ⟨kb, 0, none⟩ (.int .i64 ((N + 1 : Nat) : Int))) := (But.refl _ w).set 0 _ (fun _ => .inl rfl)
  have hbase1 : base ≤ (w.setCell ⟨kb, 0, none⟩ (.int .i64 ((N + 1 : Nat) : Int))).heap.size := by simpa [World.setCell] using hbase
  have hsz1 : w.heap.size ≤ (w.setCell ⟨kb, 0, none⟩ (.int .i64 ((N + 1 : Nat) : Int))).heap.size := by simp [World.setCell]
  rw [show ((N + 1 : Nat) : Int) = (N : Int) + 1 by omega] at hbk1 hown1 hbase1 hB1 hsz1
  generalize w.setCell ⟨kb, 0, none⟩ (.int .i64 ((N : Int) + 1)) = w1 at *
  clear h0 h1 f0 f1 hbk hown hbase
  have h0 := hbk1.n
  have h1 := hbk1.b
  rw [show ((N + 1 : Nat) : Int) = (N : Int) + 1 by omega] at h0
  have lk := hbk1.lt
  have ag := hbk1.other (by decide) hown1
  go_region_law
    ((refine step_append_lies _ (by rfl) _ _ _ (by rfl) base 131 i0 _ 3 56 Tryz.underlying27 hi0 hz0 hz1 hz2 rfl (by omega) bs k es (by rfl) ((hown1.alloc _).drew)
        ⟨w1.heap.size, 0, none⟩ 1 1 [.slice A n c, .slice none 0 0, .int .i64 ((N : Int) + 1)] (by rfl) (by rfl) (World.news_of_block (cs := #[.slice A n c, .slice none 0 0, .int .i64 ((N : Int) + 1)]) (t := 131) (fr := (0, 0)) (heap_alloc_new w1 _)) (by simp [Value.oneCell'])
        (by omega) (by unfold maxLen; omega) (by omega) (by simp; omega) (w1.heap.size + 1) (by simp) ?_; intro gg cap w2 hown2 hgrow hat hlt; have hbk2 := BookAt.grown (hbk1.below (below_alloc w1 (.cells #[.slice A n c, .slice none 0 0, .int .i64 ((N : Int) + 1)] 131)).drew) hgrow ag; have hc2 := hbk2.b; have hf2 := hbk2.fz 1))
  all_goals
    have hown3 := hown2.kept (grown_set w2 kb 1 (.slice (some ⟨gg, 0, none⟩) (k + 1) cap)) (.inr (hbk2.other (by decide) hown2))
    have hB3 : But (fun b => b = kb ∨ bs.ownBlock = some b) w (w2.setCell ⟨kb, 1, none⟩ (.slice (some ⟨gg, 0, none⟩) (k + 1) cap)) :=
      (((hB1.alloc _).drew).grown hgrow (fun _ e _ => .inr e)).set 1 _ (fun _ => .inl rfl)
    go_end0
    exact ⟨rfl, ⟨_, hbk2.setB _, hown3, fun b hb => by
      have e : gg = b := by injection hb
      rcases hat with h | h
      · exact .inl (e ▸ h)
      · right; omega⟩, hB3⟩

theorem keepByte_any (kb N base k : Nat) (bs ss : Value) (es : List Value) (A : Option Addr) (n c : Nat) (w : World) (hbk : BookAt w kb N bs ss) (hbase : base ≤ w.heap.size)
    (hown : w.ownsRow base 131 3 bs k es) (hN : N ≤ 1000000) (hk : k ≤ 1000000) :
    Calls Tryz.prog 52 #[.pointer (some ⟨kb, 0, none⟩), .slice A n c] w fun e w' => e = .returned (.tuple #[]) ∧
      (∃ bs', BookAt w' kb (N + 1) bs' ss ∧ w'.ownsRow base 131 3 bs' (k + 1) (es ++ [.slice A n c, .slice none 0 0, .int .i64 ((N + 1 : Nat) : Int)])) ∧ But (fun b => b = kb ∨ bs.ownBlock = some b) w w' :=
  (keepByte_at kb N base k bs ss es A n c w hbk hbase hown hN hk).mono fun _ _ ⟨h1, ⟨bs', h2, h3, _⟩, h4⟩ => ⟨h1, ⟨bs', h2, h3⟩, h4⟩

set_option maxRecDepth 100000 in
set_option maxHeartbeats 400000 in
theorem bookBytes_at (kb N base k : Nat) (bs ss : Value) (es : List Value) (A : Option Addr) (n c : Nat) (w : World) (hbk : BookAt w kb N bs ss) (hbase : base ≤ w.heap.size)
    (hown : w.ownsRow base 131 3 bs k es) (hN : N ≤ 1000000) (hk : k ≤ 1000000) :
    Calls Tryz.prog 10 #[.pointer (some ⟨kb, 0, none⟩), .slice A n c] w fun e w' => e = .returned (.tuple #[]) ∧
      (∃ bs', BookAt w' kb (N + 1) bs' ss ∧ w'.ownsRow base 131 3 bs' (k + 1) (es ++ [.slice A n c, .slice none 0 0, .int .i64 ((N + 1 : Nat) : Int)]) ∧ ∀ b, bs'.ownBlock = some b → bs.ownBlock = some b ∨ w.heap.size ≤ b) ∧ But (fun b => b = kb ∨ bs.ownBlock = some b) w w' := by
  go_enter Tryz.func10, Tryz.ntmps10
  go_wp2_with fail
  refine (keepByte_at kb N base k bs ss es A n c w hbk hbase hown hN hk).mono ?_
  rintro e w1 ⟨rfl, h1, h2⟩
  go_wp2_with fail
  go_end0
  exact ⟨rfl, h1, h2⟩

theorem bookBytes_any (kb N base k : Nat) (bs ss : Value) (es : List Value) (A : Option Addr) (n c : Nat) (w : World) (hbk : BookAt w kb N bs ss) (hbase : base ≤ w.heap.size)
    (hown : w.ownsRow base 131 3 bs k es) (hN : N ≤ 1000000) (hk : k ≤ 1000000) :
    Calls Tryz.prog 10 #[.pointer (some ⟨kb, 0, none⟩), .slice A n c] w fun e w' => e = .returned (.tuple #[]) ∧
      (∃ bs', BookAt w' kb (N + 1) bs' ss ∧ w'.ownsRow base 131 3 bs' (k + 1) (es ++ [.slice A n c, .slice none 0 0, .int .i64 ((N + 1 : Nat) : Int)])) ∧ But (fun b => b = kb ∨ bs.ownBlock = some b) w w' :=
  (bookBytes_at kb N base k bs ss es A n c w hbk hbase hown hN hk).mono fun _ _ ⟨h1, ⟨bs', h2, h3, _⟩, h4⟩ => ⟨h1, ⟨bs', h2, h3⟩, h4⟩

end Go.Proofs.YtnaebjdccngeoaaGreatDoor

/-
  A chain that grows, a row of rows, and a Book of both kinds of lists.
-/
namespace Go.Proofs.YtnaebjdccngeoaaGreatDoor
open Go.RowKit Go.Deep

/-- A row of slices of the call's own gets one more: only that row's block changes. -/
theorem hstep_rapp {ops : Array Oper} {o : Oper} {a : Act} {w : World} {K : Act → World → Prop} {Q : Exit → Act → World → Prop} {E : Prop} (hgd : o.guard = none) (s x : Operand)
    (ho : o.op = .call { callee := .builtin .append, args := #[s, x], argTypes := #[22, 22] })
    (base : Nat) (A : Option Addr) (n c : Nat) (X : List Value) (hs : a.eval s = .slice A n c) (hown : w.ownsRow base 38 1 (.slice A n c) n X)
    (ad : Addr) (c2 : Nat) (y : Value) (hx : a.eval x = .slice (some ad) 1 c2) (hin : w.cell? ad = some y) (h1 : y.oneCell' = true) (hle : n + 1 ≤ 1000000) (hbase : base ≤ w.heap.size)
    (h : ∀ A' c' w', w'.ownsRow base 38 1 (.slice A' (n + 1) c') (n + 1) (X ++ [y]) → Next w w' (.slice A n c) (.slice A' (n + 1) c') → K (a.put o.dst (.slice A' (n + 1) c')) w') :
    if Region.wanted o (yielded ops a.tmps) = true then Oper.wp Tryz.prog o a w K Q else E := by
  have hw : Region.wanted o (yielded ops a.tmps) = true := by simp [Region.wanted, hgd]
  rw [if_pos hw]
  obtain ⟨i0, hi, hz0, hz1, hz2⟩ := info_parts infoSlc
  obtain ⟨v', w', hr, h2, h3, _, h5⟩ := run_append_own_at (P := Tryz.prog) w base 22 o.type 38 i0 _ 1 24 Tryz.underlying22 hi hz0 hz1 hz2 rfl (by decide) _ n X hown ad 1 c2 [y] rfl
      (fun j u hu => by
        cases j with
        | zero => cases hu; simpa [Addr.add] using hin
        | succ j => simp at hu) (fun u hu => by rw [List.mem_singleton.1 hu]; exact h1) (by unfold maxLen; omega) (by omega) hbase
  have hf : ∃ A c, v' = .slice A (n + 1) c := by
    rcases h2.2 with ⟨rfl, e⟩ | ⟨g, cap, cur, rfl, _⟩
    · omega
    · exact ⟨_, _, rfl⟩
  obtain ⟨A', c', rfl⟩ := hf
  unfold Oper.wp execOp
  simp only [ho, resolve, invoke, builtin, Sem.run_bind, Sem.run_pure, Result.andThen_ok, List.map_toArray, List.map_cons, List.map_nil, hs, hx, hr]
  exact h A' c' w' h2 ⟨h3, h5⟩

theorem held_snoc {l : List Held} {x y : Held} {i : Nat} (h : (l ++ [x])[i]? = some y) : (l[i]? = some y ∧ i < l.length) ∨ (i = l.length ∧ y = x) := by
  by_cases hi : i < l.length
  · rw [List.getElem?_append_left hi] at h; exact .inl ⟨h, hi⟩
  · rw [List.getElem?_append_right (by omega)] at h
    have : i - l.length = 0 := by
      have := (List.getElem?_eq_some_iff.1 h).1
      simp at this
      omega
    rw [this] at h
    simp at h
    exact .inr ⟨by omega, h.symm⟩
theorem inLists_snoc {l : List Held} {x : Held} {b : Nat} (h : inLists (l ++ [x]) b) : inLists l b ∨ x.v.ownBlock = some b := by
  obtain ⟨i, k, hk, hb⟩ := h
  rcases held_snoc hk with ⟨h, _⟩ | ⟨_, rfl⟩
  · exact .inl ⟨i, k, h, hb⟩
  · exact .inr hb

structure PlayM (w W : World) (g kb : Nat) (G : Nat → Prop) (l : List (List Nat)) (bs ss : Value) (h1 h2 : List Held) : Prop where
  chain : Chain W g G l
  kept : Kept2 W w.heap.size kb (h1.length + h2.length) bs ss h1.length h2.length h1 h2
  bel : Below w.heap.size w W
  new : ∀ x, G x → w.heap.size ≤ x
  off : ∀ x, G x → x ≠ kb ∧ bs.ownBlock ≠ some x ∧ ss.ownBlock ≠ some x ∧ ¬ inLists h1 x ∧ ¬ inLists h2 x
/-- The row of those that were taken. -/
structure RowM (w W : World) (G : Nat → Prop) (A : Option Addr) (n c : Nat) (Y : List Value) (r : List (List Nat)) : Prop where
  own : W.ownsRow w.heap.size 38 1 (.slice A n c) n Y
  is_ : RowsIs w Y r
  off : ∀ x, G x → (Value.slice A n c).ownBlock ≠ some x

section
variable {w W W' : World} {g kb : Nat} {G : Nat → Prop} {l l' : List (List Nat)} {bs ss : Value} {h1 h2 : List Held} {rA : Option Addr} {rn rc : Nat} {Y : List Value} {r : List (List Nat)}

theorem lists_lt {base : Nat} (h : Lists W base h1) : ∀ b, inLists h1 b → b < W.heap.size := by
  rintro b ⟨i, k, hk, hb⟩
  obtain ⟨xs, hx⟩ := h.own i k hk
  exact (hx.lt b hb).2
theorem listsS_lt {base : Nat} (h : ListsS W base h1) : ∀ b, inLists h1 b → b < W.heap.size := by
  rintro b ⟨i, k, hk, hb⟩
  obtain ⟨xs, hx⟩ := h.own i k hk
  exact (hx.lt b hb).2

theorem play_start {w1 : World} (hb : Below w.heap.size w w1) (hc : Chain w1 g G []) (hG : ∀ x, G x → w.heap.size ≤ x) :
    PlayM w (w1.alloc (.cells #[.int .i64 0, .slice none 0 0, .slice none 0 0, .slice none 0 0, .slice none 0 0, .slice none 0 0, .slice none 0 0, .slice none 0 0, .slice none 0 0, .slice none 0 0] 37)) g w1.heap.size G [] (.slice none 0 0) (.slice none 0 0) [] [] := by
  have b2 := below_alloc w1 (.cells #[.int .i64 0, .slice none 0 0, .slice none 0 0, .slice none 0 0, .slice none 0 0, .slice none 0 0, .slice none 0 0, .slice none 0 0, .slice none 0 0, .slice none 0 0] 37)
  have b02 := below_on hb (Nat.le_refl _) b2
  refine ⟨hc.below b2, ⟨World.alloc_heap_new w1 _, own_none _ _ _ _, own_none _ _ _ _, ⟨fun i k hk => by simp at hk, fun i j h1 h2 hi => by simp at hi⟩, ⟨fun i k hk => by simp at hk, fun i j h1 h2 hi => by simp at hi⟩, by simp, by simp, fun i k hk => by simp at hk, fun i k hk => by simp at hk, hb.size, b02.size⟩, b02, hG, fun x hx => ⟨?_, by simp [Value.ownBlock], by simp [Value.ownBlock], ?_, ?_⟩⟩
  · have := hc.2 x hx; omega
  · rintro ⟨i, k, hk, _⟩; simp at hk
  · rintro ⟨i, k, hk, _⟩; simp at hk
theorem row_start : RowM w W G none 0 0 [] [] := ⟨own_none _ _ _ _, rowsIs_nil w, fun x _ => by simp [Value.ownBlock]⟩

theorem PlayM.below (h : PlayM w W g kb G l bs ss h1 h2) (hb : Below W.heap.size W W') : PlayM w W' g kb G l bs ss h1 h2 :=
  ⟨h.chain.below hb, h.kept.below hb, below_on h.bel (Nat.le_refl _) hb, h.new, h.off⟩
theorem RowM.below (h : RowM w W G rA rn rc Y r) (hb : Below W.heap.size W W') : RowM w W' G rA rn rc Y r := ⟨own_on h.own hb, h.is_, h.off⟩

/-- A call of the chain that takes one more. -/
theorem PlayM.grew (h : PlayM w W g kb G l bs ss h1 h2) (hg : Grew W g G l' W') : ∃ G', PlayM w W' g kb G' l' bs ss h1 h2 ∧ (∀ x, G' x → G x ∨ W.heap.size ≤ x) ∧ But G W W' := by
  obtain ⟨G', hc, hb, hG⟩ := hg
  have kl := h.kept.book.lt
  refine ⟨G', ⟨hc, ?_, h.bel.trans (hb.below h.bel.size h.new), fun x hx => ?_, fun x hx => ?_⟩, hG, hb⟩
  · exact h.kept.but hb (fun e => (h.off _ e).1 rfl) (fun b e1 e2 => (h.off b e2).2.1 e1) (fun b e1 e2 => (h.off b e2).2.2.1 e1)
      (h.kept.lists1.but hb fun b hin hx => (h.off b hx).2.2.2.1 hin) (h.kept.lists2.but hb fun b hin hx => (h.off b hx).2.2.2.2 hin)
  · rcases hG x hx with e | e
    · exact h.new x e
    · exact Nat.le_trans h.bel.size e
  · rcases hG x hx with e | e
    · exact h.off x e
    · exact ⟨by omega, fun e1 => by have := (h.kept.own1.lt x e1).2; omega, fun e1 => by have := (h.kept.own2.lt x e1).2; omega,
        fun hin => by have := lists_lt h.kept.lists1 x hin; omega, fun hin => by have := listsS_lt h.kept.lists2 x hin; omega⟩
theorem RowM.grew {G' : Nat → Prop} (h : RowM w W G rA rn rc Y r) (hG : ∀ x, G' x → G x ∨ W.heap.size ≤ x) (hb : But G W W') : RowM w W' G' rA rn rc Y r :=
  ⟨own_kept_but h.own hb (fun b e1 e2 => h.off b e2 e1), h.is_, fun x hx e => by
    rcases hG x hx with e1 | e1
    · exact h.off x e1 e
    · have := (h.own.lt x e).2; omega⟩

/-- One more in the row. -/
theorem PlayM.row (h : PlayM w W g kb G l bs ss h1 h2) (hr : RowM w W G rA rn rc Y r) {A' : Option Addr} {n' c' : Nat} (hn : Next W W' (.slice rA rn rc) (.slice A' n' c')) : PlayM w W' g kb G l bs ss h1 h2 := by
  have hb : But (fun b => (Value.slice rA rn rc).ownBlock = some b) W W' := (But.of_below (Below.refl W.heap.size W)).grown hn.grown (fun k e _ => e)
  refine ⟨h.chain.but hb (fun x hx e => hr.off x hx e), ?_, h.bel.trans (hb.below h.bel.size fun b e => (hr.own.lt b e).1), h.new, h.off⟩
  exact h.kept.but hb (fun e => h.kept.book.other (by decide) hr.own e) (fun b e1 e2 => not_row (by decide) h.kept.own1 hr.own b e1 e2) (fun b e1 e2 => not_row (by decide) h.kept.own2 hr.own b e1 e2)
    (h.kept.lists1.but hb fun b hin e => not_in h.kept.lists1 (by decide) hr.own b e hin) (h.kept.lists2.but hb fun b hin e => not_inS h.kept.lists2 (by decide) hr.own b e hin)
theorem RowM.more (h : PlayM w W g kb G l bs ss h1 h2) (hr : RowM w W G rA rn rc Y r) {A' : Option Addr} {c' : Nat} (hn : Next W W' (.slice rA rn rc) (.slice A' (rn + 1) c')) {B : Option Addr} {m d : Nat} {b : List Nat}
    (ho : W'.ownsRow w.heap.size 38 1 (.slice A' (rn + 1) c') (rn + 1) (Y ++ [.slice B m d])) (hc : Came w B m d b) (hm : m ≤ 140737488355328) : RowM w W' G A' (rn + 1) c' (Y ++ [.slice B m d]) (r ++ [b]) :=
  ⟨ho, hr.is_.append (rowsIs_one hc hm), fun x hx e => by
    rcases hn.at_ with e1 | e1
    · rw [e] at e1; exact hr.off x hx e1.symm
    · rw [e] at e1; cases e1; have := h.chain.2 _ hx; omega⟩

/-- One more list of bytes in the Book. -/
theorem play_bytes (h : PlayM w W g kb G l bs ss h1 h2) {A : Option Addr} {n c : Nat} {xs : List Value} (hx : W.ownsRow w.heap.size 5 1 (.slice A n c) n xs)
    (hoG : ∀ b, (Value.slice A n c).ownBlock = some b → ¬ G b) (hoL : ∀ b, (Value.slice A n c).ownBlock = some b → ¬ inLists h1 b) (hn : n ≤ 1000000000) (hj : h1.length + h2.length < 1000) :
    Calls Tryz.prog 10 #[.pointer (some ⟨kb, 0, none⟩), .slice A n c] W fun e W' => e = .returned (.tuple #[]) ∧
      ∃ bs' hs', PlayM w W' g kb G l bs' ss hs' h2 ∧ But (fun b => b = kb ∨ bs.ownBlock = some b) W W' ∧ hs'.length = h1.length + 1 ∧ ∀ b, inLists hs' b → inLists h1 b ∨ (Value.slice A n c).ownBlock = some b := by
  refine (bookBytes_at kb (h1.length + h2.length) w.heap.size h1.length bs ss (heldCells h1) A n c W h.kept.book h.kept.base h.kept.own1 (by omega) (by omega)).mono ?_
  rintro e W' ⟨he, ⟨bs', hbk, hown, hat⟩, hb⟩
  obtain ⟨k0, hk0⟩ : ∃ k0 : Held, k0 = ⟨A, n, c, none, 0, 0, h1.length + h2.length + 1⟩ := ⟨_, rfl⟩
  have hv : k0.v = .slice A n c := by rw [hk0]; rfl
  have keepX : W'.ownsRow w.heap.size 5 1 (.slice A n c) n xs := own_kept_but hx hb (fun b e1 e2 => by
    rcases e2 with e2 | e2
    · subst e2; exact h.kept.book.other (by decide) hx e1
    · exact not_row (by decide) hx h.kept.own1 b e1 e2)
  have l1 := h.kept.lists1.but hb fun b hin e => by
    rcases e with e | e
    · subst e; exact book_not_in h.kept.lists1 h.kept.book hin
    · exact not_in h.kept.lists1 (by decide) h.kept.own1 b e hin
  have l2 := h.kept.lists2.but hb fun b hin e => by
    rcases e with e | e
    · subst e; exact book_not_inS h.kept.lists2 h.kept.book hin
    · exact not_inS h.kept.lists2 (by decide) h.kept.own1 b e hin
  have oo := own_kept_but h.kept.own2 hb (fun b e1 e2 => by
    rcases e2 with e2 | e2
    · subst e2; exact h.kept.book.other (by decide) h.kept.own2 e1
    · exact not_row (by decide) h.kept.own2 h.kept.own1 b e1 e2)
  have ls : Lists W' w.heap.size (h1 ++ [k0]) := by
    refine ⟨fun i k hk => ?_, fun i i' k k' hk hk' hne => ?_⟩
    · rcases held_snoc hk with ⟨h, _⟩ | ⟨_, rfl⟩
      · exact l1.own i k h
      · refine ⟨xs, ?_⟩
        rw [hv, show k.len = n by rw [hk0]]
        exact keepX
    · rcases held_snoc hk with ⟨a1, b1⟩ | ⟨e1, rfl⟩
      · rcases held_snoc hk' with ⟨a2, b2⟩ | ⟨e2, rfl⟩
        · exact l1.apart i i' k k' a1 a2 hne
        · cases hkb : k.v.ownBlock with
          | none => exact .inl rfl
          | some b => exact .inr fun e2 => hoL b (by rw [← hv]; exact e2.symm) ⟨i, k, a1, hkb⟩
      · rcases held_snoc hk' with ⟨a2, b2⟩ | ⟨e2, rfl⟩
        · cases hkb : k.v.ownBlock with
          | none => exact .inl rfl
          | some b => exact .inr fun e2 => hoL b (by rw [← hv]; exact hkb) ⟨i', k', a2, e2.symm⟩
        · omega
  have ln : ∀ (i : Nat) (k : Held), (h1 ++ [k0])[i]? = some k → k.len ≤ 1000000000 := fun i k hk => by
    rcases held_snoc hk with ⟨a1, _⟩ | ⟨_, rfl⟩
    · exact h.kept.len1 i k a1
    · rw [hk0]; exact hn
  have hl : (h1 ++ [k0]).length = h1.length + 1 := by simp
  have hc2 : heldCells (h1 ++ [k0]) = heldCells h1 ++ [.slice A n c, .slice none 0 0, .int .i64 ((h1.length + h2.length + 1 : Nat) : Int)] := by
    rw [heldCells_append, hk0]; rfl
  refine ⟨he, bs', h1 ++ [k0], ⟨?_, ?_, ?_, h.new, fun x hx => ?_⟩, hb, hl, fun b hb => ?_⟩
  · refine h.chain.but hb (fun x hx e => ?_)
    rcases e with e | e
    · exact (h.off x hx).1 e
    · exact (h.off x hx).2.1 e
  · rw [hl]
    refine ⟨?_, (by rw [hc2]; exact hown), oo, ls, l2, by omega, h.kept.le2, ln, h.kept.len2, h.kept.kb, Nat.le_trans h.kept.base hb.size⟩
    rw [show h1.length + 1 + h2.length = h1.length + h2.length + 1 by omega]
    exact hbk
  · exact h.bel.trans (hb.below h.bel.size fun b e => by
      rcases e with e | e
      · rw [e]; exact h.kept.kb
      · exact (h.kept.own1.lt b e).1)
  · obtain ⟨o1, o2, o3, o4, o5⟩ := h.off x hx
    have xl := h.chain.2 x hx
    refine ⟨o1, (fun e => by rcases hat x e with e | e; exact o2 e; omega), o3, (fun e => by rcases inLists_snoc e with e | e; exact o4 e; exact hoG x (by rw [← hv]; exact e) hx), o5⟩
  · rcases inLists_snoc hb with e | e
    · exact .inl e
    · exact .inr (by rw [← hv]; exact e)
theorem RowM.bytes (hr : RowM w W G rA rn rc Y r) (h : PlayM w W g kb G l bs ss h1 h2) (hb : But (fun b => b = kb ∨ bs.ownBlock = some b) W W') : RowM w W' G rA rn rc Y r :=
  ⟨own_kept_but hr.own hb (fun b e1 e2 => by
    rcases e2 with e2 | e2
    · subst e2; exact h.kept.book.other (by decide) hr.own e1
    · exact not_row (by decide) hr.own h.kept.own1 b e1 e2), hr.is_, hr.off⟩

/-- One more list of sums in the Book. -/
theorem play_sums (h : PlayM w W g kb G l bs ss h1 h2) {A : Option Addr} {n c : Nat} {xs : List Value} (hx : W.ownsRow w.heap.size 50 32 (.slice A n c) n xs)
    (hoG : ∀ b, (Value.slice A n c).ownBlock = some b → ¬ G b) (hoL : ∀ b, (Value.slice A n c).ownBlock = some b → ¬ inLists h2 b) (hn : n ≤ 1000000000) (hj : h1.length + h2.length < 1000) :
    Calls Tryz.prog 23 #[.pointer (some ⟨kb, 0, none⟩), .slice A n c] W fun e W' => e = .returned (.tuple #[]) ∧
      ∃ ss' hs', PlayM w W' g kb G l bs ss' h1 hs' ∧ But (fun b => b = kb ∨ ss.ownBlock = some b) W W' ∧ hs'.length = h2.length + 1 ∧ ∀ b, inLists hs' b → inLists h2 b ∨ (Value.slice A n c).ownBlock = some b := by
  refine (bookSums_at kb (h1.length + h2.length) w.heap.size h2.length bs ss (heldCells h2) A n c W h.kept.book h.kept.base h.kept.own2 (by omega) (by omega)).mono ?_
  rintro e W' ⟨he, ⟨ss', hbk, hown, hat⟩, hb⟩
  obtain ⟨k0, hk0⟩ : ∃ k0 : Held, k0 = ⟨A, n, c, none, 0, 0, h1.length + h2.length + 1⟩ := ⟨_, rfl⟩
  have hv : k0.v = .slice A n c := by rw [hk0]; rfl
  have keepX : W'.ownsRow w.heap.size 50 32 (.slice A n c) n xs := own_kept_but hx hb (fun b e1 e2 => by
    rcases e2 with e2 | e2
    · subst e2; exact h.kept.book.other (by decide) hx e1
    · exact not_row (by decide) hx h.kept.own2 b e1 e2)
  have l1 := h.kept.lists1.but hb fun b hin e => by
    rcases e with e | e
    · subst e; exact book_not_in h.kept.lists1 h.kept.book hin
    · exact not_in h.kept.lists1 (by decide) h.kept.own2 b e hin
  have l2 := h.kept.lists2.but hb fun b hin e => by
    rcases e with e | e
    · subst e; exact book_not_inS h.kept.lists2 h.kept.book hin
    · exact not_inS h.kept.lists2 (by decide) h.kept.own2 b e hin
  have oo := own_kept_but h.kept.own1 hb (fun b e1 e2 => by
    rcases e2 with e2 | e2
    · subst e2; exact h.kept.book.other (by decide) h.kept.own1 e1
    · exact not_row (by decide) h.kept.own1 h.kept.own2 b e1 e2)
  have ls : ListsS W' w.heap.size (h2 ++ [k0]) := by
    refine ⟨fun i k hk => ?_, fun i i' k k' hk hk' hne => ?_⟩
    · rcases held_snoc hk with ⟨h, _⟩ | ⟨_, rfl⟩
      · exact l2.own i k h
      · refine ⟨xs, ?_⟩
        rw [hv, show k.len = n by rw [hk0]]
        exact keepX
    · rcases held_snoc hk with ⟨a1, b1⟩ | ⟨e1, rfl⟩
      · rcases held_snoc hk' with ⟨a2, b2⟩ | ⟨e2, rfl⟩
        · exact l2.apart i i' k k' a1 a2 hne
        · cases hkb : k.v.ownBlock with
          | none => exact .inl rfl
          | some b => exact .inr fun e2 => hoL b (by rw [← hv]; exact e2.symm) ⟨i, k, a1, hkb⟩
      · rcases held_snoc hk' with ⟨a2, b2⟩ | ⟨e2, rfl⟩
        · cases hkb : k.v.ownBlock with
          | none => exact .inl rfl
          | some b => exact .inr fun e2 => hoL b (by rw [← hv]; exact hkb) ⟨i', k', a2, e2.symm⟩
        · omega
  have ln : ∀ (i : Nat) (k : Held), (h2 ++ [k0])[i]? = some k → k.len ≤ 1000000000 := fun i k hk => by
    rcases held_snoc hk with ⟨a1, _⟩ | ⟨_, rfl⟩
    · exact h.kept.len2 i k a1
    · rw [hk0]; exact hn
  have hl : (h2 ++ [k0]).length = h2.length + 1 := by simp
  have hc2 : heldCells (h2 ++ [k0]) = heldCells h2 ++ [.slice A n c, .slice none 0 0, .int .i64 ((h1.length + h2.length + 1 : Nat) : Int)] := by
    rw [heldCells_append, hk0]; rfl
  refine ⟨he, ss', h2 ++ [k0], ⟨?_, ?_, ?_, h.new, fun x hx => ?_⟩, hb, hl, fun b hb => ?_⟩
  · refine h.chain.but hb (fun x hx e => ?_)
    rcases e with e | e
    · exact (h.off x hx).1 e
    · exact (h.off x hx).2.2.1 e
  · rw [hl]
    refine ⟨?_, oo, (by rw [hc2]; exact hown), l1, ls, h.kept.le1, by omega, h.kept.len1, ln, h.kept.kb, Nat.le_trans h.kept.base hb.size⟩
    rw [show h1.length + (h2.length + 1) = h1.length + h2.length + 1 by omega]
    exact hbk
  · exact h.bel.trans (hb.below h.bel.size fun b e => by
      rcases e with e | e
      · rw [e]; exact h.kept.kb
      · exact (h.kept.own2.lt b e).1)
  · obtain ⟨o1, o2, o3, o4, o5⟩ := h.off x hx
    have xl := h.chain.2 x hx
    refine ⟨o1, o2, (fun e => by rcases hat x e with e | e; exact o3 e; omega), o4, (fun e => by rcases inLists_snoc e with e | e; exact o5 e; exact hoG x (by rw [← hv]; exact e) hx)⟩
  · rcases inLists_snoc hb with e | e
    · exact .inl e
    · exact .inr (by rw [← hv]; exact e)
theorem RowM.sums (hr : RowM w W G rA rn rc Y r) (h : PlayM w W g kb G l bs ss h1 h2) (hb : But (fun b => b = kb ∨ ss.ownBlock = some b) W W') : RowM w W' G rA rn rc Y r :=
  ⟨own_kept_but hr.own hb (fun b e1 e2 => by
    rcases e2 with e2 | e2
    · subst e2; exact h.kept.book.other (by decide) hr.own e1
    · exact not_row (by decide) hr.own h.kept.own2 b e1 e2), hr.is_, hr.off⟩
end

end Go.Proofs.YtnaebjdccngeoaaGreatDoor

/-
  almonerref08.Leaf.
-/
namespace Go.Proofs.YtnaebjdccngeoaaGreatDoor
open Go.RowKit

set_option maxRecDepth 100000 in
set_option maxHeartbeats 2000000 in
theorem refLeaf_any (A : Option Addr) (n c : Nat) (xs : List Nat) (w : World) (hx : Came w A n c xs) (hn : n ≤ 800000000) :
    Calls Tryz.prog 65 #[.slice A n c] w fun e w' => e = .returned (sv (leafL xs)) ∧ Below w.heap.size w w' := by
  have e0 : (bvs zero32).toArray = #[.int .u8 0, .int .u8 0, .int .u8 0, .int .u8 0, .int .u8 0, .int .u8 0, .int .u8 0, .int .u8 0, .int .u8 0, .int .u8 0, .int .u8 0, .int .u8 0, .int .u8 0, .int .u8 0, .int .u8 0, .int .u8 0, .int .u8 0, .int .u8 0, .int .u8 0, .int .u8 0, .int .u8 0, .int .u8 0, .int .u8 0, .int .u8 0, .int .u8 0, .int .u8 0, .int .u8 0, .int .u8 0, .int .u8 0, .int .u8 0, .int .u8 0, .int .u8 0] := rfl
  have f1 := BArr.new w 50 zero32
  have b1 := below_alloc w (.cells (bvs zero32).toArray 50)
  rw [e0] at f1 b1
  clear e0
  obtain ⟨w1, hw1⟩ : ∃ w1, w1 = w.alloc (.cells #[.int .u8 0, .int .u8 0, .int .u8 0, .int .u8 0, .int .u8 0, .int .u8 0, .int .u8 0, .int .u8 0, .int .u8 0, .int .u8 0, .int .u8 0, .int .u8 0, .int .u8 0, .int .u8 0, .int .u8 0, .int .u8 0, .int .u8 0, .int .u8 0, .int .u8 0, .int .u8 0, .int .u8 0, .int .u8 0, .int .u8 0, .int .u8 0, .int .u8 0, .int .u8 0, .int .u8 0, .int .u8 0, .int .u8 0, .int .u8 0, .int .u8 0, .int .u8 0] 50) := ⟨_, rfl⟩
  rw [← hw1] at f1 b1
  have HF := Lib.hid (And.intro f1 b1)
  have HX := Lib.hid (hx.below b1)
  have HW := Lib.hid hw1
  have o2 := own_byte w1 0 w1.heap.size 0 rfl (Nat.le_refl _)
  have b2 := below_alloc w1 (.cells #[.int .u8 0] 5)
  have s2 := World.size_alloc w1 (.cells #[.int .u8 0] 5)
  obtain ⟨w2, hw2⟩ : ∃ w2, w2 = w1.alloc (.cells #[.int .u8 0] 5) := ⟨_, rfl⟩
  rw [← hw2] at o2 b2 s2
  have HO := Lib.hid (And.intro o2 (And.intro b2 s2))
  have HX2 := Lib.hid (HX.out.below b2)
  have HW2 := Lib.hid hw2
  clear f1 b1 hx hw1 o2 b2 s2 hw2
  go_enter Tryz.func65, Tryz.ntmps65
  go_upto_region 1 with fail
  rw [← HW.out]
  go_wp2_with (rw [← HW2.out]; refine wpList_step fun K hK => ?_; refine step_app_at (K := K) (by rfl) _ _ (by rfl) w1.heap.size _ 1 1 [0] (by rfl) HO.out.1 A n c xs (by rfl) HX2.out.in_ HX2.out.nil (by omega) (by have := HO.out.2.2; omega) ?_; intro A3 c3 w3 ow3 nx3; refine hK _ _ ?_; clear hK K)
  have b13 := nx3.below HO.out.1 HO.out.2.1 (Nat.le_refl _) HO.out.2.1.size
  have B3 := Lib.hid (below_on HF.out.2 (Nat.le_refl _) b13)
  have F3 := Lib.hid (HF.out.1.below b13)
  have C3 := Lib.hid (refOf_any A3 (1 + n) c3 ([0] ++ xs) w3 (In.of_own ow3) (fun x hx => by rcases List.mem_append.1 hx with h1 | h1; (simp at h1; omega); exact HX.out.lt x h1) (own_nil ow3) (by omega))
  have hl : (sha ([0] ++ xs)).length = 32 := sha_length _
  have HS : leafL xs = sha ([0] ++ xs) := rfl
  obtain ⟨s, hs0⟩ : ∃ s, sha ([0] ++ xs) = s := ⟨_, rfl⟩
  rw [hs0] at C3 hl HS
  have HS' := Lib.hid HS
  clear b13 nx3 ow3 HO HX2 HW2 HW HX hs0 HS
  refine C3.out.mono ?_
  rintro e w4 ⟨rfl, hb4⟩
  have f4 := F3.out.below hb4
  have HZ32 := Lib.hid (show zero32.length = 32 from rfl)
  go_wp2_with (with_reducible refine wpList_store_sum rfl (.tmp 2) (.tmp 6) rfl w.heap.size rfl zero32 s HZ32 hl f4 rfl ?_)
  refine bodyPost_ret_by (results_cell_row (p := 2) (ty := 50) (by kernel_rfl) _ _ w.heap.size 50 (bvs s).toArray (0, 0) _ rfl (f4.setRow _) Tryz.underlying50 rfl (by rw [List.size_toArray, bvs_length, hl]; exact sizeSum)) rfl ?_
  exact ⟨by rw [HS'.out]; rfl, below_setRow (below_on B3.out (Nat.le_refl _) hb4) (by omega) _⟩

end Go.Proofs.YtnaebjdccngeoaaGreatDoor

/-
  almonerref08.Cut of any number of 64 bits.
-/
namespace Go.Proofs.YtnaebjdccngeoaaGreatDoor
open Go.RowKit

set_option maxRecDepth 100000 in
set_option maxHeartbeats 1000000 in
theorem refCut_all (n : Nat) (w : World) (h2 : 2 ≤ n) (hn : n < 18446744073709551616) :
    Calls Tryz.prog 103 #[.int .u64 (n : Int)] w fun e w' => e = .returned (.int .u64 (cutN n : Int)) ∧ w' = w := by
  go_enter Tryz.func103, Tryz.ntmps103
  go_wp2
  go_loopw [3] (fun i wr => ∃ e k : Nat, 2 ^ e = k ∧ k < n ∧ i = .int .u64 (k : Int) ∧ wr = w) (fun i _ => n - (intOf i).toNat)
  case atStart => exact ⟨0, 1, rfl, by omega, rfl, rfl⟩
  case round =>
    obtain ⟨e, k, he, hlt, rfl, rfl⟩ := hrel
    obtain ⟨d, hd⟩ : ∃ d, n - k = d := ⟨_, rfl⟩
    have hsub : (n : Int) - (k : Int) = (d : Int) := by omega
    have hw1 : IntKind.u64.wrap (d : Int) = (d : Int) := by rw [IntKind.wrap_u64]; omega
    by_cases hmore : k < d
    · have hw2 : IntKind.u64.wrap (2 * (k : Int)) = 2 * (k : Int) := by rw [IntKind.wrap_u64]; omega
      have hi : decide ((k : Int) < (d : Int)) = true := by simp; omega
      have HP := Lib.hid (And.intro he hd)
      clear he hd
      go_wp2
      go_roundw
      case rel => exact ⟨e + 1, 2 * k, by rw [Nat.pow_succ, HP.out.1, Nat.mul_comm], by have := HP.out.2; omega, by go_num, trivial⟩
      case measure => simp [intOf]; have := Nat.two_pow_pos e; have := HP.out; omega
    · have hi : decide ((k : Int) < (d : Int)) = false := by simp; omega
      have hc : cutN n = k := by rw [← he]; exact cutN_of (by rw [he]; exact hlt) (by rw [he]; omega)
      have HC := Lib.hid hc
      clear he hc hd
      go_wp2
      go_ret
      exact ⟨by rw [HC.out]; rfl, rfl⟩

end Go.Proofs.YtnaebjdccngeoaaGreatDoor

/-
  almonerref10.path, Of.
-/
namespace Go.Proofs.YtnaebjdccngeoaaGreatDoor
open Go.RowKit

section
variable {w : World} {n c at_ : Nat} {A : Option Addr} {ys : List Nat}

set_option maxRecDepth 100000 in
set_option maxHeartbeats 1000000 in
theorem refPath_one : Calls Tryz.prog 131 #[.slice A 1 c, .int .i64 (at_ : Int)] w (GivesS w.heap.size w 0 []) := by
  go_enter Tryz.func131, Tryz.ntmps131
  go_wp2_with fail
  go_ret
  exact ⟨none, 0, rfl, own_none _ _ _ _, Below.refl _ _⟩

set_option maxRecDepth 100000 in
set_option maxHeartbeats 2000000 in
theorem refPath_low {ad : Addr} {k m d : Nat} {L R : List Nat} (hc : n ≤ c) (hn : n ≤ 65536) (h2 : 2 ≤ n) (hk0 : cutN n = k) (hm0 : n - k = m) (ha : at_ < k) (hd : d ≤ 64) (hRl : R.length = 32)
    (ci : ∀ W : World, Below w.heap.size w W → Calls Tryz.prog 131 #[.slice (some ad) k c, .int .i64 (at_ : Int)] W (GivesS W.heap.size W d L))
    (cr : ∀ W : World, Below w.heap.size w W → Calls Tryz.prog 67 #[.slice (some (ad.add (k * 32))) m (c - k)] W fun e w' => e = .returned (sv R) ∧ Below W.heap.size W w') :
    Calls Tryz.prog 131 #[.slice (some ad) n c, .int .i64 (at_ : Int)] w (GivesS w.heap.size w (d + 1) (L ++ R)) := by
  have hcl := cutN_lt h2
  have hcp := cutN_pos n
  rw [hk0] at hcl hcp
  have hai : (at_ : Int) < (k : Int) := by omega
  have CM := Lib.hid (refCut_all n w h2 (by omega))
  rw [hk0] at CM
  have ht := run_take_sums (ad := ad) (n := n) (c := c) (k := k) (by omega) hc
  have hr := run_drop_sums (ad := ad) (n := n) (c := c) (k := k) hcl hc
  rw [hm0] at hr
  have CI := Lib.hid ci
  have CR := Lib.hid cr
  have hd9 : d + 1 ≤ 1000000000 := by omega
  have n1 : ((n : Int) == 1) = false := by simp; omega
  have wn : IntKind.u64.wrap (n : Int) = (n : Int) := by rw [IntKind.wrap_u64]; omega
  have wk : IntKind.i64.wrap (k : Int) = (k : Int) := by rw [IntKind.wrap_i64]; omega
  have wk2 : wrap64 (k : Int) = (k : Int) := by simp only [wrap64]; omega
  clear ci cr hcl hcp hc hn h2 hk0 hm0 hd ha
  go_enter Tryz.func131, Tryz.ntmps131
  go_wp2_with fail
  refine CM.out.mono ?_
  rintro e w1 ⟨rfl, hw⟩
  rw [hw]
  clear hw w1
  go_upto_region 5 with fail
  refine wp_region_held_drew (S := fun W => Below w.heap.size w W) (by kernel_rfl) ((Below.refl _ _).drew) (fun hT0 => ?_)
  change wpAnyH _ _ _ _ _ _ _ _ w.drew
  refine' wpAnyH_take (i := 0) (oi := _) (v := _) ?hip0 (by kernel_rfl) ?hfp0 ?hrp0 ?hQp0 ?hyp0 hT0 ?restp0
  case hip0 => (simp only [List.getElem?_toArray, List.getElem?_cons_zero]; rfl)
  case hfp0 => kernel_rfl
  case hrp0 => kernel_rfl
  case hQp0 => exact fun _ _ _ h => h
  case hyp0 => refine Or.inl ⟨by rfl, ?_⟩; intro W hSw; go_simp; try with_reducible rfl
  try simp only [Act.put, List.setIfInBounds_toArray, List.set_cons_zero, List.set_cons_succ]
  refine' wpAnyH_take (i := 1) (oi := _) (v := _) ?hip1 (by kernel_rfl) ?hfp1 ?hrp1 ?hQp1 ?hyp1 hT0 ?restp1
  case hip1 => (simp only [List.getElem?_toArray, List.getElem?_cons_zero, List.getElem?_cons_succ]; rfl)
  case hfp1 => kernel_rfl
  case hrp1 => kernel_rfl
  case hQp1 => exact fun _ _ _ h => h
  case hyp1 => refine Or.inl ⟨by rfl, ?_⟩; intro W hSw; go_simp; try with_reducible rfl
  try simp only [Act.put, List.setIfInBounds_toArray, List.set_cons_zero, List.set_cons_succ]
  refine' wpAnyH_take (i := 2) (oi := _) (v := _) ?hip2 (by kernel_rfl) ?hfp2 ?hrp2 ?hQp2 ?hyp2 hT0 ?restp2
  case hip2 => (simp only [List.getElem?_toArray, List.getElem?_cons_zero, List.getElem?_cons_succ]; rfl)
  case hfp2 => kernel_rfl
  case hrp2 => kernel_rfl
  case hQp2 => exact fun _ _ _ h => h
  case hyp2 => refine Or.inl ⟨by rfl, ?_⟩; intro W hSw; go_simp; try with_reducible rfl
  try simp only [Act.put, List.setIfInBounds_toArray, List.set_cons_zero, List.set_cons_succ]
  refine' wpAnyH_take (i := 3) (oi := _) (v := _) ?hip3 (by kernel_rfl) ?hfp3 ?hrp3 ?hQp3 ?hyp3 hT0 ?restp3
  case hip3 => (simp only [List.getElem?_toArray, List.getElem?_cons_zero, List.getElem?_cons_succ]; rfl)
  case hfp3 => kernel_rfl
  case hrp3 => kernel_rfl
  case hQp3 => exact fun _ _ _ h => h
  case hyp3 => refine Or.inl ⟨by rfl, ?_⟩; intro W hSw; go_simp; try with_reducible rfl
  try simp only [Act.put, List.setIfInBounds_toArray, List.set_cons_zero, List.set_cons_succ]
  refine' wpAnyH_take (i := 5) (oi := _) (v := _) ?hip5 (by kernel_rfl) ?hfp5 ?hrp5 ?hQp5 ?hyp5 hT0 ?restp5
  case hip5 => (simp only [List.getElem?_toArray, List.getElem?_cons_zero, List.getElem?_cons_succ]; rfl)
  case hfp5 => kernel_rfl
  case hrp5 => kernel_rfl
  case hQp5 => exact fun _ _ _ h => h
  case hyp5 => refine Or.inl ⟨by rfl, ?_⟩; intro W hSw; go_simp; try with_reducible rfl
  try simp only [Act.put, List.setIfInBounds_toArray, List.set_cons_zero, List.set_cons_succ]
  refine' wpAnyH_take (i := 6) (oi := _) (v := _) ?hip6 (by kernel_rfl) ?hfp6 ?hrp6 ?hQp6 ?hyp6 hT0 ?restp6
  case hip6 => (simp only [List.getElem?_toArray, List.getElem?_cons_zero, List.getElem?_cons_succ]; rfl)
  case hfp6 => kernel_rfl
  case hrp6 => kernel_rfl
  case hQp6 => exact fun _ _ _ h => h
  case hyp6 => refine Or.inl ⟨by rfl, ?_⟩; intro W hSw; go_simp; try with_reducible rfl
  try simp only [Act.put, List.setIfInBounds_toArray, List.set_cons_zero, List.set_cons_succ]
  refine' wpAnyH_take (i := 7) (oi := _) (v := _) ?hip7 (by kernel_rfl) ?hfp7 ?hrp7 ?hQp7 ?hyp7 hT0 ?restp7
  case hip7 => (simp only [List.getElem?_toArray, List.getElem?_cons_zero, List.getElem?_cons_succ]; rfl)
  case hfp7 => kernel_rfl
  case hrp7 => kernel_rfl
  case hQp7 => exact fun _ _ _ h => h
  case hyp7 => refine Or.inl ⟨by rfl, ?_⟩; intro W hSw; go_simp; try with_reducible rfl
  try simp only [Act.put, List.setIfInBounds_toArray, List.set_cons_zero, List.set_cons_succ]
  refine wpAnyH_ready (rs := [4]) (by kernel_rfl) (by simp) ?_
  refine' AllReadyH.cons (o := _) ?hip4 (fun K hK => ?_) AllReadyH.nil
  case hip4 => (simp only [List.getElem?_toArray, List.getElem?_cons_zero, List.getElem?_cons_succ]; rfl)
  go_simp
  go_at_call 131
  refine (CI.out _ hT0).mono ?_
  rintro e w2 ⟨A2, c2, rfl, ho2, hb2⟩
  have hB2 := below_on hT0 (Nat.le_refl _) hb2
  have HO2 := Lib.hid ho2
  clear ho2
  refine hK.out _ _ hB2 (fun _ => ?_)
  clear hK K
  try simp only [Act.put, List.setIfInBounds_toArray, List.set_cons_zero, List.set_cons_succ]
  refine wpAnyH_ready (rs := [8]) (by kernel_rfl) (by simp) ?_
  refine' AllReadyH.cons (o := _) ?hip8 (fun K hK => ?_) AllReadyH.nil
  case hip8 => (simp only [List.getElem?_toArray, List.getElem?_cons_zero, List.getElem?_cons_succ]; rfl)
  go_simp
  go_at_call 67
  refine (CR.out _ hB2).mono ?_
  rintro e w3 ⟨rfl, hb3⟩
  have hB3 := below_on hB2 (Nat.le_refl _) hb3
  have o3 := own_on HO2.out hb3
  refine hK.out _ _ hB3 (fun _ => ?_)
  clear hK K
  try simp only [Act.put, List.setIfInBounds_toArray, List.set_cons_zero, List.set_cons_succ]
  refine wpAnyH_ready (rs := [9]) (by kernel_rfl) (by simp) ?_
  refine' AllReadyH.cons (o := _) ?hip9 (fun K hK => ?_) AllReadyH.nil
  case hip9 => (simp only [List.getElem?_toArray, List.getElem?_cons_zero, List.getElem?_cons_succ]; rfl)
  rw [if_pos (by rfl)]
  refine wp_sums _ [R] 1 rfl rfl (by simp <;> rfl) (by intro q hq; simp at hq; rw [hq]; exact hRl) (by decide) (by decide) ?_
  rw [show [R].flatten = R by simp]
  have o4 := own_on o3 (below_alloc w3 (.cells (bvs R).toArray 50))
  have hB4 := hB3.alloc hB3.size (.cells (bvs R).toArray 50)
  have i4 : InS (w3.alloc (.cells (bvs R).toArray 50)) (some ⟨w3.heap.size, 0, none⟩) 1 R := InS.of_own (own_sum w3 R 0 hRl (Nat.zero_le _))
  refine hK.out _ _ hB4 (fun _ => ?_)
  clear hK K
  try simp only [Act.put, List.setIfInBounds_toArray, List.set_cons_zero, List.set_cons_succ]
  refine wpAnyH_ready (rs := [10]) (by kernel_rfl) (by simp) ?_
  refine' AllReadyH.cons (o := _) ?hip10 (fun K hK => ?_) AllReadyH.nil
  case hip10 => (simp only [List.getElem?_toArray, List.getElem?_cons_zero, List.getElem?_cons_succ]; rfl)
  refine step_sapp (K := K) (by rfl) _ _ (by rfl) w.heap.size A2 d c2 L (by rfl) o4 (some ⟨w3.heap.size, 0, none⟩) 1 1 R (by rfl) i4 (fun h => by cases h) hd9 hB4.size ?_
  intro A5 c5 w5 o5 nx5
  have hB5 := nx5.below o4 hB4 (Nat.le_refl _) hB4.size
  refine hK.out _ _ hB5 (fun _ => ?_)
  clear hK K
  try simp only [Act.put, List.setIfInBounds_toArray, List.set_cons_zero, List.set_cons_succ]
  refine' wpAnyH_take (i := 11) (oi := _) (v := _) ?hip11 (by kernel_rfl) ?hfp11 ?hrp11 ?hQp11 ?hyp11 hB5 ?restp11
  case hip11 => (simp only [List.getElem?_toArray, List.getElem?_cons_zero, List.getElem?_cons_succ]; rfl)
  case hfp11 => kernel_rfl
  case hrp11 => kernel_rfl
  case hQp11 => exact fun _ _ _ h => h
  case hyp11 => refine Or.inl ⟨by rfl, ?_⟩; intro W hSw; go_simp; try with_reducible rfl
  try simp only [Act.put, List.setIfInBounds_toArray, List.set_cons_zero, List.set_cons_succ]
  refine wpAnyH_done (by kernel_rfl) ?_ _
  go_wp2
  go_ret
  exact ⟨A5, c5, rfl, o5, hB5⟩
  

set_option maxRecDepth 100000 in
set_option maxHeartbeats 2000000 in
theorem refPath_high {ad : Addr} {k m a d : Nat} {L R : List Nat} (hc : n ≤ c) (hn : n ≤ 65536) (h2 : 2 ≤ n) (hk0 : cutN n = k) (hm0 : n - k = m) (ha : ¬ at_ < k) (ha0 : at_ - k = a) (hat : at_ < n) (hd : d ≤ 64) (hRl : R.length = 32)
    (ci : ∀ W : World, Below w.heap.size w W → Calls Tryz.prog 131 #[.slice (some (ad.add (k * 32))) m (c - k), .int .i64 (a : Int)] W (GivesS W.heap.size W d L))
    (cr : ∀ W : World, Below w.heap.size w W → Calls Tryz.prog 67 #[.slice (some ad) k c] W fun e w' => e = .returned (sv R) ∧ Below W.heap.size W w') :
    Calls Tryz.prog 131 #[.slice (some ad) n c, .int .i64 (at_ : Int)] w (GivesS w.heap.size w (d + 1) (L ++ R)) := by
  have hcl := cutN_lt h2
  have hcp := cutN_pos n
  rw [hk0] at hcl hcp
  have hai : ¬ (at_ : Int) < (k : Int) := by omega
  have CM := Lib.hid (refCut_all n w h2 (by omega))
  rw [hk0] at CM
  have ht := run_take_sums (ad := ad) (n := n) (c := c) (k := k) (by omega) hc
  have hr := run_drop_sums (ad := ad) (n := n) (c := c) (k := k) hcl hc
  rw [hm0] at hr
  have CI := Lib.hid ci
  have CR := Lib.hid cr
  have hd9 : d + 1 ≤ 1000000000 := by omega
  have n1 : ((n : Int) == 1) = false := by simp; omega
  have wn : IntKind.u64.wrap (n : Int) = (n : Int) := by rw [IntKind.wrap_u64]; omega
  have wk : IntKind.i64.wrap (k : Int) = (k : Int) := by rw [IntKind.wrap_i64]; omega
  have ea : (at_ : Int) - (k : Int) = (a : Int) := by omega
  have wa2 : IntKind.i64.wrap (a : Int) = (a : Int) := by rw [IntKind.wrap_i64]; omega
  have wa : wrap64 (a : Int) = (a : Int) := by simp only [wrap64]; omega
  have wk2 : wrap64 (k : Int) = (k : Int) := by simp only [wrap64]; omega
  clear ci cr hcl hcp hc hn h2 hk0 hm0 hd ha ha0 hat
  go_enter Tryz.func131, Tryz.ntmps131
  go_wp2_with fail
  refine CM.out.mono ?_
  rintro e w1 ⟨rfl, hw⟩
  rw [hw]
  clear hw w1
  go_upto_region 6 with fail
  refine wp_region_held_drew (S := fun W => Below w.heap.size w W) (by kernel_rfl) ((Below.refl _ _).drew) (fun hT0 => ?_)
  change wpAnyH _ _ _ _ _ _ _ _ w.drew
  refine' wpAnyH_take (i := 0) (oi := _) (v := _) ?hiq0 (by kernel_rfl) ?hfq0 ?hrq0 ?hQq0 ?hyq0 hT0 ?restq0
  case hiq0 => (simp only [List.getElem?_toArray, List.getElem?_cons_zero]; rfl)
  case hfq0 => kernel_rfl
  case hrq0 => kernel_rfl
  case hQq0 => exact fun _ _ _ h => h
  case hyq0 => refine Or.inl ⟨by rfl, ?_⟩; intro W hSw; go_simp; try with_reducible rfl
  try simp only [Act.put, List.setIfInBounds_toArray, List.set_cons_zero, List.set_cons_succ]
  refine' wpAnyH_take (i := 1) (oi := _) (v := _) ?hiq1 (by kernel_rfl) ?hfq1 ?hrq1 ?hQq1 ?hyq1 hT0 ?restq1
  case hiq1 => (simp only [List.getElem?_toArray, List.getElem?_cons_zero, List.getElem?_cons_succ]; rfl)
  case hfq1 => kernel_rfl
  case hrq1 => kernel_rfl
  case hQq1 => exact fun _ _ _ h => h
  case hyq1 => refine Or.inl ⟨by rfl, ?_⟩; intro W hSw; go_simp; try with_reducible rfl
  try simp only [Act.put, List.setIfInBounds_toArray, List.set_cons_zero, List.set_cons_succ]
  refine' wpAnyH_take (i := 2) (oi := _) (v := _) ?hiq2 (by kernel_rfl) ?hfq2 ?hrq2 ?hQq2 ?hyq2 hT0 ?restq2
  case hiq2 => (simp only [List.getElem?_toArray, List.getElem?_cons_zero, List.getElem?_cons_succ]; rfl)
  case hfq2 => kernel_rfl
  case hrq2 => kernel_rfl
  case hQq2 => exact fun _ _ _ h => h
  case hyq2 => refine Or.inl ⟨by rfl, ?_⟩; intro W hSw; go_simp; try with_reducible rfl
  try simp only [Act.put, List.setIfInBounds_toArray, List.set_cons_zero, List.set_cons_succ]
  refine' wpAnyH_take (i := 3) (oi := _) (v := _) ?hiq3 (by kernel_rfl) ?hfq3 ?hrq3 ?hQq3 ?hyq3 hT0 ?restq3
  case hiq3 => (simp only [List.getElem?_toArray, List.getElem?_cons_zero, List.getElem?_cons_succ]; rfl)
  case hfq3 => kernel_rfl
  case hrq3 => kernel_rfl
  case hQq3 => exact fun _ _ _ h => h
  case hyq3 => refine Or.inl ⟨by rfl, ?_⟩; intro W hSw; go_simp; try with_reducible rfl
  try simp only [Act.put, List.setIfInBounds_toArray, List.set_cons_zero, List.set_cons_succ]
  refine' wpAnyH_take (i := 4) (oi := _) (v := _) ?hiq4 (by kernel_rfl) ?hfq4 ?hrq4 ?hQq4 ?hyq4 hT0 ?restq4
  case hiq4 => (simp only [List.getElem?_toArray, List.getElem?_cons_zero, List.getElem?_cons_succ]; rfl)
  case hfq4 => kernel_rfl
  case hrq4 => kernel_rfl
  case hQq4 => exact fun _ _ _ h => h
  case hyq4 => refine Or.inl ⟨by rfl, ?_⟩; intro W hSw; go_simp; try with_reducible rfl
  try simp only [Act.put, List.setIfInBounds_toArray, List.set_cons_zero, List.set_cons_succ]
  refine' wpAnyH_take (i := 5) (oi := _) (v := _) ?hiq5 (by kernel_rfl) ?hfq5 ?hrq5 ?hQq5 ?hyq5 hT0 ?restq5
  case hiq5 => (simp only [List.getElem?_toArray, List.getElem?_cons_zero, List.getElem?_cons_succ]; rfl)
  case hfq5 => kernel_rfl
  case hrq5 => kernel_rfl
  case hQq5 => exact fun _ _ _ h => h
  case hyq5 => refine Or.inl ⟨by rfl, ?_⟩; intro W hSw; go_simp; try with_reducible rfl
  try simp only [Act.put, List.setIfInBounds_toArray, List.set_cons_zero, List.set_cons_succ]
  refine' wpAnyH_take (i := 7) (oi := _) (v := _) ?hiq7 (by kernel_rfl) ?hfq7 ?hrq7 ?hQq7 ?hyq7 hT0 ?restq7
  case hiq7 => (simp only [List.getElem?_toArray, List.getElem?_cons_zero, List.getElem?_cons_succ]; rfl)
  case hfq7 => kernel_rfl
  case hrq7 => kernel_rfl
  case hQq7 => exact fun _ _ _ h => h
  case hyq7 => refine Or.inl ⟨by rfl, ?_⟩; intro W hSw; go_simp; try with_reducible rfl
  try simp only [Act.put, List.setIfInBounds_toArray, List.set_cons_zero, List.set_cons_succ]
  refine' wpAnyH_take (i := 8) (oi := _) (v := _) ?hiq8 (by kernel_rfl) ?hfq8 ?hrq8 ?hQq8 ?hyq8 hT0 ?restq8
  case hiq8 => (simp only [List.getElem?_toArray, List.getElem?_cons_zero, List.getElem?_cons_succ]; rfl)
  case hfq8 => kernel_rfl
  case hrq8 => kernel_rfl
  case hQq8 => exact fun _ _ _ h => h
  case hyq8 => refine Or.inl ⟨by rfl, ?_⟩; intro W hSw; go_simp; try with_reducible rfl
  try simp only [Act.put, List.setIfInBounds_toArray, List.set_cons_zero, List.set_cons_succ]
  refine' wpAnyH_take (i := 9) (oi := _) (v := _) ?hiq9 (by kernel_rfl) ?hfq9 ?hrq9 ?hQq9 ?hyq9 hT0 ?restq9
  case hiq9 => (simp only [List.getElem?_toArray, List.getElem?_cons_zero, List.getElem?_cons_succ]; rfl)
  case hfq9 => kernel_rfl
  case hrq9 => kernel_rfl
  case hQq9 => exact fun _ _ _ h => h
  case hyq9 => refine Or.inl ⟨by rfl, ?_⟩; intro W hSw; go_simp; try with_reducible rfl
  try simp only [Act.put, List.setIfInBounds_toArray, List.set_cons_zero, List.set_cons_succ]
  refine wpAnyH_ready (rs := [6]) (by kernel_rfl) (by simp) ?_
  refine' AllReadyH.cons (o := _) ?hiq6 (fun K hK => ?_) AllReadyH.nil
  case hiq6 => (simp only [List.getElem?_toArray, List.getElem?_cons_zero, List.getElem?_cons_succ]; rfl)
  go_simp
  go_at_call 131
  refine (CI.out _ hT0).mono ?_
  rintro e w2 ⟨A2, c2, rfl, ho2, hb2⟩
  have hB2 := below_on hT0 (Nat.le_refl _) hb2
  have HO2 := Lib.hid ho2
  clear ho2
  refine hK.out _ _ hB2 (fun _ => ?_)
  clear hK K
  try simp only [Act.put, List.setIfInBounds_toArray, List.set_cons_zero, List.set_cons_succ]
  refine wpAnyH_ready (rs := [10]) (by kernel_rfl) (by simp) ?_
  refine' AllReadyH.cons (o := _) ?hiq10 (fun K hK => ?_) AllReadyH.nil
  case hiq10 => (simp only [List.getElem?_toArray, List.getElem?_cons_zero, List.getElem?_cons_succ]; rfl)
  go_simp
  go_at_call 67
  refine (CR.out _ hB2).mono ?_
  rintro e w3 ⟨rfl, hb3⟩
  have hB3 := below_on hB2 (Nat.le_refl _) hb3
  have o3 := own_on HO2.out hb3
  refine hK.out _ _ hB3 (fun _ => ?_)
  clear hK K
  try simp only [Act.put, List.setIfInBounds_toArray, List.set_cons_zero, List.set_cons_succ]
  refine wpAnyH_ready (rs := [11]) (by kernel_rfl) (by simp) ?_
  refine' AllReadyH.cons (o := _) ?hiq11 (fun K hK => ?_) AllReadyH.nil
  case hiq11 => (simp only [List.getElem?_toArray, List.getElem?_cons_zero, List.getElem?_cons_succ]; rfl)
  rw [if_pos (by rfl)]
  refine wp_sums _ [R] 1 rfl rfl (by simp <;> rfl) (by intro q hq; simp at hq; rw [hq]; exact hRl) (by decide) (by decide) ?_
  rw [show [R].flatten = R by simp]
  have o4 := own_on o3 (below_alloc w3 (.cells (bvs R).toArray 50))
  have hB4 := hB3.alloc hB3.size (.cells (bvs R).toArray 50)
  have i4 : InS (w3.alloc (.cells (bvs R).toArray 50)) (some ⟨w3.heap.size, 0, none⟩) 1 R := InS.of_own (own_sum w3 R 0 hRl (Nat.zero_le _))
  refine hK.out _ _ hB4 (fun _ => ?_)
  clear hK K
  try simp only [Act.put, List.setIfInBounds_toArray, List.set_cons_zero, List.set_cons_succ]
  refine wpAnyH_ready (rs := [12]) (by kernel_rfl) (by simp) ?_
  refine' AllReadyH.cons (o := _) ?hiq12 (fun K hK => ?_) AllReadyH.nil
  case hiq12 => (simp only [List.getElem?_toArray, List.getElem?_cons_zero, List.getElem?_cons_succ]; rfl)
  refine step_sapp (K := K) (by rfl) _ _ (by rfl) w.heap.size A2 d c2 L (by rfl) o4 (some ⟨w3.heap.size, 0, none⟩) 1 1 R (by rfl) i4 (fun h => by cases h) hd9 hB4.size ?_
  intro A5 c5 w5 o5 nx5
  have hB5 := nx5.below o4 hB4 (Nat.le_refl _) hB4.size
  refine hK.out _ _ hB5 (fun _ => ?_)
  clear hK K
  try simp only [Act.put, List.setIfInBounds_toArray, List.set_cons_zero, List.set_cons_succ]
  refine' wpAnyH_take (i := 13) (oi := _) (v := _) ?hiq13 (by kernel_rfl) ?hfq13 ?hrq13 ?hQq13 ?hyq13 hB5 ?restq13
  case hiq13 => (simp only [List.getElem?_toArray, List.getElem?_cons_zero, List.getElem?_cons_succ]; rfl)
  case hfq13 => kernel_rfl
  case hrq13 => kernel_rfl
  case hQq13 => exact fun _ _ _ h => h
  case hyq13 => refine Or.inl ⟨by rfl, ?_⟩; intro W hSw; go_simp; try with_reducible rfl
  try simp only [Act.put, List.setIfInBounds_toArray, List.set_cons_zero, List.set_cons_succ]
  refine wpAnyH_done (by kernel_rfl) ?_ _
  go_wp2
  go_ret
  exact ⟨A5, c5, rfl, o5, hB5⟩
  

end

end Go.Proofs.YtnaebjdccngeoaaGreatDoor

/-
  almonerref10.path whole; almonerref10.Of.
-/
namespace Go.Proofs.YtnaebjdccngeoaaGreatDoor
open Go.RowKit

theorem refPath_any : ∀ (n at_ : Nat) (A : Option Addr) (c : Nat) (ys : List Nat) (w : World), InS w A n ys → (∀ x ∈ ys, x < 256) → n ≤ c → n ≤ 65536 → at_ < n →
    Calls Tryz.prog 131 #[.slice A n c, .int .i64 (at_ : Int)] w (GivesS w.heap.size w (dep at_ n) (pathL (nth ys) 0 n at_).flatten) := by
  intro n
  induction n using Nat.strongRecOn with
  | ind n ih =>
    intro at_ A c ys w hin hy hc hn hat
    by_cases h1 : n < 2
    · obtain rfl : n = 1 := by omega
      rw [dep_one h1, pathL_one _ h1]
      exact refPath_one
    · have hcl := cutN_lt (m := n) (by omega)
      have hcp := cutN_pos n
      obtain ⟨ad, rfl⟩ := hin.some_ (by omega)
      have hd := dep_64 (n := n) (at_ := at_) hat (by omega)
      have lk : ∀ {i m : Nat}, i + m ≤ n → (rt (nth ys) i m).length = 32 := fun {i m} h => rt_length _ i m fun j hj => nth_length hin.len (by omega)
      have ytake : ∀ x ∈ ys.take (32 * cutN n), x < 256 := fun x hx => hy x (List.mem_of_mem_take hx)
      have ydrop : ∀ x ∈ ys.drop (32 * cutN n), x < 256 := fun x hx => hy x (List.mem_of_mem_drop hx)
      by_cases ha : at_ < cutN n
      · rw [dep_low (by omega) ha] at hd ⊢
        rw [pathL_low _ (by omega) ha, List.flatten_append, List.flatten_singleton, Nat.zero_add]
        refine refPath_low hc hn (by omega) rfl rfl ha (by omega) (lk (by omega)) ?_ ?_
        · intro W hW
          have := ih (cutN n) hcl at_ (some ad) c (ys.take (32 * cutN n)) W ((hin.take (k := cutN n) (by omega)).below hW) ytake (by omega) (by omega) ha
          rw [pathL_congr (nth (ys.take (32 * cutN n))) (nth ys) (cutN n) 0 0 at_ (fun j hj => by rw [Nat.zero_add]; exact nth_take hj)] at this
          exact this
        · intro W hW
          have := refRoot_any (n - cutN n) (some (ad.add (cutN n * 32))) (c - cutN n) (ys.drop (32 * cutN n)) W ((hin.drop_ _ (by omega)).below hW) ydrop (by omega) (by omega)
          rw [rt_drop] at this
          exact this
      · rw [dep_high (by omega) ha] at hd ⊢
        rw [pathL_high _ (by omega) ha, List.flatten_append, List.flatten_singleton, Nat.zero_add]
        refine refPath_high hc hn (by omega) rfl rfl ha rfl hat (by omega) (lk (by omega)) ?_ ?_
        · intro W hW
          have := ih (n - cutN n) (by omega) (at_ - cutN n) (some (ad.add (cutN n * 32))) (c - cutN n) (ys.drop (32 * cutN n)) W ((hin.drop_ (cutN n) (by omega)).below hW) ydrop (by omega) (by omega) (by omega)
          rw [pathL_congr (nth (ys.drop (32 * cutN n))) (nth ys) (n - cutN n) 0 (cutN n) (at_ - cutN n) (fun j hj => by rw [Nat.zero_add]; exact nth_drop _ _ _)] at this
          exact this
        · intro W hW
          have := refRoot_any (cutN n) (some ad) c (ys.take (32 * cutN n)) W ((hin.take (by omega)).below hW) ytake (by omega) (by omega)
          rw [rt_take] at this
          exact this

set_option maxRecDepth 100000 in
set_option maxHeartbeats 1000000 in
/-- almonerref10.Of at a place that there is not. -/
theorem refOf_no {w : World} {n c : Nat} {A : Option Addr} (z : Int) (h : z < 0 ∨ (n : Int) ≤ z) :
    Calls Tryz.prog 62 #[.slice A n c, .int .i64 z] w fun e w' => e = .returned (.tuple #[.slice none 0 0, .int .i64 1]) ∧ w' = w := by
  by_cases h0 : z < 0
  · go_enter Tryz.func62, Tryz.ntmps62
    go_wp2_with fail
    go_ret2
    exact ⟨rfl, rfl⟩
  · have h1 : (n : Int) ≤ z := by omega
    go_enter Tryz.func62, Tryz.ntmps62
    go_wp2_with fail
    go_ret2
    exact ⟨rfl, rfl⟩

set_option maxRecDepth 100000 in
set_option maxHeartbeats 1000000 in
/-- almonerref10.Of. -/
theorem refOf_yes {w : World} {n c at_ : Nat} {A : Option Addr} {ys : List Nat} (hin : InS w A n ys) (hy : ∀ x ∈ ys, x < 256) (hc : n ≤ c) (hn : n ≤ 65536) (hat : at_ < n) :
    Calls Tryz.prog 62 #[.slice A n c, .int .i64 (at_ : Int)] w fun e w' => ∃ A' c', e = .returned (.tuple #[.slice A' (dep at_ n) c', .int .i64 0]) ∧ w'.ownsRow w.heap.size 50 32 (.slice A' (dep at_ n) c') (dep at_ n) (bvs (pathL (nth ys) 0 n at_).flatten) ∧ Below w.heap.size w w' := by
  have C := Lib.hid (refPath_any n at_ A c ys w hin hy hc hn hat)
  have h0 : ¬ (at_ : Int) < 0 := by omega
  have h1 : ¬ (n : Int) ≤ (at_ : Int) := by omega
  clear hin hy hc hn hat
  go_enter Tryz.func62, Tryz.ntmps62
  go_wp2_with fail
  refine C.out.mono ?_
  rintro e w1 ⟨A', c', rfl, ho, hb⟩
  go_wp2_with fail
  go_ret2
  exact ⟨A', c', rfl, ho, hb⟩

end Go.Proofs.YtnaebjdccngeoaaGreatDoor

/-
  almonerref11.link, one step.
-/
namespace Go.Proofs.YtnaebjdccngeoaaGreatDoor
open Go.RowKit

section
variable {w : World} {n c from_ : Nat} {A : Option Addr} {ys : List Nat} {edge : Bool}

set_option maxRecDepth 100000 in
set_option maxHeartbeats 1000000 in
theorem refLink_edge (hf : from_ = n) : Calls Tryz.prog 132 #[.slice A n c, .int .i64 (from_ : Int), .bool true] w (GivesS w.heap.size w 0 []) := by
  subst hf
  have hq : ((from_ : Int) == (from_ : Int)) = true := by simp
  go_enter Tryz.func132, Tryz.ntmps132
  go_wp2_with fail
  go_ret
  exact ⟨none, 0, rfl, own_none _ _ _ _, Below.refl _ _⟩

set_option maxRecDepth 100000 in
set_option maxHeartbeats 1000000 in
theorem refLink_root {R : List Nat} (hf : from_ = n) (hRl : R.length = 32) (cr : Calls Tryz.prog 67 #[.slice A n c] w fun e w' => e = .returned (sv R) ∧ Below w.heap.size w w') :
    Calls Tryz.prog 132 #[.slice A n c, .int .i64 (from_ : Int), .bool false] w (GivesS w.heap.size w 1 R) := by
  subst hf
  have hq : ((from_ : Int) == (from_ : Int)) = true := by simp
  go_enter Tryz.func132, Tryz.ntmps132
  go_wp2_with fail
  refine cr.mono ?_
  rintro e w1 ⟨rfl, hb1⟩
  have HB := Lib.hid hb1
  clear hb1
  go_wp2_with (refine wpList_one_sum rfl _ R rfl (by simp <;> rfl) hRl ?_)
  go_ret
  exact ⟨some ⟨w1.heap.size, 0, none⟩, 1, rfl, own_sum w1 R w.heap.size hRl HB.out.size, below_on HB.out (Nat.le_refl _) (below_alloc w1 _)⟩

set_option maxRecDepth 100000 in
set_option maxHeartbeats 4000000 in
theorem refLink_low {ad : Addr} {k m d : Nat} {L R : List Nat} (hc : n ≤ c) (hn : n ≤ 65536) (h2 : 2 ≤ n) (hfn : from_ < n) (hk0 : cutN n = k) (hm0 : n - k = m) (ha : from_ ≤ k) (hd : d ≤ 100) (hRl : R.length = 32)
    (ci : Calls Tryz.prog 132 #[.slice (some ad) k c, .int .i64 (from_ : Int), .bool edge] w.drew (GivesS w.heap.size w d L))
    (cr : ∀ W : World, Below w.heap.size w W → Calls Tryz.prog 67 #[.slice (some (ad.add (k * 32))) m (c - k)] W fun e w' => e = .returned (sv R) ∧ Below W.heap.size W w') :
    Calls Tryz.prog 132 #[.slice (some ad) n c, .int .i64 (from_ : Int), .bool edge] w (GivesS w.heap.size w (d + 1) (L ++ R)) := by
  have hcl := cutN_lt h2
  have hcp := cutN_pos n
  rw [hk0] at hcl hcp
  have hk65 : k ≤ 65536 := by omega
  have hne : ((from_ : Int) == (n : Int)) = false := by simp; omega
  have hai : (from_ : Int) ≤ (k : Int) := by omega
  have CM := Lib.hid (refCut_all n w h2 (by omega))
  rw [hk0] at CM
  have ht := run_take_sums (ad := ad) (n := n) (c := c) (k := k) (by omega) hc
  have hr := run_drop_sums (ad := ad) (n := n) (c := c) (k := k) hcl hc
  rw [hm0] at hr
  have CI := Lib.hid ci
  have CR := Lib.hid cr
  have HD := Lib.hid hd
  have hd9 : d + 1 ≤ 1000000000 := by omega
  have wn : IntKind.u64.wrap (n : Int) = (n : Int) := by rw [IntKind.wrap_u64]; omega
  have wk : IntKind.i64.wrap (k : Int) = (k : Int) := kwrapI hk65
  have wk2 : wrap64 (k : Int) = (k : Int) := kwrap64 hk65
  clear ci cr hcl hcp hc hn h2 hk0 hm0 hd ha hfn hk65
  go_enter Tryz.func132, Tryz.ntmps132
  go_wp2_with fail
  refine CM.out.mono ?_
  rintro e w1 ⟨rfl, hww⟩
  subst hww
  go_upto_region 7 with fail
  refine wp_region_held (S := fun _ => True) (by kernel_rfl) ?_
  change wpAnyH _ _ _ _ _ _ _ _ w1.drew
  refine' wpAnyH_take (i := 0) (oi := _) (v := _) ?hi0 (by kernel_rfl) ?hf0 ?hr0 ?hQ0 ?hy0 trivial ?rest0
  case hi0 => (simp only [List.getElem?_toArray, List.getElem?_cons_zero]; rfl)
  case hf0 => kernel_rfl
  case hr0 => kernel_rfl
  case hQ0 => exact fun _ _ _ h => h
  case hy0 =>
    refine Or.inl ⟨by rfl, ?_⟩
    intro W _
    go_simp
    try with_reducible rfl
  try simp only [Act.put, List.setIfInBounds_toArray, List.set_cons_zero, List.set_cons_succ]
  refine' wpAnyH_take (i := 1) (oi := _) (v := _) ?hi1 (by kernel_rfl) ?hf1 ?hr1 ?hQ1 ?hy1 trivial ?rest1
  case hi1 => (simp only [List.getElem?_toArray, List.getElem?_cons_zero, List.getElem?_cons_succ]; rfl)
  case hf1 => kernel_rfl
  case hr1 => kernel_rfl
  case hQ1 => exact fun _ _ _ h => h
  case hy1 =>
    refine Or.inl ⟨by rfl, ?_⟩
    intro W _
    go_simp
    try with_reducible rfl
  try simp only [Act.put, List.setIfInBounds_toArray, List.set_cons_zero, List.set_cons_succ]
  refine' wpAnyH_take (i := 2) (oi := _) (v := _) ?hi2 (by kernel_rfl) ?hf2 ?hr2 ?hQ2 ?hy2 trivial ?rest2
  case hi2 => (simp only [List.getElem?_toArray, List.getElem?_cons_zero, List.getElem?_cons_succ]; rfl)
  case hf2 => kernel_rfl
  case hr2 => kernel_rfl
  case hQ2 => exact fun _ _ _ h => h
  case hy2 =>
    refine Or.inl ⟨by rfl, ?_⟩
    intro W _
    go_simp
    try with_reducible rfl
  try simp only [Act.put, List.setIfInBounds_toArray, List.set_cons_zero, List.set_cons_succ]
  refine' wpAnyH_take (i := 3) (oi := _) (v := _) ?hi3 (by kernel_rfl) ?hf3 ?hr3 ?hQ3 ?hy3 trivial ?rest3
  case hi3 => (simp only [List.getElem?_toArray, List.getElem?_cons_zero, List.getElem?_cons_succ]; rfl)
  case hf3 => kernel_rfl
  case hr3 => kernel_rfl
  case hQ3 => exact fun _ _ _ h => h
  case hy3 =>
    refine Or.inl ⟨by rfl, ?_⟩
    intro W _
    go_simp
    try with_reducible rfl
  try simp only [Act.put, List.setIfInBounds_toArray, List.set_cons_zero, List.set_cons_succ]
  refine' wpAnyH_take (i := 4) (oi := _) (v := _) ?hi4 (by kernel_rfl) ?hf4 ?hr4 ?hQ4 ?hy4 trivial ?rest4
  case hi4 => (simp only [List.getElem?_toArray, List.getElem?_cons_zero, List.getElem?_cons_succ]; rfl)
  case hf4 => kernel_rfl
  case hr4 => kernel_rfl
  case hQ4 => exact fun _ _ _ h => h
  case hy4 =>
    refine Or.inl ⟨by rfl, ?_⟩
    intro W _
    go_simp
    try with_reducible rfl
  try simp only [Act.put, List.setIfInBounds_toArray, List.set_cons_zero, List.set_cons_succ]
  refine' wpAnyH_take (i := 6) (oi := _) (v := _) ?hi6 (by kernel_rfl) ?hf6 ?hr6 ?hQ6 ?hy6 trivial ?rest6
  case hi6 => (simp only [List.getElem?_toArray, List.getElem?_cons_zero, List.getElem?_cons_succ]; rfl)
  case hf6 => kernel_rfl
  case hr6 => kernel_rfl
  case hQ6 => exact fun _ _ _ h => h
  case hy6 =>
    refine Or.inl ⟨by rfl, ?_⟩
    intro W _
    go_simp
    try with_reducible rfl
  try simp only [Act.put, List.setIfInBounds_toArray, List.set_cons_zero, List.set_cons_succ]
  refine' wpAnyH_take (i := 7) (oi := _) (v := _) ?hi7 (by kernel_rfl) ?hf7 ?hr7 ?hQ7 ?hy7 trivial ?rest7
  case hi7 => (simp only [List.getElem?_toArray, List.getElem?_cons_zero, List.getElem?_cons_succ]; rfl)
  case hf7 => kernel_rfl
  case hr7 => kernel_rfl
  case hQ7 => exact fun _ _ _ h => h
  case hy7 =>
    refine Or.inl ⟨by rfl, ?_⟩
    intro W _
    go_simp
    try with_reducible rfl
  try simp only [Act.put, List.setIfInBounds_toArray, List.set_cons_zero, List.set_cons_succ]
  refine' wpAnyH_take (i := 8) (oi := _) (v := _) ?hi8 (by kernel_rfl) ?hf8 ?hr8 ?hQ8 ?hy8 trivial ?rest8
  case hi8 => (simp only [List.getElem?_toArray, List.getElem?_cons_zero, List.getElem?_cons_succ]; rfl)
  case hf8 => kernel_rfl
  case hr8 => kernel_rfl
  case hQ8 => exact fun _ _ _ h => h
  case hy8 =>
    refine Or.inl ⟨by rfl, ?_⟩
    intro W _
    go_simp
    try with_reducible rfl
  try simp only [Act.put, List.setIfInBounds_toArray, List.set_cons_zero, List.set_cons_succ]
  refine wpAnyH_ready (rs := [5]) (by kernel_rfl) (by simp) ?_
  refine' AllReadyH.cons (o := _) ?hi5 (fun K hK => ?_) AllReadyH.nil
  case hi5 => (simp only [List.getElem?_toArray, List.getElem?_cons_zero, List.getElem?_cons_succ]; rfl)
  go_simp
  refine CI.out.mono ?_
  rintro e w2 ⟨A2, c2, rfl, ho2, hb2⟩
  have HO2 := Lib.hid (And.intro ho2 hb2)
  clear ho2 hb2
  refine hK.out _ _ trivial (fun _ => ?_)
  clear hK K
  try simp only [Act.put, List.setIfInBounds_toArray, List.set_cons_zero, List.set_cons_succ]
  refine wpAnyH_ready (rs := [9]) (by kernel_rfl) (by simp) ?_
  refine' AllReadyH.cons (o := _) ?hi9 (fun K hK => ?_) AllReadyH.nil
  case hi9 => (simp only [List.getElem?_toArray, List.getElem?_cons_zero, List.getElem?_cons_succ]; rfl)
  go_simp
  refine (CR.out w2 HO2.out.2).mono ?_
  rintro e w3 ⟨rfl, hb3⟩
  have b3 := below_on HO2.out.2 (Nat.le_refl _) hb3
  have o3 := own_on HO2.out.1 hb3
  have o4 := own_on o3 (below_alloc w3 (.cells (bvs R).toArray 50))
  have b4 := b3.alloc b3.size (.cells (bvs R).toArray 50)
  have i4 : InS (w3.alloc (.cells (bvs R).toArray 50)) (some ⟨w3.heap.size, 0, none⟩) 1 R := InS.of_own (own_sum w3 R 0 hRl (Nat.zero_le _))
  have H4 := Lib.hid (And.intro o4 (And.intro b4 i4))
  clear b3 o3 o4 b4 i4 hb3
  refine hK.out _ _ trivial (fun _ => ?_)
  clear hK K
  try simp only [Act.put, List.setIfInBounds_toArray, List.set_cons_zero, List.set_cons_succ]
  refine wpAnyH_ready (rs := [10]) (by kernel_rfl) (by simp) ?_
  refine' AllReadyH.cons (o := _) ?hi10 (fun K hK => ?_) AllReadyH.nil
  case hi10 => (simp only [List.getElem?_toArray, List.getElem?_cons_zero, List.getElem?_cons_succ]; rfl)
  rw [if_pos (by rfl)]
  refine wp_sums _ [R] 1 rfl rfl (by simp <;> rfl) (by intro q hq; simp at hq; rw [hq]; exact hRl) (by omega) (by omega) ?_
  rw [show [R].flatten = R by simp]
  refine hK.out _ _ trivial (fun _ => ?_)
  clear hK K
  try simp only [Act.put, List.setIfInBounds_toArray, List.set_cons_zero, List.set_cons_succ]
  refine wpAnyH_ready (rs := [11]) (by kernel_rfl) (by simp) ?_
  refine' AllReadyH.cons (o := _) ?hi11 (fun K hK => ?_) AllReadyH.nil
  case hi11 => (simp only [List.getElem?_toArray, List.getElem?_cons_zero, List.getElem?_cons_succ]; rfl)
  refine step_sapp (K := K) (by rfl) _ _ (by rfl) w1.heap.size A2 d c2 L (by rfl) H4.out.1 (some ⟨w3.heap.size, 0, none⟩) 1 1 R (by rfl) H4.out.2.2 (fun h => by cases h) hd9 H4.out.2.1.size ?_
  intro A5 c5 w5 o5 nx5
  refine hK.out _ _ trivial (fun _ => ?_)
  clear hK K
  try simp only [Act.put, List.setIfInBounds_toArray, List.set_cons_zero, List.set_cons_succ]
  refine' wpAnyH_take (i := 12) (oi := _) (v := _) ?hi12 (by kernel_rfl) ?hf12 ?hr12 ?hQ12 ?hy12 trivial ?rest12
  case hi12 => (simp only [List.getElem?_toArray, List.getElem?_cons_zero, List.getElem?_cons_succ]; rfl)
  case hf12 => kernel_rfl
  case hr12 => kernel_rfl
  case hQ12 => exact fun _ _ _ h => h
  case hy12 =>
    refine Or.inl ⟨by rfl, ?_⟩
    intro W _
    go_simp
    try with_reducible rfl
  try simp only [Act.put, List.setIfInBounds_toArray, List.set_cons_zero, List.set_cons_succ]
  refine wpAnyH_done (by kernel_rfl) ?_ _
  go_wp2
  go_ret
  exact ⟨A5, c5, rfl, o5, nx5.below H4.out.1 H4.out.2.1 (Nat.le_refl _) H4.out.2.1.size⟩

set_option maxRecDepth 100000 in
set_option maxHeartbeats 4000000 in
theorem refLink_high {ad : Addr} {k m a d : Nat} {L R : List Nat} (hc : n ≤ c) (hn : n ≤ 65536) (h2 : 2 ≤ n) (hfn : from_ < n) (hk0 : cutN n = k) (hm0 : n - k = m) (ha : ¬ from_ ≤ k) (ha0 : from_ - k = a) (hd : d ≤ 100) (hRl : R.length = 32)
    (ci : Calls Tryz.prog 132 #[.slice (some (ad.add (k * 32))) m (c - k), .int .i64 (a : Int), .bool false] w.drew (GivesS w.heap.size w d L))
    (cr : ∀ W : World, Below w.heap.size w W → Calls Tryz.prog 67 #[.slice (some ad) k c] W fun e w' => e = .returned (sv R) ∧ Below W.heap.size W w') :
    Calls Tryz.prog 132 #[.slice (some ad) n c, .int .i64 (from_ : Int), .bool edge] w (GivesS w.heap.size w (d + 1) (L ++ R)) := by
  have hcl := cutN_lt h2
  have hcp := cutN_pos n
  rw [hk0] at hcl hcp
  have hk65 : k ≤ 65536 := by omega
  have ha65 : a ≤ 65536 := by omega
  have hne : ((from_ : Int) == (n : Int)) = false := by simp; omega
  have hai : ¬ (from_ : Int) ≤ (k : Int) := by omega
  have CM := Lib.hid (refCut_all n w h2 (by omega))
  rw [hk0] at CM
  have ht := run_take_sums (ad := ad) (n := n) (c := c) (k := k) (by omega) hc
  have hr := run_drop_sums (ad := ad) (n := n) (c := c) (k := k) hcl hc
  rw [hm0] at hr
  have CI := Lib.hid ci
  have CR := Lib.hid cr
  have HD := Lib.hid hd
  have hd9 : d + 1 ≤ 1000000000 := by omega
  have wn : IntKind.u64.wrap (n : Int) = (n : Int) := by rw [IntKind.wrap_u64]; omega
  have wk : IntKind.i64.wrap (k : Int) = (k : Int) := kwrapI hk65
  have ea : (from_ : Int) - (k : Int) = (a : Int) := by omega
  have wa : wrap64 (a : Int) = (a : Int) := kwrap64 ha65
  have wa2 : IntKind.i64.wrap (a : Int) = (a : Int) := kwrapI ha65
  have wk2 : wrap64 (k : Int) = (k : Int) := kwrap64 hk65
  clear ci cr hcl hcp hc hn h2 hk0 hm0 hd ha hfn hk65 ha0 ha65
  go_enter Tryz.func132, Tryz.ntmps132
  go_wp2_with fail
  refine CM.out.mono ?_
  rintro e w1 ⟨rfl, hww⟩
  subst hww
  go_upto_region 8 with fail
  refine wp_region_held (S := fun _ => True) (by kernel_rfl) ?_
  change wpAnyH _ _ _ _ _ _ _ _ w1.drew
  refine' wpAnyH_take (i := 0) (oi := _) (v := _) ?hi0 (by kernel_rfl) ?hf0 ?hr0 ?hQ0 ?hy0 trivial ?rest0
  case hi0 => (simp only [List.getElem?_toArray, List.getElem?_cons_zero]; rfl)
  case hf0 => kernel_rfl
  case hr0 => kernel_rfl
  case hQ0 => exact fun _ _ _ h => h
  case hy0 =>
    refine Or.inl ⟨by rfl, ?_⟩
    intro W _
    go_simp
    try with_reducible rfl
  try simp only [Act.put, List.setIfInBounds_toArray, List.set_cons_zero, List.set_cons_succ]
  refine' wpAnyH_take (i := 1) (oi := _) (v := _) ?hi1 (by kernel_rfl) ?hf1 ?hr1 ?hQ1 ?hy1 trivial ?rest1
  case hi1 => (simp only [List.getElem?_toArray, List.getElem?_cons_zero, List.getElem?_cons_succ]; rfl)
  case hf1 => kernel_rfl
  case hr1 => kernel_rfl
  case hQ1 => exact fun _ _ _ h => h
  case hy1 =>
    refine Or.inl ⟨by rfl, ?_⟩
    intro W _
    go_simp
    try with_reducible rfl
  try simp only [Act.put, List.setIfInBounds_toArray, List.set_cons_zero, List.set_cons_succ]
  refine' wpAnyH_take (i := 2) (oi := _) (v := _) ?hi2 (by kernel_rfl) ?hf2 ?hr2 ?hQ2 ?hy2 trivial ?rest2
  case hi2 => (simp only [List.getElem?_toArray, List.getElem?_cons_zero, List.getElem?_cons_succ]; rfl)
  case hf2 => kernel_rfl
  case hr2 => kernel_rfl
  case hQ2 => exact fun _ _ _ h => h
  case hy2 =>
    refine Or.inl ⟨by rfl, ?_⟩
    intro W _
    go_simp
    try with_reducible rfl
  try simp only [Act.put, List.setIfInBounds_toArray, List.set_cons_zero, List.set_cons_succ]
  refine' wpAnyH_take (i := 3) (oi := _) (v := _) ?hi3 (by kernel_rfl) ?hf3 ?hr3 ?hQ3 ?hy3 trivial ?rest3
  case hi3 => (simp only [List.getElem?_toArray, List.getElem?_cons_zero, List.getElem?_cons_succ]; rfl)
  case hf3 => kernel_rfl
  case hr3 => kernel_rfl
  case hQ3 => exact fun _ _ _ h => h
  case hy3 =>
    refine Or.inl ⟨by rfl, ?_⟩
    intro W _
    go_simp
    try with_reducible rfl
  try simp only [Act.put, List.setIfInBounds_toArray, List.set_cons_zero, List.set_cons_succ]
  refine' wpAnyH_take (i := 4) (oi := _) (v := _) ?hi4 (by kernel_rfl) ?hf4 ?hr4 ?hQ4 ?hy4 trivial ?rest4
  case hi4 => (simp only [List.getElem?_toArray, List.getElem?_cons_zero, List.getElem?_cons_succ]; rfl)
  case hf4 => kernel_rfl
  case hr4 => kernel_rfl
  case hQ4 => exact fun _ _ _ h => h
  case hy4 =>
    refine Or.inl ⟨by rfl, ?_⟩
    intro W _
    go_simp
    try with_reducible rfl
  try simp only [Act.put, List.setIfInBounds_toArray, List.set_cons_zero, List.set_cons_succ]
  refine' wpAnyH_take (i := 5) (oi := _) (v := _) ?hi5 (by kernel_rfl) ?hf5 ?hr5 ?hQ5 ?hy5 trivial ?rest5
  case hi5 => (simp only [List.getElem?_toArray, List.getElem?_cons_zero, List.getElem?_cons_succ]; rfl)
  case hf5 => kernel_rfl
  case hr5 => kernel_rfl
  case hQ5 => exact fun _ _ _ h => h
  case hy5 =>
    refine Or.inl ⟨by rfl, ?_⟩
    intro W _
    go_simp
    try with_reducible rfl
  try simp only [Act.put, List.setIfInBounds_toArray, List.set_cons_zero, List.set_cons_succ]
  refine' wpAnyH_take (i := 7) (oi := _) (v := _) ?hi7 (by kernel_rfl) ?hf7 ?hr7 ?hQ7 ?hy7 trivial ?rest7
  case hi7 => (simp only [List.getElem?_toArray, List.getElem?_cons_zero, List.getElem?_cons_succ]; rfl)
  case hf7 => kernel_rfl
  case hr7 => kernel_rfl
  case hQ7 => exact fun _ _ _ h => h
  case hy7 =>
    refine Or.inl ⟨by rfl, ?_⟩
    intro W _
    go_simp
    try with_reducible rfl
  try simp only [Act.put, List.setIfInBounds_toArray, List.set_cons_zero, List.set_cons_succ]
  refine' wpAnyH_take (i := 8) (oi := _) (v := _) ?hi8 (by kernel_rfl) ?hf8 ?hr8 ?hQ8 ?hy8 trivial ?rest8
  case hi8 => (simp only [List.getElem?_toArray, List.getElem?_cons_zero, List.getElem?_cons_succ]; rfl)
  case hf8 => kernel_rfl
  case hr8 => kernel_rfl
  case hQ8 => exact fun _ _ _ h => h
  case hy8 =>
    refine Or.inl ⟨by rfl, ?_⟩
    intro W _
    go_simp
    try with_reducible rfl
  try simp only [Act.put, List.setIfInBounds_toArray, List.set_cons_zero, List.set_cons_succ]
  refine' wpAnyH_take (i := 9) (oi := _) (v := _) ?hi9 (by kernel_rfl) ?hf9 ?hr9 ?hQ9 ?hy9 trivial ?rest9
  case hi9 => (simp only [List.getElem?_toArray, List.getElem?_cons_zero, List.getElem?_cons_succ]; rfl)
  case hf9 => kernel_rfl
  case hr9 => kernel_rfl
  case hQ9 => exact fun _ _ _ h => h
  case hy9 =>
    refine Or.inl ⟨by rfl, ?_⟩
    intro W _
    go_simp
    try with_reducible rfl
  try simp only [Act.put, List.setIfInBounds_toArray, List.set_cons_zero, List.set_cons_succ]
  refine wpAnyH_ready (rs := [6]) (by kernel_rfl) (by simp) ?_
  refine' AllReadyH.cons (o := _) ?hi6 (fun K hK => ?_) AllReadyH.nil
  case hi6 => (simp only [List.getElem?_toArray, List.getElem?_cons_zero, List.getElem?_cons_succ]; rfl)
  go_simp
  refine CI.out.mono ?_
  rintro e w2 ⟨A2, c2, rfl, ho2, hb2⟩
  have HO2 := Lib.hid (And.intro ho2 hb2)
  clear ho2 hb2
  refine hK.out _ _ trivial (fun _ => ?_)
  clear hK K
  try simp only [Act.put, List.setIfInBounds_toArray, List.set_cons_zero, List.set_cons_succ]
  refine wpAnyH_ready (rs := [10]) (by kernel_rfl) (by simp) ?_
  refine' AllReadyH.cons (o := _) ?hi10 (fun K hK => ?_) AllReadyH.nil
  case hi10 => (simp only [List.getElem?_toArray, List.getElem?_cons_zero, List.getElem?_cons_succ]; rfl)
  go_simp
  refine (CR.out w2 HO2.out.2).mono ?_
  rintro e w3 ⟨rfl, hb3⟩
  have b3 := below_on HO2.out.2 (Nat.le_refl _) hb3
  have o3 := own_on HO2.out.1 hb3
  have o4 := own_on o3 (below_alloc w3 (.cells (bvs R).toArray 50))
  have b4 := b3.alloc b3.size (.cells (bvs R).toArray 50)
  have i4 : InS (w3.alloc (.cells (bvs R).toArray 50)) (some ⟨w3.heap.size, 0, none⟩) 1 R := InS.of_own (own_sum w3 R 0 hRl (Nat.zero_le _))
  have H4 := Lib.hid (And.intro o4 (And.intro b4 i4))
  clear b3 o3 o4 b4 i4 hb3
  refine hK.out _ _ trivial (fun _ => ?_)
  clear hK K
  try simp only [Act.put, List.setIfInBounds_toArray, List.set_cons_zero, List.set_cons_succ]
  refine wpAnyH_ready (rs := [11]) (by kernel_rfl) (by simp) ?_
  refine' AllReadyH.cons (o := _) ?hi11 (fun K hK => ?_) AllReadyH.nil
  case hi11 => (simp only [List.getElem?_toArray, List.getElem?_cons_zero, List.getElem?_cons_succ]; rfl)
  rw [if_pos (by rfl)]
  refine wp_sums _ [R] 1 rfl rfl (by simp <;> rfl) (by intro q hq; simp at hq; rw [hq]; exact hRl) (by omega) (by omega) ?_
  rw [show [R].flatten = R by simp]
  refine hK.out _ _ trivial (fun _ => ?_)
  clear hK K
  try simp only [Act.put, List.setIfInBounds_toArray, List.set_cons_zero, List.set_cons_succ]
  refine wpAnyH_ready (rs := [12]) (by kernel_rfl) (by simp) ?_
  refine' AllReadyH.cons (o := _) ?hi12 (fun K hK => ?_) AllReadyH.nil
  case hi12 => (simp only [List.getElem?_toArray, List.getElem?_cons_zero, List.getElem?_cons_succ]; rfl)
  refine step_sapp (K := K) (by rfl) _ _ (by rfl) w1.heap.size A2 d c2 L (by rfl) H4.out.1 (some ⟨w3.heap.size, 0, none⟩) 1 1 R (by rfl) H4.out.2.2 (fun h => by cases h) hd9 H4.out.2.1.size ?_
  intro A5 c5 w5 o5 nx5
  refine hK.out _ _ trivial (fun _ => ?_)
  clear hK K
  try simp only [Act.put, List.setIfInBounds_toArray, List.set_cons_zero, List.set_cons_succ]
  refine' wpAnyH_take (i := 13) (oi := _) (v := _) ?hi13 (by kernel_rfl) ?hf13 ?hr13 ?hQ13 ?hy13 trivial ?rest13
  case hi13 => (simp only [List.getElem?_toArray, List.getElem?_cons_zero, List.getElem?_cons_succ]; rfl)
  case hf13 => kernel_rfl
  case hr13 => kernel_rfl
  case hQ13 => exact fun _ _ _ h => h
  case hy13 =>
    refine Or.inl ⟨by rfl, ?_⟩
    intro W _
    go_simp
    try with_reducible rfl
  try simp only [Act.put, List.setIfInBounds_toArray, List.set_cons_zero, List.set_cons_succ]
  refine wpAnyH_done (by kernel_rfl) ?_ _
  go_wp2
  go_ret
  exact ⟨A5, c5, rfl, o5, nx5.below H4.out.1 H4.out.2.1 (Nat.le_refl _) H4.out.2.1.size⟩

end

end Go.Proofs.YtnaebjdccngeoaaGreatDoor

/-
  almonerref11.link whole; almonerref11.Of.
-/
namespace Go.Proofs.YtnaebjdccngeoaaGreatDoor
open Go.RowKit

theorem refLink_any : ∀ (n from_ : Nat) (edge : Bool) (A : Option Addr) (c : Nat) (ys : List Nat) (w : World), InS w A n ys → (∀ x ∈ ys, x < 256) → n ≤ c → n ≤ 65536 → 1 ≤ from_ → from_ ≤ n →
    Calls Tryz.prog 132 #[.slice A n c, .int .i64 (from_ : Int), .bool edge] w (GivesS w.heap.size w (ldep from_ n edge) (linkL (nth ys) 0 n from_ edge).flatten) := by
  intro n
  induction n using Nat.strongRecOn with
  | ind n ih =>
    intro from_ edge A c ys w hin hy hc hn h1 hfn
    by_cases h2 : n < 2 ∨ from_ = n
    · have hf : from_ = n := by omega
      rw [ldep_all h2, linkL_all _ h2]
      cases edge with
      | true => exact refLink_edge hf
      | false =>
        simp only [Bool.false_eq_true, if_false, List.flatten_singleton]
        exact refLink_root hf (rt_length _ 0 n fun j hj => nth_length hin.len (by omega)) (refRoot_any n A c ys w hin hy hc (by omega))
    · have hcl := cutN_lt (m := n) (by omega)
      have hcp := cutN_pos n
      obtain ⟨ad, rfl⟩ := hin.some_ (by omega)
      have hd := ldep_64 (n := n) (by omega) from_ edge
      have lk : ∀ {i m : Nat}, i + m ≤ n → (rt (nth ys) i m).length = 32 := fun {i m} h => rt_length _ i m fun j hj => nth_length hin.len (by omega)
      have dr : Below w.heap.size w w.drew := (Below.refl _ w).drew
      have ytake : ∀ x ∈ ys.take (32 * cutN n), x < 256 := fun x hx => hy x (List.mem_of_mem_take hx)
      have ydrop : ∀ x ∈ ys.drop (32 * cutN n), x < 256 := fun x hx => hy x (List.mem_of_mem_drop hx)
      by_cases ha : from_ ≤ cutN n
      · rw [ldep_low h2 ha] at hd ⊢
        rw [linkL_low _ h2 ha, List.flatten_append, List.flatten_singleton, Nat.zero_add]
        refine refLink_low hc hn (by omega) (by omega) rfl rfl ha (by omega) (lk (by omega)) ?_ ?_
        · have := ih (cutN n) hcl from_ edge (some ad) c (ys.take (32 * cutN n)) w.drew ((hin.take (k := cutN n) (by omega)).below dr) ytake (by omega) (by omega) h1 ha
          rw [linkL_congr (nth (ys.take (32 * cutN n))) (nth ys) (cutN n) 0 0 from_ edge (fun j hj => by rw [Nat.zero_add]; exact nth_take hj)] at this
          exact this.mono fun e w' ⟨A', c', he, ho, hb⟩ => ⟨A', c', he, ho, dr.trans hb⟩
        · intro W hW
          have := refRoot_any (n - cutN n) (some (ad.add (cutN n * 32))) (c - cutN n) (ys.drop (32 * cutN n)) W ((hin.drop_ _ (by omega)).below hW) ydrop (by omega) (by omega)
          rw [rt_drop] at this
          exact this
      · rw [ldep_high h2 ha] at hd ⊢
        rw [linkL_high _ h2 ha, List.flatten_append, List.flatten_singleton, Nat.zero_add]
        refine refLink_high hc hn (by omega) (by omega) rfl rfl ha rfl (by omega) (lk (by omega)) ?_ ?_
        · have := ih (n - cutN n) (by omega) (from_ - cutN n) false (some (ad.add (cutN n * 32))) (c - cutN n) (ys.drop (32 * cutN n)) w.drew ((hin.drop_ (cutN n) (by omega)).below dr) ydrop (by omega) (by omega) (by omega) (by omega)
          rw [linkL_congr (nth (ys.drop (32 * cutN n))) (nth ys) (n - cutN n) 0 (cutN n) (from_ - cutN n) false (fun j hj => by rw [Nat.zero_add]; exact nth_drop _ _ _)] at this
          exact this.mono fun e w' ⟨A', c', he, ho, hb⟩ => ⟨A', c', he, ho, dr.trans hb⟩
        · intro W hW
          have := refRoot_any (cutN n) (some ad) c (ys.take (32 * cutN n)) W ((hin.take (by omega)).below hW) ytake (by omega) (by omega)
          rw [rt_take] at this
          exact this

set_option maxRecDepth 100000 in
set_option maxHeartbeats 1000000 in
/-- almonerref11.Of of no beginning. -/
theorem refKOf_no {w : World} {n c : Nat} {A : Option Addr} (z : Int) (h : z < 1 ∨ (n : Int) < z) :
    Calls Tryz.prog 64 #[.slice A n c, .int .i64 z] w fun e w' => e = .returned (.tuple #[.slice none 0 0, .int .i64 1]) ∧ w' = w := by
  by_cases h0 : z < 1
  · go_enter Tryz.func64, Tryz.ntmps64
    go_wp2_with fail
    go_ret2
    exact ⟨rfl, rfl⟩
  · have h1 : (n : Int) < z := by omega
    have hd : decide (z < 1) = false := by simp; omega
    go_enter Tryz.func64, Tryz.ntmps64
    go_wp2_with fail
    go_ret2
    exact ⟨rfl, rfl⟩

set_option maxRecDepth 100000 in
set_option maxHeartbeats 1000000 in
/-- almonerref11.Of. -/
theorem refKOf_yes {w : World} {n c from_ : Nat} {A : Option Addr} {ys : List Nat} (hin : InS w A n ys) (hy : ∀ x ∈ ys, x < 256) (hc : n ≤ c) (hn : n ≤ 65536) (h1 : 1 ≤ from_) (hfn : from_ ≤ n) :
    Calls Tryz.prog 64 #[.slice A n c, .int .i64 (from_ : Int)] w fun e w' => ∃ A' c', e = .returned (.tuple #[.slice A' (ldep from_ n true) c', .int .i64 0]) ∧ w'.ownsRow w.heap.size 50 32 (.slice A' (ldep from_ n true) c') (ldep from_ n true) (bvs (linkL (nth ys) 0 n from_ true).flatten) ∧ Below w.heap.size w w' := by
  have C := Lib.hid (refLink_any n from_ true A c ys w hin hy hc hn h1 hfn)
  have h0 : ¬ (from_ : Int) < 1 := by omega
  have hd : decide ((from_ : Int) < 1) = false := by simp; omega
  have h2 : ¬ (n : Int) < (from_ : Int) := by omega
  clear hin hy hc hn h1 hfn
  go_enter Tryz.func64, Tryz.ntmps64
  go_wp2_with fail
  refine C.out.mono ?_
  rintro e w1 ⟨A', c', rfl, ho, hb⟩
  go_wp2_with fail
  go_ret2
  exact ⟨A', c', rfl, ho, hb⟩

end Go.Proofs.YtnaebjdccngeoaaGreatDoor

/-
  The document's chain: Sums, Mark, Root, first, Path, Link.
-/
namespace Go.Proofs.YtnaebjdccngeoaaGreatDoor
open Go.RowKit

/-- The entries of the document's chain may be. -/
def Fit (rows : List (List Nat)) : Prop := ∀ b ∈ rows, b.length ≤ 16384
theorem Fit.take {rows : List (List Nat)} (h : Fit rows) (k : Nat) : Fit (rows.take k) := fun b hb => h b (List.mem_of_mem_take hb)

set_option maxRecDepth 100000 in
set_option maxHeartbeats 2000000 in
theorem refSums_any (A : Option Addr) (n c : Nat) (rows : List (List Nat)) (w : World) (h : CameRows w A n rows) (hn : n ≤ 60000) (hf : Fit rows) :
    Calls Tryz.prog 63 #[.slice A n c] w fun e w' => ∃ A' c', e = .returned (.slice A' n c') ∧ w'.ownsRow w.heap.size 50 32 (.slice A' n c') n (bvs (leavesL rows)) ∧ Below w.heap.size w w' := by
  have HH := Lib.hid (And.intro h hf)
  have hlen : rows.length = n := h.len
  have HL := Lib.hid hlen
  clear h hf hlen
  go_enter Tryz.func63, Tryz.ntmps63
  go_wp2_with fail
  go_loopw [3, 4] (fun s i wr => ∃ (j : Nat) (A' : Option Addr) (c' : Nat), j ≤ n ∧ i = .int .i64 (j : Int) ∧ s = .slice A' j c' ∧ Hid (wr.ownsRow w.heap.size 50 32 (.slice A' j c') j (bvs (leavesL (rows.take j))) ∧ Below w.heap.size w wr)) (fun _ i _ => n - (intOf i).toNat)
  case atStart => exact ⟨0, none, 0, Nat.zero_le _, rfl, rfl, Lib.hid ⟨by rw [List.take_zero]; exact own_none _ _ _ _, Below.refl _ _⟩⟩
  case round =>
    obtain ⟨j, A1, c1, hj, rfl, rfl, HR⟩ := hrel
    by_cases hlt : j < n
    · have hji : (j : Int) < (n : Int) := by omega
      obtain ⟨b, hbj⟩ : ∃ b, rows[j]? = some b := ⟨_, List.getElem?_eq_getElem (by rw [HL.out]; exact hlt)⟩
      obtain ⟨ad, B, bl, d, rfl, hcell, hcame, hbl⟩ := HH.out.1.row j b hbj
      have hb16 : bl ≤ 16384 := by have := HH.out.2 b (List.mem_of_getElem? hbj); rw [hcame.in_.len] at this; exact this
      have hcc := (HR.out.2.cell (World.block_lt_of_cell? w _ hcell)).trans hcell
      obtain ⟨s, hs⟩ : ∃ s, leafL b = s := ⟨_, rfl⟩
      have hsl : s.length = 32 := by rw [← hs]; exact leafL_length _
      have htk : leavesL (rows.take (j + 1)) = leavesL (rows.take j) ++ s := by rw [rows_snoc hbj, leavesL_snoc, hs]
      have CT := refLeaf_any B bl d b wr (hcame.below HR.out.2) (by omega)
      rw [hs] at CT
      have C1 := Lib.hid CT
      have HT := Lib.hid htk
      clear CT hs htk hcame hcell hbj
      go_wp2_with fail
      refine C1.out.mono ?_
      rintro e w1 ⟨rfl, hb1⟩
      have HB := Lib.hid (below_on HR.out.2 (Nat.le_refl _) hb1)
      have HO := Lib.hid (own_on (own_on HR.out.1 hb1) (below_alloc w1 (.cells (bvs s).toArray 50)))
      have HB2 := Lib.hid (below_on HB.out (Nat.le_refl _) (below_alloc w1 (.cells (bvs s).toArray 50)))
      have HI := Lib.hid (show InS (w1.alloc (.cells (bvs s).toArray 50)) (some ⟨w1.heap.size, 0, none⟩) 1 s from ⟨hsl, (In.new' w1 s 50).rd⟩)
      clear hb1 C1 hcc
      go_wp2_with (first
        | (refine wpList_one_sum rfl _ s rfl (by simp <;> rfl) hsl ?_)
        | (refine wpList_step fun K hK => ?_; refine step_sapp (K := K) (by rfl) _ _ (by rfl) w.heap.size A1 j c1 (leavesL (rows.take j)) (by rfl) HO.out (some ⟨w1.heap.size, 0, none⟩) 1 1 s (by rfl) HI.out (fun e => by cases e) (by omega) HB2.out.size ?_; intro A3 c3 w3 ow3 nx3; have HN := Lib.hid (And.intro ow3 nx3); clear ow3 nx3; refine hK _ _ ?_; clear hK K))
      go_roundw
      case rel =>
        have ho3 := HN.out.1
        rw [← HT.out] at ho3
        exact ⟨j + 1, A3, c3, by omega, by go_num, rfl, Lib.hid ⟨ho3, HN.out.2.below HO.out HB2.out (Nat.le_refl _) HB2.out.size⟩⟩
      case measure => simp [intOf]; omega
    · obtain rfl : j = n := by omega
      have ho := HR.out.1
      rw [List.take_of_length_le (by rw [HL.out]; exact Nat.le_refl _)] at ho
      have HO := Lib.hid (And.intro ho HR.out.2)
      clear ho
      go_wp2_with fail
      go_ret
      exact ⟨A1, c1, rfl, HO.out.1, HO.out.2⟩

theorem href_res (w : World) : ∃ w1, w1 = w.alloc (.cells #[.int .u8 0, .int .u8 0, .int .u8 0, .int .u8 0, .int .u8 0, .int .u8 0, .int .u8 0, .int .u8 0, .int .u8 0, .int .u8 0, .int .u8 0, .int .u8 0, .int .u8 0, .int .u8 0, .int .u8 0, .int .u8 0, .int .u8 0, .int .u8 0, .int .u8 0, .int .u8 0, .int .u8 0, .int .u8 0, .int .u8 0, .int .u8 0, .int .u8 0, .int .u8 0, .int .u8 0, .int .u8 0, .int .u8 0, .int .u8 0, .int .u8 0, .int .u8 0] 50) ∧ Below w.heap.size w w1 ∧ BArr w1 w.heap.size 50 zero32 := ⟨_, rfl, below_alloc _ _, BArr.new w _ zero32⟩

set_option maxRecDepth 100000 in
set_option maxHeartbeats 1000000 in
theorem refRootH_any (A : Option Addr) (n c : Nat) (rows : List (List Nat)) (w : World) (h : CameRows w A n rows) (hn : n ≤ 60000) (hf : Fit rows) :
    Calls Tryz.prog 22 #[.slice A n c] w fun e w' => e = .returned (sv (rt (lf rows) 0 n)) ∧ Below w.heap.size w w' := by
  obtain ⟨w1, hw1, b1, r1⟩ := href_res w
  have C := Lib.hid (refSums_any A n c rows w1 (h.below b1) hn hf)
  have hml := rt_length (lf rows) 0 n fun j hj => lf_length rows _
  have hroot : rt (nth (leavesL rows)) 0 n = rt (lf rows) 0 n := by
    have := root_first rows (n := n) (by rw [h.len]; exact Nat.le_refl _)
    rwa [List.take_of_length_le (by rw [h.len]; exact Nat.le_refl _)] at this
  have D := Lib.hid (fun (A' : Option Addr) (c' : Nat) (w2 : World) (ho : w2.ownsRow w1.heap.size 50 32 (.slice A' n c') n (bvs (leavesL rows))) => hroot ▸ refRoot_any n A' c' (leavesL rows) w2 (InS.of_own ho) (leavesL_lt _) (own_cap ho) (by omega))
  obtain ⟨m, hm⟩ : ∃ m, rt (lf rows) 0 n = m := ⟨_, rfl⟩
  rw [hm] at D hml ⊢
  have HW := Lib.hid hw1
  have H1 := Lib.hid (And.intro b1 r1)
  clear h hw1 b1 r1 hm hroot hf
  go_enter Tryz.func22, Tryz.ntmps22
  go_upto_region 1 with fail
  rw [← HW.out]
  go_wp2_with fail
  refine C.out.mono ?_
  rintro e w2 ⟨A', c', rfl, ho, hb⟩
  have D2 := Lib.hid (D.out A' c' w2 ho)
  have H2 := Lib.hid (And.intro (below_on H1.out.1 (Nat.le_refl _) hb) (H1.out.2.below hb))
  clear ho hb
  go_wp2_with fail
  refine D2.out.mono ?_
  rintro e w3 ⟨rfl, hb3⟩
  have f3 := H2.out.2.below hb3
  have HB := Lib.hid (below_on H2.out.1 (Nat.le_refl _) hb3)
  have HZ32 := Lib.hid (show zero32.length = 32 from rfl)
  clear hb3
  go_wp2_with (with_reducible refine wpList_store_sum rfl (.tmp 2) (.tmp 5) rfl w.heap.size rfl zero32 m HZ32 hml f3 rfl ?_)
  refine bodyPost_ret_by (results_cell_row (p := 2) (ty := 50) (by kernel_rfl) _ _ w.heap.size 50 (bvs m).toArray (0, 0) _ rfl (f3.setRow _) Tryz.underlying50 rfl (by rw [List.size_toArray, bvs_length, hml]; exact sizeSum)) rfl ?_
  exact ⟨rfl, below_setRow HB.out (Nat.le_refl _) _⟩

/-- The first ones of a slice of slices. -/
theorem CameRows.take' {w : World} {A : Option Addr} {n k : Nat} {rows : List (List Nat)} (h : CameRows w A n rows) (hk : k ≤ n) : CameRows w A k (rows.take k) :=
  ⟨by rw [List.length_take, h.len]; omega, fun r xs hx => by
    rw [List.getElem?_take] at hx
    split at hx
    · exact h.row r xs hx
    · cases hx⟩
theorem run_take_rowsU {A : Option Addr} {n c k : Nat} (hk : k ≤ n) (hc : n ≤ c) (hn : A = none → c = 0) (W : World) :
    (Instr.slice 22 (.slice A n c) none (some (.int .u64 (k : Int))) none).run Tryz.prog W = .ok (.slice A k c) W := by
  obtain ⟨i0, hi, hz0, hz1, hz2⟩ := info_parts infoSlc
  have he : Tryz.prog.elem 22 = 38 := by kernel_rfl
  rw [run_slice_h W 22 A n c (by rw [he]; exact Tryz.underlying22) .u64 (k : Int) (by omega) (by omega), he]
  cases A with
  | none =>
    obtain rfl := hn rfl
    obtain rfl : k = 0 := by omega
    simp [sizeOf, typeInfo, hi, hz1, sliced]
  | some ad => simp [sizeOf, typeInfo, hi, hz1, sliced, add_zero']

set_option maxRecDepth 100000 in
theorem refFirst_yes {A : Option Addr} {n c k : Nat} (hk : k ≤ n) (hc : n ≤ c) (hn : A = none → c = 0) (h6 : n ≤ 60000) (w : World) :
    Calls Tryz.prog 61 #[.slice A n c, .int .u64 (k : Int)] w fun e w' => e = .returned (.tuple #[.slice A k c, .bool true]) ∧ w' = w := by
  have hcut := fun W => run_take_rowsU hk hc hn W
  have hi : ¬ ((n : Int) < (k : Int)) := by omega
  clear hn
  go_enter Tryz.func61, Tryz.ntmps61
  go_wp2_with fail
  go_ret2
  exact ⟨rfl, rfl⟩
set_option maxRecDepth 100000 in
theorem refFirst_no {A : Option Addr} {n c k : Nat} (hk : n < k) (h6 : n ≤ 60000) (w : World) :
    Calls Tryz.prog 61 #[.slice A n c, .int .u64 (k : Int)] w fun e w' => e = .returned (.tuple #[.slice none 0 0, .bool false]) ∧ w' = w := by
  have hi : (n : Int) < (k : Int) := by omega
  go_enter Tryz.func61, Tryz.ntmps61
  go_wp2_with fail
  go_ret2
  exact ⟨rfl, rfl⟩

end Go.Proofs.YtnaebjdccngeoaaGreatDoor

/-
  The document's chain: Path, Link, Mark.
-/
namespace Go.Proofs.YtnaebjdccngeoaaGreatDoor
open Go.RowKit

section
variable {w : World} {A : Option Addr} {n c : Nat} {rows : List (List Nat)}

set_option maxRecDepth 100000 in
set_option maxHeartbeats 1000000 in
theorem refPathH_any (h : CameRows w A n rows) (hc : n ≤ c) (hnil : A = none → c = 0) (hn : n ≤ 60000) (hf : Fit rows) (a z : Nat) (ha64 : a < 18446744073709551616) :
    Calls Tryz.prog 17 #[.slice A n c, .int .u64 (a : Int), .int .u64 (z : Int)] w fun e w' => ∃ A' c', e = .returned (.tuple #[.slice A' (pathN rows a z) c', .int .i64 (pathE rows a z)]) ∧ w'.ownsRow w.heap.size 50 32 (.slice A' (pathN rows a z) c') (pathN rows a z) (bvs (pathS rows a z)) ∧ Below w.heap.size w w' := by
  unfold pathN pathE pathS
  have hlen : rows.length = n := h.len
  by_cases hz : z ≤ n
  · have F := Lib.hid (refFirst_yes (A := A) (n := n) (c := c) hz hc hnil hn w)
    by_cases ha : a < z
    · have ok : pathOk rows a z := ⟨by rw [hlen]; exact hz, ha⟩
      rw [if_pos ok, if_pos ok, if_pos ok]
      have hfar : ¬ ((z : Int) ≤ (a : Int)) := by omega
      have S := Lib.hid (refSums_any A z c (rows.take z) w (h.take' hz) (by omega) (hf.take z))
      have D := Lib.hid (fun (A' : Option Addr) (c' : Nat) (w2 : World) (ho : w2.ownsRow w.heap.size 50 32 (.slice A' z c') z (bvs (leavesL (rows.take z)))) => refOf_yes (at_ := a) (InS.of_own ho) (leavesL_lt _) (own_cap ho) (by omega) ha)
      rw [path_first rows (n := z) (by rw [hlen]; exact hz)] at D
      have hwa : IntKind.i64.wrap (a : Int) = (a : Int) := by rw [IntKind.wrap_i64]; omega
      clear h hf hnil ok hlen
      go_enter Tryz.func17, Tryz.ntmps17
      go_wp2_with fail
      refine F.out.mono ?_
      rintro e w' ⟨rfl, e1⟩
      obtain rfl := e1.symm
      clear e1
      go_wp2_with fail
      refine S.out.mono ?_
      rintro e w2 ⟨A', c', rfl, ho, hb⟩
      have D2 := Lib.hid (D.out A' c' w2 ho)
      have HB := Lib.hid hb
      clear ho hb
      go_wp2_with fail
      refine D2.out.mono ?_
      rintro e w3 ⟨A3, c3, rfl, ho3, hb3⟩
      have H3 := Lib.hid (And.intro ho3 hb3)
      clear ho3 hb3
      go_wp2_with fail
      go_ret2
      exact ⟨A3, c3, rfl, own_rebase H3.out.1 (fun b e => Nat.le_trans HB.out.size (H3.out.1.lt b e).1), below_on HB.out (Nat.le_refl _) H3.out.2⟩
    · have ok : ¬ pathOk rows a z := fun h => ha h.2
      rw [if_neg ok, if_neg ok, if_neg ok]
      have hfar : (z : Int) ≤ (a : Int) := by omega
      clear h hf hnil ok hlen
      go_enter Tryz.func17, Tryz.ntmps17
      go_wp2_with fail
      refine F.out.mono ?_
      rintro e w' ⟨rfl, e1⟩
      obtain rfl := e1.symm
      clear e1
      go_wp2_with fail
      go_ret2
      exact ⟨none, 0, rfl, own_none _ _ _ _, Below.refl _ _⟩
  · have ok : ¬ pathOk rows a z := fun h => hz (by rw [← hlen]; exact h.1)
    rw [if_neg ok, if_neg ok, if_neg ok]
    have F := Lib.hid (refFirst_no (A := A) (n := n) (c := c) (k := z) (by omega) hn w)
    clear h hf hnil ok hlen
    go_enter Tryz.func17, Tryz.ntmps17
    go_wp2_with fail
    refine F.out.mono ?_
    rintro e w' ⟨rfl, e1⟩
    obtain rfl := e1.symm
    clear e1
    go_wp2_with fail
    go_ret2
    exact ⟨none, 0, rfl, own_none _ _ _ _, Below.refl _ _⟩

set_option maxRecDepth 100000 in
set_option maxHeartbeats 1000000 in
theorem refLinkH_any (h : CameRows w A n rows) (hc : n ≤ c) (hnil : A = none → c = 0) (hn : n ≤ 60000) (hf : Fit rows) (a z : Nat) (ha64 : a < 18446744073709551616) :
    Calls Tryz.prog 18 #[.slice A n c, .int .u64 (a : Int), .int .u64 (z : Int)] w fun e w' => ∃ A' c', e = .returned (.tuple #[.slice A' (linkN rows a z) c', .int .i64 (linkE rows a z)]) ∧ w'.ownsRow w.heap.size 50 32 (.slice A' (linkN rows a z) c') (linkN rows a z) (bvs (linkS rows a z)) ∧ Below w.heap.size w w' := by
  unfold linkN linkE linkS
  have hlen : rows.length = n := h.len
  by_cases hz : z ≤ n
  · have F := Lib.hid (refFirst_yes (A := A) (n := n) (c := c) hz hc hnil hn w)
    by_cases ha : 1 ≤ a ∧ a ≤ z
    · have ok : linkOk rows a z := ⟨by rw [hlen]; exact hz, ha.1, ha.2⟩
      rw [if_pos ok, if_pos ok, if_pos ok]
      have hfar : ¬ ((z : Int) < (a : Int)) := by omega
      have S := Lib.hid (refSums_any A z c (rows.take z) w (h.take' hz) (by omega) (hf.take z))
      have D := Lib.hid (fun (A' : Option Addr) (c' : Nat) (w2 : World) (ho : w2.ownsRow w.heap.size 50 32 (.slice A' z c') z (bvs (leavesL (rows.take z)))) => refKOf_yes (from_ := a) (InS.of_own ho) (leavesL_lt _) (own_cap ho) (by omega) ha.1 ha.2)
      rw [link_first rows (n := z) (by rw [hlen]; exact hz)] at D
      have hwa : IntKind.i64.wrap (a : Int) = (a : Int) := by rw [IntKind.wrap_i64]; omega
      clear h hf hnil ok hlen
      go_enter Tryz.func18, Tryz.ntmps18
      go_wp2_with fail
      refine F.out.mono ?_
      rintro e w' ⟨rfl, e1⟩
      obtain rfl := e1.symm
      clear e1
      go_wp2_with fail
      refine S.out.mono ?_
      rintro e w2 ⟨A', c', rfl, ho, hb⟩
      have D2 := Lib.hid (D.out A' c' w2 ho)
      have HB := Lib.hid hb
      clear ho hb
      go_wp2_with fail
      refine D2.out.mono ?_
      rintro e w3 ⟨A3, c3, rfl, ho3, hb3⟩
      have H3 := Lib.hid (And.intro ho3 hb3)
      clear ho3 hb3
      go_wp2_with fail
      go_ret2
      exact ⟨A3, c3, rfl, own_rebase H3.out.1 (fun b e => Nat.le_trans HB.out.size (H3.out.1.lt b e).1), below_on HB.out (Nat.le_refl _) H3.out.2⟩
    · have ok : ¬ linkOk rows a z := fun h => ha h.2
      rw [if_neg ok, if_neg ok, if_neg ok]
      by_cases hfa : z < a
      · have hfar : (z : Int) < (a : Int) := by omega
        clear h hf hnil ok hlen
        go_enter Tryz.func18, Tryz.ntmps18
        go_wp2_with fail
        refine F.out.mono ?_
        rintro e w' ⟨rfl, e1⟩
        obtain rfl := e1.symm
        clear e1
        go_wp2_with fail
        go_ret2
        exact ⟨none, 0, rfl, own_none _ _ _ _, Below.refl _ _⟩
      · obtain rfl : a = 0 := by omega
        have hfar : ¬ ((z : Int) < ((0 : Nat) : Int)) := by omega
        have S := Lib.hid (refSums_any A z c (rows.take z) w (h.take' hz) (by omega) (hf.take z))
        have D := Lib.hid (fun (A' : Option Addr) (c' : Nat) (w2 : World) => refKOf_no (w := w2) (A := A') (n := z) (c := c') 0 (by omega))
        clear h hf hnil ok hlen
        go_enter Tryz.func18, Tryz.ntmps18
        go_wp2_with fail
        refine F.out.mono ?_
        rintro e w' ⟨rfl, e1⟩
        obtain rfl := e1.symm
        clear e1
        go_wp2_with fail
        refine S.out.mono ?_
        rintro e w2 ⟨A', c', rfl, ho, hb⟩
        have HB := Lib.hid hb
        clear ho hb
        go_wp2_with fail
        refine (D.out A' c' w2).mono ?_
        rintro e w' ⟨rfl, e1⟩
        obtain rfl := e1.symm
        clear e1
        go_wp2_with fail
        go_ret2
        exact ⟨none, 0, rfl, own_none _ _ _ _, HB.out⟩
  · have ok : ¬ linkOk rows a z := fun h => hz (by rw [← hlen]; exact h.1)
    rw [if_neg ok, if_neg ok, if_neg ok]
    have F := Lib.hid (refFirst_no (A := A) (n := n) (c := c) (k := z) (by omega) hn w)
    clear h hf hnil ok hlen
    go_enter Tryz.func18, Tryz.ntmps18
    go_wp2_with fail
    refine F.out.mono ?_
    rintro e w' ⟨rfl, e1⟩
    obtain rfl := e1.symm
    clear e1
    go_wp2_with fail
    go_ret2
    exact ⟨none, 0, rfl, own_none _ _ _ _, Below.refl _ _⟩

end

theorem take_snoc_rows {rows : List (List Nat)} {j : Nat} {b : List Nat} (h : rows[j]? = some b) : rows.take (j + 1) = rows.take j ++ [b] := by rw [List.take_add_one, h]; rfl

set_option maxRecDepth 100000 in
set_option maxHeartbeats 4000000 in
theorem refMarkH_any (A : Option Addr) (n c : Nat) (rows : List (List Nat)) (w : World) (h : CameRows w A n rows) (hn : n ≤ 60000) (hf : Fit rows) :
    Calls Tryz.prog 21 #[.slice A n c] w fun e w' => e = .returned (sv (markL rows)) ∧ Below w.heap.size w w' := by
  obtain ⟨w1, hw1⟩ : ∃ w1, w1 = (w.alloc (.cells #[.int .u8 0, .int .u8 0, .int .u8 0, .int .u8 0, .int .u8 0, .int .u8 0, .int .u8 0, .int .u8 0, .int .u8 0, .int .u8 0, .int .u8 0, .int .u8 0, .int .u8 0, .int .u8 0, .int .u8 0, .int .u8 0, .int .u8 0, .int .u8 0, .int .u8 0, .int .u8 0, .int .u8 0, .int .u8 0, .int .u8 0, .int .u8 0, .int .u8 0, .int .u8 0, .int .u8 0, .int .u8 0, .int .u8 0, .int .u8 0, .int .u8 0, .int .u8 0] 50)).alloc (.cells #[.int .u8 0, .int .u8 0, .int .u8 0, .int .u8 0, .int .u8 0, .int .u8 0, .int .u8 0, .int .u8 0, .int .u8 0, .int .u8 0, .int .u8 0, .int .u8 0, .int .u8 0, .int .u8 0, .int .u8 0, .int .u8 0, .int .u8 0, .int .u8 0, .int .u8 0, .int .u8 0, .int .u8 0, .int .u8 0, .int .u8 0, .int .u8 0, .int .u8 0, .int .u8 0, .int .u8 0, .int .u8 0, .int .u8 0, .int .u8 0, .int .u8 0, .int .u8 0] 50) := ⟨_, rfl⟩
  have b1 : Below w.heap.size w w1 := by rw [hw1]; exact (below_alloc w _).alloc (by rw [World.size_alloc]; omega) _
  have r1 : BArr w1 w.heap.size 50 zero32 := by rw [hw1]; exact (BArr.new w 50 zero32).alloc _
  have r2 : BArr w1 (w.heap.size + 1) 50 zero32 := by
    have h0 := BArr.new (w.alloc (.cells #[.int .u8 0, .int .u8 0, .int .u8 0, .int .u8 0, .int .u8 0, .int .u8 0, .int .u8 0, .int .u8 0, .int .u8 0, .int .u8 0, .int .u8 0, .int .u8 0, .int .u8 0, .int .u8 0, .int .u8 0, .int .u8 0, .int .u8 0, .int .u8 0, .int .u8 0, .int .u8 0, .int .u8 0, .int .u8 0, .int .u8 0, .int .u8 0, .int .u8 0, .int .u8 0, .int .u8 0, .int .u8 0, .int .u8 0, .int .u8 0, .int .u8 0, .int .u8 0] 50)) 50 zero32
    rw [World.size_alloc] at h0
    rw [hw1]; exact h0
  have HH := Lib.hid (And.intro h hf)
  have hlen : rows.length = n := h.len
  have HL := Lib.hid hlen
  have HW := Lib.hid hw1
  have H1 := Lib.hid (And.intro r1 (And.intro r2 b1))
  clear h hf hlen hw1 b1 r1 r2
  obtain ⟨q, hq⟩ : ∃ q, w.heap.size = q := ⟨_, rfl⟩
  have HQ := Lib.hid hq
  go_enter Tryz.func21, Tryz.ntmps21
  go_upto_region 2 with fail
  rw [← HW.out]
  rw [hq] at H1
  clear hq HW
  go_wp2_with fail
  go_loopw [4] (fun i wr => ∃ j : Nat, j ≤ n ∧ i = .int .i64 (j : Int) ∧ Hid (BArr wr q 50 zero32 ∧ BArr wr (q + 1) 50 (markL (rows.take j)) ∧ Below q w wr)) (fun i _ => n - (intOf i).toNat)
  case atStart => exact ⟨0, Nat.zero_le _, rfl, Lib.hid ⟨H1.out.1, by rw [List.take_zero]; exact H1.out.2.1, H1.out.2.2⟩⟩
  case round =>
    obtain ⟨j, hj, rfl, HR⟩ := hrel
    by_cases hlt : j < n
    · have hji : (j : Int) < (n : Int) := by omega
      obtain ⟨b, hbj⟩ : ∃ b, rows[j]? = some b := ⟨_, List.getElem?_eq_getElem (by rw [HL.out]; exact hlt)⟩
      obtain ⟨ad, B, bl, d, rfl, hcell, hcame, hbl⟩ := HH.out.1.row j b hbj
      have hb16 : bl ≤ 16384 := by have := HH.out.2 b (List.mem_of_getElem? hbj); rw [hcame.in_.len] at this; exact this
      have bel : Below w.heap.size w wr := by rw [HQ.out]; exact HR.out.2.2
      have hcc := (bel.cell (World.block_lt_of_cell? w _ hcell)).trans hcell
      obtain ⟨s, hs⟩ : ∃ s, leafL b = s := ⟨_, rfl⟩
      have hsl : s.length = 32 := by rw [← hs]; exact leafL_length _
      obtain ⟨m, hm⟩ : ∃ m, markL (rows.take j) = m := ⟨_, rfl⟩
      have hml : m.length = 32 := by rw [← hm]; exact markL_length _
      obtain ⟨m2, hm2⟩ : ∃ m2, sha (m ++ s) = m2 := ⟨_, rfl⟩
      have hm2l : m2.length = 32 := by rw [← hm2]; exact sha_length _
      have hnew : markL (rows.take (j + 1)) = m2 := by rw [take_snoc_rows hbj, markL_snoc, hm, hs, hm2]
      have CT := refLeaf_any B bl d b wr (hcame.below bel) (by omega)
      rw [hs] at CT
      have C1 := Lib.hid CT
      have HE := Lib.hid (And.intro (show ∀ x ∈ s, x < 256 by rw [← hs]; exact leafL_lt _) (And.intro (show ∀ x ∈ m, x < 256 by rw [← hm]; exact markL_lt _) (And.intro hm2 hnew)))
      rw [hm] at HR
      clear CT hs hm hm2 hnew hcame hcell hbj
      go_wp2_with fail
      refine C1.out.mono ?_
      rintro e w3 ⟨rfl, hb3⟩
      obtain ⟨w4, hw⟩ : ∃ w4, w4 = w3.alloc (.cells (bvs s).toArray 50) := ⟨_, rfl⟩
      have hb4 : Below w3.heap.size w3 w4 := by rw [hw]; exact below_alloc _ _
      have hn4 : BArr w4 w3.heap.size 50 s := by rw [hw]; exact BArr.new _ _ _
      have hb34 := below_on hb3 (Nat.le_refl _) hb4
      have HW := Lib.hid hw
      have H4 := Lib.hid (And.intro hn4 (And.intro (HR.out.2.1.below hb34) (And.intro (HR.out.1.below hb34) (And.intro (below_on HR.out.2.2 (Nat.le_of_eq HQ.out.symm) hb34) (show q + 1 < w4.heap.size from (HR.out.2.1.below hb34).lt)))))
      clear hw hb3 hb4 hn4 hb34 C1 bel hcc
      go_upto_region 6 with (with_reducible refine wpList_store_new w3 _ (by simp) rfl (.tmp 5) (.tmp 16) rfl rfl s hsl rfl ?_; rw [← HW.out])
      clear HW
      obtain ⟨g5, hg5⟩ : ∃ g5, w3.heap.size = g5 := ⟨_, rfl⟩
      rw [hg5] at H4 ⊢
      clear hg5
      have hsa := run_arr_all Tryz.underlying50
      simp only [Act.put]
      refine wp_region_held_drew (S := fun W => Below q w4 W) (by kernel_rfl) ((Below.refl _ _).drew) (fun hS0 => ?_)
      change wpAnyH _ _ _ _ _ _ _ _ w4.drew
      have hX : Below w4.heap.size w4 w4.drew := (Below.refl _ _).drew
      generalize w4.drew = wd at hS0 hX ⊢
      refine' wpAnyH_take (i := 0) (oi := _) (v := _) ?hia0 (by kernel_rfl) ?hfa0 ?hra0 ?hQa0 ?hya0 hS0 ?resta0
      case hia0 => (simp only [List.getElem?_toArray, List.getElem?_cons_zero]; rfl)
      case hfa0 => kernel_rfl
      case hra0 => kernel_rfl
      case hQa0 => exact fun _ _ _ h => h
      case hya0 => refine Or.inl ⟨by rfl, ?_⟩; intro W hSw; go_simp; try with_reducible rfl
      try simp only [Act.put, List.setIfInBounds_toArray, List.set_cons_zero, List.set_cons_succ]
      refine' wpAnyH_take (i := 2) (oi := _) (v := _) ?hia2 (by kernel_rfl) ?hfa2 ?hra2 ?hQa2 ?hya2 hS0 ?resta2
      case hia2 => (simp only [List.getElem?_toArray, List.getElem?_cons_zero, List.getElem?_cons_succ]; rfl)
      case hfa2 => kernel_rfl
      case hra2 => kernel_rfl
      case hQa2 => exact fun _ _ _ h => h
      case hya2 => refine Or.inl ⟨by rfl, ?_⟩; intro W hSw; go_simp; try with_reducible rfl
      try simp only [Act.put, List.setIfInBounds_toArray, List.set_cons_zero, List.set_cons_succ]
      refine wpAnyH_ready (rs := [1]) (by kernel_rfl) (by simp) ?_
      refine' AllReadyH.cons (o := _) ?hia1 (fun K hK => ?_) AllReadyH.nil
      case hia1 => (simp only [List.getElem?_toArray, List.getElem?_cons_zero, List.getElem?_cons_succ]; rfl)
      refine step_app_at (by rfl) _ (.tmp 17) (by rfl) wd.heap.size none 0 0 [] (by rfl) (own_none _ _ _ _) (some ⟨q + 1, 0, none⟩) 32 32 m (by rfl) ⟨hml, fun j x hj => ⟨_, rfl, (H4.out.2.1.below hX).at_ j x hj⟩⟩ (fun e => by cases e) (by omega) (Nat.le_refl _) ?_
      intro A1 c1 W1 ho1 hn1
      have hb1 := hn1.below (own_none wd wd.heap.size 5 1) hX hX.size hX.size
      have hq4 : q ≤ w4.heap.size := by have := H4.out.2.2.2.2; omega
      refine hK.out _ _ (hb1.mono hq4) (fun _ => ?_)
      clear hK K
      try simp only [Act.put, List.setIfInBounds_toArray, List.set_cons_zero, List.set_cons_succ]
      refine wpAnyH_ready (rs := [3]) (by kernel_rfl) (by simp) ?_
      refine' AllReadyH.cons (o := _) ?hia3 (fun K hK => ?_) AllReadyH.nil
      case hia3 => (simp only [List.getElem?_toArray, List.getElem?_cons_zero, List.getElem?_cons_succ]; rfl)
      refine step_app_at (by rfl) (.tmp 18) (.tmp 19) (by rfl) wd.heap.size A1 _ c1 _ (by rfl) ho1 (some ⟨g5, 0, none⟩) 32 32 s (by rfl) ⟨hsl, fun j x hj => ⟨_, rfl, (H4.out.1.below hb1).at_ j x hj⟩⟩ (fun e => by cases e) (by omega) (by have := hn1.grown.size; omega) ?_
      intro A2 c2 W2 ho2 hn2
      have hb2 := hn2.below ho1 hb1 hX.size hb1.size
      refine hK.out _ _ (hb2.mono hq4) (fun _ => ?_)
      clear hK K
      try simp only [Act.put, List.setIfInBounds_toArray, List.set_cons_zero, List.set_cons_succ]
      refine wpAnyH_ready (rs := [4]) (by kernel_rfl) (by simp) ?_
      refine' AllReadyH.cons (o := _) ?hia4 (fun K hK => ?_) AllReadyH.nil
      case hia4 => (simp only [List.getElem?_toArray, List.getElem?_cons_zero, List.getElem?_cons_succ]; rfl)
      have CO := refOf_any A2 (0 + 32 + 32) c2 ([] ++ m ++ s) W2 (In.of_own ho2) (by rw [List.nil_append]; exact bytes_append HE.out.2.1 HE.out.1) (own_nil ho2) (by omega)
      rw [List.nil_append, HE.out.2.2.1] at CO
      unfold sv at CO
      go_simp
      go_at_call 66
      refine CO.mono ?_
      rintro e W3 ⟨rfl, hb3⟩
      have hb4 := below_on hb2 (Nat.le_refl _) hb3
      have hz3 := H4.out.2.1.below hb4
      refine hK.out _ _ (hb4.mono hq4) (fun _ => ?_)
      clear hK K CO
      try simp only [Act.put, List.setIfInBounds_toArray, List.set_cons_zero, List.set_cons_succ]
      refine wpAnyH_ready (rs := [5]) (by kernel_rfl) (by simp) ?_
      refine' AllReadyH.cons (o := _) ?hia5 (fun K hK => ?_) AllReadyH.nil
      case hia5 => (simp only [List.getElem?_toArray, List.getElem?_cons_zero, List.getElem?_cons_succ]; rfl)
      have hst : (storeCells ⟨q + 1, 0, none⟩ (bvs m2)).run Tryz.prog W3 = .ok () (W3.setRow (q + 1) (bvs m2).toArray) := by
        have := run_storeCells_from (P := Tryz.prog) (q + 1) 50 (bvs m2) 0 _ W3 hz3 (by rw [bvs_length, hm2l, List.size_toArray, bvs_length, hml]) (bvs_oneCell m2)
        simpa using this
      have hbR : (bvs m2).length = 32 := by rw [bvs_length, hm2l]
      go_simp
      refine hK.out _ _ (below_setRow (hb4.mono hq4) (by omega) _) (fun _ => ?_)
      clear hK K
      refine wpAnyH_done (by kernel_rfl) ?_ _
      have HX := Lib.hid (show BArr (W3.setRow (q + 1) (bvs m2).toArray) q 50 zero32 ∧ BArr (W3.setRow (q + 1) (bvs m2).toArray) (q + 1) 50 m2 ∧ Below q w (W3.setRow (q + 1) (bvs m2).toArray) from ⟨(H4.out.2.2.1.below hb4).setRow_other _ (by omega) _, hz3.setRow m2, below_setRow (H4.out.2.2.2.1.trans (hb4.mono hq4)) (by omega) _⟩)
      go_wp2_with fail
      go_roundw
      case rel => exact ⟨j + 1, by omega, by go_num, Lib.hid ⟨HX.out.1, by rw [HE.out.2.2.2]; exact HX.out.2.1, HX.out.2.2⟩⟩
      case measure => simp [intOf]; omega
    · obtain rfl : j = n := by omega
      have hm0 := HR.out.2.1
      rw [List.take_of_length_le (by rw [HL.out]; exact Nat.le_refl _)] at hm0
      have hml := markL_length rows
      obtain ⟨m, hm⟩ : ∃ m, markL rows = m := ⟨_, rfl⟩
      rw [hm] at hm0 hml
      have HMM := Lib.hid hm
      have HM := Lib.hid hm0.at_
      have f3 := HR.out.1
      have HZ32 := Lib.hid (show zero32.length = 32 from rfl)
      clear hm0 hm
      go_wp2_with (first
        | (with_reducible refine wpList_load_sum rfl (.tmp 3) rfl ⟨q + 1, 0, none⟩ rfl m hml HM.out ?_)
        | (with_reducible refine wpList_store_sum rfl (.tmp 2) (.tmp 22) rfl q rfl zero32 m HZ32 hml f3 rfl ?_))
      refine bodyPost_ret_by (results_cell_row (p := 2) (ty := 50) (by kernel_rfl) _ _ q 50 (bvs m).toArray (0, 0) _ rfl (f3.setRow _) Tryz.underlying50 rfl (by rw [List.size_toArray, bvs_length, hml]; exact sizeSum)) rfl ?_
      exact ⟨by rw [HMM.out]; rfl, by rw [HQ.out]; exact below_setRow HR.out.2.2 (Nat.le_refl _) _⟩

end Go.Proofs.YtnaebjdccngeoaaGreatDoor

/-
  An argument of type [][2]uint64.
-/
namespace Go.Proofs.YtnaebjdccngeoaaGreatDoor
open Go.ChangeShapes Go.WideShapes Go.ChangeAt Go.RowKit

theorem cellsAsk : Tryz.prog.cellsOf 46 = 2 := by kernel_rfl
theorem cellsAskEl : Tryz.prog.cellsOf 44 = 1 := by kernel_rfl

/-- A slice of pairs of numbers that came in. -/
structure CameAsk (w : World) (A : Option Addr) (n c : Nat) (f : Nat → Nat) : Prop where
  at_ : ∀ q, q < 2 * n → ∃ ad, A = some ad ∧ w.cell? (ad.add q) = some (.int .u64 (f q : Int)) ∧ f q < 18446744073709551616
  nil : A = none → n = 0
theorem CameAsk.below {w w' : World} {A : Option Addr} {n c : Nat} {f : Nat → Nat} (h : CameAsk w A n c f) (hb : Below w.heap.size w w') : CameAsk w' A n c f :=
  ⟨fun q hq => by
    obtain ⟨ad, e, hc, hl⟩ := h.at_ q hq
    exact ⟨ad, e, (hb.cell (World.block_lt_of_cell? w _ hc)).trans hc, hl⟩, h.nil⟩

/-- A cell that reads as a number. -/
theorem cell_u64 {H : Type} {enc : TypeId × Value → H} {w : World} {base : Nat} {sp : Nat → Bool} {held : Bool} {fuel : Nat} {cs : List Value} {x : DataW H × List MemPlace}
    (h : DataW.trod enc Tryz.prog w base sp held fuel 44 cs = some x) : ∃ b : Nat, b < 18446744073709551616 ∧ cs = [.int .u64 (b : Int)] := by
  obtain ⟨n, hn, _, hw⟩ := DataW.trod_int Tryz.underlying44 h
  have hb := bounds_u64 hw
  exact ⟨n.toNat, by omega, by rw [hn, Int.toNat_of_nonneg (by omega)]⟩

theorem cameAsk_of {H : Type} {enc : TypeId × Value → H} {w : World} {sp : Nat → Bool} {held : Bool} {fuel : Nat} {a : Option Addr} {len cap : Nat} {x : DataW H × List MemPlace}
    (h : DataW.trod enc Tryz.prog w 0 sp held fuel 23 [.slice a len cap] = some x) : ∃ f, CameAsk w a len cap f := by
  rcases Go.Deep.open_slice Tryz.underlying23 h with ⟨h0, _⟩ | ⟨ad, l, c, m, n, D, Pl, h0, _, hl, _, hm, _, hel⟩
  · simp at h0
    obtain ⟨rfl, rfl, rfl⟩ := h0
    exact ⟨fun _ => 0, fun q hq => by omega, fun _ => rfl⟩
  · simp at h0
    obtain ⟨rfl, rfl, rfl⟩ := h0
    have hlm : len ≤ m := by rw [hm]; split <;> omega
    have key : ∀ q, q < 2 * len → ∃ b : Nat, b < 18446744073709551616 ∧ w.cell? (ad.add q) = some (.int .u64 (b : Int)) := by
      intro q hq
      obtain ⟨cs', hc, ht⟩ := hel (q / 2) (by omega)
      rw [cellsAsk] at hc
      obtain ⟨xs, k, _, _, hlen, hx, hel2⟩ := DataW.trod_array Tryz.underlying46 ht
      rw [cellsAsk] at hlen
      have he := hel2 (q % 2) (Nat.mod_lt _ (by omega))
      rw [cellsAskEl, Nat.mul_one] at he
      have hs : xs[q % 2]? = some xs[q % 2] := List.getElem?_eq_getElem (by omega)
      rw [hs] at he
      obtain ⟨b, hb, e⟩ := cell_u64 he
      refine ⟨b, hb, ?_⟩
      have e2 : cs'[q % 2]? = some (.int .u64 (b : Int)) := by
        have := congrArg (fun l => l[0]?) e
        simpa using this
      have hcell := (World.cells?_some hc).2.2 (q % 2) (Nat.mod_lt _ (by omega))
      rw [add_add, show q / 2 * 2 + q % 2 = q by omega] at hcell
      rw [hcell, e2]
    obtain ⟨f, hf⟩ := Go.Deep.choose_lt key
    exact ⟨f, fun q hq => ⟨ad, rfl, (hf q hq).2, (hf q hq).1⟩, fun e => by cases e⟩

end Go.Proofs.YtnaebjdccngeoaaGreatDoor

/-
  A slice of slices of bytes, one behind the other; how much it holds (almonerlaw01.ByteListsSize).
-/
namespace Go.Proofs.YtnaebjdccngeoaaGreatDoor
open Go.RowKit

/-- How much lists hold, told if it is not more than 15000. -/
def Holds (n : Nat) (w : World) (e : Ending) (w' : World) : Prop := ∃ R : Nat, e = .returned (.int .i64 (R : Int)) ∧ (R ≤ 15000 → R = n) ∧ w = w'

set_option maxRecDepth 100000 in
set_option maxHeartbeats 1000000 in
theorem bytesSize_any (A : Option Addr) (n c : Nat) (w : World) :
    Calls Tryz.prog 43 #[.slice A n c] w fun e w' => e = .returned (.int .i64 (n : Int)) ∧ w = w' := by
  go_enter Tryz.func43, Tryz.ntmps43
  go_wp2
  go_ret
  exact ⟨rfl, rfl⟩

set_option maxRecDepth 100000 in
set_option maxHeartbeats 1000000 in
theorem listsSize_any (Ao : Option Addr) (no co : Nat) (rows : List (List Nat)) (w : World) (h : CameRows w Ao no rows) (hno : no ≤ 50) :
    Calls Tryz.prog 5 #[.slice Ao no co] w (Holds (no + tot rows) w) := by
  go_enter Tryz.func5, Tryz.ntmps5
  go_wp2
  go_loop [3, 4] (fun s i => ∃ j z : Nat, j ≤ no ∧ i = .int .i64 (j : Int) ∧ s = .int .i64 (z : Int) ∧ z = no + tot (rows.take j) ∧ z ≤ 140737489403904) (fun _ i => no - (intOf i).toNat)
  case atStart => exact ⟨0, no, by omega, rfl, rfl, rfl, by omega⟩
  case round =>
    obtain ⟨j, z, hj, rfl, rfl, hz, hzb⟩ := hrel
    have HZ := Lib.hid hz
    clear hz
    by_cases hlt : j < no
    · by_cases hs : z ≤ 1048576
      · obtain ⟨xs, hxs⟩ : ∃ xs, rows[j]? = some xs := ⟨_, List.getElem?_eq_getElem (by rw [h.len]; exact hlt)⟩
        obtain ⟨ad, A, n, c, rfl, hcell, hcame, hn⟩ := h.row j xs hxs
        have HX := Lib.hid (And.intro hxs hcame)
        have hji : (j : Int) < (no : Int) := by omega
        have hzi : (z : Int) ≤ 1048576 := by omega
        clear hxs hcame
        go_wp2_with (go_at_call 43; refine (bytesSize_any A n c _).mono ?_; rintro e w' ⟨rfl, rfl⟩)
        go_round
        case rel =>
          refine ⟨j + 1, z + n, by omega, by go_num, by go_num, ?_, by omega⟩
          rw [rows_snoc HX.out.1, tot_snoc, HX.out.2.in_.len, HZ.out]
          omega
        case measure => simp [intOf]; omega
      · have hji : (j : Int) < (no : Int) := by omega
        have hzi : decide ((z : Int) ≤ 1048576) = false := by simp; omega
        go_wp2
        go_ret
        exact ⟨z, rfl, fun hh => absurd hh (by omega), rfl⟩
    · have hji : decide ((j : Int) < (no : Int)) = false := by simp; omega
      obtain rfl : j = no := by omega
      rw [List.take_of_length_le (by rw [h.len]; omega)] at HZ
      go_wp2
      go_ret
      exact ⟨z, rfl, fun _ => HZ.out, rfl⟩

theorem rows_lt {w : World} {Ao : Option Addr} {no : Nat} {rows : List (List Nat)} (h : CameRows w Ao no rows) (j : Nat) : ∀ x ∈ (rows.take j).flatten, x < 256 := by
  intro x hx
  obtain ⟨l, hl, hxl⟩ := List.mem_flatten.1 hx
  obtain ⟨i, hi⟩ := List.mem_iff_getElem?.1 (List.mem_of_mem_take hl)
  obtain ⟨_, _, _, _, _, _, hc, _⟩ := h.row i l hi
  exact hc.lt x hxl

end Go.Proofs.YtnaebjdccngeoaaGreatDoor

/-
  TwinBytes: a copy in memory of its own, a mark behind it.
-/
namespace Go.Proofs.YtnaebjdccngeoaaGreatDoor
open Go.RowKit

/-- '.slice A n (n + 1)' is a copy of xs, the mark 77 behind it: block g is just these cells. -/
def Twin (w : World) (g n : Nat) (xs : List Nat) : Prop := xs.length = n ∧ w.heap[g]? = some (.cells (bvs (xs ++ [77])).toArray 5 (0, 0))

theorem Twin.below {w w' : World} {g n : Nat} {xs : List Nat} (h : Twin w g n xs) (hb : Below w.heap.size w w') : Twin w' g n xs :=
  ⟨h.1, (hb.block g (Array.getElem?_eq_some_iff.1 h.2).1).trans h.2⟩
theorem Twin.in_ {w : World} {g n : Nat} {xs : List Nat} (h : Twin w g n xs) : In w (some ⟨g, 0, none⟩) n xs :=
  ⟨h.1, fun j x hx => ⟨_, rfl, by
    rw [show (⟨g, 0, none⟩ : Addr).add j = ⟨g, j, none⟩ from by unfold Addr.add; split <;> simp_all]
    have hj := (List.getElem?_eq_some_iff.1 hx).1
    rw [cell_of_row _ g j _ 5 (0, 0) h.2, List.getElem?_toArray, bvs_get, List.getElem?_append_left hj, hx]
    rfl⟩⟩
theorem Twin.last {w : World} {g n : Nat} {xs : List Nat} (h : Twin w g n xs) : w.cell? ⟨g, n, none⟩ = some (.int .u8 77) := by
  rw [cell_of_row _ g n _ 5 (0, 0) h.2, List.getElem?_toArray, bvs_get, List.getElem?_append_right (by rw [h.1]; omega), h.1]
  simp [bv]
theorem Twin.lt {w : World} {g n : Nat} {xs : List Nat} (h : Twin w g n xs) : g < w.heap.size := (Array.getElem?_eq_some_iff.1 h.2).1

set_option maxRecDepth 100000 in
set_option maxHeartbeats 1000000 in
theorem twinBytes_any (A : Option Addr) (n c : Nat) (xs : List Nat) (w : World) (hin : In w A n xs) (hn : n ≤ 1000000000) :
    Calls Tryz.prog 7 #[.slice A n c] w fun e w' => e = .returned (.slice (some ⟨w.heap.size, 0, none⟩) n (n + 1)) ∧ Twin w' w.heap.size n xs ∧ Below w.heap.size w w' := by
  obtain ⟨i0, hi, hz0, hz1, hz2⟩ := info_parts infoByte
  have hm : n + 1 ≤ maxLen := by unfold maxLen; omega
  go_enter Tryz.func7, Tryz.ntmps7
  go_wp2_with (at_make; refine wpList_make_own _ rfl _ _ 38 rfl w.heap.size 5 i0 _ 1 Tryz.underlying38 hi hz0 hz1 _ _ _ (n + 1) rfl rfl (by omega) (by rw [hz2]; omega) hm (Nat.le_refl _) ?_; intro w1 hown1 hgrow1)
  have hb1 : Below w.heap.size w w1 := (Below.refl _ w).grown hgrow1 (Nat.le_refl _) (fun k hk => by cases hk)
  go_loopw [3, 4] (fun t i wr => ∃ j : Nat, j ≤ n ∧ i = .int .i64 (j : Int) ∧ t = .slice (some ⟨w.heap.size, 0, none⟩) j (n + 1) ∧
      wr.ownsRow w.heap.size 5 1 (.slice (some ⟨w.heap.size, 0, none⟩) j (n + 1)) j (bvs (xs.take j)) ∧ Below w.heap.size w wr) (fun _ i _ => n - (intOf i).toNat)
  case atStart => exact ⟨0, Nat.zero_le _, rfl, rfl, hown1, hb1⟩
  case round =>
    obtain ⟨j, hj, rfl, rfl, hown, hbw⟩ := hrel
    have z1 := hbw.size
    by_cases hlt : j < n
    · obtain ⟨ad, x, rfl, hx, hcell⟩ := (hin.below hbw).at_ hlt
      have HX := Lib.hid hx
      clear hx
      go_wp2_with (at_builtin; refine wpList_append_fits _ rfl _ _ 38 rfl w.heap.size 5 i0 1 Tryz.underlying38 hi hz1 w.heap.size j (n + 1) _ rfl (hown.alloc _) ⟨wr.heap.size, 0, none⟩ 1 1 [.int .u8 (x : Int)] rfl rfl (cell_one_new _ _ _) (by simp [Value.oneCell']) (by omega) ?_; intro w2 hown2 hgrow2)
      go_roundw
      case rel =>
        refine ⟨j + 1, by omega, by go_num, rfl, ?_, (hbw.alloc z1 _).grown hgrow2 (by simp; omega) (fun k hk => by cases hk; exact Nat.le_refl _)⟩
        rw [take_snoc_of HX.out, bvs_append]
        exact hown2
      case measure => simp [intOf]; omega
    · obtain rfl : j = n := by omega
      go_wp2_with (at_builtin; refine wpList_append_fits _ rfl _ _ 38 rfl w.heap.size 5 i0 1 Tryz.underlying38 hi hz1 w.heap.size j (j + 1) _ rfl (hown.alloc _) ⟨wr.heap.size, 0, none⟩ 1 1 [.int .u8 77] rfl rfl (cell_one_new _ _ _) (by simp [Value.oneCell']) (by omega) ?_; intro w2 hown2 hgrow2)
      go_ret
      refine ⟨rfl, ⟨hin.len, ?_⟩, (hbw.alloc z1 _).grown hgrow2 (by simp; omega) (fun k hk => by cases hk; exact Nat.le_refl _)⟩
      rw [List.take_of_length_le (by rw [hin.len]; omega)] at hown2
      rcases hown2.2 with ⟨e1, _⟩ | ⟨g, cap, cur, e1, _, hg, _, _, hs, ht⟩
      · cases e1
      · cases e1
        rw [hg, bvs_append]
        rw [List.take_of_length_le (by rw [Array.length_toList, hs]; omega)] at ht
        have e2 : cur = (bvs xs ++ [Value.int .u8 77]).toArray := by rw [← ht]
        rw [e2]
        rfl

end Go.Proofs.YtnaebjdccngeoaaGreatDoor

/-
  LeftBytes: it is still that copy.
-/
namespace Go.Proofs.YtnaebjdccngeoaaGreatDoor
open Go.RowKit


set_option maxRecDepth 100000 in
set_option maxHeartbeats 1000000 in
theorem leftBytes_yes (A : Option Addr) (g n c : Nat) (xs : List Nat) (w : World) (ht : Twin w g n xs) (hin2 : In w A n xs) (hn : n ≤ 1000000000) :
    Calls Tryz.prog 9 #[.slice (some ⟨g, 0, none⟩) n (n + 1), .slice A n c] w fun e w' => e = .returned (.bool true) ∧ ∃ q, w' = w.drewN q := by
  have dn : ((n : Int) != (n : Int)) = false := by simp
  have hin := ht.in_
  have hlast := ht.last
  go_enter Tryz.func9, Tryz.ntmps9
  go_wp2
  go_loopw [5] (fun i wr => ∃ j : Nat, j ≤ n ∧ i = .int .i64 (j : Int) ∧ ∃ q, wr = w.drewN q) (fun i _ => n - (intOf i).toNat)
  case atStart => exact ⟨0, Nat.zero_le _, rfl, 0, rfl⟩
  case round =>
    obtain ⟨j, hj, rfl, q, rfl⟩ := hrel
    by_cases hlt : j < n
    · obtain ⟨ad, x, e1, hx, hc1⟩ := hin.at_ hlt
      obtain ⟨ad2, x2, rfl, hx2, hc2⟩ := hin2.at_ hlt
      obtain rfl : x2 = x := by rw [hx] at hx2; injection hx2 with h; exact h.symm
      cases e1
      rw [show (⟨g, 0, none⟩ : Addr).add j = ⟨g, j, none⟩ from by unfold Addr.add; split <;> simp_all] at hc1
      clear hx hx2
      have i1 : (j : Int) < (n : Int) := by omega
      go_wp2
      go_quiet (fail)
      rw [World.drewN_drewN]
      go_wp2
      go_roundw
      case rel => exact ⟨j + 1, by omega, by go_num, q + nq, rfl⟩
      case measure => simp [intOf]; omega
    · obtain rfl : j = n := by omega
      go_wp2
      go_ret
      exact ⟨rfl, q, rfl⟩

end Go.Proofs.YtnaebjdccngeoaaGreatDoor

/-
  SameSums.
-/
namespace Go.Proofs.YtnaebjdccngeoaaGreatDoor
open Go.RowKit

set_option maxRecDepth 100000 in
set_option maxHeartbeats 1000000 in
theorem sameSums_yes (A A2 : Option Addr) (n c c2 : Nat) (ys : List Nat) (w : World) (hin : InS w A n ys) (hin2 : InS w A2 n ys) (hn : n ≤ 200000000000000) :
    Calls Tryz.prog 19 #[.slice A n c, .slice A2 n c2] w fun e w' => e = .returned (.bool true) ∧ ∃ q, w' = w.drewN q := by
  have dn : ((n : Int) != (n : Int)) = false := by simp
  go_enter Tryz.func19, Tryz.ntmps19
  go_wp2
  go_loopw [5] (fun i wr => ∃ j : Nat, j ≤ n ∧ i = .int .i64 (j : Int) ∧ ∃ q, wr = w.drewN q) (fun i _ => n - (intOf i).toNat)
  case atStart => exact ⟨0, Nat.zero_le _, rfl, 0, rfl⟩
  case round =>
    obtain ⟨j, hj, rfl, q, rfl⟩ := hrel
    by_cases hlt : j < n
    · obtain ⟨ad, rfl, hl, hat⟩ := hin.at_ hlt
      obtain ⟨ad2, rfl, _, hat2⟩ := hin2.at_ hlt
      have i1 : (j : Int) < (n : Int) := by omega
      go_wp2
      refine wp_region_quiet_lit (by kernel_rfl) (by kernel_rfl) ?_
      iterate 3 quiet_step (fail)
      refine wpQuiet_step (fun K hK => ?_)
      refine quiet_load_sum rfl (.tmp 19) rfl (ad.add (j * 32)) rfl (nth ys j) hl (fun W hW => by obtain ⟨m, rfl⟩ := hW; exact hat) ?_
      go_simp
      refine hK _ ?_
      clear hK K
      iterate 3 quiet_step (fail)
      refine wpQuiet_step (fun K hK => ?_)
      refine quiet_load_sum rfl (.tmp 23) rfl (ad2.add (j * 32)) rfl (nth ys j) hl (fun W hW => by obtain ⟨m, rfl⟩ := hW; exact hat2) ?_
      go_simp
      refine hK _ ?_
      clear hK K
      have hne := run_neq_sum (nth ys j) (nth ys j) hl hl
      simp only [decide_true, Bool.not_true] at hne
      have hgd := fun x y => run_guard_neq x y (nth ys j) (nth ys j)
      quiet_step (fail)
      refine wpQuiet_nil ?_
      rintro _ ⟨nq, rfl⟩
      rw [World.drewN_drewN]
      clear hne hgd
      go_wp2
      go_roundw
      case rel => exact ⟨j + 1, by omega, by go_num, q + nq, rfl⟩
      case measure => simp [intOf]; omega
    · go_wp2
      go_ret
      exact ⟨rfl, q, rfl⟩

end Go.Proofs.YtnaebjdccngeoaaGreatDoor

/-
  SameBytes.
-/
namespace Go.Proofs.YtnaebjdccngeoaaGreatDoor
open Go.RowKit

set_option maxRecDepth 100000 in
set_option maxHeartbeats 400000 in
theorem sameBytes_yes (A A2 : Option Addr) (n c c2 : Nat) (xs : List Nat) (w : World) (hin : In w A n xs) (hin2 : In w A2 n xs) (hn : n ≤ 200000000000000) :
    Calls Tryz.prog 20 #[.slice A n c, .slice A2 n c2] w fun e w' => e = .returned (.bool true) ∧ ∃ q, w' = w.drewN q := by
  have dn : ((n : Int) != (n : Int)) = false := by simp
  go_enter Tryz.func20, Tryz.ntmps20
  go_wp2
  go_loopw [5] (fun i wr => ∃ j : Nat, j ≤ n ∧ i = .int .i64 (j : Int) ∧ ∃ q, wr = w.drewN q) (fun i _ => n - (intOf i).toNat)
  case atStart => exact ⟨0, Nat.zero_le _, rfl, 0, rfl⟩
  case round =>
    obtain ⟨j, hj, rfl, q, rfl⟩ := hrel
    by_cases hlt : j < n
    · obtain ⟨ad, x, rfl, hx, hc1⟩ := hin.at_ hlt
      obtain ⟨ad2, x2, rfl, hx2, hc2⟩ := hin2.at_ hlt
      obtain rfl : x2 = x := by rw [hx] at hx2; injection hx2 with h; exact h.symm
      clear hx hx2
      have i1 : (j : Int) < (n : Int) := by omega
      go_wp2
      go_quiet (fail)
      rw [World.drewN_drewN]
      go_wp2
      go_roundw
      case rel => exact ⟨j + 1, by omega, by go_num, q + nq, rfl⟩
      case measure => simp [intOf]; omega
    · go_wp2
      go_ret
      exact ⟨rfl, q, rfl⟩

end Go.Proofs.YtnaebjdccngeoaaGreatDoor

/-
  Two sums that are the same, compared by '!=' in a drawn region.
-/
namespace Go.Proofs.YtnaebjdccngeoaaGreatDoor
open Go.RowKit

theorem neq_same_op {o : Oper} {a : Act} {W : World} {s : List Nat} (p q : Operand) (ho : o.op = .binOp .neq 50 p q 50) (hp : a.eval p = sv s) (hq : a.eval q = sv s) (hs : s.length = 32) :
    (execOp a.eval o).run Tryz.prog W = .ok (.value (.bool false)) W := by
  unfold execOp
  rw [ho]
  simp only [hp, hq, Sem.run_bind, run_guard_neq, Result.andThen_ok, run_neq_sum s s hs hs W, Sem.run_pure]
  simp

/-- The head of a list of entries, in a drawn region. -/
theorem high_rows_op {o : Oper} {a : Act} {W : World} {A : Option Addr} {n c k : Nat} (p q : Operand) (ho : o.op = .slice 22 p none (some q) none) (hp : a.eval p = .slice A n c) (hq : a.eval q = .int .u64 (k : Int))
    (h : (Instr.slice 22 (.slice A n c) none (some (.int .u64 (k : Int))) none).run Tryz.prog W = .ok (.slice A k c) W) :
    (execOp a.eval o).run Tryz.prog W = .ok (.value (.slice A k c)) W := by
  unfold execOp
  simp only [ho, hp, hq, Instr.sliceAt, run_underlying Tryz.underlying22, Option.map_some, Option.map_none, Sem.run_bind, Sem.run_pure, Result.andThen_ok, h]

end Go.Proofs.YtnaebjdccngeoaaGreatDoor
