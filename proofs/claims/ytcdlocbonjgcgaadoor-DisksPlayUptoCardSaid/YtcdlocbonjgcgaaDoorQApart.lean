/-
  The Book of the statements, lists of bytes alone: Apart: no list shares memory with another one.
-/
import Derived.Test.YtcdlocbonjgcgaaDoorQLook
import Derived.Test.YtcdlocbonjgcgaaDoorQNil
namespace Go.Proofs.YtcdlocbonjgcgaaDoor
open Go.RowKit

theorem nil_same {P : Program} {f : FuncId} {args : Array Value} {w : World} {v : Value} (h : Calls P f args w fun e w' => e = .returned v ∧ w' = w) : Calls P f args w fun e w' => e = .returned v ∧ w = w' := h.mono fun _ _ ⟨h1, h2⟩ => ⟨h1, h2.symm⟩
theorem inLists_ge {w : World} {base : Nat} {hs : List Held} (h : Lists w base hs) : ∀ b, inLists hs b → base ≤ b := by
  rintro b ⟨i, k, hk, hb⟩
  obtain ⟨xs, hx⟩ := h.own i k hk
  exact (hx.lt b hb).1
theorem not_in {w : World} {base b2 : Nat} {hs : List Held} {e : TypeId} {s n : Nat} {v : Value} {xs : List Value} (h : Lists w base hs) (he : 5 ≠ e) (he2 : 68 ≠ e) (hv : w.ownsRow b2 e s v n xs) : ∀ b, v.ownBlock = some b → ¬ inLists hs b := by
  rintro b hb ⟨i, k, hk, hb'⟩
  obtain ⟨ys, hy⟩ := h.own i k hk
  rcases rows_neB he he2 hy hv with e0 | e0
  · rw [e0] at hb'; cases hb'
  · exact e0 (hb'.trans hb.symm)
theorem book_not_in {w : World} {base kb N : Nat} {bs ss : Value} {hs : List Held} (h : Lists w base hs) (hb : BookAt w kb N bs ss) : ¬ inLists hs kb := by
  rintro ⟨i, k, hk, hb'⟩
  obtain ⟨ys, hy⟩ := h.own i k hk
  exact hb.otherB hy hb'
theorem Lists.of_filled {w w' : World} {base K : Nat} {hs : List Held} (h : Lists w base hs) (hf : Filled w' base hs K) : Lists w' base hs :=
  ⟨fun i k hk => by obtain ⟨xs, hx, _⟩ := hf i k hk; exact ⟨xs, hx⟩, h.apart⟩
theorem Lists.but {S : Nat → Prop} {w w' : World} {base : Nat} {hs : List Held} (h : Lists w base hs) (hb : But S w w') (hn : ∀ b, inLists hs b → ¬ S b) : Lists w' base hs :=
  ⟨fun i k hk => by obtain ⟨xs, hx⟩ := h.own i k hk; exact ⟨xs, own_kept_butB hx hb (fun b e => hn b ⟨i, k, hk, e⟩)⟩, h.apart⟩
theorem GrownTo.marked {w w' : World} {base K : Nat} {hs hs' : List Held} (h : GrownTo w w' base hs hs' K) (hK : hs.length = K) (hlen : ∀ (i : Nat) (h : Held), hs[i]? = some h → h.len ≤ 1000000000) : Marked w' base hs' := fun i k' hk' => by
  have hi := (List.getElem?_eq_some_iff.1 hk').1
  rw [h.1] at hi
  obtain ⟨k'', hk'', G⟩ := h.2 i _ (List.getElem?_eq_getElem hi)
  rw [hk'] at hk''
  cases hk''
  obtain ⟨l1, l2, _⟩ := G.long (by omega)
  have l3 := hlen i _ (List.getElem?_eq_getElem hi)
  rw [G.len, G.v, G.num]
  exact ⟨l1, G.row, l2, l3⟩

/-- Block kb is a Book that keeps the lists hs, N of them. -/
structure Keeping (w : World) (base kb N : Nat) (bs : Value) (hs : List Held) : Prop where
  book : BookAt w kb N bs (.slice none 0 0)
  own : w.ownsRow base 81 3 bs N (heldCells hs)
  lists : Lists w base hs
  len : ∀ (i : Nat) (h : Held), hs[i]? = some h → h.len ≤ 1000000000
  le : N ≤ 1000
  kb : base ≤ kb
  base : base ≤ w.heap.size
/-- The blocks that it lies in. -/
def InBook (kb : Nat) (bs : Value) (hs : List Held) (b : Nat) : Prop := b = kb ∨ bs.ownBlock = some b ∨ inLists hs b

theorem Keeping.but {S : Nat → Prop} {w w' : World} {base kb N : Nat} {bs : Value} {hs : List Held} (h : Keeping w base kb N bs hs) (hb : But S w w') (hn : ∀ b, InBook kb bs hs b → ¬ S b) : Keeping w' base kb N bs hs :=
  ⟨h.book.but hb (hn kb (.inl rfl)), own_kept_but h.own hb (fun b e => hn b (.inr (.inl e))), h.lists.but hb (fun b e => hn b (.inr (.inr e))), h.len, h.le, h.kb, Nat.le_trans h.base hb.size⟩
theorem Keeping.below {w w' : World} {base kb N : Nat} {bs : Value} {hs : List Held} (h : Keeping w base kb N bs hs) (hb : Below w.heap.size w w') : Keeping w' base kb N bs hs := h.but (S := fun _ => False) (But.of_below hb) (fun _ _ e => e)
theorem Keeping.lt {w : World} {base kb N : Nat} {bs : Value} {hs : List Held} (h : Keeping w base kb N bs hs) : ∀ b, InBook kb bs hs b → base ≤ b ∧ b < w.heap.size := by
  rintro b (rfl | e | ⟨i, k, hk, e⟩)
  · exact ⟨h.kb, h.book.lt⟩
  · exact h.own.lt b e
  · obtain ⟨xs, hx⟩ := h.lists.own i k hk
    exact hx.lt b e
theorem Keeping.new {w : World} {base : Nat} (hb : base ≤ w.heap.size) :
    Keeping (w.alloc (.cells #[.int .i64 0, .slice none 0 0, .slice none 0 0, .slice none 0 0, .slice none 0 0, .slice none 0 0, .slice none 0 0, .slice none 0 0, .slice none 0 0, .slice none 0 0] 41)) base w.heap.size 0 (.slice none 0 0) [] :=
  ⟨World.alloc_heap_new w _, World.ownsRow_nil _ _ _ _, ⟨fun i k hk => by simp at hk, fun i j a b hi _ _ => by simp at hi⟩, fun i k hk => by simp at hk, by omega, hb, by rw [World.size_alloc]; omega⟩

theorem snoc_get {α : Type} {l : List α} {x y : α} {i : Nat} (h : (l ++ [x])[i]? = some y) : l[i]? = some y ∨ (i = l.length ∧ y = x) := by
  by_cases hi : i < l.length
  · rw [List.getElem?_append_left hi] at h; exact .inl h
  · rw [List.getElem?_append_right (by omega)] at h
    have : i - l.length = 0 := by
      have := (List.getElem?_eq_some_iff.1 h).1
      simp at this
      omega
    rw [this] at h
    simp at h
    exact .inr ⟨by omega, h.symm⟩

/-- A list is kept. -/
theorem book_keep {kb N base : Nat} {bs : Value} {hs : List Held} {A : Option Addr} {n c : Nat} {ys : List Value} {w : World} (H : Keeping w base kb N bs hs) (hv : OwnB w base (.slice A n c) n ys) (hn : n ≤ 1000000000) (hN : N < 1000)
    (off : ∀ b, (Value.slice A n c).ownBlock = some b → ¬ inLists hs b) :
    Calls Tryd.prog 11 #[.pointer (some ⟨kb, 0, none⟩), .slice A n c] w fun e w' => e = .returned (.tuple #[]) ∧
      (∃ bs' hs', Keeping w' base kb (N + 1) bs' hs' ∧ ∀ b, InBook kb bs' hs' b → InBook kb bs hs b ∨ (Value.slice A n c).ownBlock = some b ∨ w.heap.size ≤ b) ∧ But (fun b => b = kb ∨ bs.ownBlock = some b) w w' := by
  refine (bookBytes_at kb N base N bs (.slice none 0 0) (heldCells hs) A n c w H.book H.base H.own (by omega) (by have := H.le; omega)).mono ?_
  rintro e w' ⟨rfl, ⟨bs', bk', ob', nb'⟩, hb⟩
  have keep : ∀ v m zs, OwnB w base v m zs → OwnB w' base v m zs := fun v m zs ho =>
    own_kept_butB ho hb (fun b hbb h => h.elim (fun e => H.book.otherB ho (e ▸ hbb)) (fun e => by
      rcases rows_neB (by decide) (by decide) ho H.own with e0 | e0
      · rw [e0] at hbb; cases hbb
      · exact e0 (hbb.trans e.symm)))
  refine ⟨rfl, ⟨bs', hs ++ [⟨A, n, c, none, 0, 0, N + 1⟩], ⟨bk', by rw [heldCells_append]; exact ob', ⟨fun i k hk => ?_, fun i j k1 k2 hi hj hij => ?_⟩, fun i k hk => ?_, by omega, H.kb, Nat.le_trans H.base hb.size⟩, fun b h => ?_⟩, hb⟩
  · rcases snoc_get hk with h | ⟨_, rfl⟩
    · obtain ⟨xs, hx⟩ := H.lists.own i k h
      exact ⟨xs, keep _ _ _ hx⟩
    · exact ⟨ys, keep _ _ _ hv⟩
  · rcases snoc_get hi with h1 | ⟨e1, rfl⟩
    · rcases snoc_get hj with h2 | ⟨e2, rfl⟩
      · exact H.lists.apart i j k1 k2 h1 h2 hij
      · cases hk : k1.v.ownBlock with
        | none => exact .inl rfl
        | some b => exact .inr fun e => off b e.symm ⟨i, k1, h1, hk⟩
    · rcases snoc_get hj with h2 | ⟨e2, rfl⟩
      · cases hk : (Value.slice A n c).ownBlock with
        | none => exact .inl hk
        | some b => exact .inr fun e => off b hk ⟨j, k2, h2, by rw [← e]; exact hk⟩
      · omega
  · rcases snoc_get hk with h | ⟨_, rfl⟩
    · exact H.len i k h
    · exact hn
  · rcases h with rfl | e | ⟨i, k, hk, hkb⟩
    · exact .inl (.inl rfl)
    · rcases nb' b e with e | e
      · exact .inl (.inr (.inl e))
      · exact .inr (.inr e)
    · rcases snoc_get hk with h | ⟨_, rfl⟩
      · exact .inl (.inr (.inr ⟨i, k, h, hkb⟩))
      · exact .inr (.inl hkb)

set_option maxRecDepth 100000 in
set_option maxHeartbeats 4000000 in
theorem apart_bytes (kb N base : Nat) (bs : Value) (hs : List Held) (w : World) (H : Keeping w base kb N bs hs) :
    Calls Tryd.prog 29 #[.pointer (some ⟨kb, 0, none⟩)] w fun e w' => e = .returned (.bool true) ∧ Below base w w' := by
  have H0 := Lib.hid H
  have hN : N ≤ 1000000 := by have := H.le; omega
  clear H
  go_enter Tryd.func29, Tryd.ntmps29
  go_wp2_with fail
  refine (fillByte_any kb N base N bs _ hs w H0.out.book H0.out.own H0.out.lists hN H0.out.len).mono ?_
  rintro e w1 ⟨rfl, hf1, hb1⟩
  have L1 := Lib.hid (H0.out.lists.of_filled hf1)
  have O1 := Lib.hid (own_kept_but H0.out.own hb1 (not_in H0.out.lists (by decide) (by decide) H0.out.own))
  have K1b := Lib.hid (H0.out.book.but hb1 (book_not_in H0.out.lists H0.out.book))
  have B1 := Lib.hid (hb1.below H0.out.base (inLists_ge H0.out.lists))
  have S1 : Hid (base ≤ w1.heap.size) := Nat.le_trans H0.out.base hb1.size
  have F1 := Lib.hid hf1
  clear hf1 hb1
  go_wp2_with fail
  refine (nil_same (fillInt_nil K1b.out)).mono ?_
  rintro e _ ⟨rfl, rfl⟩
  go_wp2_with fail
  refine (nil_same (fillText_nil K1b.out)).mono ?_
  rintro e _ ⟨rfl, rfl⟩
  go_wp2_with fail
  refine (nil_same (fillByteList_nil K1b.out)).mono ?_
  rintro e _ ⟨rfl, rfl⟩
  go_wp2_with fail
  refine (nil_same (fillSum_nil K1b.out)).mono ?_
  rintro e _ ⟨rfl, rfl⟩
  go_wp2_with fail
  refine (nil_same (fillPair_nil K1b.out)).mono ?_
  rintro e _ ⟨rfl, rfl⟩
  go_wp2_with fail
  refine (nil_same (fillTenant_nil K1b.out)).mono ?_
  rintro e _ ⟨rfl, rfl⟩
  go_wp2_with fail
  refine (nil_same (fillLease_nil K1b.out)).mono ?_
  rintro e _ ⟨rfl, rfl⟩
  go_wp2_with fail
  refine (nil_same (fillEvent_nil K1b.out)).mono ?_
  rintro e _ ⟨rfl, rfl⟩
  go_wp2_with fail
  refine (growByte_any kb N base N bs _ hs w1 K1b.out O1.out L1.out F1.out hN H0.out.len S1.out).mono ?_
  rintro e w3 ⟨rfl, hs1, ho3, hg3, hb3⟩
  have M3 := Lib.hid (hg3.marked (by have := O1.out.1; rw [heldCells_length] at this; omega) H0.out.len)
  have K3b := Lib.hid (K1b.out.but hb3 (fun h => h.elim (book_not_in L1.out K1b.out) (K1b.out.other (by decide) O1.out)))
  have B3 := Lib.hid (B1.out.trans (hb3.below S1.out (fun b h => h.elim (inLists_ge L1.out b) (fun h' => (O1.out.lt b h').1))))
  have O3 := Lib.hid ho3
  have S3 : Hid (base ≤ w3.heap.size) := Nat.le_trans S1.out hb3.size
  clear hg3 hb3 ho3 F1 B1 L1 O1
  go_wp2_with fail
  refine (nil_same (growInt_nil K3b.out)).mono ?_
  rintro e _ ⟨rfl, rfl⟩
  go_wp2_with fail
  refine (nil_same (growText_nil K3b.out)).mono ?_
  rintro e _ ⟨rfl, rfl⟩
  go_wp2_with fail
  refine (nil_same (growByteList_nil K3b.out)).mono ?_
  rintro e _ ⟨rfl, rfl⟩
  go_wp2_with fail
  refine (nil_same (growSum_nil K3b.out)).mono ?_
  rintro e _ ⟨rfl, rfl⟩
  go_wp2_with fail
  refine (nil_same (growPair_nil K3b.out)).mono ?_
  rintro e _ ⟨rfl, rfl⟩
  go_wp2_with fail
  refine (nil_same (growTenant_nil K3b.out)).mono ?_
  rintro e _ ⟨rfl, rfl⟩
  go_wp2_with fail
  refine (nil_same (growLease_nil K3b.out)).mono ?_
  rintro e _ ⟨rfl, rfl⟩
  go_wp2_with fail
  refine (nil_same (growEvent_nil K3b.out)).mono ?_
  rintro e _ ⟨rfl, rfl⟩
  go_wp2_with fail
  refine (lookByte_any kb N base N bs _ hs1 w3 K3b.out O3.out M3.out hN).mono ?_
  rintro e w5 ⟨rfl, hb5⟩
  have K5b := Lib.hid (K3b.out.but hb5 (fun e => e))
  have B5 := Lib.hid (B3.out.trans (hb5.below S3.out (fun _ e => e.elim)))
  clear hb5
  go_wp2_with fail
  refine (nil_same (lookInt_nil K5b.out)).mono ?_
  rintro e _ ⟨rfl, rfl⟩
  go_wp2_with fail
  refine (nil_same (lookText_nil K5b.out)).mono ?_
  rintro e _ ⟨rfl, rfl⟩
  go_wp2_with fail
  refine (nil_same (lookByteList_nil K5b.out)).mono ?_
  rintro e _ ⟨rfl, rfl⟩
  go_wp2_with fail
  refine (nil_same (lookSum_nil K5b.out)).mono ?_
  rintro e _ ⟨rfl, rfl⟩
  go_wp2_with fail
  refine (nil_same (lookPair_nil K5b.out)).mono ?_
  rintro e _ ⟨rfl, rfl⟩
  go_wp2_with fail
  refine (nil_same (lookTenant_nil K5b.out)).mono ?_
  rintro e _ ⟨rfl, rfl⟩
  go_wp2_with fail
  refine (nil_same (lookLease_nil K5b.out)).mono ?_
  rintro e _ ⟨rfl, rfl⟩
  go_wp2_with fail
  refine (nil_same (lookEvent_nil K5b.out)).mono ?_
  rintro e _ ⟨rfl, rfl⟩
  go_wp2
  go_ret
  exact ⟨rfl, B5.out⟩

end Go.Proofs.YtcdlocbonjgcgaaDoor
