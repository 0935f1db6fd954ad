/-
  The Book of the statements: a list of bytes may lie in a disk's sector.
-/
import Derived.Test.YtcdlocbonjgcgaaDoorLBook
namespace Go.Proofs.YtcdlocbonjgcgaaDoor
open Go.RowKit

/-- Rows of unlike element types lie in unlike blocks. -/
theorem rows_ne {w : World} {b1 b2 : Nat} {e1 e2 : TypeId} {s1 s2 n1 n2 : Nat} {v1 v2 : Value} {x1 x2 : List Value} (he : e1 ≠ e2) (h1 : w.ownsRow b1 e1 s1 v1 n1 x1) (h2 : w.ownsRow b2 e2 s2 v2 n2 x2) : v1.ownBlock = none ∨ v1.ownBlock ≠ v2.ownBlock := by
  rcases h1.2 with ⟨rfl, _⟩ | ⟨g, cap, cur, rfl, _, hg, _⟩
  · left; rfl
  · right
    rcases h2.2 with ⟨rfl, _⟩ | ⟨g2, cap2, cur2, rfl, _, hg2, _⟩
    · simp [Value.ownBlock]
    · simp only [Value.ownBlock]
      intro e
      injection e with e
      have e : g = g2 := e
      subst e
      rw [hg] at hg2
      simp at hg2
      exact he hg2.2
theorem own_kept_but {S : Nat → Prop} {w w' : World} {base : Nat} {e : TypeId} {size n : Nat} {v : Value} {xs : List Value} (h : w.ownsRow base e size v n xs) (hb : But S w w') (hn : ∀ b, v.ownBlock = some b → ¬ S b) : w'.ownsRow base e size v n xs := by
  refine ⟨h.1, ?_⟩
  rcases h.2 with hn' | ⟨g, cap, cur, rfl, hbb, hgg, rest⟩
  · exact .inl hn'
  · exact .inr ⟨g, cap, cur, rfl, hbb, (hb.block g (Array.getElem?_eq_some_iff.1 hgg).1 (hn g rfl)).trans hgg, rest⟩
theorem BookAt.but {S : Nat → Prop} {w w' : World} {kb N : Nat} {bs ss : Value} (h : BookAt w kb N bs ss) (hb : But S w w') (hn : ¬ S kb) : BookAt w' kb N bs ss := (hb.block kb h.lt hn).trans h
theorem own_form3 {w : World} {base : Nat} {e : TypeId} {size n : Nat} {v : Value} {xs : List Value} (h : w.ownsRow base e size v n xs) : ∃ A c, v = .slice A n c := by
  rcases h.2 with ⟨rfl, rfl⟩ | ⟨g, cap, cur, rfl, _⟩
  · exact ⟨_, _, rfl⟩
  · exact ⟨_, _, rfl⟩
theorem own_set1 {w : World} {base g len cap k : Nat} {xs : List Value} {u : Value} {eL : TypeId} (h : w.ownsRow base eL 1 (.slice (some ⟨g, 0, none⟩) len cap) len xs) (hk : k < len) (ht : xs.take k = List.replicate k u) :
    ∃ ys, (w.setCell ⟨g, k, none⟩ u).ownsRow base eL 1 (.slice (some ⟨g, 0, none⟩) len cap) len ys ∧ ys.take (k + 1) = List.replicate (k + 1) u := by
  rcases h.2 with ⟨e, _⟩ | ⟨g', cap', cur, e, hb, hg, hle, hm, hs, htk⟩
  · cases e
  · cases e
    have hl := h.1
    refine ⟨xs.set k u, ⟨by simpa using hl, .inr ⟨g, cap, cur.setIfInBounds k u, rfl, hb, heap_setCell_same w g k cur _ u hg, hle, hm, by simp [hs], ?_⟩⟩, ?_⟩
    · rw [Array.toList_setIfInBounds, List.take_set, htk]
    · have e1 : (xs.set k u).take k = xs.take k := by rw [List.take_set, List.set_eq_of_length_le (by rw [List.length_take]; omega)]
      have e2 : (xs.set k u)[k]? = some u := by rw [List.getElem?_set_self]; omega
      rw [List.take_add_one, e1, e2, ht, List.replicate_succ']
      rfl
theorem own_cellAt {w : World} {base g len cap k : Nat} {xs : List Value} {e : TypeId} (h : w.ownsRow base e 1 (.slice (some ⟨g, 0, none⟩) len cap) len xs) (hk : k < len) : (∃ u, w.cell? ⟨g, k, none⟩ = some u) ∧ w.frozen? ⟨g, k, none⟩ = false := by
  rcases h.2 with ⟨e, _⟩ | ⟨g', cap', cur, e, hb, hg, hle, hm, hs, htk⟩
  · cases e
  · cases e
    exact ⟨⟨cur[k]'(by omega), by rw [cell_of_row _ g k _ _ (0, 0) hg]; exact Array.getElem?_eq_getElem (by omega)⟩, frozen_of_row _ g k _ _ hg⟩

/-- A row of bytes of the call's own: in a block of bytes, or in a sector, which it fills. -/
def OwnB (w : World) (base : Nat) (v : Value) (n : Nat) (xs : List Value) : Prop :=
  w.ownsRow base 5 1 v n xs ∨ (w.ownsRow base 68 1 v n xs ∧ ∃ g, v = .slice (some ⟨g, 0, none⟩) n n)

section
variable {w w' : World} {base n : Nat} {v : Value} {xs : List Value}
theorem OwnB.len (h : OwnB w base v n xs) : xs.length = n * 1 := by rcases h with h | ⟨h, _⟩ <;> exact h.1
theorem OwnB.lt (h : OwnB w base v n xs) : ∀ b, v.ownBlock = some b → base ≤ b ∧ b < w.heap.size := by rcases h with h | ⟨h, _⟩ <;> exact h.lt
theorem OwnB.alloc (h : OwnB w base v n xs) (o : Obj) : OwnB (w.alloc o) base v n xs := by
  rcases h with h | ⟨h, e⟩
  · exact .inl (h.alloc o)
  · exact .inr ⟨h.alloc o, e⟩
theorem OwnB.drew (h : OwnB w base v n xs) : OwnB w.drew base v n xs := by
  rcases h with h | ⟨h, e⟩
  · exact .inl h.drew
  · exact .inr ⟨h.drew, e⟩
theorem OwnB.kept {row : Option Nat} (h : OwnB w base v n xs) (hg : w.grownBy w' row) (hn : v.ownBlock = none ∨ v.ownBlock ≠ row) : OwnB w' base v n xs := by
  rcases h with h | ⟨h, e⟩
  · exact .inl (h.kept hg hn)
  · exact .inr ⟨h.kept hg hn, e⟩
theorem own_kept_butB {S : Nat → Prop} (h : OwnB w base v n xs) (hb : But S w w') (hn : ∀ b, v.ownBlock = some b → ¬ S b) : OwnB w' base v n xs := by
  rcases h with h | ⟨h, e⟩
  · exact .inl (own_kept_but h hb hn)
  · exact .inr ⟨own_kept_but h hb hn, e⟩
theorem rows_neB {b2 s2 n2 : Nat} {e2 : TypeId} {v2 : Value} {x2 : List Value} (he : 5 ≠ e2) (he2 : 68 ≠ e2) (h : OwnB w base v n xs) (h2 : w.ownsRow b2 e2 s2 v2 n2 x2) : v.ownBlock = none ∨ v.ownBlock ≠ v2.ownBlock := by
  rcases h with h | ⟨h, _⟩
  · exact rows_ne he h h2
  · exact rows_ne he2 h h2
theorem BookAt.otherB {kb N : Nat} {bs ss : Value} (hk : BookAt w kb N bs ss) (h : OwnB w base v n xs) : v.ownBlock ≠ some kb := by
  rcases h with h | ⟨h, _⟩
  · exact hk.other (by decide) h
  · exact hk.other (by decide) h
end
section
variable {w : World} {base n c : Nat} {A : Option Addr} {xs : List Value}
theorem OwnB.ad (h : OwnB w base (.slice A n c) n xs) (hn : 0 < n) : ∃ g, A = some ⟨g, 0, none⟩ := by
  rcases h with h | ⟨_, g, e⟩
  · rcases h.2 with ⟨e, h0⟩ | ⟨g, cap, cur, e, _⟩
    · omega
    · cases e; exact ⟨g, rfl⟩
  · cases e; exact ⟨g, rfl⟩
theorem OwnB.byte (h : OwnB w base (.slice A n c) n xs) (hc : n + 1 ≤ c) : w.ownsRow base 5 1 (.slice A n c) n xs := by
  rcases h with h | ⟨_, g, e⟩
  · exact h
  · injection e with _ _ e; omega
theorem own_cellAtB {g len cap k : Nat} (h : OwnB w base (.slice (some ⟨g, 0, none⟩) len cap) len xs) (hk : k < len) : (∃ u, w.cell? ⟨g, k, none⟩ = some u) ∧ w.frozen? ⟨g, k, none⟩ = false := by
  rcases h with h | ⟨h, _⟩
  · exact own_cellAt h hk
  · exact own_cellAt h hk
theorem own_setB {g len cap k : Nat} {u : Value} (h : OwnB w base (.slice (some ⟨g, 0, none⟩) len cap) len xs) (hk : k < len) (ht : xs.take k = List.replicate k u) :
    ∃ ys, OwnB (w.setCell ⟨g, k, none⟩ u) base (.slice (some ⟨g, 0, none⟩) len cap) len ys ∧ ys.take (k + 1) = List.replicate (k + 1) u := by
  rcases h with h | ⟨h, e⟩
  · obtain ⟨ys, h1, h2⟩ := own_set1 h hk ht
    exact ⟨ys, .inl h1, h2⟩
  · obtain ⟨ys, h1, h2⟩ := own_set1 h hk ht
    exact ⟨ys, .inr ⟨h1, e⟩, h2⟩
end

end Go.Proofs.YtcdlocbonjgcgaaDoor
