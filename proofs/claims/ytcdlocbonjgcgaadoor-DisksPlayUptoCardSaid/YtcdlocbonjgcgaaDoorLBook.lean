/-
  The Book of the statements: which lists it keeps.
-/
import Derived.Test.YtcdlocbonjgcgaaDoorLBut
import Derived.Deep.RegionHeld3
import Derived.Deep.AppendLies
import Derived.Laws.Pointers
import Derived.StillTactics
namespace Go.Proofs.YtcdlocbonjgcgaaDoor
open Go.RowKit

/-- Block kb is a Book that has counted N lists: bs is its row of lists of bytes, ss that of lists of sums; it has no other. -/
def BookAt (w : World) (kb N : Nat) (bs ss : Value) : Prop :=
  w.heap[kb]? = some (.cells #[.int .i64 (N : Int), bs, .slice none 0 0, .slice none 0 0, .slice none 0 0, ss, .slice none 0 0, .slice none 0 0, .slice none 0 0, .slice none 0 0] 41 (0, 0))

theorem BookAt.lt {w : World} {kb N : Nat} {bs ss : Value} (h : BookAt w kb N bs ss) : kb < w.heap.size := (Array.getElem?_eq_some_iff.1 h).1
theorem BookAt.n {w : World} {kb N : Nat} {bs ss : Value} (h : BookAt w kb N bs ss) : w.cell? ⟨kb, 0, none⟩ = some (.int .i64 (N : Int)) := by rw [cell_of_row _ kb 0 _ _ (0, 0) h]; rfl
theorem BookAt.b {w : World} {kb N : Nat} {bs ss : Value} (h : BookAt w kb N bs ss) : w.cell? ⟨kb, 1, none⟩ = some bs := by rw [cell_of_row _ kb 1 _ _ (0, 0) h]; rfl
theorem BookAt.s {w : World} {kb N : Nat} {bs ss : Value} (h : BookAt w kb N bs ss) : w.cell? ⟨kb, 5, none⟩ = some ss := by rw [cell_of_row _ kb 5 _ _ (0, 0) h]; rfl
theorem BookAt.fz {w : World} {kb N : Nat} {bs ss : Value} (h : BookAt w kb N bs ss) (i : Nat) : w.frozen? ⟨kb, i, none⟩ = false := frozen_of_row _ kb i _ _ h
theorem BookAt.other {w : World} {kb N : Nat} {bs ss : Value} (h : BookAt w kb N bs ss) {base : Nat} {e : TypeId} {size n : Nat} {v : Value} {xs : List Value} (he : e ≠ 41) (ho : w.ownsRow base e size v n xs) : v.ownBlock ≠ some kb := by
  rcases ho.2 with ⟨rfl, _⟩ | ⟨g, cap, cur, rfl, _, hg, _⟩
  · simp [Value.ownBlock]
  · intro e'
    obtain rfl : g = kb := by simpa [Value.ownBlock] using e'
    have := (show w.heap[g]? = _ from h).symm.trans hg
    simp at this
    exact he this.2.symm
theorem BookAt.grown {w w' : World} {kb N : Nat} {bs ss : Value} {row : Option Nat} (h : BookAt w kb N bs ss) (hg : w.grownBy w' row) (hne : row ≠ some kb) : BookAt w' kb N bs ss := (hg.block kb h.lt hne.symm).trans h
theorem BookAt.below {w w' : World} {kb N : Nat} {bs ss : Value} (h : BookAt w kb N bs ss) (hb : Below w.heap.size w w') : BookAt w' kb N bs ss := (hb.block kb h.lt).trans h

theorem BookAt.setN {w : World} {kb N : Nat} {bs ss : Value} (h : BookAt w kb N bs ss) (M : Nat) : BookAt (w.setCell ⟨kb, 0, none⟩ (.int .i64 (M : Int))) kb M bs ss := by
  have := heap_setCell_same w kb 0 _ _ (.int .i64 (M : Int)) h
  exact this
theorem BookAt.setB {w : World} {kb N : Nat} {bs ss : Value} (h : BookAt w kb N bs ss) (v : Value) : BookAt (w.setCell ⟨kb, 1, none⟩ v) kb N v ss := by
  have := heap_setCell_same w kb 1 _ _ v h
  exact this
theorem BookAt.setS {w : World} {kb N : Nat} {bs ss : Value} (h : BookAt w kb N bs ss) (v : Value) : BookAt (w.setCell ⟨kb, 5, none⟩ v) kb N bs v := by
  have := heap_setCell_same w kb 5 _ _ v h
  exact this
theorem grown_set (w : World) (b i : Nat) (v : Value) : w.grownBy (w.setCell ⟨b, i, none⟩ v) (some b) :=
  ⟨rfl, rfl, rfl, by simp [World.setCell], fun k _ hk => Below.heap_setCell _ _ _ k (fun e => hk (by rw [e]))⟩

theorem infoHeldByte : (Tryd.prog.info? 81).map (fun i => (i.zero, i.size, i.bytes)) = some (some (.agg #[.slice none 0 0, .slice none 0 0, .int .i64 0]), 3, 56) := by kernel_rfl

set_option maxRecDepth 100000 in
set_option maxHeartbeats 1000000 in
theorem keepByte_at (kb N base k : Nat) (bs ss : Value) (es : List Value) (A : Option Addr) (n c : Nat) (w : World) (hbk : BookAt w kb N bs ss) (hbase : base ≤ w.heap.size)
    (hown : w.ownsRow base 81 3 bs k es) (hN : N ≤ 1000000) (hk : k ≤ 1000000) :
    Calls Tryd.prog 33 #[.pointer (some ⟨kb, 0, none⟩), .slice A n c] w fun e w' => e = .returned (.tuple #[]) ∧
      (∃ bs', BookAt w' kb (N + 1) bs' ss ∧ w'.ownsRow base 81 3 bs' (k + 1) (es ++ [.slice A n c, .slice none 0 0, .int .i64 ((N + 1 : Nat) : Int)]) ∧ ∀ b, bs'.ownBlock = some b → bs.ownBlock = some b ∨ w.heap.size ≤ b) ∧ But (fun b => b = kb ∨ bs.ownBlock = some b) w w' := by
  obtain ⟨i0, hi0, hz0, hz1, hz2⟩ := info_parts infoHeldByte
  have h0 := hbk.n
  have h1 := hbk.b
  have f0 := hbk.fz 0
  have f1 := hbk.fz 1
  go_enter Tryd.func33, Tryd.ntmps33
  go_wp2_with fail
  have hbk1 := hbk.setN (N + 1)
  have hown1 := hown.kept (grown_set w kb 0 (.int .i64 ((N + 1 : Nat) : Int))) (.inr (hbk.other (by decide) hown))
  have hB1 : But (fun b => b = kb ∨ bs.ownBlock = some b) w (w.setCell ⟨kb, 0, none⟩ (.int .i64 ((N + 1 : Nat) : Int))) := (But.refl _ w).set 0 _ (fun _ => .inl rfl)
  have hbase1 : base ≤ (w.setCell ⟨kb, 0, none⟩ (.int .i64 ((N + 1 : Nat) : Int))).heap.size := by simpa [World.setCell] using hbase
  have hsz1 : w.heap.size ≤ (w.setCell ⟨kb, 0, none⟩ (.int .i64 ((N + 1 : Nat) : Int))).heap.size := by simp [World.setCell]
  rw [show ((N + 1 : Nat) : Int) = (N : Int) + 1 by omega] at hbk1 hown1 hbase1 hB1 hsz1
  generalize w.setCell ⟨kb, 0, none⟩ (.int .i64 ((N : Int) + 1)) = w1 at *
  clear h0 h1 f0 f1 hbk hown hbase
  have h0 := hbk1.n
  have h1 := hbk1.b
  rw [show ((N + 1 : Nat) : Int) = (N : Int) + 1 by omega] at h0
  have lk := hbk1.lt
  have ag := hbk1.other (by decide) hown1
  go_region_law
    ((refine step_append_lies _ (by rfl) _ _ _ (by rfl) base 81 i0 _ 3 56 Tryd.underlying31 hi0 hz0 hz1 hz2 rfl (by omega) bs k es (by rfl) ((hown1.alloc _).drew)
        ⟨w1.heap.size, 0, none⟩ 1 1 [.slice A n c, .slice none 0 0, .int .i64 ((N : Int) + 1)] (by rfl) (by rfl) (World.news_of_block (cs := #[.slice A n c, .slice none 0 0, .int .i64 ((N : Int) + 1)]) (t := 81) (fr := (0, 0)) (heap_alloc_new w1 _)) (by simp [Value.oneCell'])
        (by omega) (by unfold maxLen; omega) (by omega) (by simp; omega) (w1.heap.size + 1) (by simp) ?_; intro gg cap w2 hown2 hgrow hat hlt; have hbk2 := BookAt.grown (hbk1.below (below_alloc w1 (.cells #[.slice A n c, .slice none 0 0, .int .i64 ((N : Int) + 1)] 81)).drew) hgrow ag; have hc2 := hbk2.b; have hf2 := hbk2.fz 1))
  all_goals
    have hown3 := hown2.kept (grown_set w2 kb 1 (.slice (some ⟨gg, 0, none⟩) (k + 1) cap)) (.inr (hbk2.other (by decide) hown2))
    have hB3 : But (fun b => b = kb ∨ bs.ownBlock = some b) w (w2.setCell ⟨kb, 1, none⟩ (.slice (some ⟨gg, 0, none⟩) (k + 1) cap)) :=
      (((hB1.alloc _).drew).grown hgrow (fun _ e _ => .inr e)).set 1 _ (fun _ => .inl rfl)
    go_end0
    exact ⟨rfl, ⟨_, hbk2.setB _, hown3, fun b hb => by
      have e : gg = b := by injection hb
      rcases hat with h | h
      · exact .inl (e ▸ h)
      · right; omega⟩, hB3⟩

theorem keepByte_any (kb N base k : Nat) (bs ss : Value) (es : List Value) (A : Option Addr) (n c : Nat) (w : World) (hbk : BookAt w kb N bs ss) (hbase : base ≤ w.heap.size)
    (hown : w.ownsRow base 81 3 bs k es) (hN : N ≤ 1000000) (hk : k ≤ 1000000) :
    Calls Tryd.prog 33 #[.pointer (some ⟨kb, 0, none⟩), .slice A n c] w fun e w' => e = .returned (.tuple #[]) ∧
      (∃ bs', BookAt w' kb (N + 1) bs' ss ∧ w'.ownsRow base 81 3 bs' (k + 1) (es ++ [.slice A n c, .slice none 0 0, .int .i64 ((N + 1 : Nat) : Int)])) ∧ But (fun b => b = kb ∨ bs.ownBlock = some b) w w' :=
  (keepByte_at kb N base k bs ss es A n c w hbk hbase hown hN hk).mono fun _ _ ⟨h1, ⟨bs', h2, h3, _⟩, h4⟩ => ⟨h1, ⟨bs', h2, h3⟩, h4⟩

set_option maxRecDepth 100000 in
set_option maxHeartbeats 400000 in
theorem bookBytes_at (kb N base k : Nat) (bs ss : Value) (es : List Value) (A : Option Addr) (n c : Nat) (w : World) (hbk : BookAt w kb N bs ss) (hbase : base ≤ w.heap.size)
    (hown : w.ownsRow base 81 3 bs k es) (hN : N ≤ 1000000) (hk : k ≤ 1000000) :
    Calls Tryd.prog 11 #[.pointer (some ⟨kb, 0, none⟩), .slice A n c] w fun e w' => e = .returned (.tuple #[]) ∧
      (∃ bs', BookAt w' kb (N + 1) bs' ss ∧ w'.ownsRow base 81 3 bs' (k + 1) (es ++ [.slice A n c, .slice none 0 0, .int .i64 ((N + 1 : Nat) : Int)]) ∧ ∀ b, bs'.ownBlock = some b → bs.ownBlock = some b ∨ w.heap.size ≤ b) ∧ But (fun b => b = kb ∨ bs.ownBlock = some b) w w' := by
  go_enter Tryd.func11, Tryd.ntmps11
  go_wp2_with fail
  refine (keepByte_at kb N base k bs ss es A n c w hbk hbase hown hN hk).mono ?_
  rintro e w1 ⟨rfl, h1, h2⟩
  go_wp2_with fail
  go_end0
  exact ⟨rfl, h1, h2⟩

theorem bookBytes_any (kb N base k : Nat) (bs ss : Value) (es : List Value) (A : Option Addr) (n c : Nat) (w : World) (hbk : BookAt w kb N bs ss) (hbase : base ≤ w.heap.size)
    (hown : w.ownsRow base 81 3 bs k es) (hN : N ≤ 1000000) (hk : k ≤ 1000000) :
    Calls Tryd.prog 11 #[.pointer (some ⟨kb, 0, none⟩), .slice A n c] w fun e w' => e = .returned (.tuple #[]) ∧
      (∃ bs', BookAt w' kb (N + 1) bs' ss ∧ w'.ownsRow base 81 3 bs' (k + 1) (es ++ [.slice A n c, .slice none 0 0, .int .i64 ((N + 1 : Nat) : Int)])) ∧ But (fun b => b = kb ∨ bs.ownBlock = some b) w w' :=
  (bookBytes_at kb N base k bs ss es A n c w hbk hbase hown hN hk).mono fun _ _ ⟨h1, ⟨bs', h2, h3, _⟩, h4⟩ => ⟨h1, ⟨bs', h2, h3⟩, h4⟩

end Go.Proofs.YtcdlocbonjgcgaaDoor
