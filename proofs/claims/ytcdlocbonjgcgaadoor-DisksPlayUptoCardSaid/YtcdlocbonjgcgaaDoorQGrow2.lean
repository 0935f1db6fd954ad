/-
  The Book of the statements: growByte, whole.
-/
import Derived.Test.YtcdlocbonjgcgaaDoorQGrow
namespace Go.Proofs.YtcdlocbonjgcgaaDoor
open Go.RowKit

theorem Longer.alloc {base : Nat} {A : Option Addr} {n c num k : Nat} {wa w : World} {A2 : Option Addr} {c2 : Nat} (h : Longer base A n c num k wa w A2 c2) (o : Obj) : Longer base A n c num k wa (w.alloc o) A2 c2 :=
  ⟨h.1.alloc o, h.2.1.alloc o, h.2.2.1.alloc o, h.2.2.2⟩
theorem Longer.drew {base : Nat} {A : Option Addr} {n c num k : Nat} {wa w : World} {A2 : Option Addr} {c2 : Nat} (h : Longer base A n c num k wa w A2 c2) : Longer base A n c num k wa w.drew A2 c2 :=
  ⟨h.1.drew, h.2.1.drew, h.2.2.1.drew, h.2.2.2⟩

theorem step_longer {ops : Array Oper} {o : Oper} {a : Act} {w : World} {K : Act → World → Prop} {Q : Exit → Act → World → Prop} {E : Prop} (hgd : o.guard = none) (s x : Operand)
    (ho : o.op = .call { callee := .builtin .append, args := #[s, x], argTypes := #[42, 42] })
    (base : Nat) (A : Option Addr) (n c num k : Nat) (wa : World) (A2 : Option Addr) (c2 : Nat) (hs : a.eval s = .slice A2 (n + k) c2) (h : Longer base A n c num k wa w A2 c2)
    (hwa : ∀ b, (Value.slice A n c).ownBlock = some b → b < wa.heap.size) (hn : n + k ≤ 2000000000) (hbase : base ≤ wa.heap.size) (ad : Addr) (hx : a.eval x = .slice (some ad) 1 1) (hu : w.cell? ad = some (mk num))
    (hK : ∀ A3 c3 w', Longer base A n c num (k + 1) wa w' A3 c3 → K (a.put o.dst (.slice A3 (n + (k + 1)) c3)) w') :
    if Region.wanted o (yielded ops a.tmps) = true then Oper.wp Tryd.prog o a w K Q else E := by
  have hw : Region.wanted o (yielded ops a.tmps) = true := by simp [Region.wanted, hgd]
  rw [if_pos hw]
  obtain ⟨A3, c3, w', hr, h2⟩ := run_longer base A n c num k wa w A2 c2 o.type h hwa hn hbase ad hu
  unfold Oper.wp execOp
  simp only [ho, resolve, invoke, builtin, Sem.run_bind, Sem.run_pure, Result.andThen_ok, List.map_toArray, List.map_cons, List.map_nil, hs, hx, hr]
  exact hK A3 c3 w' h2

/-- One cell of an owned row is written. -/
theorem own_setAt {w : World} {base g n cap size k : Nat} {e : TypeId} {xs : List Value} (u : Value) (h : w.ownsRow base e size (.slice (some ⟨g, 0, none⟩) n cap) n xs) : (w.setCell ⟨g, k, none⟩ u).ownsRow base e size (.slice (some ⟨g, 0, none⟩) n cap) n (xs.set k u) := by
  rcases h.2 with ⟨e, _⟩ | ⟨g', cap', cur, e, hb, hg, hle, hm, hs, htk⟩
  · cases e
  · cases e
    refine ⟨by rw [List.length_set]; exact h.1, .inr ⟨g, cap, cur.setIfInBounds k u, rfl, hb, heap_setCell_same w g k cur _ u hg, hle, hm, by simp [hs], ?_⟩⟩
    rw [Array.toList_setIfInBounds, List.take_set, htk]

/-- The longer list of one that is kept is laid down. -/
def Held.lay (h : Held) (A : Option Addr) (n c : Nat) : Held := { h with A2 := A, len2 := n, c2 := c }

theorem heldCells_set {hs : List Held} {i : Nat} {h : Held} (hi : hs[i]? = some h) (A : Option Addr) (n c : Nat) : (heldCells hs).set (i * 3 + 1) (.slice A n c) = heldCells (hs.set i (h.lay A n c)) := by
  induction hs generalizing i with
  | nil => simp at hi
  | cons k hs ih =>
    cases i with
    | zero => simp at hi; subst hi; rfl
    | succ i =>
      have := ih (i := i) (by simpa using hi)
      rw [show (i + 1) * 3 + 1 = (i * 3 + 1) + 1 + 1 + 1 by omega, heldCells_cons, show (k :: hs).set (i + 1) (h.lay A n c) = k :: hs.set i (h.lay A n c) from rfl, heldCells_cons, ← this]
      rfl

/-- One list, before and behind: it has its marks; when done, so has the longer one. -/
structure GrowAt (w wr : World) (base : Nat) (h h' : Held) (done : Prop) : Prop where
  v : h'.v = h.v
  num : h'.num = h.num
  len : h'.len = h.len
  row : OwnB wr base h.v h.len (List.replicate h.len (mk h.num))
  long : done → h'.len2 = h.len + 40 ∧ OwnB wr base h'.long (h.len + 40) (List.replicate (h.len + 40) (mk h.num)) ∧ (h'.long.ownBlock = h.v.ownBlock ∨ ∀ b, h'.long.ownBlock = some b → w.heap.size ≤ b)

def GrownTo (w wr : World) (base : Nat) (hs hs' : List Held) (j : Nat) : Prop :=
  hs'.length = hs.length ∧ ∀ (i : Nat) (h : Held), hs[i]? = some h → ∃ h', hs'[i]? = some h' ∧ GrowAt w wr base h h' (i < j)

theorem GrownTo.step {w wo wf : World} {base : Nat} {hs hs' : List Held} {j : Nat} {h h' : Held} (hg : GrownTo w wo base hs hs' j) (hlist : Lists w base hs) (hh : hs[j]? = some h) (hh' : hs'[j]? = some h') (A3 : Option Addr) (c3 : Nat)
    (hkeep : ∀ v n xs, OwnB wo base v n xs → (∀ b, v.ownBlock = some b → h.v.ownBlock ≠ some b) → OwnB wf base v n xs)
    (r1 : OwnB wf base (.slice A3 (h.len + 40) c3) (h.len + 40) (List.replicate (h.len + 40) (mk h.num))) (r2 : OwnB wf base h.v h.len (List.replicate h.len (mk h.num)))
    (r3 : (Value.slice A3 (h.len + 40) c3).ownBlock = h.v.ownBlock ∨ ∀ b, (Value.slice A3 (h.len + 40) c3).ownBlock = some b → w.heap.size ≤ b) : GrownTo w wf base hs (hs'.set j (h'.lay A3 (h.len + 40) c3)) (j + 1) := by
  have hjl : j < hs'.length := (List.getElem?_eq_some_iff.1 hh').1
  refine ⟨by rw [List.length_set]; exact hg.1, fun i k hk => ?_⟩
  obtain ⟨k', hk', G⟩ := hg.2 i k hk
  by_cases e : i = j
  · subst e
    rw [hh] at hk
    cases hk
    rw [hh'] at hk'
    cases hk'
    exact ⟨h'.lay A3 (h.len + 40) c3, by rw [List.getElem?_set_self hjl], G.v, G.num, G.len, r2, fun _ => ⟨rfl, r1, r3⟩⟩
  · have hap : ∀ b, k.v.ownBlock = some b → h.v.ownBlock ≠ some b := by
      intro b hb hb'
      rcases hlist.apart i j k h hk hh e with h0 | h0
      · rw [h0] at hb; cases hb
      · exact h0 (hb.trans hb'.symm)
    refine ⟨k', by rw [List.getElem?_set_ne (Ne.symm e)]; exact hk', G.v, G.num, G.len, hkeep _ _ _ G.row hap, fun hlt => ?_⟩
    obtain ⟨l1, l2, l3⟩ := G.long (by omega)
    refine ⟨l1, hkeep _ _ _ l2 (fun b hb hb' => ?_), l3⟩
    rcases l3 with l3 | l3
    · exact hap b (l3.symm.trans hb) hb'
    · obtain ⟨xs, hx⟩ := hlist.own j h hh
      have h1 := (hx.lt _ hb').2
      have h2 := l3 b hb
      omega

set_option maxRecDepth 100000 in
set_option maxHeartbeats 2000000 in
theorem growByte_any (kb N base K : Nat) (bs ss : Value) (hs : List Held) (w : World) (hbk : BookAt w kb N bs ss) (hown : w.ownsRow base 81 3 bs K (heldCells hs)) (hlist : Lists w base hs) (hfill : Filled w base hs K)
    (hK : K ≤ 1000000) (hlen : ∀ (i : Nat) (h : Held), hs[i]? = some h → h.len ≤ 1000000000) (hbase : base ≤ w.heap.size) :
    Calls Tryd.prog 48 #[.pointer (some ⟨kb, 0, none⟩)] w fun e w' => e = .returned (.tuple #[]) ∧
      ∃ hs', w'.ownsRow base 81 3 bs K (heldCells hs') ∧ GrownTo w w' base hs hs' K ∧ But (fun b => inLists hs b ∨ bs.ownBlock = some b) w w' := by
  have hKl : hs.length = K := by have := hown.1; rw [heldCells_length] at this; omega
  have HKl := Lib.hid hKl
  clear hKl
  obtain ⟨Ab, cb, rfl⟩ := own_form3 hown
  have h1 := hbk.b
  have start : GrownTo w w base hs hs 0 := ⟨rfl, fun i h hi => ⟨h, hi, rfl, rfl, rfl, by
    obtain ⟨xs, r1, r2⟩ := hfill i h hi
    rw [← r2 (by have := (List.getElem?_eq_some_iff.1 hi).1; rw [HKl.out] at this; exact this)]
    exact r1, fun e => by omega⟩⟩
  have HS := Lib.hid start
  clear start hfill
  go_enter Tryd.func48, Tryd.ntmps48
  go_wp2
  go_loopw [2] (fun i wr => ∃ (j : Nat) (hs' : List Held), j ≤ K ∧ i = .int .i64 (j : Int) ∧ wr.ownsRow base 81 3 (.slice Ab K cb) K (heldCells hs') ∧ GrownTo w wr base hs hs' j ∧ But (fun b => inLists hs b ∨ (Value.slice Ab K cb).ownBlock = some b) w wr) (fun i _ => K - (intOf i).toNat)
  case atStart => exact ⟨0, hs, Nat.zero_le _, rfl, hown, HS.out, But.refl _ _⟩
  case round =>
    obtain ⟨j, hs', hj, rfl, hown2, hgr, hbut⟩ := hrel
    obtain ⟨wo, rfl⟩ : ∃ wo : World, wo = wr := ⟨_, rfl⟩
    have nokb : ¬ (inLists hs kb ∨ (Value.slice Ab K cb).ownBlock = some kb) := by
      rintro (⟨i, h, hi, he⟩ | he)
      · obtain ⟨xs, hx⟩ := hlist.own i h hi
        exact hbk.otherB hx he
      · exact hbk.other (by decide) hown he
    have hbk2 := hbk.but hbut nokb
    have h2 := hbk2.b
    have HG := Lib.hid hgr
    clear hgr
    by_cases hlt : j < K
    · obtain ⟨h0, hh0⟩ : ∃ h, hs[j]? = some h := ⟨_, List.getElem?_eq_getElem (by rw [HKl.out]; exact hlt)⟩
      obtain ⟨h, hh, G⟩ := HG.out.2 j h0 hh0
      obtain ⟨g1, g2, g3⟩ := heldCells_get hh
      rcases hown2.2 with ⟨e, h0⟩ | ⟨gb, cap, cur, e, hbb, hgb, hle, hm, hsz, htk⟩
      · omega
      · cases e
        have p1 : wo.cell? ⟨gb, j * 3, none⟩ = some h.v := by
          have := hown2.cells (g := gb) rfl _ _ g1
          rwa [Addr.add_lit, Nat.zero_add] at this
        have p2 : wo.cell? ⟨gb, j * 3 + 1, none⟩ = some h.long := by
          have := hown2.cells (g := gb) rfl _ _ g2
          rwa [Addr.add_lit, Nat.zero_add] at this
        have p3 : wo.cell? ⟨gb, j * 3 + 2, none⟩ = some (.int .i64 (h.num : Int)) := by
          have := hown2.cells (g := gb) rfl _ _ g3
          rwa [Addr.add_lit, Nat.zero_add] at this
        have i1 : (j : Int) < (K : Int) := by omega
        have hx0 := G.row
        rw [← G.v, ← G.num, ← G.len] at hx0
        have hl0 := hlen j h0 hh0
        rw [← G.len] at hl0
        have hlow : ∀ b, h.v.ownBlock = some b → b < w.heap.size := by
          intro b hb
          rw [G.v] at hb
          obtain ⟨xs, hx⟩ := hlist.own j h0 hh0
          exact (hx.lt _ hb).2
        have HL := Lib.hid hlow
        clear hlow
        have hsz0 := hbut.size
        have hnext : ∀ wi A3 c3, But (fun b => h.v.ownBlock = some b) wo wi → OwnB wi base (.slice A3 (h.len + 40) c3) (h.len + 40) (List.replicate (h.len + 40) (mk h.num)) → OwnB wi base h.v h.len (List.replicate h.len (mk h.num)) →
            ((Value.slice A3 (h.len + 40) c3).ownBlock = h.v.ownBlock ∨ ∀ b, (Value.slice A3 (h.len + 40) c3).ownBlock = some b → w.heap.size ≤ b) →
            ∃ hs2, (wi.setCell ⟨gb, j * 3 + 1, none⟩ (.slice A3 (h.len + 40) c3)).ownsRow base 81 3 (.slice (some ⟨gb, 0, none⟩) K cb) K (heldCells hs2) ∧
              GrownTo w (wi.setCell ⟨gb, j * 3 + 1, none⟩ (.slice A3 (h.len + 40) c3)) base hs hs2 (j + 1) ∧ But (fun b => inLists hs b ∨ (Value.slice (some ⟨gb, 0, none⟩) K cb).ownBlock = some b) w (wi.setCell ⟨gb, j * 3 + 1, none⟩ (.slice A3 (h.len + 40) c3)) := by
          intro wi A3 c3 hbi r1 r2 r3
          have howni : wi.ownsRow base 81 3 (.slice (some ⟨gb, 0, none⟩) K cb) K (heldCells hs') := own_kept_but hown2 hbi (by
            intro b hb hb'
            rcases rows_neB (by decide) (by decide) hx0 hown2 with e0 | e0
            · rw [e0] at hb'; cases hb'
            · exact e0 (hb'.trans hb.symm))
          have off : ∀ v n xs, OwnB wi base v n xs → OwnB (wi.setCell ⟨gb, j * 3 + 1, none⟩ (.slice A3 (h.len + 40) c3)) base v n xs := by
            intro v n xs hv
            refine hv.kept (grown_set wi gb _ _) ?_
            rcases rows_neB (by decide) (by decide) hv howni with e0 | e0
            · left; exact e0
            · right; exact e0
          refine ⟨hs'.set j (h.lay A3 (h0.len + 40) c3), ?_, ?_, ?_⟩
          · have := own_setAt (k := j * 3 + 1) (.slice A3 (h.len + 40) c3) howni
            rw [heldCells_set hh, G.len] at this
            rw [G.len]
            exact this
          · rw [G.len, G.num] at r1
            rw [G.v, G.len, G.num] at r2
            rw [G.len, G.v] at r3
            rw [G.len] at off ⊢
            refine HG.out.step hlist hh0 hh A3 c3 (fun v n xs hv hne => off _ _ _ (own_kept_butB hv hbi (fun b hb hb' => ?_))) (off _ _ _ r1) (off _ _ _ r2) r3
            rw [G.v] at hb'
            exact hne b hb hb'
          · refine (hbut.trans (hbi.mono (fun b _ hb => .inl ⟨j, h0, hh0, ?_⟩))).set _ _ (fun _ => .inr rfl)
            rw [← G.v]
            exact hb
        have HN := Lib.hid hnext
        clear hnext G g1 g2 g3 hh hh0
        obtain ⟨A, n, c, A2, n2, c2, num⟩ := h
        simp only [Held.v, Held.long] at p1 p2 p3 hx0 hl0
        go_wp2
        have hx1 := hx0.alloc (.cells #[.slice A n c, .slice A2 n2 c2, .int .i64 (num : Int)] 81)
        have hlt0 := hx0.lt
        obtain ⟨wa, hwa⟩ : ∃ wa, wo.alloc (.cells #[.slice A n c, .slice A2 n2 c2, .int .i64 (num : Int)] 81) = wa := ⟨_, rfl⟩
        have hba : But (fun b => (Value.slice A n c).ownBlock = some b) wo wa := by rw [← hwa]; exact (But.refl _ _).alloc _
        have hha : wa.heap[wo.heap.size]? = some (.cells #[.slice A n c, .slice A2 n2 c2, .int .i64 (num : Int)] 81 (0, 0)) := by rw [← hwa]; exact World.alloc_heap_new wo _
        rw [hwa] at hx1 ⊢
        have HH := Lib.hid hha
        clear hwa hha
        have q0 : wa.cell? ⟨wo.heap.size, 0, none⟩ = some (.slice A n c) := by rw [cell_of_row _ _ 0 _ _ (0, 0) HH.out]; rfl
        have hsza := hba.size
        have hwa' : ∀ b, (Value.slice A n c).ownBlock = some b → b < wa.heap.size := fun b hb => by have := (hlt0 b hb).2; omega
        go_wp2
        go_loopw [4, 5] (fun L i wi => ∃ (k : Nat) (A3 : Option Addr) (c3 : Nat), k ≤ 40 ∧ i = .int .i64 (k : Int) ∧ L = .slice A3 (n + k) c3 ∧ Longer base A n c num k wa wi A3 c3) (fun _ i _ => 40 - (intOf i).toNat)
        case atStart => exact ⟨0, A, c, Nat.zero_le _, rfl, rfl, hx1, hx1, But.refl _ _, .inl ⟨rfl, rfl⟩⟩
        case round =>
          obtain ⟨k, A3, c3, hk, rfl, rfl, hlg⟩ := hrel
          have hbi := hlg.2.2.1
          have hhi : wr.heap[wo.heap.size]? = some (.cells #[.slice A n c, .slice A2 n2 c2, .int .i64 (num : Int)] 81 (0, 0)) :=
            (hbi.block _ (Array.getElem?_eq_some_iff.1 HH.out).1 (fun e => by have := (hlt0 _ e).2; omega)).trans HH.out
          have q2 : wr.cell? ⟨wo.heap.size, 2, none⟩ = some (.int .i64 (num : Int)) := by rw [cell_of_row _ _ 2 _ _ (0, 0) hhi]; rfl
          clear hhi
          by_cases hlt2 : k < 40
          · have i2 : (k : Int) < 40 := by omega
            go_wp2_with (first
              | (go_at_call 66; refine (markByte_any num _).mono ?_; rintro e w' ⟨rfl, rfl⟩)
              | (at_builtin; refine wpList_longer _ rfl (.tmp 28) (.tmp 32) rfl base A n c num k wa A3 c3 rfl (hlg.alloc _) hwa' (by omega) (by omega) ⟨wr.heap.size, 0, none⟩ rfl (by simp [mk]) ?_; intro A4 c4 w4 hl4))
            go_roundw
            case rel => exact ⟨k + 1, A4, c4, by omega, by go_num, rfl, hl4⟩
            case measure => simp [intOf]; omega
          · obtain rfl : k = 40 := by omega
            have hb2 := hba.trans hbi
            obtain ⟨hs2, n1, n2', n3⟩ := HN.out wr A3 c3 hb2 hlg.1 hlg.2.1 (by
              rcases hlg.2.2.2 with ⟨e2, _⟩ | ⟨g2, e2, hg2⟩
              · left; rw [e2]; cases A <;> rfl
              · right
                intro b hb
                rw [e2] at hb
                obtain rfl : g2 = b := by simpa [Value.ownBlock] using hb
                omega)
            have hbk3 := hbk2.but hb2 (fun e => hbk2.otherB hx0 e)
            have h3 := hbk3.b
            have hgb3 := (hb2.block gb (Array.getElem?_eq_some_iff.1 hgb).1 (fun e => by
              rcases rows_neB (by decide) (by decide) hx0 hown2 with e0 | e0
              · rw [e0] at e; cases e
              · exact e0 e)).trans hgb
            obtain ⟨u, hu3⟩ : ∃ u, wr.cell? ⟨gb, j * 3 + 1, none⟩ = some u := ⟨cur[j * 3 + 1]'(by omega), by rw [cell_of_row _ gb _ _ _ (0, 0) hgb3]; exact Array.getElem?_eq_getElem (by omega)⟩
            have hf3 : wr.frozen? ⟨gb, j * 3 + 1, none⟩ = false := frozen_of_row _ gb _ _ _ hgb3
            clear hgb3 hgb htk
            have HN1 := Lib.hid n1
            have HN2 := Lib.hid n2'
            have HN3 := Lib.hid n3
            clear n1 n2' n3 HN
            go_wp2
            go_roundw
            case rel => exact ⟨j + 1, hs2, by omega, by go_num, HN1.out, HN2.out, HN3.out⟩
            case measure => simp [intOf]; omega
    · obtain rfl : j = K := by omega
      go_wp2
      go_end0
      exact ⟨rfl, hs', hown2, HG.out, hbut⟩

end Go.Proofs.YtcdlocbonjgcgaaDoor
