/-
  Several texts in one: LGrow2, LGrow2S, LLook, LLookS, LNil, LApart, LTwinB.
-/
import Derived.Test.YtfniddnfkciblaaGreatDoorOfB4
import Derived.Deep.QuietTactic
import Derived.BigQuiet
/-
  The Book of the statements: growByte, whole.
-/
namespace Go.Proofs.YtfniddnfkciblaaGreatDoor
open Go.RowKit

theorem Longer.alloc {base : Nat} {A : Option Addr} {n c num k : Nat} {wa w : World} {A2 : Option Addr} {c2 : Nat} (h : Longer base A n c num k wa w A2 c2) (o : Obj) : Longer base A n c num k wa (w.alloc o) A2 c2 :=
  ⟨h.1.alloc o, h.2.1.alloc o, h.2.2.1.alloc o, h.2.2.2⟩
theorem Longer.drew {base : Nat} {A : Option Addr} {n c num k : Nat} {wa w : World} {A2 : Option Addr} {c2 : Nat} (h : Longer base A n c num k wa w A2 c2) : Longer base A n c num k wa w.drew A2 c2 :=
  ⟨h.1.drew, h.2.1.drew, h.2.2.1.drew, h.2.2.2⟩

theorem step_longer {ops : Array Oper} {o : Oper} {a : Act} {w : World} {K : Act → World → Prop} {Q : Exit → Act → World → Prop} {E : Prop} (hgd : o.guard = none) (s x : Operand)
    (ho : o.op = .call { callee := .builtin .append, args := #[s, x], argTypes := #[23, 23] })
    (base : Nat) (A : Option Addr) (n c num k : Nat) (wa : World) (A2 : Option Addr) (c2 : Nat) (hs : a.eval s = .slice A2 (n + k) c2) (h : Longer base A n c num k wa w A2 c2)
    (hwa : ∀ b, (Value.slice A n c).ownBlock = some b → b < wa.heap.size) (hn : n + k ≤ 2000000000) (hbase : base ≤ wa.heap.size) (ad : Addr) (hx : a.eval x = .slice (some ad) 1 1) (hu : w.cell? ad = some (mk num))
    (hK : ∀ A3 c3 w', Longer base A n c num (k + 1) wa w' A3 c3 → K (a.put o.dst (.slice A3 (n + (k + 1)) c3)) w') :
    if Region.wanted o (yielded ops a.tmps) = true then Oper.wp Tryz.prog o a w K Q else E := by
  have hw : Region.wanted o (yielded ops a.tmps) = true := by simp [Region.wanted, hgd]
  rw [if_pos hw]
  obtain ⟨A3, c3, w', hr, h2⟩ := run_longer base A n c num k wa w A2 c2 o.type h hwa hn hbase ad hu
  unfold Oper.wp execOp
  simp only [ho, resolve, invoke, builtin, Sem.run_bind, Sem.run_pure, Result.andThen_ok, List.map_toArray, List.map_cons, List.map_nil, hs, hx, hr]
  exact hK A3 c3 w' h2

/-- One cell of an owned row is written. -/
theorem own_setAt {w : World} {base g n cap size k : Nat} {e : TypeId} {xs : List Value} (u : Value) (h : w.ownsRow base e size (.slice (some ⟨g, 0, none⟩) n cap) n xs) : (w.setCell ⟨g, k, none⟩ u).ownsRow base e size (.slice (some ⟨g, 0, none⟩) n cap) n (xs.set k u) := by
  rcases h.2 with ⟨e, _⟩ | ⟨g', cap', cur, e, hb, hg, hle, hm, hs, htk⟩
  · cases e
  · cases e
    refine ⟨by rw [List.length_set]; exact h.1, .inr ⟨g, cap, cur.setIfInBounds k u, rfl, hb, heap_setCell_same w g k cur _ u hg, hle, hm, by simp [hs], ?_⟩⟩
    rw [Array.toList_setIfInBounds, List.take_set, htk]

/-- The longer list of one that is kept is laid down. -/
def Held.lay (h : Held) (A : Option Addr) (n c : Nat) : Held := { h with A2 := A, len2 := n, c2 := c }

theorem heldCells_set {hs : List Held} {i : Nat} {h : Held} (hi : hs[i]? = some h) (A : Option Addr) (n c : Nat) : (heldCells hs).set (i * 3 + 1) (.slice A n c) = heldCells (hs.set i (h.lay A n c)) := by
  induction hs generalizing i with
  | nil => simp at hi
  | cons k hs ih =>
    cases i with
    | zero => simp at hi; subst hi; rfl
    | succ i =>
      have := ih (i := i) (by simpa using hi)
      rw [show (i + 1) * 3 + 1 = (i * 3 + 1) + 1 + 1 + 1 by omega, heldCells_cons, show (k :: hs).set (i + 1) (h.lay A n c) = k :: hs.set i (h.lay A n c) from rfl, heldCells_cons, ← this]
      rfl

/-- One list, before and behind: it has its marks; when done, so has the longer one. -/
structure GrowAt (w wr : World) (base : Nat) (h h' : Held) (done : Prop) : Prop where
  v : h'.v = h.v
  num : h'.num = h.num
  len : h'.len = h.len
  row : wr.ownsRow base 5 1 h.v h.len (List.replicate h.len (mk h.num))
  long : done → h'.len2 = h.len + 40 ∧ wr.ownsRow base 5 1 h'.long (h.len + 40) (List.replicate (h.len + 40) (mk h.num)) ∧ (h'.long.ownBlock = h.v.ownBlock ∨ ∀ b, h'.long.ownBlock = some b → w.heap.size ≤ b)

def GrownTo (w wr : World) (base : Nat) (hs hs' : List Held) (j : Nat) : Prop :=
  hs'.length = hs.length ∧ ∀ (i : Nat) (h : Held), hs[i]? = some h → ∃ h', hs'[i]? = some h' ∧ GrowAt w wr base h h' (i < j)

theorem GrownTo.step {w wo wf : World} {base : Nat} {hs hs' : List Held} {j : Nat} {h h' : Held} (hg : GrownTo w wo base hs hs' j) (hlist : Lists w base hs) (hh : hs[j]? = some h) (hh' : hs'[j]? = some h') (A3 : Option Addr) (c3 : Nat)
    (hkeep : ∀ v n xs, wo.ownsRow base 5 1 v n xs → (∀ b, v.ownBlock = some b → h.v.ownBlock ≠ some b) → wf.ownsRow base 5 1 v n xs)
    (r1 : wf.ownsRow base 5 1 (.slice A3 (h.len + 40) c3) (h.len + 40) (List.replicate (h.len + 40) (mk h.num))) (r2 : wf.ownsRow base 5 1 h.v h.len (List.replicate h.len (mk h.num)))
    (r3 : (Value.slice A3 (h.len + 40) c3).ownBlock = h.v.ownBlock ∨ ∀ b, (Value.slice A3 (h.len + 40) c3).ownBlock = some b → w.heap.size ≤ b) : GrownTo w wf base hs (hs'.set j (h'.lay A3 (h.len + 40) c3)) (j + 1) := by
  have hjl : j < hs'.length := (List.getElem?_eq_some_iff.1 hh').1
  refine ⟨by rw [List.length_set]; exact hg.1, fun i k hk => ?_⟩
  obtain ⟨k', hk', G⟩ := hg.2 i k hk
  by_cases e : i = j
  · subst e
    rw [hh] at hk
    cases hk
    rw [hh'] at hk'
    cases hk'
    exact ⟨h'.lay A3 (h.len + 40) c3, by rw [List.getElem?_set_self hjl], G.v, G.num, G.len, r2, fun _ => ⟨rfl, r1, r3⟩⟩
  · have hap : ∀ b, k.v.ownBlock = some b → h.v.ownBlock ≠ some b := by
      intro b hb hb'
      rcases hlist.apart i j k h hk hh e with h0 | h0
      · rw [h0] at hb; cases hb
      · exact h0 (hb.trans hb'.symm)
    refine ⟨k', by rw [List.getElem?_set_ne (Ne.symm e)]; exact hk', G.v, G.num, G.len, hkeep _ _ _ G.row hap, fun hlt => ?_⟩
    obtain ⟨l1, l2, l3⟩ := G.long (by omega)
    refine ⟨l1, hkeep _ _ _ l2 (fun b hb hb' => ?_), l3⟩
    rcases l3 with l3 | l3
    · exact hap b (l3.symm.trans hb) hb'
    · obtain ⟨xs, hx⟩ := hlist.own j h hh
      have h1 := (hx.lt _ hb').2
      have h2 := l3 b hb
      omega

set_option maxRecDepth 100000 in
set_option maxHeartbeats 2000000 in
theorem growByte_any (kb N base K : Nat) (bs ss : Value) (hs : List Held) (w : World) (hbk : BookAt w kb N bs ss) (hown : w.ownsRow base 73 3 bs K (heldCells hs)) (hlist : Lists w base hs) (hfill : Filled w base hs K)
    (hK : K ≤ 1000000) (hlen : ∀ (i : Nat) (h : Held), hs[i]? = some h → h.len ≤ 1000000000) (hbase : base ≤ w.heap.size) :
    Calls Tryz.prog 33 #[.pointer (some ⟨kb, 0, none⟩)] w fun e w' => e = .returned (.tuple #[]) ∧
      ∃ hs', w'.ownsRow base 73 3 bs K (heldCells hs') ∧ GrownTo w w' base hs hs' K ∧ But (fun b => inLists hs b ∨ bs.ownBlock = some b) w w' := by
  have hKl : hs.length = K := by have := hown.1; rw [heldCells_length] at this; omega
  have HKl := Lib.hid hKl
  clear hKl
  obtain ⟨Ab, cb, rfl⟩ := own_form3 hown
  have h1 := hbk.b
  have start : GrownTo w w base hs hs 0 := ⟨rfl, fun i h hi => ⟨h, hi, rfl, rfl, rfl, by
    obtain ⟨xs, r1, r2⟩ := hfill i h hi
    rw [← r2 (by have := (List.getElem?_eq_some_iff.1 hi).1; rw [HKl.out] at this; exact this)]
    exact r1, fun e => by omega⟩⟩
  have HS := Lib.hid start
  clear start hfill
  go_enter Tryz.func33, Tryz.ntmps33
  go_wp2
  go_loopw [2] (fun i wr => ∃ (j : Nat) (hs' : List Held), j ≤ K ∧ i = .int .i64 (j : Int) ∧ wr.ownsRow base 73 3 (.slice Ab K cb) K (heldCells hs') ∧ GrownTo w wr base hs hs' j ∧ But (fun b => inLists hs b ∨ (Value.slice Ab K cb).ownBlock = some b) w wr) (fun i _ => K - (intOf i).toNat)
  case atStart => exact ⟨0, hs, Nat.zero_le _, rfl, hown, HS.out, But.refl _ _⟩
  case round =>
    obtain ⟨j, hs', hj, rfl, hown2, hgr, hbut⟩ := hrel
    obtain ⟨wo, rfl⟩ : ∃ wo : World, wo = wr := ⟨_, rfl⟩
    have nokb : ¬ (inLists hs kb ∨ (Value.slice Ab K cb).ownBlock = some kb) := by
      rintro (⟨i, h, hi, he⟩ | he)
      · obtain ⟨xs, hx⟩ := hlist.own i h hi
        exact hbk.other (by decide) hx he
      · exact hbk.other (by decide) hown he
    have hbk2 := hbk.but hbut nokb
    have h2 := hbk2.b
    have HG := Lib.hid hgr
    clear hgr
    by_cases hlt : j < K
    · obtain ⟨h0, hh0⟩ : ∃ h, hs[j]? = some h := ⟨_, List.getElem?_eq_getElem (by rw [HKl.out]; exact hlt)⟩
      obtain ⟨h, hh, G⟩ := HG.out.2 j h0 hh0
      obtain ⟨g1, g2, g3⟩ := heldCells_get hh
      rcases hown2.2 with ⟨e, h0⟩ | ⟨gb, cap, cur, e, hbb, hgb, hle, hm, hsz, htk⟩
      · omega
      · cases e
        have p1 : wo.cell? ⟨gb, j * 3, none⟩ = some h.v := by
          have := hown2.cells (g := gb) rfl _ _ g1
          rwa [Addr.add_lit, Nat.zero_add] at this
        have p2 : wo.cell? ⟨gb, j * 3 + 1, none⟩ = some h.long := by
          have := hown2.cells (g := gb) rfl _ _ g2
          rwa [Addr.add_lit, Nat.zero_add] at this
        have p3 : wo.cell? ⟨gb, j * 3 + 2, none⟩ = some (.int .i64 (h.num : Int)) := by
          have := hown2.cells (g := gb) rfl _ _ g3
          rwa [Addr.add_lit, Nat.zero_add] at this
        have i1 : (j : Int) < (K : Int) := by omega
        have hx0 := G.row
        rw [← G.v, ← G.num, ← G.len] at hx0
        have hl0 := hlen j h0 hh0
        rw [← G.len] at hl0
        have hlow : ∀ b, h.v.ownBlock = some b → b < w.heap.size := by
          intro b hb
          rw [G.v] at hb
          obtain ⟨xs, hx⟩ := hlist.own j h0 hh0
          exact (hx.lt _ hb).2
        have HL := Lib.hid hlow
        clear hlow
        have hsz0 := hbut.size
        have hnext : ∀ wi A3 c3, But (fun b => h.v.ownBlock = some b) wo wi → wi.ownsRow base 5 1 (.slice A3 (h.len + 40) c3) (h.len + 40) (List.replicate (h.len + 40) (mk h.num)) → wi.ownsRow base 5 1 h.v h.len (List.replicate h.len (mk h.num)) →
            ((Value.slice A3 (h.len + 40) c3).ownBlock = h.v.ownBlock ∨ ∀ b, (Value.slice A3 (h.len + 40) c3).ownBlock = some b → w.heap.size ≤ b) →
            ∃ hs2, (wi.setCell ⟨gb, j * 3 + 1, none⟩ (.slice A3 (h.len + 40) c3)).ownsRow base 73 3 (.slice (some ⟨gb, 0, none⟩) K cb) K (heldCells hs2) ∧
              GrownTo w (wi.setCell ⟨gb, j * 3 + 1, none⟩ (.slice A3 (h.len + 40) c3)) base hs hs2 (j + 1) ∧ But (fun b => inLists hs b ∨ (Value.slice (some ⟨gb, 0, none⟩) K cb).ownBlock = some b) w (wi.setCell ⟨gb, j * 3 + 1, none⟩ (.slice A3 (h.len + 40) c3)) := by
          intro wi A3 c3 hbi r1 r2 r3
          have howni : wi.ownsRow base 73 3 (.slice (some ⟨gb, 0, none⟩) K cb) K (heldCells hs') := own_kept_but hown2 hbi (by
            intro b hb hb'
            rcases rows_ne (by decide) hx0 hown2 with e0 | e0
            · rw [e0] at hb'; cases hb'
            · exact e0 (hb'.trans hb.symm))
          have off : ∀ v n xs, wi.ownsRow base 5 1 v n xs → (wi.setCell ⟨gb, j * 3 + 1, none⟩ (.slice A3 (h.len + 40) c3)).ownsRow base 5 1 v n xs := by
            intro v n xs hv
            refine hv.kept (grown_set wi gb _ _) ?_
            rcases rows_ne (by decide) hv howni with e0 | e0
            · left; exact e0
            · right; exact e0
          refine ⟨hs'.set j (h.lay A3 (h0.len + 40) c3), ?_, ?_, ?_⟩
          · have := own_setAt (k := j * 3 + 1) (.slice A3 (h.len + 40) c3) howni
            rw [heldCells_set hh, G.len] at this
            rw [G.len]
            exact this
          · rw [G.len, G.num] at r1
            rw [G.v, G.len, G.num] at r2
            rw [G.len, G.v] at r3
            rw [G.len] at off ⊢
            refine HG.out.step hlist hh0 hh A3 c3 (fun v n xs hv hne => off _ _ _ (own_kept_but hv hbi (fun b hb hb' => ?_))) (off _ _ _ r1) (off _ _ _ r2) r3
            rw [G.v] at hb'
            exact hne b hb hb'
          · refine (hbut.trans (hbi.mono (fun b _ hb => .inl ⟨j, h0, hh0, ?_⟩))).set _ _ (fun _ => .inr rfl)
            rw [← G.v]
            exact hb
        have HN := Lib.hid hnext
        clear hnext G g1 g2 g3 hh hh0
        obtain ⟨A, n, c, A2, n2, c2, num⟩ := h
        simp only [Held.v, Held.long] at p1 p2 p3 hx0 hl0
        go_wp2
        have hx1 := hx0.alloc (.cells #[.slice A n c, .slice A2 n2 c2, .int .i64 (num : Int)] 73)
        have hlt0 := hx0.lt
        obtain ⟨wa, hwa⟩ : ∃ wa, wo.alloc (.cells #[.slice A n c, .slice A2 n2 c2, .int .i64 (num : Int)] 73) = wa := ⟨_, rfl⟩
        have hba : But (fun b => (Value.slice A n c).ownBlock = some b) wo wa := by rw [← hwa]; exact (But.refl _ _).alloc _
        have hha : wa.heap[wo.heap.size]? = some (.cells #[.slice A n c, .slice A2 n2 c2, .int .i64 (num : Int)] 73 (0, 0)) := by rw [← hwa]; exact World.alloc_heap_new wo _
        rw [hwa] at hx1 ⊢
        have HH := Lib.hid hha
        clear hwa hha
        have q0 : wa.cell? ⟨wo.heap.size, 0, none⟩ = some (.slice A n c) := by rw [cell_of_row _ _ 0 _ _ (0, 0) HH.out]; rfl
        have hsza := hba.size
        have hwa' : ∀ b, (Value.slice A n c).ownBlock = some b → b < wa.heap.size := fun b hb => by have := (hlt0 b hb).2; omega
        go_wp2
        go_loopw [4, 5] (fun L i wi => ∃ (k : Nat) (A3 : Option Addr) (c3 : Nat), k ≤ 40 ∧ i = .int .i64 (k : Int) ∧ L = .slice A3 (n + k) c3 ∧ Longer base A n c num k wa wi A3 c3) (fun _ i _ => 40 - (intOf i).toNat)
        case atStart => exact ⟨0, A, c, Nat.zero_le _, rfl, rfl, hx1, hx1, But.refl _ _, .inl ⟨rfl, rfl⟩⟩
        case round =>
          obtain ⟨k, A3, c3, hk, rfl, rfl, hlg⟩ := hrel
          have hbi := hlg.2.2.1
          have hhi : wr.heap[wo.heap.size]? = some (.cells #[.slice A n c, .slice A2 n2 c2, .int .i64 (num : Int)] 73 (0, 0)) :=
            (hbi.block _ (Array.getElem?_eq_some_iff.1 HH.out).1 (fun e => by have := (hlt0 _ e).2; omega)).trans HH.out
          have q2 : wr.cell? ⟨wo.heap.size, 2, none⟩ = some (.int .i64 (num : Int)) := by rw [cell_of_row _ _ 2 _ _ (0, 0) hhi]; rfl
          clear hhi
          by_cases hlt2 : k < 40
          · have i2 : (k : Int) < 40 := by omega
            go_wp2_with (first
              | (go_at_call 59; refine (markByte_any num _).mono ?_; rintro e w' ⟨rfl, rfl⟩)
              | (at_builtin; refine wpList_longer _ rfl (.tmp 28) (.tmp 32) rfl base A n c num k wa A3 c3 rfl (hlg.alloc _) hwa' (by omega) (by omega) ⟨wr.heap.size, 0, none⟩ rfl (by simp [mk]) ?_; intro A4 c4 w4 hl4))
            go_roundw
            case rel => exact ⟨k + 1, A4, c4, by omega, by go_num, rfl, hl4⟩
            case measure => simp [intOf]; omega
          · obtain rfl : k = 40 := by omega
            have hb2 := hba.trans hbi
            obtain ⟨hs2, n1, n2', n3⟩ := HN.out wr A3 c3 hb2 hlg.1 hlg.2.1 (by
              rcases hlg.2.2.2 with ⟨e2, _⟩ | ⟨g2, e2, hg2⟩
              · left; rw [e2]; cases A <;> rfl
              · right
                intro b hb
                rw [e2] at hb
                obtain rfl : g2 = b := by simpa [Value.ownBlock] using hb
                omega)
            have hbk3 := hbk2.but hb2 (fun e => hbk2.other (by decide) hx0 e)
            have h3 := hbk3.b
            have hgb3 := (hb2.block gb (Array.getElem?_eq_some_iff.1 hgb).1 (fun e => by
              rcases rows_ne (by decide) hx0 hown2 with e0 | e0
              · rw [e0] at e; cases e
              · exact e0 e)).trans hgb
            obtain ⟨u, hu3⟩ : ∃ u, wr.cell? ⟨gb, j * 3 + 1, none⟩ = some u := ⟨cur[j * 3 + 1]'(by omega), by rw [cell_of_row _ gb _ _ _ (0, 0) hgb3]; exact Array.getElem?_eq_getElem (by omega)⟩
            have hf3 : wr.frozen? ⟨gb, j * 3 + 1, none⟩ = false := frozen_of_row _ gb _ _ _ hgb3
            clear hgb3 hgb htk
            have HN1 := Lib.hid n1
            have HN2 := Lib.hid n2'
            have HN3 := Lib.hid n3
            clear n1 n2' n3 HN
            go_wp2
            go_roundw
            case rel => exact ⟨j + 1, hs2, by omega, by go_num, HN1.out, HN2.out, HN3.out⟩
            case measure => simp [intOf]; omega
    · obtain rfl : j = K := by omega
      go_wp2
      go_end0
      exact ⟨rfl, hs', hown2, HG.out, hbut⟩

end Go.Proofs.YtfniddnfkciblaaGreatDoor

/-
  The Book of the statements: growSum, whole.
-/
namespace Go.Proofs.YtfniddnfkciblaaGreatDoor
open Go.RowKit

theorem wpList_build_mark {ops : Array Oper} {rest : List Oper} {o : Oper} {a : Act} {w : World} {Q : Exit → Act → World → Prop} (hg : o.guard = none) (x : Operand) (ho : o.op = .buildSlice 86 1 #[(0, x)])
    (num : Nat) (hx : a.eval x = sv (mark32 num))
    (h : wpList Tryz.prog ops Q rest (a.put o.dst (.slice (some ⟨w.heap.size, 0, none⟩) 1 1)) (w.alloc (.cells (bvs (mark32 num)).toArray 90))) : wpList Tryz.prog ops Q (o :: rest) a w := by
  obtain ⟨i0, hi, hz0, hz1, hz2⟩ := info_parts infoSum
  refine wpList_buildSlice hg 86 90 1 #[(0, x)] ho (bvs (mark32 num)).toArray i0 _ Tryz.underlying86 hi hz0 (by rw [hz1]; decide) (by rw [hz1]; decide) ?_ h
  rw [hz1]
  have e : (#[(0, x)].map fun (i, x) => (i, a.eval x)).toList = [(0, sv (mark32 num))] := by simp [hx]
  rw [e]
  exact fill_mark num

/-- One list, before and behind: it has its marks; when done, so has the longer one. -/
structure GrowAtS (w wr : World) (base : Nat) (h h' : Held) (done : Prop) : Prop where
  v : h'.v = h.v
  num : h'.num = h.num
  len : h'.len = h.len
  row : wr.ownsRow base 90 32 h.v h.len (marks h.len h.num)
  long : done → h'.len2 = h.len + 40 ∧ wr.ownsRow base 90 32 h'.long (h.len + 40) (marks (h.len + 40) h.num) ∧ (h'.long.ownBlock = h.v.ownBlock ∨ ∀ b, h'.long.ownBlock = some b → w.heap.size ≤ b)

def GrownToS (w wr : World) (base : Nat) (hs hs' : List Held) (j : Nat) : Prop :=
  hs'.length = hs.length ∧ ∀ (i : Nat) (h : Held), hs[i]? = some h → ∃ h', hs'[i]? = some h' ∧ GrowAtS w wr base h h' (i < j)

theorem GrownToS.step {w wo wf : World} {base : Nat} {hs hs' : List Held} {j : Nat} {h h' : Held} (hg : GrownToS w wo base hs hs' j) (hlist : ListsS w base hs) (hh : hs[j]? = some h) (hh' : hs'[j]? = some h') (A3 : Option Addr) (c3 : Nat)
    (hkeep : ∀ v n xs, wo.ownsRow base 90 32 v n xs → (∀ b, v.ownBlock = some b → h.v.ownBlock ≠ some b) → wf.ownsRow base 90 32 v n xs)
    (r1 : wf.ownsRow base 90 32 (.slice A3 (h.len + 40) c3) (h.len + 40) (marks (h.len + 40) h.num)) (r2 : wf.ownsRow base 90 32 h.v h.len (marks h.len h.num))
    (r3 : (Value.slice A3 (h.len + 40) c3).ownBlock = h.v.ownBlock ∨ ∀ b, (Value.slice A3 (h.len + 40) c3).ownBlock = some b → w.heap.size ≤ b) : GrownToS w wf base hs (hs'.set j (h'.lay A3 (h.len + 40) c3)) (j + 1) := by
  have hjl : j < hs'.length := (List.getElem?_eq_some_iff.1 hh').1
  refine ⟨by rw [List.length_set]; exact hg.1, fun i k hk => ?_⟩
  obtain ⟨k', hk', G⟩ := hg.2 i k hk
  by_cases e : i = j
  · subst e
    rw [hh] at hk
    cases hk
    rw [hh'] at hk'
    cases hk'
    exact ⟨h'.lay A3 (h.len + 40) c3, by rw [List.getElem?_set_self hjl], G.v, G.num, G.len, r2, fun _ => ⟨rfl, r1, r3⟩⟩
  · have hap : ∀ b, k.v.ownBlock = some b → h.v.ownBlock ≠ some b := by
      intro b hb hb'
      rcases hlist.apart i j k h hk hh e with h0 | h0
      · rw [h0] at hb; cases hb
      · exact h0 (hb.trans hb'.symm)
    refine ⟨k', by rw [List.getElem?_set_ne (Ne.symm e)]; exact hk', G.v, G.num, G.len, hkeep _ _ _ G.row hap, fun hlt => ?_⟩
    obtain ⟨l1, l2, l3⟩ := G.long (by omega)
    refine ⟨l1, hkeep _ _ _ l2 (fun b hb hb' => ?_), l3⟩
    rcases l3 with l3 | l3
    · exact hap b (l3.symm.trans hb) hb'
    · obtain ⟨xs, hx⟩ := hlist.own j h hh
      have h1 := (hx.lt _ hb').2
      have h2 := l3 b hb
      omega

set_option maxRecDepth 100000 in
set_option maxHeartbeats 2000000 in
theorem growSum_any (kb N base K : Nat) (bs ss : Value) (hs : List Held) (w : World) (hbk : BookAt w kb N bs ss) (hown : w.ownsRow base 88 3 ss K (heldCells hs)) (hlist : ListsS w base hs) (hfill : FilledS w base hs K)
    (hK : K ≤ 1000000) (hlen : ∀ (i : Nat) (h : Held), hs[i]? = some h → h.len ≤ 1000000000) (hbase : base ≤ w.heap.size) :
    Calls Tryz.prog 37 #[.pointer (some ⟨kb, 0, none⟩)] w fun e w' => e = .returned (.tuple #[]) ∧
      ∃ hs', w'.ownsRow base 88 3 ss K (heldCells hs') ∧ GrownToS w w' base hs hs' K ∧ But (fun b => inLists hs b ∨ ss.ownBlock = some b) w w' := by
  have hKl : hs.length = K := by have := hown.1; rw [heldCells_length] at this; omega
  have HKl := Lib.hid hKl
  clear hKl
  obtain ⟨Ab, cb, rfl⟩ := own_form3 hown
  have h1 := hbk.s
  have start : GrownToS w w base hs hs 0 := ⟨rfl, fun i h hi => ⟨h, hi, rfl, rfl, rfl, by
    obtain ⟨xs, r1, r2⟩ := hfill i h hi
    rw [← r2 (by have := (List.getElem?_eq_some_iff.1 hi).1; rw [HKl.out] at this; exact this)]
    exact r1, fun e => by omega⟩⟩
  have HS := Lib.hid start
  clear start hfill
  go_enter Tryz.func37, Tryz.ntmps37
  go_wp2
  go_loopw [2] (fun i wr => ∃ (j : Nat) (hs' : List Held), j ≤ K ∧ i = .int .i64 (j : Int) ∧ wr.ownsRow base 88 3 (.slice Ab K cb) K (heldCells hs') ∧ GrownToS w wr base hs hs' j ∧ But (fun b => inLists hs b ∨ (Value.slice Ab K cb).ownBlock = some b) w wr) (fun i _ => K - (intOf i).toNat)
  case atStart => exact ⟨0, hs, Nat.zero_le _, rfl, hown, HS.out, But.refl _ _⟩
  case round =>
    obtain ⟨j, hs', hj, rfl, hown2, hgr, hbut⟩ := hrel
    obtain ⟨wo, rfl⟩ : ∃ wo : World, wo = wr := ⟨_, rfl⟩
    have nokb : ¬ (inLists hs kb ∨ (Value.slice Ab K cb).ownBlock = some kb) := by
      rintro (⟨i, h, hi, he⟩ | he)
      · obtain ⟨xs, hx⟩ := hlist.own i h hi
        exact hbk.other (by decide) hx he
      · exact hbk.other (by decide) hown he
    have hbk2 := hbk.but hbut nokb
    have h2 := hbk2.s
    have HG := Lib.hid hgr
    clear hgr
    by_cases hlt : j < K
    · obtain ⟨h0, hh0⟩ : ∃ h, hs[j]? = some h := ⟨_, List.getElem?_eq_getElem (by rw [HKl.out]; exact hlt)⟩
      obtain ⟨h, hh, G⟩ := HG.out.2 j h0 hh0
      obtain ⟨g1, g2, g3⟩ := heldCells_get hh
      rcases hown2.2 with ⟨e, h0⟩ | ⟨gb, cap, cur, e, hbb, hgb, hle, hm, hsz, htk⟩
      · omega
      · cases e
        have p1 : wo.cell? ⟨gb, j * 3, none⟩ = some h.v := by
          have := hown2.cells (g := gb) rfl _ _ g1
          rwa [Addr.add_lit, Nat.zero_add] at this
        have p2 : wo.cell? ⟨gb, j * 3 + 1, none⟩ = some h.long := by
          have := hown2.cells (g := gb) rfl _ _ g2
          rwa [Addr.add_lit, Nat.zero_add] at this
        have p3 : wo.cell? ⟨gb, j * 3 + 2, none⟩ = some (.int .i64 (h.num : Int)) := by
          have := hown2.cells (g := gb) rfl _ _ g3
          rwa [Addr.add_lit, Nat.zero_add] at this
        have i1 : (j : Int) < (K : Int) := by omega
        have hx0 := G.row
        rw [← G.v, ← G.num, ← G.len] at hx0
        have hl0 := hlen j h0 hh0
        rw [← G.len] at hl0
        have hlow : ∀ b, h.v.ownBlock = some b → b < w.heap.size := by
          intro b hb
          rw [G.v] at hb
          obtain ⟨xs, hx⟩ := hlist.own j h0 hh0
          exact (hx.lt _ hb).2
        have HL := Lib.hid hlow
        clear hlow
        have hsz0 := hbut.size
        have hnext : ∀ wi A3 c3, But (fun b => h.v.ownBlock = some b) wo wi → wi.ownsRow base 90 32 (.slice A3 (h.len + 40) c3) (h.len + 40) (marks (h.len + 40) h.num) → wi.ownsRow base 90 32 h.v h.len (marks h.len h.num) →
            ((Value.slice A3 (h.len + 40) c3).ownBlock = h.v.ownBlock ∨ ∀ b, (Value.slice A3 (h.len + 40) c3).ownBlock = some b → w.heap.size ≤ b) →
            ∃ hs2, (wi.setCell ⟨gb, j * 3 + 1, none⟩ (.slice A3 (h.len + 40) c3)).ownsRow base 88 3 (.slice (some ⟨gb, 0, none⟩) K cb) K (heldCells hs2) ∧
              GrownToS w (wi.setCell ⟨gb, j * 3 + 1, none⟩ (.slice A3 (h.len + 40) c3)) base hs hs2 (j + 1) ∧ But (fun b => inLists hs b ∨ (Value.slice (some ⟨gb, 0, none⟩) K cb).ownBlock = some b) w (wi.setCell ⟨gb, j * 3 + 1, none⟩ (.slice A3 (h.len + 40) c3)) := by
          intro wi A3 c3 hbi r1 r2 r3
          have howni : wi.ownsRow base 88 3 (.slice (some ⟨gb, 0, none⟩) K cb) K (heldCells hs') := own_kept_but hown2 hbi (by
            intro b hb hb'
            rcases rows_ne (by decide) hx0 hown2 with e0 | e0
            · rw [e0] at hb'; cases hb'
            · exact e0 (hb'.trans hb.symm))
          have off : ∀ v n xs, wi.ownsRow base 90 32 v n xs → (wi.setCell ⟨gb, j * 3 + 1, none⟩ (.slice A3 (h.len + 40) c3)).ownsRow base 90 32 v n xs := by
            intro v n xs hv
            refine hv.kept (grown_set wi gb _ _) ?_
            rcases rows_ne (by decide) hv howni with e0 | e0
            · left; exact e0
            · right; exact e0
          refine ⟨hs'.set j (h.lay A3 (h0.len + 40) c3), ?_, ?_, ?_⟩
          · have := own_setAt (k := j * 3 + 1) (.slice A3 (h.len + 40) c3) howni
            rw [heldCells_set hh, G.len] at this
            rw [G.len]
            exact this
          · rw [G.len, G.num] at r1
            rw [G.v, G.len, G.num] at r2
            rw [G.len, G.v] at r3
            rw [G.len] at off ⊢
            refine HG.out.step hlist hh0 hh A3 c3 (fun v n xs hv hne => off _ _ _ (own_kept_but hv hbi (fun b hb hb' => ?_))) (off _ _ _ r1) (off _ _ _ r2) r3
            rw [G.v] at hb'
            exact hne b hb hb'
          · refine (hbut.trans (hbi.mono (fun b _ hb => .inl ⟨j, h0, hh0, ?_⟩))).set _ _ (fun _ => .inr rfl)
            rw [← G.v]
            exact hb
        have HN := Lib.hid hnext
        clear hnext G g1 g2 g3 hh hh0
        obtain ⟨A, n, c, A2, n2, c2, num⟩ := h
        simp only [Held.v, Held.long] at p1 p2 p3 hx0 hl0
        go_wp2
        have hx1 := hx0.alloc (.cells #[.slice A n c, .slice A2 n2 c2, .int .i64 (num : Int)] 88)
        have hlt0 := hx0.lt
        obtain ⟨wa, hwa⟩ : ∃ wa, wo.alloc (.cells #[.slice A n c, .slice A2 n2 c2, .int .i64 (num : Int)] 88) = wa := ⟨_, rfl⟩
        have hba : But (fun b => (Value.slice A n c).ownBlock = some b) wo wa := by rw [← hwa]; exact (But.refl _ _).alloc _
        have hha : wa.heap[wo.heap.size]? = some (.cells #[.slice A n c, .slice A2 n2 c2, .int .i64 (num : Int)] 88 (0, 0)) := by rw [← hwa]; exact World.alloc_heap_new wo _
        rw [hwa] at hx1 ⊢
        have HH := Lib.hid hha
        clear hwa hha
        have q0 : wa.cell? ⟨wo.heap.size, 0, none⟩ = some (.slice A n c) := by rw [cell_of_row _ _ 0 _ _ (0, 0) HH.out]; rfl
        have hsza := hba.size
        have hwa' : ∀ b, (Value.slice A n c).ownBlock = some b → b < wa.heap.size := fun b hb => by have := (hlt0 b hb).2; omega
        go_wp2
        go_loopw [4, 5] (fun L i wi => ∃ (k : Nat) (A3 : Option Addr) (c3 : Nat), k ≤ 40 ∧ i = .int .i64 (k : Int) ∧ L = .slice A3 (n + k) c3 ∧ LongerS base A n c num k wa wi A3 c3) (fun _ i _ => 40 - (intOf i).toNat)
        case atStart => exact ⟨0, A, c, Nat.zero_le _, rfl, rfl, hx1, hx1, But.refl _ _, .inl ⟨rfl, rfl⟩⟩
        case round =>
          obtain ⟨k, A3, c3, hk, rfl, rfl, hlg⟩ := hrel
          have hbi := hlg.2.2.1
          have hhi : wr.heap[wo.heap.size]? = some (.cells #[.slice A n c, .slice A2 n2 c2, .int .i64 (num : Int)] 88 (0, 0)) :=
            (hbi.block _ (Array.getElem?_eq_some_iff.1 HH.out).1 (fun e => by have := (hlt0 _ e).2; omega)).trans HH.out
          have q2 : wr.cell? ⟨wo.heap.size, 2, none⟩ = some (.int .i64 (num : Int)) := by rw [cell_of_row _ _ 2 _ _ (0, 0) hhi]; rfl
          clear hhi
          by_cases hlt2 : k < 40
          · have i2 : (k : Int) < 40 := by omega
            have CM := Lib.hid (markSum_any num wr)
            have HG2 := Lib.hid hlg
            clear hlg hbi
            go_wp2_with fail
            refine CM.out.mono ?_
            rintro e w3 ⟨rfl, hbm⟩
            have HG3 := Lib.hid (HG2.out.below (below_on hbm (Nat.le_refl _) (below_alloc w3 (.cells (bvs (mark32 num)).toArray 90))))
            clear CM hbm
            go_wp2_with (first
              | (with_reducible refine wpList_build_mark rfl (.tmp 31) rfl num rfl ?_)
              | (at_builtin; refine wpList_longerS _ rfl (.tmp 28) (.tmp 32) rfl base A n c num k wa A3 c3 rfl HG3.out hwa' (by omega) (by omega) ⟨w3.heap.size, 0, none⟩ rfl (BArr.new w3 90 (mark32 num)).at_ ?_; intro A4 c4 w4 hl4))
            go_roundw
            case rel => exact ⟨k + 1, A4, c4, by omega, by go_num, rfl, hl4⟩
            case measure => simp [intOf]; omega
          · obtain rfl : k = 40 := by omega
            have hb2 := hba.trans hbi
            obtain ⟨hs2, n1, n2', n3⟩ := HN.out wr A3 c3 hb2 hlg.1 hlg.2.1 (by
              rcases hlg.2.2.2 with ⟨e2, _⟩ | ⟨g2, e2, hg2⟩
              · left; rw [e2]; cases A <;> rfl
              · right
                intro b hb
                rw [e2] at hb
                obtain rfl : g2 = b := by simpa [Value.ownBlock] using hb
                omega)
            have hbk3 := hbk2.but hb2 (fun e => hbk2.other (by decide) hx0 e)
            have h3 := hbk3.s
            have hgb3 := (hb2.block gb (Array.getElem?_eq_some_iff.1 hgb).1 (fun e => by
              rcases rows_ne (by decide) hx0 hown2 with e0 | e0
              · rw [e0] at e; cases e
              · exact e0 e)).trans hgb
            obtain ⟨u, hu3⟩ : ∃ u, wr.cell? ⟨gb, j * 3 + 1, none⟩ = some u := ⟨cur[j * 3 + 1]'(by omega), by rw [cell_of_row _ gb _ _ _ (0, 0) hgb3]; exact Array.getElem?_eq_getElem (by omega)⟩
            have hf3 : wr.frozen? ⟨gb, j * 3 + 1, none⟩ = false := frozen_of_row _ gb _ _ _ hgb3
            clear hgb3 hgb htk
            have HN1 := Lib.hid n1
            have HN2 := Lib.hid n2'
            have HN3 := Lib.hid n3
            clear n1 n2' n3 HN
            go_wp2
            go_roundw
            case rel => exact ⟨j + 1, hs2, by omega, by go_num, HN1.out, HN2.out, HN3.out⟩
            case measure => simp [intOf]; omega
    · obtain rfl : j = K := by omega
      go_wp2
      go_end0
      exact ⟨rfl, hs', hown2, HG.out, hbut⟩

end Go.Proofs.YtfniddnfkciblaaGreatDoor

/-
  The Book of the statements: lookByte.
-/
namespace Go.Proofs.YtfniddnfkciblaaGreatDoor
open Go.RowKit

/-- A callee that leaves the world alone, met in a region that only reads. -/
theorem quiet_first {P : Program} {f : FuncId} {args : Array Value} {w : World} {n : Nat} {v : Value} (h : Calls P f args (w.drewN n) fun e w' => e = .returned v ∧ w' = w.drewN n) :
    Calls P f args (w.drewN n) fun e w'' => e = .returned v ∧ ∃ m, w'' = w.drewN m := h.mono fun _ _ ⟨he, hm⟩ => ⟨he, n, hm⟩

theorem But.drewN {S : Nat → Prop} {a w : World} (h : But S a w) (n : Nat) : But S a (w.drewN n) := ⟨h.os, h.tape, h.output, h.size, h.block⟩

set_option maxRecDepth 100000 in
set_option maxHeartbeats 400000 in
theorem isByte_any (num : Nat) (w : World) : Calls Tryz.prog 68 #[mk num, .int .i64 (num : Int)] w fun e w' => e = .returned (.bool true) ∧ w' = w := by
  unfold mk
  go_enter Tryz.func68, Tryz.ntmps68
  go_wp2
  go_ret
  exact ⟨rfl, rfl⟩

theorem own_mark {w : World} {base n m c k : Nat} {A : Option Addr} {u : Value} (h : w.ownsRow base 5 1 (.slice A m c) n (List.replicate n u)) (hk : k < n) : ∃ g, A = some ⟨g, 0, none⟩ ∧ w.cell? ⟨g, k, none⟩ = some u := by
  rcases h.2 with ⟨e, h0⟩ | ⟨g, cap, cur, e, _⟩
  · omega
  · cases e
    refine ⟨g, rfl, ?_⟩
    have := h.cells (g := g) rfl k u (by rw [List.getElem?_replicate, if_pos hk])
    rwa [Addr.add_lit, Nat.zero_add] at this

/-- Each list that is kept, and the longer one, has its marks. -/
def Marked (w : World) (base : Nat) (hs : List Held) : Prop := ∀ (i : Nat) (h : Held), hs[i]? = some h →
  h.len2 = h.len + 40 ∧ w.ownsRow base 5 1 h.v h.len (List.replicate h.len (mk h.num)) ∧ w.ownsRow base 5 1 h.long (h.len + 40) (List.replicate (h.len + 40) (mk h.num)) ∧ h.len ≤ 1000000000

set_option maxRecDepth 100000 in
set_option maxHeartbeats 2000000 in
theorem lookByte_any (kb N base K : Nat) (bs ss : Value) (hs : List Held) (w : World) (hbk : BookAt w kb N bs ss) (hown : w.ownsRow base 73 3 bs K (heldCells hs)) (hmark : Marked w base hs) (hK : K ≤ 1000000) :
    Calls Tryz.prog 42 #[.pointer (some ⟨kb, 0, none⟩)] w fun e w' => e = .returned (.bool true) ∧ But (fun _ => False) w w' := by
  have hKl : hs.length = K := by have := hown.1; rw [heldCells_length] at this; omega
  have HKl := Lib.hid hKl
  have HM := Lib.hid hmark
  clear hKl hmark
  obtain ⟨Ab, cb, rfl⟩ := own_form3 hown
  have h1 := hbk.b
  go_enter Tryz.func42, Tryz.ntmps42
  go_wp2
  go_loopw [3] (fun i wr => ∃ j : Nat, j ≤ K ∧ i = .int .i64 (j : Int) ∧ But (fun _ => False) w wr) (fun i _ => K - (intOf i).toNat)
  case atStart => exact ⟨0, Nat.zero_le _, rfl, But.refl _ _⟩
  case round =>
    obtain ⟨j, hj, rfl, hbut⟩ := hrel
    obtain ⟨wo, rfl⟩ : ∃ wo : World, wo = wr := ⟨_, rfl⟩
    have hbk2 := hbk.but hbut (fun e => e)
    have hown2 := own_kept_but hown hbut (fun _ _ e => e)
    have h2 := hbk2.b
    by_cases hlt : j < K
    · obtain ⟨h, hh⟩ : ∃ h, hs[j]? = some h := ⟨_, List.getElem?_eq_getElem (by rw [HKl.out]; exact hlt)⟩
      obtain ⟨g1, g2, g3⟩ := heldCells_get hh
      obtain ⟨m1, m2, m3, m4⟩ := HM.out j h hh
      rcases hown2.2 with ⟨e, h0⟩ | ⟨gb, cap, cur, e, hbb, hgb, hle, hm, hsz, htk⟩
      · omega
      · cases e
        have p1 : wo.cell? ⟨gb, j * 3, none⟩ = some h.v := by
          have := hown2.cells (g := gb) rfl _ _ g1
          rwa [Addr.add_lit, Nat.zero_add] at this
        have p2 : wo.cell? ⟨gb, j * 3 + 1, none⟩ = some h.long := by
          have := hown2.cells (g := gb) rfl _ _ g2
          rwa [Addr.add_lit, Nat.zero_add] at this
        have p3 : wo.cell? ⟨gb, j * 3 + 2, none⟩ = some (.int .i64 (h.num : Int)) := by
          have := hown2.cells (g := gb) rfl _ _ g3
          rwa [Addr.add_lit, Nat.zero_add] at this
        have i1 : (j : Int) < (K : Int) := by omega
        have hx0 := own_kept_but m2 hbut (fun _ _ e => e)
        have hy0 := own_kept_but m3 hbut (fun _ _ e => e)
        clear m2 m3 g1 g2 g3 hh
        obtain ⟨A, n, c, A2, n2, c2, num⟩ := h
        simp only [Held.v, Held.long] at p1 p2 p3 hx0 hy0 m1 m4
        subst m1
        go_wp2
        obtain ⟨wa, hwa⟩ : ∃ wa, wo.alloc (.cells #[.slice A n c, .slice A2 (n + 40) c2, .int .i64 (num : Int)] 73) = wa := ⟨_, rfl⟩
        have hba : But (fun _ => False) wo wa := by rw [← hwa]; exact (But.refl _ _).alloc _
        have hha : wa.heap[wo.heap.size]? = some (.cells #[.slice A n c, .slice A2 (n + 40) c2, .int .i64 (num : Int)] 73 (0, 0)) := by rw [← hwa]; exact World.alloc_heap_new wo _
        rw [hwa]
        have hx1 := own_kept_but hx0 hba (fun _ _ e => e)
        have hy1 := own_kept_but hy0 hba (fun _ _ e => e)
        have HH := Lib.hid hha
        clear hwa hha
        have q0 : wa.cell? ⟨wo.heap.size, 0, none⟩ = some (.slice A n c) := by rw [cell_of_row _ _ 0 _ _ (0, 0) HH.out]; rfl
        have q1 : wa.cell? ⟨wo.heap.size, 1, none⟩ = some (.slice A2 (n + 40) c2) := by rw [cell_of_row _ _ 1 _ _ (0, 0) HH.out]; rfl
        have i3 : IntKind.i64.wrap ((n : Int) + 40) = (n : Int) + 40 := by rw [IntKind.wrap_i64]; omega
        go_wp2
        go_loopw [5] (fun i wi => ∃ k : Nat, k ≤ n + 40 ∧ i = .int .i64 (k : Int) ∧ But (fun _ => False) wa wi) (fun i _ => n + 40 - (intOf i).toNat)
        case atStart => exact ⟨0, Nat.zero_le _, rfl, But.refl _ _⟩
        case round =>
          obtain ⟨k, hk, rfl, hbi⟩ := hrel
          have hhi : wr.heap[wo.heap.size]? = some (.cells #[.slice A n c, .slice A2 (n + 40) c2, .int .i64 (num : Int)] 73 (0, 0)) :=
            (hbi.block _ (Array.getElem?_eq_some_iff.1 HH.out).1 (fun e => e)).trans HH.out
          have r0 : wr.cell? ⟨wo.heap.size, 0, none⟩ = some (.slice A n c) := by rw [cell_of_row _ _ 0 _ _ (0, 0) hhi]; rfl
          have r1 : wr.cell? ⟨wo.heap.size, 1, none⟩ = some (.slice A2 (n + 40) c2) := by rw [cell_of_row _ _ 1 _ _ (0, 0) hhi]; rfl
          have r2 : wr.cell? ⟨wo.heap.size, 2, none⟩ = some (.int .i64 (num : Int)) := by rw [cell_of_row _ _ 2 _ _ (0, 0) hhi]; rfl
          clear hhi
          have hx2 := own_kept_but hx1 hbi (fun _ _ e => e)
          have hy2 := own_kept_but hy1 hbi (fun _ _ e => e)
          by_cases hlt2 : k < n + 40
          · obtain ⟨gl, rfl, cl⟩ := own_mark hy2 hlt2
            have i2 : (k : Int) < ((n + 40 : Nat) : Int) := by omega
            have C1 := Lib.hid (fun W => isByte_any num W)
            by_cases hin : k < n
            · obtain ⟨gv, rfl, cv⟩ := own_mark hx2 hin
              have i4 : (k : Int) < (n : Int) := by omega
              have i5 : decide ((k : Int) < (n : Int)) = true := by simpa using i4
              go_wp2
              go_quiet ((go_at_call 68; exact quiet_first (C1.out _)))
              go_wp2
              go_roundw
              case rel => exact ⟨k + 1, by omega, by go_num, hbi.drewN _⟩
              case measure => simp [intOf]; omega
            · have i4 : ¬ (k : Int) < (n : Int) := by omega
              have i5 : decide ((k : Int) < (n : Int)) = false := by simpa using i4
              go_wp2
              go_quiet ((go_at_call 68; exact quiet_first (C1.out _)))
              go_wp2
              go_roundw
              case rel => exact ⟨k + 1, by omega, by go_num, hbi.drewN _⟩
              case measure => simp [intOf]; omega
          · obtain rfl : k = n + 40 := by omega
            go_wp2
            go_roundw
            case rel => exact ⟨j + 1, by omega, by go_num, hbut.trans (hba.trans hbi)⟩
            case measure => simp [intOf]; omega
    · obtain rfl : j = K := by omega
      go_wp2
      go_ret
      exact ⟨rfl, hbut⟩

end Go.Proofs.YtfniddnfkciblaaGreatDoor

/-
  The Book of the statements: lookSum.
-/
namespace Go.Proofs.YtfniddnfkciblaaGreatDoor
open Go.RowKit

theorem own_markS {w : World} {base n m c k num : Nat} {A : Option Addr} (h : w.ownsRow base 90 32 (.slice A m c) n (marks n num)) (hk : k < n) : ∃ g, A = some ⟨g, 0, none⟩ ∧ At w ⟨g, k * 32, none⟩ (mark32 num) := by
  rcases h.2 with ⟨e, h0⟩ | ⟨g, cap, cur, e, _⟩
  · omega
  · cases e
    refine ⟨g, rfl, fun j x hx => ?_⟩
    have := h.cells (g := g) rfl _ _ (marks_at n num k hk j x hx)
    rw [Addr.add_lit, Nat.zero_add] at this
    rw [Addr.add_mid]
    exact this

/-- Each list that is kept, and the longer one, has its marks. -/
def MarkedS (w : World) (base : Nat) (hs : List Held) : Prop := ∀ (i : Nat) (h : Held), hs[i]? = some h →
  h.len2 = h.len + 40 ∧ w.ownsRow base 90 32 h.v h.len (marks h.len h.num) ∧ w.ownsRow base 90 32 h.long (h.len + 40) (marks (h.len + 40) h.num) ∧ h.len ≤ 1000000000

set_option maxRecDepth 100000 in
set_option maxHeartbeats 8000000 in
theorem lookSum_any (kb N base K : Nat) (bs ss : Value) (hs : List Held) (w : World) (hbk : BookAt w kb N bs ss) (hown : w.ownsRow base 88 3 ss K (heldCells hs)) (hmark : MarkedS w base hs) (hK : K ≤ 1000000) :
    Calls Tryz.prog 46 #[.pointer (some ⟨kb, 0, none⟩)] w fun e w' => e = .returned (.bool true) ∧ But (fun _ => False) w w' := by
  have hKl : hs.length = K := by have := hown.1; rw [heldCells_length] at this; omega
  have HKl := Lib.hid hKl
  have HM := Lib.hid hmark
  clear hKl hmark
  obtain ⟨Ab, cb, rfl⟩ := own_form3 hown
  have h1 := hbk.s
  go_enter Tryz.func46, Tryz.ntmps46
  go_wp2
  go_loopw [3] (fun i wr => ∃ j : Nat, j ≤ K ∧ i = .int .i64 (j : Int) ∧ But (fun _ => False) w wr) (fun i _ => K - (intOf i).toNat)
  case atStart => exact ⟨0, Nat.zero_le _, rfl, But.refl _ _⟩
  case round =>
    obtain ⟨j, hj, rfl, hbut⟩ := hrel
    obtain ⟨wo, rfl⟩ : ∃ wo : World, wo = wr := ⟨_, rfl⟩
    have hbk2 := hbk.but hbut (fun e => e)
    have hown2 := own_kept_but hown hbut (fun _ _ e => e)
    have h2 := hbk2.s
    by_cases hlt : j < K
    · obtain ⟨h, hh⟩ : ∃ h, hs[j]? = some h := ⟨_, List.getElem?_eq_getElem (by rw [HKl.out]; exact hlt)⟩
      obtain ⟨g1, g2, g3⟩ := heldCells_get hh
      obtain ⟨m1, m2, m3, m4⟩ := HM.out j h hh
      rcases hown2.2 with ⟨e, h0⟩ | ⟨gb, cap, cur, e, hbb, hgb, hle, hm, hsz, htk⟩
      · omega
      · cases e
        have p1 : wo.cell? ⟨gb, j * 3, none⟩ = some h.v := by
          have := hown2.cells (g := gb) rfl _ _ g1
          rwa [Addr.add_lit, Nat.zero_add] at this
        have p2 : wo.cell? ⟨gb, j * 3 + 1, none⟩ = some h.long := by
          have := hown2.cells (g := gb) rfl _ _ g2
          rwa [Addr.add_lit, Nat.zero_add] at this
        have p3 : wo.cell? ⟨gb, j * 3 + 2, none⟩ = some (.int .i64 (h.num : Int)) := by
          have := hown2.cells (g := gb) rfl _ _ g3
          rwa [Addr.add_lit, Nat.zero_add] at this
        have i1 : (j : Int) < (K : Int) := by omega
        have hx0 := own_kept_but m2 hbut (fun _ _ e => e)
        have hy0 := own_kept_but m3 hbut (fun _ _ e => e)
        clear m2 m3 g1 g2 g3 hh
        obtain ⟨A, n, c, A2, n2, c2, num⟩ := h
        simp only [Held.v, Held.long] at p1 p2 p3 hx0 hy0 m1 m4
        subst m1
        go_wp2
        obtain ⟨wa, hwa⟩ : ∃ wa, wo.alloc (.cells #[.slice A n c, .slice A2 (n + 40) c2, .int .i64 (num : Int)] 88) = wa := ⟨_, rfl⟩
        have hba : But (fun _ => False) wo wa := by rw [← hwa]; exact (But.refl _ _).alloc _
        have hha : wa.heap[wo.heap.size]? = some (.cells #[.slice A n c, .slice A2 (n + 40) c2, .int .i64 (num : Int)] 88 (0, 0)) := by rw [← hwa]; exact World.alloc_heap_new wo _
        rw [hwa]
        have hx1 := own_kept_but hx0 hba (fun _ _ e => e)
        have hy1 := own_kept_but hy0 hba (fun _ _ e => e)
        have HH := Lib.hid hha
        clear hwa hha
        have q0 : wa.cell? ⟨wo.heap.size, 0, none⟩ = some (.slice A n c) := by rw [cell_of_row _ _ 0 _ _ (0, 0) HH.out]; rfl
        have q1 : wa.cell? ⟨wo.heap.size, 1, none⟩ = some (.slice A2 (n + 40) c2) := by rw [cell_of_row _ _ 1 _ _ (0, 0) HH.out]; rfl
        have i3 : IntKind.i64.wrap ((n : Int) + 40) = (n : Int) + 40 := by rw [IntKind.wrap_i64]; omega
        go_wp2
        go_loopw [5] (fun i wi => ∃ k : Nat, k ≤ n + 40 ∧ i = .int .i64 (k : Int) ∧ But (fun _ => False) wa wi) (fun i _ => n + 40 - (intOf i).toNat)
        case atStart => exact ⟨0, Nat.zero_le _, rfl, But.refl _ _⟩
        case round =>
          obtain ⟨k, hk, rfl, hbi⟩ := hrel
          have hhi : wr.heap[wo.heap.size]? = some (.cells #[.slice A n c, .slice A2 (n + 40) c2, .int .i64 (num : Int)] 88 (0, 0)) :=
            (hbi.block _ (Array.getElem?_eq_some_iff.1 HH.out).1 (fun e => e)).trans HH.out
          have r0 : wr.cell? ⟨wo.heap.size, 0, none⟩ = some (.slice A n c) := by rw [cell_of_row _ _ 0 _ _ (0, 0) hhi]; rfl
          have r1 : wr.cell? ⟨wo.heap.size, 1, none⟩ = some (.slice A2 (n + 40) c2) := by rw [cell_of_row _ _ 1 _ _ (0, 0) hhi]; rfl
          have r2 : wr.cell? ⟨wo.heap.size, 2, none⟩ = some (.int .i64 (num : Int)) := by rw [cell_of_row _ _ 2 _ _ (0, 0) hhi]; rfl
          clear hhi
          have hx2 := own_kept_but hx1 hbi (fun _ _ e => e)
          have hy2 := own_kept_but hy1 hbi (fun _ _ e => e)
          by_cases hlt2 : k < n + 40
          · obtain ⟨gl, rfl, cl⟩ := own_markS hy2 hlt2
            have i2 : (k : Int) < ((n + 40 : Nat) : Int) := by omega
            have CS := Lib.hid (fun (W : World) (_ : Below wr.heap.size wr W) => isSum_any num (mark32 num) rfl W)
            have HB := Lib.hid hbi
            by_cases hin : k < n
            · obtain ⟨gv, rfl, cv⟩ := own_markS hx2 hin
              have i4 : (k : Int) < (n : Int) := by omega
              have HQ := Lib.hid (And.intro r0 (And.intro r1 r2))
              have HA := Lib.hid (And.intro cl cv)
              clear cl cv hbi
              go_wp2
              refine wp_region_quiet (C := fun w' => Below wr.heap.size wr w') (by kernel_rfl) (by kernel_rfl) ((Below.refl _ _).drew) ?_
              with_reducible refine wpQuiet_step (fun K hK => ?_)
              go_simp
              with_reducible refine ⟨_, fun _ _ => rfl, hK _ ?_⟩
              clear hK K
              refine wpQuiet_step (fun K hK => ?_)
              refine quiet_load_cell (by rfl) 86 agg_sums (.tmp 37) rfl ⟨wo.heap.size, 1, none⟩ rfl (.slice (some ⟨gl, 0, none⟩) (n + 40) c2) (fun W hC => (hC.cell (World.block_lt_of_cell? wr _ HQ.out.2.1)).trans HQ.out.2.1) (hK _ ?_)
              clear hK K
              with_reducible refine wpQuiet_step (fun K hK => ?_)
              go_simp
              with_reducible refine ⟨_, fun _ _ => rfl, hK _ ?_⟩
              clear hK K
              with_reducible refine wpQuiet_step (fun K hK => ?_)
              go_simp
              with_reducible refine ⟨_, fun _ _ => rfl, hK _ ?_⟩
              clear hK K
              refine wpQuiet_step (fun K hK => ?_)
              refine quiet_load_sum' (by rfl) (.tmp 40) rfl ⟨gl, k * 32, none⟩ rfl (mark32 num) (mark32_length num) (fun W hC => HA.out.1.below hC) (hK _ ?_)
              clear hK K
              with_reducible refine wpQuiet_step (fun K hK => ?_)
              go_simp
              with_reducible refine ⟨_, fun _ _ => rfl, hK _ ?_⟩
              clear hK K
              refine wpQuiet_step (fun K hK => ?_)
              refine quiet_load_cell (by rfl) 3 agg_int (.tmp 42) rfl ⟨wo.heap.size, 2, none⟩ rfl (.int .i64 (num : Int)) (fun W hC => (hC.cell (World.block_lt_of_cell? wr _ HQ.out.2.2)).trans HQ.out.2.2) (hK _ ?_)
              clear hK K
              refine wpQuiet_step (fun K hK => ?_)
              go_simp
              refine ⟨.bool true, fun W hC => (CS.out W hC).mono fun e w'' ⟨he, hb'⟩ => ⟨he, below_on hC (Nat.le_refl _) hb'⟩, hK _ ?_⟩
              clear hK K
              with_reducible refine wpQuiet_step (fun K hK => ?_)
              go_simp
              with_reducible refine ⟨_, fun _ _ => rfl, hK _ ?_⟩
              clear hK K
              with_reducible refine wpQuiet_step (fun K hK => ?_)
              go_simp
              with_reducible refine ⟨_, fun _ _ => rfl, hK _ ?_⟩
              clear hK K
              with_reducible refine wpQuiet_step (fun K hK => ?_)
              go_simp
              with_reducible refine ⟨_, fun _ _ => rfl, hK _ ?_⟩
              clear hK K
              with_reducible refine wpQuiet_step (fun K hK => ?_)
              go_simp
              with_reducible refine ⟨_, fun _ _ => rfl, hK _ ?_⟩
              clear hK K
              refine wpQuiet_step (fun K hK => ?_)
              refine quiet_load_cell (by rfl) 86 agg_sums (.tmp 48) rfl ⟨wo.heap.size, 0, none⟩ rfl (.slice (some ⟨gv, 0, none⟩) n c) (fun W hC => (hC.cell (World.block_lt_of_cell? wr _ HQ.out.1)).trans HQ.out.1) (hK _ ?_)
              clear hK K
              with_reducible refine wpQuiet_step (fun K hK => ?_)
              go_simp
              with_reducible refine ⟨_, fun _ _ => rfl, hK _ ?_⟩
              clear hK K
              with_reducible refine wpQuiet_step (fun K hK => ?_)
              go_simp
              with_reducible refine ⟨_, fun _ _ => rfl, hK _ ?_⟩
              clear hK K
              with_reducible refine wpQuiet_step (fun K hK => ?_)
              go_simp
              with_reducible refine ⟨_, fun _ _ => rfl, hK _ ?_⟩
              clear hK K
              with_reducible refine wpQuiet_step (fun K hK => ?_)
              go_simp
              with_reducible refine ⟨_, fun _ _ => rfl, hK _ ?_⟩
              clear hK K
              refine wpQuiet_step (fun K hK => ?_)
              refine quiet_load_cell (by rfl) 86 agg_sums (.tmp 53) rfl ⟨wo.heap.size, 0, none⟩ rfl (.slice (some ⟨gv, 0, none⟩) n c) (fun W hC => (hC.cell (World.block_lt_of_cell? wr _ HQ.out.1)).trans HQ.out.1) (hK _ ?_)
              clear hK K
              with_reducible refine wpQuiet_step (fun K hK => ?_)
              go_simp
              with_reducible refine ⟨_, fun _ _ => rfl, hK _ ?_⟩
              clear hK K
              with_reducible refine wpQuiet_step (fun K hK => ?_)
              go_simp
              with_reducible refine ⟨_, fun _ _ => rfl, hK _ ?_⟩
              clear hK K
              refine wpQuiet_step (fun K hK => ?_)
              refine quiet_load_sum' (by rfl) (.tmp 56) rfl ⟨gv, k * 32, none⟩ rfl (mark32 num) (mark32_length num) (fun W hC => HA.out.2.below hC) (hK _ ?_)
              clear hK K
              with_reducible refine wpQuiet_step (fun K hK => ?_)
              go_simp
              with_reducible refine ⟨_, fun _ _ => rfl, hK _ ?_⟩
              clear hK K
              refine wpQuiet_step (fun K hK => ?_)
              refine quiet_load_cell (by rfl) 3 agg_int (.tmp 58) rfl ⟨wo.heap.size, 2, none⟩ rfl (.int .i64 (num : Int)) (fun W hC => (hC.cell (World.block_lt_of_cell? wr _ HQ.out.2.2)).trans HQ.out.2.2) (hK _ ?_)
              clear hK K
              refine wpQuiet_step (fun K hK => ?_)
              go_simp
              refine ⟨.bool true, fun W hC => (CS.out W hC).mono fun e w'' ⟨he, hb'⟩ => ⟨he, below_on hC (Nat.le_refl _) hb'⟩, hK _ ?_⟩
              clear hK K
              with_reducible refine wpQuiet_step (fun K hK => ?_)
              go_simp
              with_reducible refine ⟨_, fun _ _ => rfl, hK _ ?_⟩
              clear hK K
              with_reducible refine wpQuiet_step (fun K hK => ?_)
              go_simp
              with_reducible refine ⟨_, fun _ _ => rfl, hK _ ?_⟩
              clear hK K
              with_reducible refine wpQuiet_step (fun K hK => ?_)
              go_simp
              with_reducible refine ⟨_, fun _ _ => rfl, hK _ ?_⟩
              clear hK K
              with_reducible refine wpQuiet_nil ?_
              intro w6 hb6
              go_wp2
              go_roundw
              case rel => exact ⟨k + 1, by omega, by go_num, HB.out.trans (But.of_below hb6)⟩
              case measure => simp [intOf]; omega
            · have i3n : ¬ (k : Int) < (n : Int) := by omega
              have i4 : decide ((k : Int) < (n : Int)) = false := by simpa using i3n
              have HQ := Lib.hid (And.intro r0 (And.intro r1 r2))
              have HA := Lib.hid (And.intro cl True.intro)
              clear cl hbi
              go_wp2
              refine wp_region_quiet (C := fun w' => Below wr.heap.size wr w') (by kernel_rfl) (by kernel_rfl) ((Below.refl _ _).drew) ?_
              with_reducible refine wpQuiet_step (fun K hK => ?_)
              go_simp
              with_reducible refine ⟨_, fun _ _ => rfl, hK _ ?_⟩
              clear hK K
              refine wpQuiet_step (fun K hK => ?_)
              refine quiet_load_cell (by rfl) 86 agg_sums (.tmp 37) rfl ⟨wo.heap.size, 1, none⟩ rfl (.slice (some ⟨gl, 0, none⟩) (n + 40) c2) (fun W hC => (hC.cell (World.block_lt_of_cell? wr _ HQ.out.2.1)).trans HQ.out.2.1) (hK _ ?_)
              clear hK K
              with_reducible refine wpQuiet_step (fun K hK => ?_)
              go_simp
              with_reducible refine ⟨_, fun _ _ => rfl, hK _ ?_⟩
              clear hK K
              with_reducible refine wpQuiet_step (fun K hK => ?_)
              go_simp
              with_reducible refine ⟨_, fun _ _ => rfl, hK _ ?_⟩
              clear hK K
              refine wpQuiet_step (fun K hK => ?_)
              refine quiet_load_sum' (by rfl) (.tmp 40) rfl ⟨gl, k * 32, none⟩ rfl (mark32 num) (mark32_length num) (fun W hC => HA.out.1.below hC) (hK _ ?_)
              clear hK K
              with_reducible refine wpQuiet_step (fun K hK => ?_)
              go_simp
              with_reducible refine ⟨_, fun _ _ => rfl, hK _ ?_⟩
              clear hK K
              refine wpQuiet_step (fun K hK => ?_)
              refine quiet_load_cell (by rfl) 3 agg_int (.tmp 42) rfl ⟨wo.heap.size, 2, none⟩ rfl (.int .i64 (num : Int)) (fun W hC => (hC.cell (World.block_lt_of_cell? wr _ HQ.out.2.2)).trans HQ.out.2.2) (hK _ ?_)
              clear hK K
              refine wpQuiet_step (fun K hK => ?_)
              go_simp
              refine ⟨.bool true, fun W hC => (CS.out W hC).mono fun e w'' ⟨he, hb'⟩ => ⟨he, below_on hC (Nat.le_refl _) hb'⟩, hK _ ?_⟩
              clear hK K
              with_reducible refine wpQuiet_step (fun K hK => ?_)
              go_simp
              with_reducible refine ⟨_, fun _ _ => rfl, hK _ ?_⟩
              clear hK K
              with_reducible refine wpQuiet_step (fun K hK => ?_)
              go_simp
              with_reducible refine ⟨_, fun _ _ => rfl, hK _ ?_⟩
              clear hK K
              with_reducible refine wpQuiet_step (fun K hK => ?_)
              go_simp
              with_reducible refine ⟨_, fun _ _ => rfl, hK _ ?_⟩
              clear hK K
              with_reducible refine wpQuiet_step (fun K hK => ?_)
              go_simp
              with_reducible refine ⟨_, fun _ _ => rfl, hK _ ?_⟩
              clear hK K
              refine wpQuiet_step (fun K hK => ?_)
              refine quiet_load_cell (by rfl) 86 agg_sums (.tmp 48) rfl ⟨wo.heap.size, 0, none⟩ rfl (.slice A n c) (fun W hC => (hC.cell (World.block_lt_of_cell? wr _ HQ.out.1)).trans HQ.out.1) (hK _ ?_)
              clear hK K
              with_reducible refine wpQuiet_step (fun K hK => ?_)
              go_simp
              with_reducible refine ⟨_, fun _ _ => rfl, hK _ ?_⟩
              clear hK K
              with_reducible refine wpQuiet_step (fun K hK => ?_)
              go_simp
              with_reducible refine ⟨_, fun _ _ => rfl, hK _ ?_⟩
              clear hK K
              with_reducible refine wpQuiet_step (fun K hK => ?_)
              go_simp
              with_reducible refine ⟨_, fun _ _ => rfl, hK _ ?_⟩
              clear hK K
              with_reducible refine wpQuiet_step (fun K hK => ?_)
              go_simp
              with_reducible refine hK _ ?_
              clear hK K
              with_reducible refine wpQuiet_step (fun K hK => ?_)
              go_simp
              with_reducible refine hK _ ?_
              clear hK K
              with_reducible refine wpQuiet_step (fun K hK => ?_)
              go_simp
              with_reducible refine hK _ ?_
              clear hK K
              with_reducible refine wpQuiet_step (fun K hK => ?_)
              go_simp
              with_reducible refine hK _ ?_
              clear hK K
              with_reducible refine wpQuiet_step (fun K hK => ?_)
              go_simp
              with_reducible refine hK _ ?_
              clear hK K
              with_reducible refine wpQuiet_step (fun K hK => ?_)
              go_simp
              with_reducible refine hK _ ?_
              clear hK K
              with_reducible refine wpQuiet_step (fun K hK => ?_)
              go_simp
              with_reducible refine hK _ ?_
              clear hK K
              with_reducible refine wpQuiet_step (fun K hK => ?_)
              go_simp
              with_reducible refine hK _ ?_
              clear hK K
              with_reducible refine wpQuiet_step (fun K hK => ?_)
              go_simp
              with_reducible refine hK _ ?_
              clear hK K
              with_reducible refine wpQuiet_step (fun K hK => ?_)
              go_simp
              with_reducible refine ⟨_, fun _ _ => rfl, hK _ ?_⟩
              clear hK K
              with_reducible refine wpQuiet_step (fun K hK => ?_)
              go_simp
              with_reducible refine ⟨_, fun _ _ => rfl, hK _ ?_⟩
              clear hK K
              with_reducible refine wpQuiet_nil ?_
              intro w6 hb6
              go_wp2
              go_roundw
              case rel => exact ⟨k + 1, by omega, by go_num, HB.out.trans (But.of_below hb6)⟩
              case measure => simp [intOf]; omega
          · obtain rfl : k = n + 40 := by omega
            go_wp2
            go_roundw
            case rel => exact ⟨j + 1, by omega, by go_num, hbut.trans (hba.trans hbi)⟩
            case measure => simp [intOf]; omega
    · obtain rfl : j = K := by omega
      go_wp2
      go_ret
      exact ⟨rfl, hbut⟩

end Go.Proofs.YtfniddnfkciblaaGreatDoor

/-
  The Book of the statements: the kinds of which it keeps no list.
-/
namespace Go.Proofs.YtfniddnfkciblaaGreatDoor
open Go.RowKit

theorem BookAt.noneInt {w : World} {kb N : Nat} {bs ss : Value} (h : BookAt w kb N bs ss) : w.cell? ⟨kb, 2, none⟩ = some (.slice none 0 0) := by rw [cell_of_row _ kb 2 _ _ (0, 0) h]; rfl

theorem BookAt.noneText {w : World} {kb N : Nat} {bs ss : Value} (h : BookAt w kb N bs ss) : w.cell? ⟨kb, 3, none⟩ = some (.slice none 0 0) := by rw [cell_of_row _ kb 3 _ _ (0, 0) h]; rfl

theorem BookAt.noneByteList {w : World} {kb N : Nat} {bs ss : Value} (h : BookAt w kb N bs ss) : w.cell? ⟨kb, 4, none⟩ = some (.slice none 0 0) := by rw [cell_of_row _ kb 4 _ _ (0, 0) h]; rfl

theorem BookAt.nonePair {w : World} {kb N : Nat} {bs ss : Value} (h : BookAt w kb N bs ss) : w.cell? ⟨kb, 6, none⟩ = some (.slice none 0 0) := by rw [cell_of_row _ kb 6 _ _ (0, 0) h]; rfl

theorem BookAt.noneTenant {w : World} {kb N : Nat} {bs ss : Value} (h : BookAt w kb N bs ss) : w.cell? ⟨kb, 7, none⟩ = some (.slice none 0 0) := by rw [cell_of_row _ kb 7 _ _ (0, 0) h]; rfl

theorem BookAt.noneLease {w : World} {kb N : Nat} {bs ss : Value} (h : BookAt w kb N bs ss) : w.cell? ⟨kb, 8, none⟩ = some (.slice none 0 0) := by rw [cell_of_row _ kb 8 _ _ (0, 0) h]; rfl

theorem BookAt.noneEvent {w : World} {kb N : Nat} {bs ss : Value} (h : BookAt w kb N bs ss) : w.cell? ⟨kb, 9, none⟩ = some (.slice none 0 0) := by rw [cell_of_row _ kb 9 _ _ (0, 0) h]; rfl

set_option maxRecDepth 100000 in
set_option maxHeartbeats 400000 in
theorem fillInt_nil {kb N : Nat} {bs ss : Value} {w : World} (hbk : BookAt w kb N bs ss) : Calls Tryz.prog 25 #[.pointer (some ⟨kb, 0, none⟩)] w fun e w' => e = .returned (.tuple #[]) ∧ w' = w := by
  have hc := hbk.noneInt
  clear hbk
  go_enter Tryz.func25, Tryz.ntmps25
  go_wp2
  go_loopw [2] (fun i wr => i = .int .i64 0 ∧ wr = w) (fun _ _ => 0)
  case atStart => exact ⟨rfl, rfl⟩
  case round =>
    obtain ⟨rfl, rfl⟩ := hrel
    go_wp2
    go_end0
    exact ⟨rfl, rfl⟩

set_option maxRecDepth 100000 in
set_option maxHeartbeats 400000 in
theorem growInt_nil {kb N : Nat} {bs ss : Value} {w : World} (hbk : BookAt w kb N bs ss) : Calls Tryz.prog 34 #[.pointer (some ⟨kb, 0, none⟩)] w fun e w' => e = .returned (.tuple #[]) ∧ w' = w := by
  have hc := hbk.noneInt
  clear hbk
  go_enter Tryz.func34, Tryz.ntmps34
  go_wp2
  go_loopw [2] (fun i wr => i = .int .i64 0 ∧ wr = w) (fun _ _ => 0)
  case atStart => exact ⟨rfl, rfl⟩
  case round =>
    obtain ⟨rfl, rfl⟩ := hrel
    go_wp2
    go_end0
    exact ⟨rfl, rfl⟩

set_option maxRecDepth 100000 in
set_option maxHeartbeats 400000 in
theorem lookInt_nil {kb N : Nat} {bs ss : Value} {w : World} (hbk : BookAt w kb N bs ss) : Calls Tryz.prog 43 #[.pointer (some ⟨kb, 0, none⟩)] w fun e w' => e = .returned (.bool true) ∧ w' = w := by
  have hc := hbk.noneInt
  clear hbk
  go_enter Tryz.func43, Tryz.ntmps43
  go_wp2
  go_loopw [3] (fun i wr => i = .int .i64 0 ∧ wr = w) (fun _ _ => 0)
  case atStart => exact ⟨rfl, rfl⟩
  case round =>
    obtain ⟨rfl, rfl⟩ := hrel
    go_wp2
    go_ret
    exact ⟨rfl, rfl⟩

set_option maxRecDepth 100000 in
set_option maxHeartbeats 400000 in
theorem fillText_nil {kb N : Nat} {bs ss : Value} {w : World} (hbk : BookAt w kb N bs ss) : Calls Tryz.prog 26 #[.pointer (some ⟨kb, 0, none⟩)] w fun e w' => e = .returned (.tuple #[]) ∧ w' = w := by
  have hc := hbk.noneText
  clear hbk
  go_enter Tryz.func26, Tryz.ntmps26
  go_wp2
  go_loopw [2] (fun i wr => i = .int .i64 0 ∧ wr = w) (fun _ _ => 0)
  case atStart => exact ⟨rfl, rfl⟩
  case round =>
    obtain ⟨rfl, rfl⟩ := hrel
    go_wp2
    go_end0
    exact ⟨rfl, rfl⟩

set_option maxRecDepth 100000 in
set_option maxHeartbeats 400000 in
theorem growText_nil {kb N : Nat} {bs ss : Value} {w : World} (hbk : BookAt w kb N bs ss) : Calls Tryz.prog 35 #[.pointer (some ⟨kb, 0, none⟩)] w fun e w' => e = .returned (.tuple #[]) ∧ w' = w := by
  have hc := hbk.noneText
  clear hbk
  go_enter Tryz.func35, Tryz.ntmps35
  go_wp2
  go_loopw [2] (fun i wr => i = .int .i64 0 ∧ wr = w) (fun _ _ => 0)
  case atStart => exact ⟨rfl, rfl⟩
  case round =>
    obtain ⟨rfl, rfl⟩ := hrel
    go_wp2
    go_end0
    exact ⟨rfl, rfl⟩

set_option maxRecDepth 100000 in
set_option maxHeartbeats 400000 in
theorem lookText_nil {kb N : Nat} {bs ss : Value} {w : World} (hbk : BookAt w kb N bs ss) : Calls Tryz.prog 44 #[.pointer (some ⟨kb, 0, none⟩)] w fun e w' => e = .returned (.bool true) ∧ w' = w := by
  have hc := hbk.noneText
  clear hbk
  go_enter Tryz.func44, Tryz.ntmps44
  go_wp2
  go_loopw [3] (fun i wr => i = .int .i64 0 ∧ wr = w) (fun _ _ => 0)
  case atStart => exact ⟨rfl, rfl⟩
  case round =>
    obtain ⟨rfl, rfl⟩ := hrel
    go_wp2
    go_ret
    exact ⟨rfl, rfl⟩

set_option maxRecDepth 100000 in
set_option maxHeartbeats 400000 in
theorem fillByteList_nil {kb N : Nat} {bs ss : Value} {w : World} (hbk : BookAt w kb N bs ss) : Calls Tryz.prog 27 #[.pointer (some ⟨kb, 0, none⟩)] w fun e w' => e = .returned (.tuple #[]) ∧ w' = w := by
  have hc := hbk.noneByteList
  clear hbk
  go_enter Tryz.func27, Tryz.ntmps27
  go_wp2
  go_loopw [2] (fun i wr => i = .int .i64 0 ∧ wr = w) (fun _ _ => 0)
  case atStart => exact ⟨rfl, rfl⟩
  case round =>
    obtain ⟨rfl, rfl⟩ := hrel
    go_wp2
    go_end0
    exact ⟨rfl, rfl⟩

set_option maxRecDepth 100000 in
set_option maxHeartbeats 400000 in
theorem growByteList_nil {kb N : Nat} {bs ss : Value} {w : World} (hbk : BookAt w kb N bs ss) : Calls Tryz.prog 36 #[.pointer (some ⟨kb, 0, none⟩)] w fun e w' => e = .returned (.tuple #[]) ∧ w' = w := by
  have hc := hbk.noneByteList
  clear hbk
  go_enter Tryz.func36, Tryz.ntmps36
  go_wp2
  go_loopw [2] (fun i wr => i = .int .i64 0 ∧ wr = w) (fun _ _ => 0)
  case atStart => exact ⟨rfl, rfl⟩
  case round =>
    obtain ⟨rfl, rfl⟩ := hrel
    go_wp2
    go_end0
    exact ⟨rfl, rfl⟩

set_option maxRecDepth 100000 in
set_option maxHeartbeats 400000 in
theorem lookByteList_nil {kb N : Nat} {bs ss : Value} {w : World} (hbk : BookAt w kb N bs ss) : Calls Tryz.prog 45 #[.pointer (some ⟨kb, 0, none⟩)] w fun e w' => e = .returned (.bool true) ∧ w' = w := by
  have hc := hbk.noneByteList
  clear hbk
  go_enter Tryz.func45, Tryz.ntmps45
  go_wp2
  go_loopw [3] (fun i wr => i = .int .i64 0 ∧ wr = w) (fun _ _ => 0)
  case atStart => exact ⟨rfl, rfl⟩
  case round =>
    obtain ⟨rfl, rfl⟩ := hrel
    go_wp2
    go_ret
    exact ⟨rfl, rfl⟩

set_option maxRecDepth 100000 in
set_option maxHeartbeats 400000 in
theorem fillPair_nil {kb N : Nat} {bs ss : Value} {w : World} (hbk : BookAt w kb N bs ss) : Calls Tryz.prog 29 #[.pointer (some ⟨kb, 0, none⟩)] w fun e w' => e = .returned (.tuple #[]) ∧ w' = w := by
  have hc := hbk.nonePair
  clear hbk
  go_enter Tryz.func29, Tryz.ntmps29
  go_wp2
  go_loopw [2] (fun i wr => i = .int .i64 0 ∧ wr = w) (fun _ _ => 0)
  case atStart => exact ⟨rfl, rfl⟩
  case round =>
    obtain ⟨rfl, rfl⟩ := hrel
    go_wp2
    go_end0
    exact ⟨rfl, rfl⟩

set_option maxRecDepth 100000 in
set_option maxHeartbeats 400000 in
theorem growPair_nil {kb N : Nat} {bs ss : Value} {w : World} (hbk : BookAt w kb N bs ss) : Calls Tryz.prog 38 #[.pointer (some ⟨kb, 0, none⟩)] w fun e w' => e = .returned (.tuple #[]) ∧ w' = w := by
  have hc := hbk.nonePair
  clear hbk
  go_enter Tryz.func38, Tryz.ntmps38
  go_wp2
  go_loopw [2] (fun i wr => i = .int .i64 0 ∧ wr = w) (fun _ _ => 0)
  case atStart => exact ⟨rfl, rfl⟩
  case round =>
    obtain ⟨rfl, rfl⟩ := hrel
    go_wp2
    go_end0
    exact ⟨rfl, rfl⟩

set_option maxRecDepth 100000 in
set_option maxHeartbeats 400000 in
theorem lookPair_nil {kb N : Nat} {bs ss : Value} {w : World} (hbk : BookAt w kb N bs ss) : Calls Tryz.prog 47 #[.pointer (some ⟨kb, 0, none⟩)] w fun e w' => e = .returned (.bool true) ∧ w' = w := by
  have hc := hbk.nonePair
  clear hbk
  go_enter Tryz.func47, Tryz.ntmps47
  go_wp2
  go_loopw [3] (fun i wr => i = .int .i64 0 ∧ wr = w) (fun _ _ => 0)
  case atStart => exact ⟨rfl, rfl⟩
  case round =>
    obtain ⟨rfl, rfl⟩ := hrel
    go_wp2
    go_ret
    exact ⟨rfl, rfl⟩

set_option maxRecDepth 100000 in
set_option maxHeartbeats 400000 in
theorem fillTenant_nil {kb N : Nat} {bs ss : Value} {w : World} (hbk : BookAt w kb N bs ss) : Calls Tryz.prog 30 #[.pointer (some ⟨kb, 0, none⟩)] w fun e w' => e = .returned (.tuple #[]) ∧ w' = w := by
  have hc := hbk.noneTenant
  clear hbk
  go_enter Tryz.func30, Tryz.ntmps30
  go_wp2
  go_loopw [2] (fun i wr => i = .int .i64 0 ∧ wr = w) (fun _ _ => 0)
  case atStart => exact ⟨rfl, rfl⟩
  case round =>
    obtain ⟨rfl, rfl⟩ := hrel
    go_wp2
    go_end0
    exact ⟨rfl, rfl⟩

set_option maxRecDepth 100000 in
set_option maxHeartbeats 400000 in
theorem growTenant_nil {kb N : Nat} {bs ss : Value} {w : World} (hbk : BookAt w kb N bs ss) : Calls Tryz.prog 39 #[.pointer (some ⟨kb, 0, none⟩)] w fun e w' => e = .returned (.tuple #[]) ∧ w' = w := by
  have hc := hbk.noneTenant
  clear hbk
  go_enter Tryz.func39, Tryz.ntmps39
  go_wp2
  go_loopw [2] (fun i wr => i = .int .i64 0 ∧ wr = w) (fun _ _ => 0)
  case atStart => exact ⟨rfl, rfl⟩
  case round =>
    obtain ⟨rfl, rfl⟩ := hrel
    go_wp2
    go_end0
    exact ⟨rfl, rfl⟩

set_option maxRecDepth 100000 in
set_option maxHeartbeats 400000 in
theorem lookTenant_nil {kb N : Nat} {bs ss : Value} {w : World} (hbk : BookAt w kb N bs ss) : Calls Tryz.prog 48 #[.pointer (some ⟨kb, 0, none⟩)] w fun e w' => e = .returned (.bool true) ∧ w' = w := by
  have hc := hbk.noneTenant
  clear hbk
  go_enter Tryz.func48, Tryz.ntmps48
  go_wp2
  go_loopw [3] (fun i wr => i = .int .i64 0 ∧ wr = w) (fun _ _ => 0)
  case atStart => exact ⟨rfl, rfl⟩
  case round =>
    obtain ⟨rfl, rfl⟩ := hrel
    go_wp2
    go_ret
    exact ⟨rfl, rfl⟩

set_option maxRecDepth 100000 in
set_option maxHeartbeats 400000 in
theorem fillLease_nil {kb N : Nat} {bs ss : Value} {w : World} (hbk : BookAt w kb N bs ss) : Calls Tryz.prog 31 #[.pointer (some ⟨kb, 0, none⟩)] w fun e w' => e = .returned (.tuple #[]) ∧ w' = w := by
  have hc := hbk.noneLease
  clear hbk
  go_enter Tryz.func31, Tryz.ntmps31
  go_wp2
  go_loopw [2] (fun i wr => i = .int .i64 0 ∧ wr = w) (fun _ _ => 0)
  case atStart => exact ⟨rfl, rfl⟩
  case round =>
    obtain ⟨rfl, rfl⟩ := hrel
    go_wp2
    go_end0
    exact ⟨rfl, rfl⟩

set_option maxRecDepth 100000 in
set_option maxHeartbeats 400000 in
theorem growLease_nil {kb N : Nat} {bs ss : Value} {w : World} (hbk : BookAt w kb N bs ss) : Calls Tryz.prog 40 #[.pointer (some ⟨kb, 0, none⟩)] w fun e w' => e = .returned (.tuple #[]) ∧ w' = w := by
  have hc := hbk.noneLease
  clear hbk
  go_enter Tryz.func40, Tryz.ntmps40
  go_wp2
  go_loopw [2] (fun i wr => i = .int .i64 0 ∧ wr = w) (fun _ _ => 0)
  case atStart => exact ⟨rfl, rfl⟩
  case round =>
    obtain ⟨rfl, rfl⟩ := hrel
    go_wp2
    go_end0
    exact ⟨rfl, rfl⟩

set_option maxRecDepth 100000 in
set_option maxHeartbeats 400000 in
theorem lookLease_nil {kb N : Nat} {bs ss : Value} {w : World} (hbk : BookAt w kb N bs ss) : Calls Tryz.prog 49 #[.pointer (some ⟨kb, 0, none⟩)] w fun e w' => e = .returned (.bool true) ∧ w' = w := by
  have hc := hbk.noneLease
  clear hbk
  go_enter Tryz.func49, Tryz.ntmps49
  go_wp2
  go_loopw [3] (fun i wr => i = .int .i64 0 ∧ wr = w) (fun _ _ => 0)
  case atStart => exact ⟨rfl, rfl⟩
  case round =>
    obtain ⟨rfl, rfl⟩ := hrel
    go_wp2
    go_ret
    exact ⟨rfl, rfl⟩

set_option maxRecDepth 100000 in
set_option maxHeartbeats 400000 in
theorem fillEvent_nil {kb N : Nat} {bs ss : Value} {w : World} (hbk : BookAt w kb N bs ss) : Calls Tryz.prog 32 #[.pointer (some ⟨kb, 0, none⟩)] w fun e w' => e = .returned (.tuple #[]) ∧ w' = w := by
  have hc := hbk.noneEvent
  clear hbk
  go_enter Tryz.func32, Tryz.ntmps32
  go_wp2
  go_loopw [2] (fun i wr => i = .int .i64 0 ∧ wr = w) (fun _ _ => 0)
  case atStart => exact ⟨rfl, rfl⟩
  case round =>
    obtain ⟨rfl, rfl⟩ := hrel
    go_wp2
    go_end0
    exact ⟨rfl, rfl⟩

set_option maxRecDepth 100000 in
set_option maxHeartbeats 400000 in
theorem growEvent_nil {kb N : Nat} {bs ss : Value} {w : World} (hbk : BookAt w kb N bs ss) : Calls Tryz.prog 41 #[.pointer (some ⟨kb, 0, none⟩)] w fun e w' => e = .returned (.tuple #[]) ∧ w' = w := by
  have hc := hbk.noneEvent
  clear hbk
  go_enter Tryz.func41, Tryz.ntmps41
  go_wp2
  go_loopw [2] (fun i wr => i = .int .i64 0 ∧ wr = w) (fun _ _ => 0)
  case atStart => exact ⟨rfl, rfl⟩
  case round =>
    obtain ⟨rfl, rfl⟩ := hrel
    go_wp2
    go_end0
    exact ⟨rfl, rfl⟩

set_option maxRecDepth 100000 in
set_option maxHeartbeats 400000 in
theorem lookEvent_nil {kb N : Nat} {bs ss : Value} {w : World} (hbk : BookAt w kb N bs ss) : Calls Tryz.prog 50 #[.pointer (some ⟨kb, 0, none⟩)] w fun e w' => e = .returned (.bool true) ∧ w' = w := by
  have hc := hbk.noneEvent
  clear hbk
  go_enter Tryz.func50, Tryz.ntmps50
  go_wp2
  go_loopw [3] (fun i wr => i = .int .i64 0 ∧ wr = w) (fun _ _ => 0)
  case atStart => exact ⟨rfl, rfl⟩
  case round =>
    obtain ⟨rfl, rfl⟩ := hrel
    go_wp2
    go_ret
    exact ⟨rfl, rfl⟩

end Go.Proofs.YtfniddnfkciblaaGreatDoor

/-
  The Book of the statements: Apart: no list shares memory with another one.
-/
namespace Go.Proofs.YtfniddnfkciblaaGreatDoor
open Go.RowKit

theorem nil_same {P : Program} {f : FuncId} {args : Array Value} {w : World} {v : Value} (h : Calls P f args w fun e w' => e = .returned v ∧ w' = w) : Calls P f args w fun e w' => e = .returned v ∧ w = w' := h.mono fun _ _ ⟨h1, h2⟩ => ⟨h1, h2.symm⟩

/-- A Book whose lists are rows of the call's own, no two of which share a block. -/
structure Kept2 (w : World) (base kb N : Nat) (bs ss : Value) (K1 K2 : Nat) (h1 h2 : List Held) : Prop where
  book : BookAt w kb N bs ss
  own1 : w.ownsRow base 73 3 bs K1 (heldCells h1)
  own2 : w.ownsRow base 88 3 ss K2 (heldCells h2)
  lists1 : Lists w base h1
  lists2 : ListsS w base h2
  le1 : K1 ≤ 1000000
  le2 : K2 ≤ 1000000
  len1 : ∀ (i : Nat) (h : Held), h1[i]? = some h → h.len ≤ 1000000000
  len2 : ∀ (i : Nat) (h : Held), h2[i]? = some h → h.len ≤ 1000000000
  kb : base ≤ kb
  base : base ≤ w.heap.size

theorem inLists_ge {w : World} {base : Nat} {hs : List Held} (h : Lists w base hs) : ∀ b, inLists hs b → base ≤ b := by
  rintro b ⟨i, k, hk, hb⟩
  obtain ⟨xs, hx⟩ := h.own i k hk
  exact (hx.lt b hb).1
theorem inListsS_ge {w : World} {base : Nat} {hs : List Held} (h : ListsS w base hs) : ∀ b, inLists hs b → base ≤ b := by
  rintro b ⟨i, k, hk, hb⟩
  obtain ⟨xs, hx⟩ := h.own i k hk
  exact (hx.lt b hb).1

/-- A row of another element type than the lists' is no list's. -/
theorem not_in {w : World} {base b2 : Nat} {hs : List Held} {e : TypeId} {s n : Nat} {v : Value} {xs : List Value} (h : Lists w base hs) (he : 5 ≠ e) (hv : w.ownsRow b2 e s v n xs) : ∀ b, v.ownBlock = some b → ¬ inLists hs b := by
  rintro b hb ⟨i, k, hk, hb'⟩
  obtain ⟨ys, hy⟩ := h.own i k hk
  rcases rows_ne he hy hv with e0 | e0
  · rw [e0] at hb'; cases hb'
  · exact e0 (hb'.trans hb.symm)
theorem not_inS {w : World} {base b2 : Nat} {hs : List Held} {e : TypeId} {s n : Nat} {v : Value} {xs : List Value} (h : ListsS w base hs) (he : 90 ≠ e) (hv : w.ownsRow b2 e s v n xs) : ∀ b, v.ownBlock = some b → ¬ inLists hs b := by
  rintro b hb ⟨i, k, hk, hb'⟩
  obtain ⟨ys, hy⟩ := h.own i k hk
  rcases rows_ne he hy hv with e0 | e0
  · rw [e0] at hb'; cases hb'
  · exact e0 (hb'.trans hb.symm)
theorem book_not_in {w : World} {base kb N : Nat} {bs ss : Value} {hs : List Held} (h : Lists w base hs) (hb : BookAt w kb N bs ss) : ¬ inLists hs kb := by
  rintro ⟨i, k, hk, hb'⟩
  obtain ⟨ys, hy⟩ := h.own i k hk
  exact hb.other (by decide) hy hb'
theorem book_not_inS {w : World} {base kb N : Nat} {bs ss : Value} {hs : List Held} (h : ListsS w base hs) (hb : BookAt w kb N bs ss) : ¬ inLists hs kb := by
  rintro ⟨i, k, hk, hb'⟩
  obtain ⟨ys, hy⟩ := h.own i k hk
  exact hb.other (by decide) hy hb'
theorem not_row {w : World} {b1 b2 : Nat} {e1 e2 : TypeId} {s1 s2 n1 n2 : Nat} {v1 v2 : Value} {x1 x2 : List Value} (he : e1 ≠ e2) (h1 : w.ownsRow b1 e1 s1 v1 n1 x1) (h2 : w.ownsRow b2 e2 s2 v2 n2 x2) : ∀ b, v1.ownBlock = some b → v2.ownBlock ≠ some b := by
  intro b hb hb'
  rcases rows_ne he h1 h2 with e0 | e0
  · rw [e0] at hb; cases hb
  · exact e0 (hb.trans hb'.symm)

/-- What is left alone by writes to blocks of S stays. -/
theorem Kept2.but {S : Nat → Prop} {w w' : World} {base kb N : Nat} {bs ss : Value} {K1 K2 : Nat} {h1 h2 : List Held} (h : Kept2 w base kb N bs ss K1 K2 h1 h2) (hb : But S w w') (hkb : ¬ S kb) (hbs : ∀ b, bs.ownBlock = some b → ¬ S b) (hss : ∀ b, ss.ownBlock = some b → ¬ S b)
    (l1 : Lists w' base h1) (l2 : ListsS w' base h2) : Kept2 w' base kb N bs ss K1 K2 h1 h2 :=
  ⟨h.book.but hb hkb, own_kept_but h.own1 hb hbs, own_kept_but h.own2 hb hss, l1, l2, h.le1, h.le2, h.len1, h.len2, h.kb, Nat.le_trans h.base hb.size⟩
theorem Kept2.below {w w' : World} {base kb N : Nat} {bs ss : Value} {K1 K2 : Nat} {h1 h2 : List Held} (h : Kept2 w base kb N bs ss K1 K2 h1 h2) (hb : Below w.heap.size w w') : Kept2 w' base kb N bs ss K1 K2 h1 h2 :=
  h.but (S := fun _ => False) (But.of_below hb) (fun e => e) (fun _ _ e => e) (fun _ _ e => e)
    ⟨fun i k hk => by obtain ⟨xs, hx⟩ := h.lists1.own i k hk; exact ⟨xs, own_on hx hb⟩, h.lists1.apart⟩ ⟨fun i k hk => by obtain ⟨xs, hx⟩ := h.lists2.own i k hk; exact ⟨xs, own_on hx hb⟩, h.lists2.apart⟩

theorem Lists.of_filled {w w' : World} {base K : Nat} {hs : List Held} (h : Lists w base hs) (hf : Filled w' base hs K) : Lists w' base hs :=
  ⟨fun i k hk => by obtain ⟨xs, hx, _⟩ := hf i k hk; exact ⟨xs, hx⟩, h.apart⟩
theorem ListsS.of_filled {w w' : World} {base K : Nat} {hs : List Held} (h : ListsS w base hs) (hf : FilledS w' base hs K) : ListsS w' base hs :=
  ⟨fun i k hk => by obtain ⟨xs, hx, _⟩ := hf i k hk; exact ⟨xs, hx⟩, h.apart⟩
theorem Lists.but {S : Nat → Prop} {w w' : World} {base : Nat} {hs : List Held} (h : Lists w base hs) (hb : But S w w') (hn : ∀ b, inLists hs b → ¬ S b) : Lists w' base hs :=
  ⟨fun i k hk => by obtain ⟨xs, hx⟩ := h.own i k hk; exact ⟨xs, own_kept_but hx hb (fun b e => hn b ⟨i, k, hk, e⟩)⟩, h.apart⟩
theorem ListsS.but {S : Nat → Prop} {w w' : World} {base : Nat} {hs : List Held} (h : ListsS w base hs) (hb : But S w w') (hn : ∀ b, inLists hs b → ¬ S b) : ListsS w' base hs :=
  ⟨fun i k hk => by obtain ⟨xs, hx⟩ := h.own i k hk; exact ⟨xs, own_kept_but hx hb (fun b e => hn b ⟨i, k, hk, e⟩)⟩, h.apart⟩
theorem Filled.but {S : Nat → Prop} {w w' : World} {base K : Nat} {hs : List Held} (h : Filled w base hs K) (hb : But S w w') (hn : ∀ b, inLists hs b → ¬ S b) : Filled w' base hs K := fun i k hk => by
  obtain ⟨xs, hx, e⟩ := h i k hk
  exact ⟨xs, own_kept_but hx hb (fun b e => hn b ⟨i, k, hk, e⟩), e⟩
theorem FilledS.but {S : Nat → Prop} {w w' : World} {base K : Nat} {hs : List Held} (h : FilledS w base hs K) (hb : But S w w') (hn : ∀ b, inLists hs b → ¬ S b) : FilledS w' base hs K := fun i k hk => by
  obtain ⟨xs, hx, e⟩ := h i k hk
  exact ⟨xs, own_kept_but hx hb (fun b e => hn b ⟨i, k, hk, e⟩), e⟩
/-- Lists of unlike elements lie in unlike blocks. -/
theorem lists_off {w : World} {base : Nat} {h1 h2 : List Held} (l1 : Lists w base h1) (l2 : ListsS w base h2) : ∀ b, inLists h1 b → ¬ inLists h2 b := by
  rintro b ⟨i, k, hk, hb⟩ hin
  obtain ⟨xs, hx⟩ := l1.own i k hk
  exact not_inS l2 (by decide) hx b hb hin

theorem GrownTo.marked {w w' : World} {base K : Nat} {hs hs' : List Held} (h : GrownTo w w' base hs hs' K) (hK : hs.length = K) (hlen : ∀ (i : Nat) (h : Held), hs[i]? = some h → h.len ≤ 1000000000) : Marked w' base hs' := fun i k' hk' => by
  have hi := (List.getElem?_eq_some_iff.1 hk').1
  rw [h.1] at hi
  obtain ⟨k'', hk'', G⟩ := h.2 i _ (List.getElem?_eq_getElem hi)
  rw [hk'] at hk''
  cases hk''
  obtain ⟨l1, l2, _⟩ := G.long (by omega)
  have l3 := hlen i _ (List.getElem?_eq_getElem hi)
  rw [G.len, G.v, G.num]
  exact ⟨l1, G.row, l2, l3⟩
theorem GrownToS.marked {w w' : World} {base K : Nat} {hs hs' : List Held} (h : GrownToS w w' base hs hs' K) (hK : hs.length = K) (hlen : ∀ (i : Nat) (h : Held), hs[i]? = some h → h.len ≤ 1000000000) : MarkedS w' base hs' := fun i k' hk' => by
  have hi := (List.getElem?_eq_some_iff.1 hk').1
  rw [h.1] at hi
  obtain ⟨k'', hk'', G⟩ := h.2 i _ (List.getElem?_eq_getElem hi)
  rw [hk'] at hk''
  cases hk''
  obtain ⟨l1, l2, _⟩ := G.long (by omega)
  have l3 := hlen i _ (List.getElem?_eq_getElem hi)
  rw [G.len, G.v, G.num]
  exact ⟨l1, G.row, l2, l3⟩
theorem Marked.but {S : Nat → Prop} {w w' : World} {base : Nat} {hs : List Held} (h : Marked w base hs) (hb : But S w w') (hn : ∀ v n xs, w.ownsRow base 5 1 v n xs → ∀ b, v.ownBlock = some b → ¬ S b) : Marked w' base hs := fun i k hk => by
  obtain ⟨a, b, c, d⟩ := h i k hk
  exact ⟨a, own_kept_but b hb (hn _ _ _ b), own_kept_but c hb (hn _ _ _ c), d⟩
theorem MarkedS.but {S : Nat → Prop} {w w' : World} {base : Nat} {hs : List Held} (h : MarkedS w base hs) (hb : But S w w') (hn : ∀ v n xs, w.ownsRow base 90 32 v n xs → ∀ b, v.ownBlock = some b → ¬ S b) : MarkedS w' base hs := fun i k hk => by
  obtain ⟨a, b, c, d⟩ := h i k hk
  exact ⟨a, own_kept_but b hb (hn _ _ _ b), own_kept_but c hb (hn _ _ _ c), d⟩

set_option maxRecDepth 100000 in
set_option maxHeartbeats 4000000 in
theorem apart_any (kb N base K1 K2 : Nat) (bs ss : Value) (h1 h2 : List Held) (w : World) (H : Kept2 w base kb N bs ss K1 K2 h1 h2) :
    Calls Tryz.prog 12 #[.pointer (some ⟨kb, 0, none⟩)] w fun e w' => e = .returned (.bool true) ∧ Below base w w' := by
  have H0 := Lib.hid H
  clear H
  go_enter Tryz.func12, Tryz.ntmps12
  go_wp2_with fail
  refine (fillByte_any kb N base K1 bs ss h1 w H0.out.book H0.out.own1 H0.out.lists1 H0.out.le1 H0.out.len1).mono ?_
  rintro e w1 ⟨rfl, hf1, hb1⟩
  have H1 := Lib.hid (H0.out.but hb1 (book_not_in H0.out.lists1 H0.out.book) (not_in H0.out.lists1 (by decide) H0.out.own1) (not_in H0.out.lists1 (by decide) H0.out.own2) (H0.out.lists1.of_filled hf1) (H0.out.lists2.but hb1 (fun b hb hb' => lists_off H0.out.lists1 H0.out.lists2 b hb' hb)))
  have B1 := Lib.hid (hb1.below H0.out.base (inLists_ge H0.out.lists1))
  have F1 := Lib.hid hf1
  have K1b := Lib.hid H1.out.book
  clear hf1 hb1 H0
  go_wp2_with fail
  refine (nil_same (fillInt_nil K1b.out)).mono ?_
  rintro e _ ⟨rfl, rfl⟩
  go_wp2_with fail
  refine (nil_same (fillText_nil K1b.out)).mono ?_
  rintro e _ ⟨rfl, rfl⟩
  go_wp2_with fail
  refine (nil_same (fillByteList_nil K1b.out)).mono ?_
  rintro e _ ⟨rfl, rfl⟩
  go_wp2_with fail
  refine (fillSum_any kb N base K2 bs ss h2 w1 H1.out.book H1.out.own2 H1.out.lists2 H1.out.le2 H1.out.len2).mono ?_
  rintro e w2 ⟨rfl, hf2, hb2⟩
  have H2 := Lib.hid (H1.out.but hb2 (book_not_inS H1.out.lists2 H1.out.book) (not_inS H1.out.lists2 (by decide) H1.out.own1) (not_inS H1.out.lists2 (by decide) H1.out.own2) (H1.out.lists1.but hb2 (lists_off H1.out.lists1 H1.out.lists2)) (H1.out.lists2.of_filled hf2))
  have B2 := Lib.hid (B1.out.trans (hb2.below H1.out.base (inListsS_ge H1.out.lists2)))
  have F2 := Lib.hid (F1.out.but hb2 (lists_off H1.out.lists1 H1.out.lists2))
  have F2S := Lib.hid hf2
  have K2b := Lib.hid H2.out.book
  clear hf2 hb2 H1 B1 F1 K1b
  go_wp2_with fail
  refine (nil_same (fillPair_nil K2b.out)).mono ?_
  rintro e _ ⟨rfl, rfl⟩
  go_wp2_with fail
  refine (nil_same (fillTenant_nil K2b.out)).mono ?_
  rintro e _ ⟨rfl, rfl⟩
  go_wp2_with fail
  refine (nil_same (fillLease_nil K2b.out)).mono ?_
  rintro e _ ⟨rfl, rfl⟩
  go_wp2_with fail
  refine (nil_same (fillEvent_nil K2b.out)).mono ?_
  rintro e _ ⟨rfl, rfl⟩
  go_wp2_with fail
  refine (growByte_any kb N base K1 bs ss h1 w2 H2.out.book H2.out.own1 H2.out.lists1 F2.out H2.out.le1 H2.out.len1 H2.out.base).mono ?_
  rintro e w3 ⟨rfl, hs1, ho3, hg3, hb3⟩
  have M3 := Lib.hid (hg3.marked (by have := H2.out.own1.1; rw [heldCells_length] at this; omega) H2.out.len1)
  have bk3 := H2.out.book.but hb3 (fun h => h.elim (book_not_in H2.out.lists1 H2.out.book) (H2.out.book.other (by decide) H2.out.own1))
  have os3 := own_kept_but H2.out.own2 hb3 (fun b hb h => h.elim (not_in H2.out.lists1 (by decide) H2.out.own2 b hb) (not_row (by decide) H2.out.own2 H2.out.own1 b hb))
  have off3 : ∀ b, inLists h2 b → ¬ (inLists h1 b ∨ bs.ownBlock = some b) := fun b hb h => h.elim (fun h' => lists_off H2.out.lists1 H2.out.lists2 b h' hb) (fun h' => not_inS H2.out.lists2 (by decide) H2.out.own1 b h' hb)
  have L3 := H2.out.lists2.but hb3 off3
  have F3 := Lib.hid (F2S.out.but hb3 off3)
  have B3 := Lib.hid (B2.out.trans (hb3.below H2.out.base (fun b h => h.elim (inLists_ge H2.out.lists1 b) (fun h' => (H2.out.own1.lt b h').1))))
  have H3 := Lib.hid (And.intro bk3 (And.intro ho3 (And.intro os3 (And.intro L3 (And.intro H2.out.le1 (And.intro H2.out.le2 (And.intro H2.out.len2 (Nat.le_trans H2.out.base hb3.size))))))))
  have K3b := Lib.hid bk3
  clear hg3 hb3 bk3 os3 off3 L3 ho3 H2 B2 F2 F2S K2b
  go_wp2_with fail
  refine (nil_same (growInt_nil K3b.out)).mono ?_
  rintro e _ ⟨rfl, rfl⟩
  go_wp2_with fail
  refine (nil_same (growText_nil K3b.out)).mono ?_
  rintro e _ ⟨rfl, rfl⟩
  go_wp2_with fail
  refine (nil_same (growByteList_nil K3b.out)).mono ?_
  rintro e _ ⟨rfl, rfl⟩
  go_wp2_with fail
  refine (growSum_any kb N base K2 bs ss h2 w3 H3.out.1 H3.out.2.2.1 H3.out.2.2.2.1 F3.out H3.out.2.2.2.2.2.1 H3.out.2.2.2.2.2.2.1 H3.out.2.2.2.2.2.2.2).mono ?_
  rintro e w4 ⟨rfl, hs2, ho4, hg4, hb4⟩
  have M4S := Lib.hid (hg4.marked (by have := H3.out.2.2.1.1; rw [heldCells_length] at this; omega) H3.out.2.2.2.2.2.2.1)
  have M4 := Lib.hid (M3.out.but hb4 (fun v n xs hv b hb h => h.elim (not_inS H3.out.2.2.2.1 (by decide) hv b hb) (not_row (by decide) hv H3.out.2.2.1 b hb)))
  have bk4 := H3.out.1.but hb4 (fun h => h.elim (book_not_inS H3.out.2.2.2.1 H3.out.1) (H3.out.1.other (by decide) H3.out.2.2.1))
  have ob4 := own_kept_but H3.out.2.1 hb4 (fun b hb h => h.elim (not_inS H3.out.2.2.2.1 (by decide) H3.out.2.1 b hb) (not_row (by decide) H3.out.2.1 H3.out.2.2.1 b hb))
  have B4 := Lib.hid (B3.out.trans (hb4.below H3.out.2.2.2.2.2.2.2 (fun b h => h.elim (inListsS_ge H3.out.2.2.2.1 b) (fun h' => (H3.out.2.2.1.lt b h').1))))
  have H4 := Lib.hid (And.intro bk4 (And.intro ob4 (And.intro ho4 (And.intro H3.out.2.2.2.2.1 (And.intro H3.out.2.2.2.2.2.1 (Nat.le_trans H3.out.2.2.2.2.2.2.2 hb4.size))))))
  have K4b := Lib.hid bk4
  clear hg4 hb4 bk4 ob4 ho4 H3 B3 F3 M3 K3b
  go_wp2_with fail
  refine (nil_same (growPair_nil K4b.out)).mono ?_
  rintro e _ ⟨rfl, rfl⟩
  go_wp2_with fail
  refine (nil_same (growTenant_nil K4b.out)).mono ?_
  rintro e _ ⟨rfl, rfl⟩
  go_wp2_with fail
  refine (nil_same (growLease_nil K4b.out)).mono ?_
  rintro e _ ⟨rfl, rfl⟩
  go_wp2_with fail
  refine (nil_same (growEvent_nil K4b.out)).mono ?_
  rintro e _ ⟨rfl, rfl⟩
  go_wp2_with fail
  refine (lookByte_any kb N base K1 bs ss hs1 w4 H4.out.1 H4.out.2.1 M4.out H4.out.2.2.2.1).mono ?_
  rintro e w5 ⟨rfl, hb5⟩
  have bk5 := H4.out.1.but hb5 (fun e => e)
  have os5 := own_kept_but H4.out.2.2.1 hb5 (fun _ _ e => e)
  have M5S := Lib.hid (M4S.out.but hb5 (fun _ _ _ _ _ _ e => e))
  have B5 := Lib.hid (B4.out.trans (hb5.below H4.out.2.2.2.2.2 (fun _ e => e.elim)))
  have H5 := Lib.hid (And.intro bk5 (And.intro os5 (And.intro H4.out.2.2.2.2.1 (Nat.le_trans H4.out.2.2.2.2.2 hb5.size))))
  have K5b := Lib.hid bk5
  clear hb5 bk5 os5 H4 B4 M4 M4S K4b
  go_wp2_with fail
  refine (nil_same (lookInt_nil K5b.out)).mono ?_
  rintro e _ ⟨rfl, rfl⟩
  go_wp2_with fail
  refine (nil_same (lookText_nil K5b.out)).mono ?_
  rintro e _ ⟨rfl, rfl⟩
  go_wp2_with fail
  refine (nil_same (lookByteList_nil K5b.out)).mono ?_
  rintro e _ ⟨rfl, rfl⟩
  go_wp2_with fail
  refine (lookSum_any kb N base K2 bs ss hs2 w5 H5.out.1 H5.out.2.1 M5S.out H5.out.2.2.1).mono ?_
  rintro e w6 ⟨rfl, hb6⟩
  have bk6 := H5.out.1.but hb6 (fun e => e)
  have B6 := Lib.hid (B5.out.trans (hb6.below H5.out.2.2.2 (fun _ e => e.elim)))
  have K6b := Lib.hid bk6
  clear hb6 bk6 H5 B5 M5S K5b
  go_wp2_with fail
  refine (nil_same (lookPair_nil K6b.out)).mono ?_
  rintro e _ ⟨rfl, rfl⟩
  go_wp2_with fail
  refine (nil_same (lookTenant_nil K6b.out)).mono ?_
  rintro e _ ⟨rfl, rfl⟩
  go_wp2_with fail
  refine (nil_same (lookLease_nil K6b.out)).mono ?_
  rintro e _ ⟨rfl, rfl⟩
  go_wp2_with fail
  refine (nil_same (lookEvent_nil K6b.out)).mono ?_
  rintro e _ ⟨rfl, rfl⟩
  go_wp2
  go_ret
  exact ⟨rfl, B6.out⟩

end Go.Proofs.YtfniddnfkciblaaGreatDoor

/-
  TwinBytes: a copy in memory of its own, a mark behind it.
-/
namespace Go.Proofs.YtfniddnfkciblaaGreatDoor
open Go.RowKit

/-- '.slice A n (n + 1)' is a copy of xs, the mark 77 behind it: block g is just these cells. -/
def Twin (w : World) (g n : Nat) (xs : List Nat) : Prop := xs.length = n ∧ w.heap[g]? = some (.cells (bvs (xs ++ [77])).toArray 5 (0, 0))

theorem Twin.below {w w' : World} {g n : Nat} {xs : List Nat} (h : Twin w g n xs) (hb : Below w.heap.size w w') : Twin w' g n xs :=
  ⟨h.1, (hb.block g (Array.getElem?_eq_some_iff.1 h.2).1).trans h.2⟩
theorem Twin.in_ {w : World} {g n : Nat} {xs : List Nat} (h : Twin w g n xs) : In w (some ⟨g, 0, none⟩) n xs :=
  ⟨h.1, fun j x hx => ⟨_, rfl, by
    rw [show (⟨g, 0, none⟩ : Addr).add j = ⟨g, j, none⟩ from by unfold Addr.add; split <;> simp_all]
    have hj := (List.getElem?_eq_some_iff.1 hx).1
    rw [cell_of_row _ g j _ 5 (0, 0) h.2, List.getElem?_toArray, bvs_get, List.getElem?_append_left hj, hx]
    rfl⟩⟩
theorem Twin.last {w : World} {g n : Nat} {xs : List Nat} (h : Twin w g n xs) : w.cell? ⟨g, n, none⟩ = some (.int .u8 77) := by
  rw [cell_of_row _ g n _ 5 (0, 0) h.2, List.getElem?_toArray, bvs_get, List.getElem?_append_right (by rw [h.1]; omega), h.1]
  simp [bv]
theorem Twin.lt {w : World} {g n : Nat} {xs : List Nat} (h : Twin w g n xs) : g < w.heap.size := (Array.getElem?_eq_some_iff.1 h.2).1

set_option maxRecDepth 100000 in
set_option maxHeartbeats 1000000 in
theorem twinBytes_any (A : Option Addr) (n c : Nat) (xs : List Nat) (w : World) (hin : In w A n xs) (hn : n ≤ 1000000000) :
    Calls Tryz.prog 4 #[.slice A n c] w fun e w' => e = .returned (.slice (some ⟨w.heap.size, 0, none⟩) n (n + 1)) ∧ Twin w' w.heap.size n xs ∧ Below w.heap.size w w' := by
  obtain ⟨i0, hi, hz0, hz1, hz2⟩ := info_parts infoByte
  have hm : n + 1 ≤ maxLen := by unfold maxLen; omega
  go_enter Tryz.func4, Tryz.ntmps4
  go_wp2_with (at_make; refine wpList_make_own _ rfl _ _ 23 rfl w.heap.size 5 i0 _ 1 Tryz.underlying23 hi hz0 hz1 _ _ _ (n + 1) rfl rfl (by omega) (by rw [hz2]; omega) hm (Nat.le_refl _) ?_; intro w1 hown1 hgrow1)
  have hb1 : Below w.heap.size w w1 := (Below.refl _ w).grown hgrow1 (Nat.le_refl _) (fun k hk => by cases hk)
  go_loopw [3, 4] (fun t i wr => ∃ j : Nat, j ≤ n ∧ i = .int .i64 (j : Int) ∧ t = .slice (some ⟨w.heap.size, 0, none⟩) j (n + 1) ∧
      wr.ownsRow w.heap.size 5 1 (.slice (some ⟨w.heap.size, 0, none⟩) j (n + 1)) j (bvs (xs.take j)) ∧ Below w.heap.size w wr) (fun _ i _ => n - (intOf i).toNat)
  case atStart => exact ⟨0, Nat.zero_le _, rfl, rfl, hown1, hb1⟩
  case round =>
    obtain ⟨j, hj, rfl, rfl, hown, hbw⟩ := hrel
    have z1 := hbw.size
    by_cases hlt : j < n
    · obtain ⟨ad, x, rfl, hx, hcell⟩ := (hin.below hbw).at_ hlt
      have HX := Lib.hid hx
      clear hx
      go_wp2_with (at_builtin; refine wpList_append_fits _ rfl _ _ 23 rfl w.heap.size 5 i0 1 Tryz.underlying23 hi hz1 w.heap.size j (n + 1) _ rfl (hown.alloc _) ⟨wr.heap.size, 0, none⟩ 1 1 [.int .u8 (x : Int)] rfl rfl (cell_one_new _ _ _) (by simp [Value.oneCell']) (by omega) ?_; intro w2 hown2 hgrow2)
      go_roundw
      case rel =>
        refine ⟨j + 1, by omega, by go_num, rfl, ?_, (hbw.alloc z1 _).grown hgrow2 (by simp; omega) (fun k hk => by cases hk; exact Nat.le_refl _)⟩
        rw [take_snoc_of HX.out, bvs_append]
        exact hown2
      case measure => simp [intOf]; omega
    · obtain rfl : j = n := by omega
      go_wp2_with (at_builtin; refine wpList_append_fits _ rfl _ _ 23 rfl w.heap.size 5 i0 1 Tryz.underlying23 hi hz1 w.heap.size j (j + 1) _ rfl (hown.alloc _) ⟨wr.heap.size, 0, none⟩ 1 1 [.int .u8 77] rfl rfl (cell_one_new _ _ _) (by simp [Value.oneCell']) (by omega) ?_; intro w2 hown2 hgrow2)
      go_ret
      refine ⟨rfl, ⟨hin.len, ?_⟩, (hbw.alloc z1 _).grown hgrow2 (by simp; omega) (fun k hk => by cases hk; exact Nat.le_refl _)⟩
      rw [List.take_of_length_le (by rw [hin.len]; omega)] at hown2
      rcases hown2.2 with ⟨e1, _⟩ | ⟨g, cap, cur, e1, _, hg, _, _, hs, ht⟩
      · cases e1
      · cases e1
        rw [hg, bvs_append]
        rw [List.take_of_length_le (by rw [Array.length_toList, hs]; omega)] at ht
        have e2 : cur = (bvs xs ++ [Value.int .u8 77]).toArray := by rw [← ht]
        rw [e2]
        rfl

end Go.Proofs.YtfniddnfkciblaaGreatDoor
