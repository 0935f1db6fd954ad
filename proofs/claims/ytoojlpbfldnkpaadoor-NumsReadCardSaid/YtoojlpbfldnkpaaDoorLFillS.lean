/-
  The Book of the statements: marks are written into every list of sums.
-/
import Derived.Test.YtoojlpbfldnkpaaDoorLSumAt
import Derived.Test.YtoojlpbfldnkpaaDoorLQuietTail
import Derived.Test.YtoojlpbfldnkpaaDoorLApp2
namespace Go.Proofs.YtoojlpbfldnkpaaDoor
open Go.RowKit

/-- What is asked of the lists of sums of a Book: each owns its row; no two the same block. -/
structure ListsS (w : World) (base : Nat) (hs : List Held) : Prop where
  own : ∀ (i : Nat) (h : Held), hs[i]? = some h → ∃ xs, w.ownsRow base 54 32 h.v h.len xs
  apart : ∀ (i j : Nat) (h k : Held), hs[i]? = some h → hs[j]? = some k → i ≠ j → h.v.ownBlock = none ∨ h.v.ownBlock ≠ k.v.ownBlock

/-- The first i lists have their marks. -/
def FilledS (w : World) (base : Nat) (hs : List Held) (i : Nat) : Prop :=
  ∀ (j : Nat) (h : Held), hs[j]? = some h → ∃ xs, w.ownsRow base 54 32 h.v h.len xs ∧ (j < i → xs = marks h.len h.num)

set_option maxRecDepth 100000 in
set_option maxHeartbeats 2000000 in
theorem fillSum_any (kb N base K : Nat) (bs ss : Value) (hs : List Held) (w : World) (hbk : BookAt w kb N bs ss) (hown : w.ownsRow base 79 3 ss K (heldCells hs)) (hlist : ListsS w base hs)
    (hK : K ≤ 1000000) (hlen : ∀ (i : Nat) (h : Held), hs[i]? = some h → h.len ≤ 1000000000) :
    Calls Tryd.prog 37 #[.pointer (some ⟨kb, 0, none⟩)] w fun e w' => e = .returned (.tuple #[]) ∧
      FilledS w' base hs K ∧ But (inLists hs) w w' := by
  have hKl : hs.length = K := by have := hown.1; rw [heldCells_length] at this; omega
  have HKl := Lib.hid hKl
  clear hKl
  obtain ⟨Ab, cb, rfl⟩ := own_form3 hown
  have h1 := hbk.s
  go_enter Tryd.func37, Tryd.ntmps37
  go_wp2
  go_loopw [2] (fun i wr => ∃ j : Nat, j ≤ K ∧ i = .int .i64 (j : Int) ∧ FilledS wr base hs j ∧ But (inLists hs) w wr) (fun i _ => K - (intOf i).toNat)
  case atStart => exact ⟨0, Nat.zero_le _, rfl, fun j h hj => by obtain ⟨xs, hx⟩ := hlist.own j h hj; exact ⟨xs, hx, fun h => by omega⟩, But.refl _ _⟩
  case round =>
    obtain ⟨j, hj, rfl, hfl, hbut⟩ := hrel
    obtain ⟨wo, rfl⟩ : ∃ wo : World, wo = wr := ⟨_, rfl⟩
    have nokb : ¬ inLists hs kb := by
      rintro ⟨i, h, hi, he⟩
      obtain ⟨xs, hx⟩ := hlist.own i h hi
      exact hbk.other (by decide) hx he
    have hbk2 := hbk.but hbut nokb
    have hown2 := own_kept_but hown hbut (by
      rintro b hb ⟨i, h, hi, he⟩
      obtain ⟨xs, hx⟩ := hlist.own i h hi
      rcases rows_ne (by decide) hx hown with h0 | h0
      · rw [h0] at he; cases he
      · exact h0 (he.trans hb.symm))
    have h2 := hbk2.s
    by_cases hlt : j < K
    · obtain ⟨h, hh⟩ : ∃ h, hs[j]? = some h := ⟨_, List.getElem?_eq_getElem (by rw [HKl.out]; exact hlt)⟩
      obtain ⟨g1, g2, g3⟩ := heldCells_get hh
      rcases hown2.2 with ⟨e, h0⟩ | ⟨gb, cap, cur, e, hbb, hgb, hle, hm, hsz, htk⟩
      · omega
      · cases e
        have p1 : wo.cell? ⟨gb, j * 3, none⟩ = some h.v := by
          have := hown2.cells (g := gb) rfl _ _ g1
          rwa [Addr.add_lit, Nat.zero_add] at this
        have p2 : wo.cell? ⟨gb, j * 3 + 1, none⟩ = some h.long := by
          have := hown2.cells (g := gb) rfl _ _ g2
          rwa [Addr.add_lit, Nat.zero_add] at this
        have p3 : wo.cell? ⟨gb, j * 3 + 2, none⟩ = some (.int .i64 (h.num : Int)) := by
          have := hown2.cells (g := gb) rfl _ _ g3
          rwa [Addr.add_lit, Nat.zero_add] at this
        have i1 : (j : Int) < (K : Int) := by omega
        obtain ⟨xs0, hx0, _⟩ := hfl j h hh
        have hl0 := hlen j h hh
        have hin0 : ∀ b, h.v.ownBlock = some b → inLists hs b := fun b hb => ⟨j, h, hh, hb⟩
        have hrest : ∀ wi, But (fun b => h.v.ownBlock = some b) wo wi → (∃ xs, wi.ownsRow base 54 32 h.v h.len xs ∧ xs = marks h.len h.num) → FilledS wi base hs (j + 1) := by
          intro wi hbi hrow j' h' hj'
          by_cases e : j' = j
          · subst e
            rw [hh] at hj'
            cases hj'
            obtain ⟨xs, r1, r2⟩ := hrow
            exact ⟨xs, r1, fun _ => r2⟩
          · obtain ⟨xs, r1, r2⟩ := hfl j' h' hj'
            refine ⟨xs, own_kept_but r1 hbi (fun b hb hb' => ?_), fun hlt' => r2 (by omega)⟩
            rcases hlist.apart j' j h' h hj' hh e with h0 | h0
            · rw [h0] at hb; cases hb
            · exact h0 (hb.trans hb'.symm)
        have HR := Lib.hid hrest
        have HI := Lib.hid hin0
        have HF := Lib.hid hfl
        clear hrest hin0 hfl g1 g2 g3 hh
        obtain ⟨A, n, c, A2, n2, c2, num⟩ := h
        simp only [Held.v, Held.long] at p1 p2 p3 hx0 hl0
        go_wp2
        have hx1 := hx0.alloc (.cells #[.slice A n c, .slice A2 n2 c2, .int .i64 (num : Int)] 79)
        have hlt0 := hx0.lt
        obtain ⟨wa, hwa⟩ : ∃ wa, wo.alloc (.cells #[.slice A n c, .slice A2 n2 c2, .int .i64 (num : Int)] 79) = wa := ⟨_, rfl⟩
        have hba : But (fun b => (Value.slice A n c).ownBlock = some b) wo wa := by rw [← hwa]; exact (But.refl _ _).alloc _
        have hha : wa.heap[wo.heap.size]? = some (.cells #[.slice A n c, .slice A2 n2 c2, .int .i64 (num : Int)] 79 (0, 0)) := by rw [← hwa]; exact World.alloc_heap_new wo _
        rw [hwa] at hx1 ⊢
        have HH := Lib.hid hha
        clear hwa hha
        go_loopw [4] (fun i wi => ∃ (k : Nat) (xs : List Value), k ≤ n ∧ i = .int .i64 (k : Int) ∧ wi.ownsRow base 54 32 (.slice A n c) n xs ∧ xs.take (k * 32) = marks k num ∧ But (fun b => (Value.slice A n c).ownBlock = some b) wa wi) (fun i _ => n - (intOf i).toNat)
        case atStart => exact ⟨0, xs0, Nat.zero_le _, rfl, hx1, by simp [marks, bvs], But.refl _ _⟩
        case round =>
          obtain ⟨k, xs, hk, rfl, hox, htx, hbi⟩ := hrel
          have hhi : wr.heap[wo.heap.size]? = some (.cells #[.slice A n c, .slice A2 n2 c2, .int .i64 (num : Int)] 79 (0, 0)) :=
            (hbi.block _ (Array.getElem?_eq_some_iff.1 HH.out).1 (fun e => by have := (hlt0 _ e).2; omega)).trans HH.out
          have q0 : wr.cell? ⟨wo.heap.size, 0, none⟩ = some (.slice A n c) := by rw [cell_of_row _ _ 0 _ _ (0, 0) hhi]; rfl
          have q2 : wr.cell? ⟨wo.heap.size, 2, none⟩ = some (.int .i64 (num : Int)) := by rw [cell_of_row _ _ 2 _ _ (0, 0) hhi]; rfl
          clear hhi
          have HT := Lib.hid htx
          clear htx
          by_cases hlt2 : k < n
          · obtain ⟨g, rfl⟩ : ∃ g, A = some ⟨g, 0, none⟩ := by
              rcases hox.2 with ⟨e, h0⟩ | ⟨g, cap, cur, e, _⟩
              · omega
              · cases e; exact ⟨g, rfl⟩
            have HQ := Lib.hid (And.intro q0 q2)
            have HO := Lib.hid hox
            have CM := Lib.hid (fun (W : World) (_ : Below wr.heap.size wr W) => markSum_any num W)
            have i2 : (k : Int) < (n : Int) := by omega
            clear hox
            go_wp2
            refine wp_region_quiet_tail (C := fun w' => Below wr.heap.size wr w') 7 (by kernel_rfl) (by kernel_rfl) ((Below.refl _ _).drew) ?_
            simp only [List.take_succ_cons, List.take_zero, List.drop_succ_cons, List.drop_zero]
            refine wpQuiet_step (fun K hK => ?_)
            go_simp
            refine ⟨_, fun _ _ => rfl, hK _ ?_⟩
            clear hK K
            refine wpQuiet_step (fun K hK => ?_)
            refine quiet_load_cell (by rfl) 30 agg_sums (.tmp 28) rfl ⟨wo.heap.size, 0, none⟩ rfl (.slice (some ⟨g, 0, none⟩) n c) (fun W hC => (hC.cell (World.block_lt_of_cell? wr _ HQ.out.1)).trans HQ.out.1) (hK _ ?_)
            clear hK K
            iterate 2 (refine wpQuiet_step (fun K hK => ?_); go_simp; refine ⟨_, fun _ _ => rfl, hK _ ?_⟩; clear hK K)
            refine wpQuiet_step (fun K hK => ?_)
            refine quiet_load_cell (by rfl) 3 agg_int (.tmp 31) rfl ⟨wo.heap.size, 2, none⟩ rfl (.int .i64 (num : Int)) (fun W hC => (hC.cell (World.block_lt_of_cell? wr _ HQ.out.2)).trans HQ.out.2) (hK _ ?_)
            clear hK K
            refine wpQuiet_step (fun K hK => ?_)
            go_simp
            refine ⟨sv (mark32 num), fun W hC => (CM.out W hC).mono fun e w'' ⟨he, hb'⟩ => ⟨he, below_on hC (Nat.le_refl _) hb'⟩, hK _ ?_⟩
            clear hK K
            refine wpQuiet_step (fun K hK => ?_)
            go_simp
            refine ⟨_, fun _ _ => rfl, hK _ ?_⟩
            clear hK K
            refine wpQuiet_nil ?_
            intro w6 hb6
            obtain ⟨cur, hcur, hfit, ys, hoy, hty⟩ := own_mark_put (own_on HO.out hb6) hlt2 HT.out
            refine wpList_store_at rfl 54 (.tmp 34) (.tmp 33) rfl g (k * 32) (bvs (mark32 num)) cur 54 rfl rfl hcur (by rw [bvs_length, mark32_length]; exact sizeSum) (by rw [bvs_length, mark32_length]; exact hfit) (bvs_oneCell _) ?_
            have HY := Lib.hid (And.intro hoy hty)
            have HB := Lib.hid ((hbi.trans (But.of_below hb6)).setRow (b := g) (splice cur (k * 32) (bvs (mark32 num))).toArray (fun _ => rfl))
            clear hcur hfit hoy hty hbi
            go_wp2
            go_roundw
            case rel => exact ⟨k + 1, ys, by omega, by go_num, HY.out.1, HY.out.2, HB.out⟩
            case measure => simp [intOf]; omega
          · obtain rfl : k = n := by omega
            have hfin : FilledS wr base hs (j + 1) := HR.out wr (hba.trans hbi) ⟨xs, hox, by
              have e := HT.out
              rwa [List.take_of_length_le (by have := hox.1; omega)] at e⟩
            have hbo : But (inLists hs) w wr := hbut.trans ((hba.trans hbi).mono (fun b _ hb => HI.out b hb))
            clear HR HI HF
            go_wp2
            go_roundw
            case rel => exact ⟨j + 1, by omega, by go_num, hfin, hbo⟩
            case measure => simp [intOf]; omega
    · obtain rfl : j = K := by omega
      go_wp2
      go_end0
      exact ⟨rfl, hfl, hbut⟩

end Go.Proofs.YtoojlpbfldnkpaaDoor
