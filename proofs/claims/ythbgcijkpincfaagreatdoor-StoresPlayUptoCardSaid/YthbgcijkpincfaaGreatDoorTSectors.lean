/-
  The sectors of a region, one behind the other.
-/
import Derived.RangeFuncNested
import Derived.RangeFuncBound
import Derived.RangeFuncCalls
import Derived.RangeFuncLeaves
import Derived.Shelf.Abstract
import Derived.WalkKit
import Derived.OwnWalkIn
import Derived.TacticsInMore
import Derived.LoopNIn
import Derived.LoopIn
import Derived.Test.YthbgcijkpincfaaGreatDoorTTight
namespace Go.Proofs.YthbgcijkpincfaaGreatDoor
open Go.RowKit Go.Shelf

attribute [local go_sem] Oper.semAt_some

def regionV (gd from_ many : Nat) : Value := .agg #[.pointer (some ⟨gd, 0, none⟩), .int .i64 (from_ : Int), .int .i64 (many : Int)]
/-- What is handed over: which sector, and where its bytes lie. -/
def secV (x : Nat × Nat) : Array Value := #[.int .i64 (x.1 : Int), .slice (some ⟨x.2, 0, none⟩) 64 64]
theorem grown_of_below {W W' : World} (h : Below W.heap.size W W') : W.grownBy W' none := ⟨h.os, h.tape, h.output, h.size, fun k hk _ => h.block k hk⟩
theorem own_below {β : Type} {B : Nat} {J : β → World → Prop} (hJ : OwnFrom B J) {s : β} {W W' : World} (h : J s W) (hb : Below W.heap.size W W') : J s W' := hJ s W W' none h (grown_of_below hb) (fun r e => by cases e)

set_option maxRecDepth 100000 in
set_option maxHeartbeats 2000000 in
theorem sectors_seq {gd from_ many : Nat} (T : List (List Nat)) (hT : T.length = many) (hm : from_ + many ≤ 4096) (Ty : TypeId → Prop) (hTy : Ty 119) (Gs : Nat → World → Prop) (W : World)
    (hGs : ∀ k W1 xs, T[k]? = some xs → Gs k W1 → ∃ F s, Disk W1 gd F s ∧ s.read[from_ + k]? = some xs) (hGo : ∀ k, OwnFrom W.heap.size (fun (_ : Unit) W => Gs k W)) (h0G : Gs 0 W) :
    SeqR Fence.wide 2 Tryz.prog 170 #[regionV gd from_ many] #[] secV Ty (fun pre x W => pre.map (·.1) = List.range x.1 ∧ (∃ xs, T[x.1]? = some xs ∧ BArr W x.2 137 xs) ∧ Gs x.1 W) (fun pre W => Gs pre.length W)
      (fun xs W => xs.map (·.1) = List.range many ∧ Gs many W) (fun pre _ => ∃ k, k < many ∧ pre.map (·.1) = List.range (k + 1)) W := by
  intro l J Jx hJ _ hY h0
  have hb1 := below_alloc W (.cells #[.pointer (some ⟨gd, 0, none⟩), .int .i64 (from_ : Int), .int .i64 (many : Int)] 119)
  have row1 := World.alloc_heap_new W (.cells #[.pointer (some ⟨gd, 0, none⟩), .int .i64 (from_ : Int), .int .i64 (many : Int)] 119)
  have h1 := own_below hJ h0 hb1
  have g1 := own_below (s := ()) (hGo 0) h0G hb1
  obtain ⟨W1, hW1⟩ : ∃ W1, W.alloc (.cells #[.pointer (some ⟨gd, 0, none⟩), .int .i64 (from_ : Int), .int .i64 (many : Int)] 119) = W1 := ⟨_, rfl⟩
  obtain ⟨B, hB⟩ : ∃ B, W.heap.size = B := ⟨_, rfl⟩
  rw [hW1] at hb1 h1 g1 row1
  rw [hB] at row1
  have c2 : W1.cell? ⟨B, 2, none⟩ = some (.int .i64 (many : Int)) := by rw [cell_of_row _ B 2 _ _ (0, 0) row1]; rfl
  have HW := Lib.hid (And.intro hW1 hB)
  unfold regionV
  clear hW1 hB
  refine callsIn_of_wp Tryz.func170 rfl trivial ?_ rfl
  simp only [Tryz.ntmps170, List.size_toArray, List.length_cons, List.length_nil, Nat.reduceAdd, Nat.reduceSub, Array.replicate_succ, Array.replicate_zero, List.push_toArray, List.append_toArray, List.nil_append, List.cons_append]
  gi_wp2
  rw [HW.out.1, HW.out.2]
  gi_wp2
  gi_loopw [9] (fun i wr => ∃ (pre : List (Nat × Nat)), pre.length ≤ many ∧ pre.map (·.1) = List.range pre.length ∧ i = .int .i64 (pre.length : Int) ∧ J pre wr ∧ Gs pre.length wr ∧ wr.heap[B]? = some (.cells #[.pointer (some ⟨gd, 0, none⟩), .int .i64 (from_ : Int), .int .i64 (many : Int)] 119 (0, 0)))
    (fun i _ => many - (intOf i).toNat)
  case atStart => exact ⟨[], Nat.zero_le _, rfl, rfl, h1, g1, row1⟩
  case round =>
    obtain ⟨pre, hle, hpre, rfl, hJs, hGk, hrow⟩ := hrel
    obtain ⟨k, hk⟩ : ∃ k, pre.length = k := ⟨_, rfl⟩
    rw [hk] at hle hGk hpre ⊢
    have d0 : wr.cell? ⟨B, 0, none⟩ = some (.pointer (some ⟨gd, 0, none⟩)) := by rw [cell_of_row _ B 0 _ _ (0, 0) hrow]; rfl
    have d1 : wr.cell? ⟨B, 1, none⟩ = some (.int .i64 (from_ : Int)) := by rw [cell_of_row _ B 1 _ _ (0, 0) hrow]; rfl
    by_cases hlt : k < many
    · have hki : (k : Int) < (many : Int) := by omega
      obtain ⟨xs, hxs⟩ : ∃ xs, T[k]? = some xs := ⟨_, List.getElem?_eq_getElem (by omega)⟩
      obtain ⟨F, s, hd, hrd⟩ := hGs k wr xs hxs hGk
      have CR := Lib.hid (read_any hrd hd)
      obtain ⟨q, hq⟩ : ∃ q, from_ + k = q := ⟨_, rfl⟩
      have hsum : (from_ : Int) + (k : Int) = (q : Int) := by omega
      have hq2 : q ≤ 4096 := by omega
      rw [hq] at CR
      have HX := Lib.hid (And.intro hxs (And.intro hJs (And.intro hGk (And.intro hrow (And.intro hpre hk)))))
      clear hxs hJs hGk hrow hd hrd hq hpre hk
      gi_wp2_with (first
        | (refine ⟨trivial, ?_⟩; gi_at_call 95; refine (callsIn_wide.2 CR.out).mono ?_; rintro e w3 ⟨rfl, hB3, hb3⟩
           have hJ3 : J pre w3 := own_below hJ HX.out.2.1 hb3
           have hG3 : Gs k w3 := own_below (s := ()) (hGo k) HX.out.2.2.1 hb3
           have hrow3 : w3.heap[B]? = some (.cells #[.pointer (some ⟨gd, 0, none⟩), .int .i64 (from_ : Int), .int .i64 (many : Int)] 119 (0, 0)) := (hb3.block B (Array.getElem?_eq_some_iff.1 HX.out.2.2.2.1).1).trans HX.out.2.2.2.1
           obtain ⟨Bn, hBn⟩ : ∃ Bn, wr.heap.size = Bn := ⟨_, rfl⟩
           rw [hBn] at hB3 ⊢
           obtain ⟨fn, tmps, assign, body, hy, hR⟩ := hY pre (k, Bn) w3 hJ3 ⟨HX.out.2.2.2.2.1, ⟨xs, HX.out.1, hB3⟩, hG3⟩
           dsimp only [secV] at hy
           have HR := Lib.hid hR
           have H3 := Lib.hid hrow3
           clear hJ3 hG3 hrow3 hR hBn hB3 hb3))
      refine HR.out.mono ?_
      rintro e W4 (⟨rfl, hJ4, hG4, hk4⟩ | ⟨rfl, hJx⟩)
      · have hrow4 := hk4.1 _ _ _ _ hTy H3.out
        have H4 := Lib.hid (And.intro hJ4 (And.intro hG4 hrow4))
        clear hJ4 hG4 hk4 hrow4 HR H3
        gi_wp2
        go_roundw
        case rel =>
          have hk := HX.out.2.2.2.2.2
          have e1 : (pre ++ [(k, Bn)]).length = k + 1 := by rw [List.length_append, hk]; rfl
          have hG4 := H4.out.2.1
          refine ⟨pre ++ [(k, Bn)], by omega, ?_, by rw [e1]; go_num, H4.out.1, H4.out.2.1, H4.out.2.2⟩
          rw [List.map_append, e1, List.range_succ, HX.out.2.2.2.2.1]; rfl
        case measure => simp [intOf]; omega
      · clear HR
        gi_wp2
        refine bodyPost_ret (results_none rfl _ _ _) rfl ?_
        exact ⟨⟨_, rfl⟩, .inr ⟨pre ++ [(k, Bn)], ⟨k, hlt, by rw [List.map_append, List.range_succ, HX.out.2.2.2.2.1]; rfl⟩, hJx.1⟩⟩
    · obtain rfl : k = many := by omega
      have hki : decide ((k : Int) < (k : Int)) = false := by simp
      gi_wp2
      go_end0
      exact ⟨⟨_, rfl⟩, .inl ⟨pre, ⟨hpre, hGk⟩, hJs⟩⟩

end Go.Proofs.YthbgcijkpincfaaGreatDoor
