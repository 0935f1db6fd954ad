/-
  ShasRun: behind each part that is written a run has the sum of all so far.
-/
import Derived.Test.YtineheaiphommaaDoorRefOf
import Derived.Test.YtineheaiphommaaDoorLTwin
import Derived.Test.YtineheaiphommaaDoorLRows
import Derived.Test.YtineheaiphommaaDoorShaLawTaken
import Derived.Test.YtineheaiphommaaDoorShaWritten
namespace Go.Proofs.YtineheaiphommaaDoor
open Go.RowKit

def tot (rows : List (List Nat)) : Nat := (rows.map List.length).sum
theorem tot_snoc (rows : List (List Nat)) (xs : List Nat) : tot (rows ++ [xs]) = tot rows + xs.length := by simp [tot]
theorem rows_snoc {rows : List (List Nat)} {j : Nat} {xs : List Nat} (h : rows[j]? = some xs) : rows.take (j + 1) = rows.take j ++ [xs] := by
  rw [List.take_add_one, h]; rfl
theorem tot_take (rows : List (List Nat)) (j : Nat) : tot (rows.take j) ≤ tot rows := by
  have : tot rows = tot (rows.take j) + tot (rows.drop j) := by
    unfold tot
    rw [← List.sum_append_nat, ← List.map_append, List.take_append_drop]
  omega

theorem neq_same (s : List Nat) (hs : s.length = 32) (W : World) : (binOp .neq 51 (sv s) (sv s)).run Tryd.prog W = .ok (.bool false) W := by
  rw [run_neq_sum s s hs hs W, decide_eq_true rfl]
  rfl

/-- How much lists hold, told if it is not more than 15000. -/
def Holds (n : Nat) (w : World) (e : Ending) (w' : World) : Prop := ∃ R : Nat, e = .returned (.int .i64 (R : Int)) ∧ (R ≤ 15000 → R = n) ∧ w = w'

set_option maxRecDepth 100000 in
set_option maxHeartbeats 1000000 in
theorem bytesSize_any (A : Option Addr) (n c : Nat) (w : World) :
    Calls Tryd.prog 66 #[.slice A n c] w fun e w' => e = .returned (.int .i64 (n : Int)) ∧ w = w' := by
  go_enter Tryd.func66, Tryd.ntmps66
  go_wp2
  go_ret
  exact ⟨rfl, rfl⟩

set_option maxRecDepth 100000 in
set_option maxHeartbeats 1000000 in
theorem listsSize_any (Ao : Option Addr) (no co : Nat) (rows : List (List Nat)) (w : World) (h : CameRows w Ao no rows) (hno : no ≤ 50) :
    Calls Tryd.prog 24 #[.slice Ao no co] w (Holds (no + tot rows) w) := by
  go_enter Tryd.func24, Tryd.ntmps24
  go_wp2
  go_loop [3, 4] (fun s i => ∃ j z : Nat, j ≤ no ∧ i = .int .i64 (j : Int) ∧ s = .int .i64 (z : Int) ∧ z = no + tot (rows.take j) ∧ z ≤ 140737489403904) (fun _ i => no - (intOf i).toNat)
  case atStart => exact ⟨0, no, by omega, rfl, rfl, rfl, by omega⟩
  case round =>
    obtain ⟨j, z, hj, rfl, rfl, hz, hzb⟩ := hrel
    have HZ := Lib.hid hz
    clear hz
    by_cases hlt : j < no
    · by_cases hs : z ≤ 1048576
      · obtain ⟨xs, hxs⟩ : ∃ xs, rows[j]? = some xs := ⟨_, List.getElem?_eq_getElem (by rw [h.len]; exact hlt)⟩
        obtain ⟨ad, A, n, c, rfl, hcell, hcame, hn⟩ := h.row j xs hxs
        have HX := Lib.hid (And.intro hxs hcame)
        have hji : (j : Int) < (no : Int) := by omega
        have hzi : (z : Int) ≤ 1048576 := by omega
        clear hxs hcame
        go_wp2_with (go_at_call 66; refine (bytesSize_any A n c _).mono ?_; rintro e w' ⟨rfl, rfl⟩)
        go_round
        case rel =>
          refine ⟨j + 1, z + n, by omega, by go_num, by go_num, ?_, by omega⟩
          rw [rows_snoc HX.out.1, tot_snoc, HX.out.2.in_.len, HZ.out]
          omega
        case measure => simp [intOf]; omega
      · have hji : (j : Int) < (no : Int) := by omega
        have hzi : decide ((z : Int) ≤ 1048576) = false := by simp; omega
        go_wp2
        go_ret
        exact ⟨z, rfl, fun hh => absurd hh (by omega), rfl⟩
    · have hji : decide ((j : Int) < (no : Int)) = false := by simp; omega
      obtain rfl : j = no := by omega
      rw [List.take_of_length_le (by rw [h.len]; omega)] at HZ
      go_wp2
      go_ret
      exact ⟨z, rfl, fun _ => HZ.out, rfl⟩

theorem flat_length (rows : List (List Nat)) : rows.flatten.length = tot rows := by rw [List.length_flatten, tot]
theorem flat_snoc {rows : List (List Nat)} {j : Nat} {xs : List Nat} (h : rows[j]? = some xs) : (rows.take (j + 1)).flatten = (rows.take j).flatten ++ xs := by
  rw [rows_snoc h, List.flatten_append]; simp

/-- What is owned stays owned where the blocks from base on are as they were. -/
theorem own_keep {w w' : World} {base : Nat} {e : TypeId} {size : Nat} {v : Value} {n : Nat} {xs : List Value} (h : w.ownsRow base e size v n xs) (hk : ∀ k, base ≤ k → k < w.heap.size → w'.heap[k]? = w.heap[k]?) : w'.ownsRow base e size v n xs := by
  refine ⟨h.1, ?_⟩
  rcases h.2 with ⟨e1, h0⟩ | ⟨g, cap, cur, e1, h1, hg, h2⟩
  · exact .inl ⟨e1, h0⟩
  · exact .inr ⟨g, cap, cur, e1, h1, (hk g h1 (Array.getElem?_eq_some_iff.1 hg).1).trans hg, h2⟩

/-- Block g has m bytes, whatever they are. -/
def Bytes8 (w : World) (g m : Nat) : Prop := ∃ cs : Array Value, cs.size = m ∧ w.heap[g]? = some (.cells cs 5 (0, 0)) ∧ ∀ k, k < m → ∃ z : Int, cs[k]? = some (.int .u8 z)
theorem Bytes8.at_ {w : World} {g m k : Nat} (h : Bytes8 w g m) (hk : k < m) : ∃ z : Int, w.cell? ⟨g, k, none⟩ = some (.int .u8 z) := by
  obtain ⟨cs, _, hg, hc⟩ := h
  obtain ⟨z, hz⟩ := hc k hk
  exact ⟨z, by rw [cell_of_row _ g k _ _ (0, 0) hg, hz]⟩
theorem Bytes8.free {w : World} {g m : Nat} (h : Bytes8 w g m) (k : Nat) : w.frozen? ⟨g, k, none⟩ = false := by
  obtain ⟨cs, _, hg, _⟩ := h
  exact frozen_of_row w g k _ _ hg
theorem Bytes8.set {w : World} {g m : Nat} (h : Bytes8 w g m) (i : Nat) (z : Int) : Bytes8 (w.setCell ⟨g, i, none⟩ (.int .u8 z)) g m := by
  obtain ⟨cs, hs, hg, hc⟩ := h
  refine ⟨cs.setIfInBounds i (.int .u8 z), by rw [Array.size_setIfInBounds, hs], heap_setCell_same w g i _ _ _ hg, fun k hk => ?_⟩
  rw [Array.getElem?_setIfInBounds]
  by_cases e : i = k
  · rw [if_pos e, if_pos (by omega)]; exact ⟨z, rfl⟩
  · rw [if_neg e]; exact hc k hk
theorem Twin.bytes8 {w : World} {g n : Nat} {xs : List Nat} (h : Twin w g n xs) : Bytes8 w g (n + 1) := by
  refine ⟨_, ?_, h.2, fun k hk => ?_⟩
  · rw [List.size_toArray, bvs_length, List.length_append, h.1]; rfl
  · rw [List.getElem?_toArray, bvs_get, List.getElem?_eq_getElem (by rw [List.length_append, h.1]; exact hk)]
    exact ⟨_, rfl⟩

theorem rows_lt {w : World} {Ao : Option Addr} {no : Nat} {rows : List (List Nat)} (h : CameRows w Ao no rows) (j : Nat) : ∀ x ∈ (rows.take j).flatten, x < 256 := by
  intro x hx
  obtain ⟨l, hl, hxl⟩ := List.mem_flatten.1 hx
  obtain ⟨i, hi⟩ := List.mem_iff_getElem?.1 (List.mem_of_mem_take hl)
  obtain ⟨_, _, _, _, _, _, hc, _⟩ := h.row i l hi
  exact hc.lt x hxl

/-- A sum that may be asked for, in a region that only reads and calls. -/
theorem quiet_load_sum' {ops : Array Oper} {o : Oper} {a : Act} {C : World → Prop} {K : Act → Prop} {E : Prop} (hw : Region.wanted o (yielded ops a.tmps) = true) (x : Operand) (ho : o.op = .load 51 x)
    (ad : Addr) (hx : a.eval x = .pointer (some ad)) (s : List Nat) (hl : s.length = 32) (hc : ∀ w, C w → At w ad s) (h : K (a.put o.dst (sv s))) :
    if Region.wanted o (yielded ops a.tmps) = true then o.quiet Tryd.prog a C K else E := by
  rw [if_pos hw]
  refine ⟨sv s, fun w hC => ?_, h⟩
  unfold Oper.quietAt execOp
  simp only [ho, hx, Instr.loadAt, Instr.sureAddr, Sem.run_bind, Sem.run_pure, Result.andThen_ok, run_load_sum w ad s hl (hc w hC)]
  exact ⟨rfl, rfl⟩

/-- What holds of the memory ahead of each part. -/
structure RunInv (w : World) (rows : List (List Nat)) (j : Nat) (A : Option Addr) (c : Nat) (wr : World) : Prop where
  ran : ∃ blk, Ran wr w.heap.size (rows.take j).flatten blk
  own : wr.ownsRow (w.heap.size + 1) 5 1 (.slice A (tot (rows.take j)) c) (tot (rows.take j)) (bvs (rows.take j).flatten)
  below : Below w.heap.size w wr
  size : w.heap.size < wr.heap.size

set_option maxRecDepth 100000 in
set_option maxHeartbeats 1000000 in
theorem run_long (Ao : Option Addr) (no co : Nat) (w : World) (h : 50 < no) :
    Calls Tryd.prog 5 #[.slice Ao no co] w fun e w' => e = .returned (.bool true) ∧ Below w.heap.size w w' := by
  go_enter Tryd.func5, Tryd.ntmps5
  go_wp2
  go_ret
  exact ⟨rfl, Below.refl _ _⟩

set_option maxRecDepth 100000 in
set_option maxHeartbeats 2000000 in
theorem run_short (Ao : Option Addr) (no co : Nat) (rows : List (List Nat)) (w : World) (hc : CameRows w Ao no rows) (hk : Knows w) (hs : Starts w) (h : no ≤ 50) :
    Calls Tryd.prog 5 #[.slice Ao no co] w fun e w' => e = .returned (.bool true) ∧ Below w.heap.size w w' := by
  have C1 := Lib.hid (listsSize_any Ao no co rows w hc h)
  go_enter Tryd.func5, Tryd.ntmps5
  go_wp2_with fail
  refine C1.out.mono ?_
  rintro e w' ⟨R, rfl, hR, rfl⟩
  clear C1
  by_cases hR2 : R ≤ 15000
  · have hRt := hR hR2
    have ht : tot rows ≤ 15000 := by omega
    have HR := Lib.hid hRt
    have hRi : decide (15000 < (R : Int)) = false := by simp; omega
    clear hR hRt
    have q0 := neq_same (sha []) (sha_length [])
    have q5 := run_guard_neq
    obtain ⟨s0, hs0⟩ : ∃ s, sha [] = s := ⟨_, rfl⟩
    rw [hs0] at q0
    have HS0 := Lib.hid hs0
    clear hs0
    go_wp2_with fail
    refine (new_any w hs).mono ?_
    rintro e w1 ⟨rfl, hw1⟩
    have r1 := ran_new w
    rw [← hw1] at r1
    have b1 : Below w.heap.size w w1 := by rw [hw1]; exact below_alloc w _
    have z1 : w.heap.size < w1.heap.size := by rw [hw1, World.size_alloc]; omega
    clear hw1
    have C2 := Lib.hid (sum_any w.heap.size [] zero64 w1 r1 (hk.below b1) (by simp))
    rw [HS0.out] at C2
    go_wp2_with fail
    refine C2.out.mono ?_
    rintro e w2 ⟨rfl, hb2⟩
    have C3 := Lib.hid (refOf_any none 0 0 [] w2 (In.none_ _ _) (by simp) (fun _ => rfl) (by omega))
    rw [HS0.out] at C3
    go_wp2_with fail
    refine C3.out.mono ?_
    rintro e w3 ⟨rfl, hb3⟩
    have h13 := below_on hb2 (Nat.le_refl _) hb3
    have inv0 : RunInv w rows 0 none 0 w3 := ⟨⟨_, r1.below h13⟩, ⟨rfl, .inl ⟨rfl, rfl⟩⟩, below_on b1 (Nat.le_refl _) h13, Nat.lt_of_lt_of_le z1 h13.size⟩
    have HI := Lib.hid inv0
    clear inv0 h13 hb2 hb3 r1 b1 z1 C2 C3
    go_wp2
    clear q0
    go_loopw [4, 5] (fun v i wr => ∃ (j : Nat) (A : Option Addr) (c : Nat), j ≤ no ∧ i = .int .i64 (j : Int) ∧ v = .slice A (tot (rows.take j)) c ∧ RunInv w rows j A c wr) (fun _ i _ => no - (intOf i).toNat)
    case atStart => exact ⟨0, none, 0, by omega, rfl, rfl, HI.out⟩
    case round =>
      clear HI
      obtain ⟨j, Aa, ca, hj, rfl, rfl, I⟩ := hrel
      obtain ⟨wo, rfl⟩ : ∃ wo : World, wo = wr := ⟨_, rfl⟩
      by_cases hlt : j < no
      · obtain ⟨xs, hxs⟩ : ∃ xs, rows[j]? = some xs := ⟨_, List.getElem?_eq_getElem (by rw [hc.len]; exact hlt)⟩
        obtain ⟨ad, A, n, c, rfl, hcell0, hcame0, _⟩ := hc.row j xs hxs
        have cellAt : ∀ W, Below w.heap.size w W → W.cell? (ad.add j) = some (.slice A n c) := fun W hW => (hW.cell (World.block_lt_of_cell? w _ hcell0)).trans hcell0
        have hcell := cellAt wo I.below
        have hcame := hcame0.below I.below
        have CA := Lib.hid cellAt
        have HC0 := Lib.hid hcame0
        clear cellAt hcell0 hcame0
        obtain ⟨blk, hran⟩ := I.ran
        obtain ⟨F, hF⟩ : ∃ F, (rows.take j).flatten = F := ⟨_, rfl⟩
        obtain ⟨t, htj⟩ : ∃ t, tot (rows.take j) = t := ⟨_, rfl⟩
        have hFl : F.length = t := by rw [← hF, flat_length, htj]
        have hnl : xs.length = n := hcame.in_.len
        have hnext : (rows.take (j + 1)).flatten = F ++ xs := by rw [flat_snoc hxs, hF]
        have htn : tot (rows.take (j + 1)) = t + n := by rw [rows_snoc hxs, tot_snoc, htj, hnl]
        have hb : t + n ≤ 15000 := by rw [← htn]; exact Nat.le_trans (tot_take rows _) ht
        have hown := I.own
        rw [hF] at hran hown
        rw [htj] at hown ⊢
        have HN := Lib.hid (And.intro hnext (And.intro htn (And.intro hFl hxs)))
        have HI := Lib.hid I
        clear hF htj hFl hnl hnext htn hxs I
        have hji : (j : Int) < (no : Int) := by omega
        have C1 := Lib.hid (twinBytes_any A n c xs wo hcame.in_ (by omega))
        go_wp2_with fail
        refine C1.out.mono ?_
        rintro e w1 ⟨rfl, ht1, hb1⟩
        have hGT : w.heap.size < wo.heap.size := HI.out.size
        have C2 := Lib.hid (write_any w.heap.size F blk (some ⟨wo.heap.size, 0, none⟩) n (n + 1) xs w1 (hran.below hb1) ht1.in_ hcame.lt (fun _ a e => by cases e; show wo.heap.size ≠ w.heap.size; omega) (by omega) ((hk.below HI.out.below).below hb1) (by have := hk.lt; omega) (by have := HN.out.2.2.1; omega))
        clear C1
        go_wp2_with fail
        refine C2.out.mono ?_
        rintro e w2 ⟨rfl, ⟨blk2, hran2⟩, ho2⟩
        have bel1 := below_on HI.out.below (Nat.le_refl _) hb1
        have bel2 : Below w.heap.size w w2 := Only.below bel1 (Nat.le_refl _) (Nat.le_refl _) ho2
        have ht2 : Twin w2 wo.heap.size n xs := ⟨ht1.1, ho2.heap (by omega) ht1.2⟩
        have hkeep : ∀ k, w.heap.size + 1 ≤ k → k < wo.heap.size → w2.heap[k]? = wo.heap[k]? := fun k h1 h2 => (ho2.block k (Nat.lt_of_lt_of_le h2 hb1.size) (by omega)).trans (hb1.block k h2)
        have hcell2 := CA.out w2 bel2
        have C3 := Lib.hid (leftBytes_yes A wo.heap.size n c xs w2 ht2 (HC0.out.below bel2).in_ (by omega))
        have HK := Lib.hid (And.intro bel2 (And.intro ht2 (And.intro hkeep hran2)))
        clear C2 bel1 bel2 ht2 hkeep hran2 ho2 ht1 hb1 hcell hcame hran
        go_wp2_with fail
        refine C3.out.mono ?_
        rintro e w3 ⟨rfl, q, rfl⟩
        clear C3 hcell2
        go_wp2
        go_loopw [8] (fun i wr => ∃ (k : Nat), k ≤ n ∧ i = .int .i64 (k : Int) ∧ Bytes8 wr wo.heap.size (n + 1) ∧ Below wo.heap.size (w2.drewN q) wr) (fun i _ => n - (intOf i).toNat)
        case atStart => exact ⟨0, by omega, rfl, HK.out.2.1.bytes8, Below.refl _ _⟩
        case round =>
          obtain ⟨k, hkn, rfl, B8, hbT⟩ := hrel
          by_cases hlk : k < n
          · obtain ⟨z, hz⟩ := B8.at_ (show k < n + 1 by omega)
            have fz := B8.free k
            have hki : (k : Int) < (n : Int) := by omega
            go_wp2
            go_roundw
            case rel => exact ⟨k + 1, by omega, by go_num, B8.set k _, hbT.setCell (by show wo.heap.size ≤ wo.heap.size; omega) _⟩
            case measure => simp [intOf]; omega
          · obtain rfl : k = n := by omega
            have hki : decide ((k : Int) < (k : Int)) = false := by simp
            have belw : Below w.heap.size w wr := ⟨hbT.os.trans HK.out.1.os, hbT.tape.trans HK.out.1.tape, hbT.output.trans HK.out.1.output, Nat.le_trans HK.out.1.size hbT.size, fun i hi => (hbT.block i (by omega)).trans (HK.out.1.block i hi)⟩
            have ranw : Ran wr w.heap.size (F ++ xs) blk2 := ⟨⟨HK.out.2.2.2.at_.s8, HK.out.2.2.2.at_.b64, (hbT.block _ hGT).trans HK.out.2.2.2.at_.heap⟩, HK.out.2.2.2.lt, HK.out.2.2.2.rest⟩
            have ownw := own_keep hown (w' := wr) (fun i h1 h2 => (hbT.block i h2).trans (HK.out.2.2.1 i h1 h2))
            have zw : w.heap.size + 1 ≤ wr.heap.size := by have := hbT.size; have := HK.out.1.size; have := HK.out.2.1.lt; have e : (w2.drewN q).heap.size = w2.heap.size := rfl; omega
            have hcellw := CA.out wr belw
            have inw := (HC0.out.below belw).in_
            have nlw := HC0.out.nil
            have HW := Lib.hid (And.intro belw (And.intro ranw zw))
            have HNl := Lib.hid nlw
            clear belw ranw B8 hbT HK hown nlw
            have leb : t + k ≤ 140737488355328 := by omega
            go_upto_region 19 with (at_builtin; refine wpList_app _ rfl (.tmp 62) (.tmp 66) rfl (w.heap.size + 1) Aa t ca F rfl ownw A k c xs rfl inw HNl.out leb zw ?_; intro A5 c5 w5 ho5 hb5)
            have bel5 : Below w.heap.size w w5 := HW.out.1.trans (hb5.mono (by omega))
            have ran5 : Ran w5 w.heap.size (F ++ xs) blk2 := ⟨⟨HW.out.2.1.at_.s8, HW.out.2.1.at_.b64, (hb5.block _ (by omega)).trans HW.out.2.1.at_.heap⟩, HW.out.2.1.lt, HW.out.2.1.rest⟩
            have i5 : In w5 A5 (t + k) (F ++ xs) := In.of_own ho5
            have hlt' : ∀ x ∈ F ++ xs, x < 256 := by rw [← HN.out.1]; exact rows_lt hc (j + 1)
            have C5 := Lib.hid (refOf_any A5 (t + k) c5 (F ++ xs) w5 i5 hlt' (own_nil ho5) (by omega))
            have hFx : (F ++ xs).length = t + k := i5.len
            have q6 := neq_same (sha (F ++ xs)) (sha_length _)
            have hsl := sha_length (F ++ xs)
            obtain ⟨s5, hs5⟩ : ∃ s, sha (F ++ xs) = s := ⟨_, rfl⟩
            rw [hs5] at C5 q6 hsl
            have HV := Lib.hid (And.intro hs5 (And.intro bel5 (And.intro ran5 (And.intro ho5 hFx))))
            have z5 := hb5.size
            clear hs5 bel5 ran5 i5 hlt' ho5 hb5 ownw inw hcellw hFx
            go_wp2_with fail
            refine C5.out.mono ?_
            rintro e w6 ⟨rfl, hb6⟩
            go_upto_region 20 with ((with_reducible refine wpList_store_new w6 _ ?_ rfl (.tmp 9) (.tmp 69) rfl rfl s5 hsl rfl ?_); · simp)
            obtain ⟨w7, hw7⟩ : ∃ w7, w7 = w6.alloc (.cells (bvs s5).toArray 51) := ⟨_, rfl⟩
            have hat : At w7 ⟨w6.heap.size, 0, none⟩ s5 := by rw [hw7]; exact (BArr.new w6 51 s5).at_
            have hb67 : Below w5.heap.size w5 w7 := by rw [hw7]; exact below_on hb6 (Nat.le_refl _) (below_alloc w6 _)
            rw [← hw7]
            have HW7 := Lib.hid (And.intro hat hb67)
            clear hw7 hat hb67 hb6 C5
            have bel7 := below_on HV.out.2.1 (Nat.le_refl _) HW7.out.2
            have CS := Lib.hid (fun (W : World) (hW : Below w7.heap.size w7 W) => (sum_any w.heap.size (F ++ xs) blk2 W ((HV.out.2.2.1.below HW7.out.2).below hW) ((hk.below bel7).below hW) (by have := HV.out.2.2.2.2; omega)))
            rw [HV.out.1] at CS
            have HB7 := Lib.hid bel7
            clear bel7
            refine wp_region_quiet (C := fun w' => Below w7.heap.size w7 w') (by kernel_rfl) (by kernel_rfl) ((Below.refl _ _).drew) ?_
            repeat (refine wpQuiet_step (fun K hK => ?_); go_simp; refine ⟨_, fun _ _ => rfl, hK _ ?_⟩; clear hK K)
            refine wpQuiet_step (fun K hK => ?_)
            go_simp
            refine ⟨sv s5, fun W hC => ?_, hK _ ?_⟩
            · exact (CS.out W hC).mono fun e w'' ⟨he, hb'⟩ => ⟨he, below_on hC (Nat.le_refl _) hb'⟩
            clear hK K
            refine wpQuiet_step (fun K hK => ?_)
            refine quiet_load_sum rfl (.tmp 9) rfl ⟨w6.heap.size, 0, none⟩ rfl s5 hsl (fun W hC => HW7.out.1.below hC) (hK _ ?_)
            clear hK K
            repeat (refine wpQuiet_step (fun K hK => ?_); go_simp; refine ⟨_, fun _ _ => rfl, hK _ ?_⟩; clear hK K)
            refine wpQuiet_step (fun K hK => ?_)
            go_simp
            refine ⟨sv s5, fun W hC => ?_, hK _ ?_⟩
            · exact (CS.out W hC).mono fun e w'' ⟨he, hb'⟩ => ⟨he, below_on hC (Nat.le_refl _) hb'⟩
            clear hK K
            refine wpQuiet_step (fun K hK => ?_)
            refine quiet_load_sum' (by rfl) (.tmp 9) rfl ⟨w6.heap.size, 0, none⟩ rfl s5 hsl (fun W hC => HW7.out.1.below hC) (hK _ ?_)
            clear hK K
            repeat (refine wpQuiet_step (fun K hK => ?_); go_simp; refine ⟨_, fun _ _ => rfl, hK _ ?_⟩; clear hK K)
            refine wpQuiet_nil ?_
            intro w8 hb8
            go_wp2
            go_roundw
            case rel =>
              have h58 := below_on HW7.out.2 (Nat.le_refl _) hb8
              refine ⟨j + 1, A5, c5, by omega, by go_num, by rw [HN.out.2.1], ⟨blk2, ?_⟩, ?_, below_on HB7.out (Nat.le_refl _) hb8, ?_⟩
              · rw [HN.out.1]; exact HV.out.2.2.1.below h58
              · rw [HN.out.1, HN.out.2.1]; exact own_below HV.out.2.2.2.1 h58
              · have := h58.size; omega
            case measure => simp [intOf]; omega
      · obtain rfl : j = no := by omega
        have hji : decide ((j : Int) < (j : Int)) = false := by simp
        go_wp2
        go_ret
        exact ⟨rfl, I.below⟩
  · have hRi : (15000 : Int) < (R : Int) := by omega
    go_wp2
    go_ret
    exact ⟨rfl, Below.refl _ _⟩

end Go.Proofs.YtineheaiphommaaDoor
