/-
  disks: Fail.
-/
import Derived.Test.YtcdlocbonjgcgaaDoorDTurn
import Derived.Deep.Cut
namespace Go.Proofs.YtcdlocbonjgcgaaDoor
open Go.RowKit

/-- '.slice A n c' reads as these bools. -/
structure InB (w : World) (A : Option Addr) (n : Nat) (ks : List Bool) : Prop where
  len : ks.length = n
  rd : ∀ j x, ks[j]? = some x → ∃ ad, A = some ad ∧ w.cell? (ad.add j) = some (.bool x)
theorem InB.below {w w' : World} {A : Option Addr} {n : Nat} {ks : List Bool} (h : InB w A n ks) (hb : Below w.heap.size w w') : InB w' A n ks := ⟨h.len, fun j x hx => by
  obtain ⟨ad, e, hc⟩ := h.rd j x hx
  exact ⟨ad, e, (hb.cell (World.block_lt_of_cell? w _ hc)).trans hc⟩⟩
theorem InB.none_ (w : World) (A : Option Addr) : InB w A 0 [] := ⟨rfl, fun j x h => by simp at h⟩

/-- The writes that are kept, of the first j. -/
def pick (ws : List (Nat × List Nat)) (ks : List Bool) (j : Nat) : List (Nat × List Nat) := (((ws.zip ks).take j).filter (·.2)).map (·.1)
theorem pick_step {ws : List (Nat × List Nat)} {ks : List Bool} {j : Nat} {x : Nat × List Nat} {b : Bool} (hx : ws[j]? = some x) (hb : ks[j]? = some b) : pick ws ks (j + 1) = pick ws ks j ++ (if b then [x] else []) := by
  have hz : (ws.zip ks)[j]? = some (x, b) := by
    rw [List.getElem?_zip_eq_some]
    exact ⟨hx, hb⟩
  rw [pick, pick, List.take_add_one, hz]
  cases b <;> simp
/-- Those that are kept. -/
def kept (ws : List (Nat × List Nat)) (ks : List Bool) : List (Nat × List Nat) := pick ws ks (min ws.length ks.length)
theorem pick_mem {ws : List (Nat × List Nat)} {ks : List Bool} {j : Nat} {x : Nat × List Nat} (h : x ∈ pick ws ks j) : x ∈ ws := by
  obtain ⟨y, hy, rfl⟩ := List.mem_map.1 h
  have h2 := List.mem_of_mem_take (List.mem_filter.1 hy).1
  exact (List.of_mem_zip h2).1

set_option maxRecDepth 100000 in
set_option maxHeartbeats 2000000 in
theorem fail_any {w : World} {g : Nat} {F : Nat → Prop} {s : St} (A : Option Addr) (n c : Nat) (ks : List Bool) (hk : InB w A n ks) (h : Disk w g F s) :
    Calls Tryd.prog 14 #[.pointer (some ⟨g, 0, none⟩), .slice A n c] w fun e w' => ∃ g', e = .returned (.tuple #[.pointer (some ⟨g', 0, none⟩), .int .i64 0]) ∧ Made w (fresh (settle s.sure (kept s.waits ks))) g' w' := by
  have hd := isThere_yes h
  obtain ⟨ok, ⟨a, b, ca, cb, v, h, hf⟩, hF⟩ := h
  obtain ⟨Av, cv, rfl, hnv, hAv, hcm⟩ := row_form h.row
  have C := clone_any h.sure ok.sec ok.pos ok.le
  have c0 := h.c0
  obtain ⟨m, hm⟩ : ∃ m, s.waits.length = m := ⟨_, rfl⟩
  rw [hm] at h hnv hAv
  have c2 := h.c2
  have H := Lib.hid (And.intro ok (And.intro h (And.intro hk (And.intro hAv (And.intro hm (And.intro hnv hcm))))))
  clear ok h hf hF hk hAv hm
  go_enter Tryd.func14, Tryd.ntmps14
  go_wp2_with fail
  refine hd.mono ?_
  rintro e w1 ⟨rfl, rfl⟩
  go_wp2_with fail
  refine C.mono ?_
  rintro e w1 ⟨y, cy, rfl, hR, hy, hb1⟩
  have c2' : w1.cell? ⟨g, 2, none⟩ = some (.slice Av m cv) := (hb1.cell H.out.2.1.lt).trans c2
  have H1 := Lib.hid (And.intro hR (And.intro hy hb1))
  clear hd C c0 c2 hR hy hb1
  obtain ⟨q, hq⟩ : ∃ q, min m n = q := ⟨_, rfl⟩
  have qm : q ≤ m := by omega
  have qn : q ≤ n := by omega
  have qc : q ≤ cv := by omega
  have hif : (if n < m then (n : Int) else (m : Int)) = (q : Int) := by split <;> omega
  have hqi : (q : Int) ≤ (cv : Int) := by omega
  go_wp2
  refine wp_region_still_lit (by kernel_rfl) (by kernel_rfl) ?_
  repeat still_step
  refine wpStill_nil ?_
  change Exit.then _ _ _ _ w1.drew
  have HQ := Lib.hid (And.intro hq (And.intro qm (And.intro qn qc)))
  have q63 : q ≤ 9223372036854775807 := by omega
  clear hif hqi c2' hq qm qc hnv hcm
  go_wp2
  go_loopw [31] (fun i wr => ∃ j : Nat, j ≤ q ∧ i = .int .i64 (j : Int) ∧ Hid (SecAt wr y cy (settle s.sure (pick s.waits ks j)) ∧ But (fun z => z = y) w1 wr)) (fun i _ => q - (intOf i).toNat)
  case atStart => exact ⟨0, Nat.zero_le _, rfl, Lib.hid ⟨by simpa [pick, settle] using H1.out.1.block (w' := w1.drew) rfl, (But.refl _ w1).drew⟩⟩
  case round =>
    obtain ⟨j, hj, rfl, hrel⟩ := hrel
    by_cases hlt : j < q
    · obtain ⟨gv, rfl⟩ := H.out.2.2.2.1 (by have := HQ.out.2.1; omega)
      obtain ⟨x, hx⟩ : ∃ x, s.waits[j]? = some x := ⟨_, List.getElem?_eq_getElem (by rw [H.out.2.2.2.2.1]; have := HQ.out.2.1; omega)⟩
      obtain ⟨kb, hkb⟩ : ∃ kb, ks[j]? = some kb := ⟨_, List.getElem?_eq_getElem (by rw [H.out.2.2.1.len]; omega)⟩
      obtain ⟨ad, rfl, hkc0⟩ := H.out.2.2.1.rd j kb hkb
      have hb1 := H1.out.2.2
      have hyw := H1.out.2.1
      have hbe : Below w.heap.size w wr := hb1.trans (hrel.out.2.below hb1.size (fun z hz => by rw [hz]; exact hyw))
      have hkc : wr.cell? (ad.add j) = some (.bool kb) := (hbe.cell (World.block_lt_of_cell? w _ hkc0)).trans hkc0
      have hws := H.out.1.wsec x (List.mem_of_getElem? hx)
      have hlw : gv < w.heap.size := own_lt H.out.2.1.row rfl
      have row : wr.ownsRow 0 79 65 (.slice (some ⟨gv, 0, none⟩) m cv) m (wcells s.waits).flatten := by
        have hr := H.out.2.1.row
        rw [H.out.2.2.2.2.1] at hr
        exact own_block hr (fun z hz => by cases hz; exact hbe.block gv hlw)
      have hwc := wcells_len (fun y hy => (H.out.1.wsec y hy).2)
      have hr := own_range row hwc (by rw [wcells, List.length_map]; exact H.out.2.2.2.2.1) (wcells_get hx)
      have hwl : (wcell x).length = 65 := hwc _ (List.mem_map.2 ⟨x, List.mem_of_getElem? hx, rfl⟩)
      have hk : x.1 < s.sure.length := hws.1
      have hki : (x.1 : Int) < (s.sure.length : Int) := by omega
      have hji : (j : Int) < (q : Int) := by omega
      have hjn : (j : Int) < (n : Int) := by omega
      have z1 := zeroWrite_run wr
      have hsA : (Tryd.prog.info? 79).map (·.size) = some (wcell x).toArray.size := by rw [List.size_toArray, hwl]; exact sizeWrite
      have hsB : zeroWrite.toArray.size = (wcell x).toArray.size := by rw [List.size_toArray, List.size_toArray, hwl]; rfl
      have HX := Lib.hid (And.intro hx (And.intro hws (And.intro hr (And.intro hwl (And.intro row (And.intro hsA (And.intro hsB (And.intro hkc (And.intro hkb hbe)))))))))
      clear hx hws hr hwl row hwc hsA hsB hkc hkb hkc0 hbe hb1 hyw
      go_upto_region 7 with (first
        | (with_reducible refine wpList_load_mid rfl 79 _ rfl gv (j * 65) rfl (wcell x) _ HX.out.2.2.1 Tryd.underlying79 rfl (by rw [HX.out.2.2.2.1]; exact sizeWrite) ?_)
        | (with_reducible refine wpList_store_fresh rfl wr 79 _ (wcell x).toArray _ _ rfl rfl rfl HX.out.2.2.2.2.2.1 HX.out.2.2.2.2.2.2.1 (all_oneCell_toArray (wcell_one x)) ?_))
      obtain ⟨W, hW⟩ : ∃ W, wr.alloc (Obj.cells (wcell x).toArray 79) = W := ⟨_, rfl⟩
      obtain ⟨B, hB⟩ : ∃ B, wr.heap.size = B := ⟨_, rfl⟩
      have hbW : Below wr.heap.size wr W := hW ▸ below_alloc wr _
      have hHW : W.heap[B]? = some (.cells (wcell x).toArray 79 (0, 0)) := by rw [← hW, ← hB]; exact World.alloc_heap_new wr _
      have cK : W.cell? (ad.add j) = some (.bool kb) := (hbW.cell (World.block_lt_of_cell? wr _ HX.out.2.2.2.2.2.2.2.1)).trans HX.out.2.2.2.2.2.2.2.1
      have cB : W.cell? ⟨B, 0, none⟩ = some (.int .i64 (x.1 : Int)) := by rw [cell_of_row _ B 0 _ _ (0, 0) hHW]; rfl
      have rB : W.rangeAt B 1 (bvs x.2) := fun i u hu => by
        rw [cell_of_row _ B (1 + i) _ _ (0, 0) hHW, Nat.add_comm 1 i, List.getElem?_toArray, wcell, List.getElem?_cons_succ]
        exact hu
      have hsec := hrel.out.1.below hbW
      have hlen : (settle s.sure (pick s.waits ks j)).length = s.sure.length := settle_length _ _
      have hstep := pick_step HX.out.1 HX.out.2.2.2.2.2.2.2.2.1
      have hsx : (bvs x.2).length = 64 := by rw [bvs_length, HX.out.2.1.2.1]
      have htA := hsec.there (k := x.1) (by rw [hlen]; exact hk)
      have hsC : (Tryd.prog.info? 68).map (·.size) = some (bvs x.2).length := by rw [hsx]; exact sizeSector
      have hsD : (Tryd.prog.info? 68).map (·.size) = some (bvs x.2).toArray.size := by rw [List.size_toArray]; exact hsC
      have htD : W.there y (x.1 * 64) (bvs x.2).toArray.size := by rw [List.size_toArray, hsx]; exact htA
      have HW := Lib.hid (And.intro rB (And.intro hbW (And.intro hsec (And.intro hlen (And.intro hstep (And.intro hsx (And.intro htD (And.intro hsC hsD))))))))
      rw [hB, hW]
      clear z1 hW rB hbW hHW hB hsec hlen hstep hsx htA hsC hsD htD
      cases kb
      · go_wp2
        go_roundw
        case rel =>
          refine ⟨j + 1, by omega, by go_num, Lib.hid ⟨?_, hrel.out.2.trans (But.of_below HW.out.2.1)⟩⟩
          rw [HW.out.2.2.2.2.1]
          simpa using HW.out.2.2.1
        case measure => simp [intOf]; omega
      · go_wp2_with (first
          | (with_reducible refine wpList_load_mid rfl 68 _ rfl B 1 rfl (bvs x.2) _ HW.out.1 Tryd.underlying68 rfl HW.out.2.2.2.2.2.2.2.1 ?_)
          | (with_reducible refine wpList_store_mid rfl 68 _ _ rfl y (x.1 * 64) (bvs x.2).toArray rfl rfl HW.out.2.2.2.2.2.2.1 HW.out.2.2.2.2.2.2.2.2 (all_oneCell_toArray (bvs_oneCell _)) ?_))
        have hnew := SecAt.set HW.out.2.2.1 (settle_sec H.out.1.sec (fun z hz => (H.out.1.wsec z (pick_mem hz)).2)) (k := x.1) (by rw [HW.out.2.2.2.1]; exact hk) HX.out.2.1.2.1
        have hbut := (hrel.out.2.trans (But.of_below HW.out.2.1)).grown (setCells_grown y (bvs x.2) W (x.1 * 64)) (fun z e _ => by injection e with e; exact e.symm)
        go_roundw
        case rel =>
          refine ⟨j + 1, by omega, by go_num, Lib.hid ⟨?_, hbut⟩⟩
          rw [HW.out.2.2.2.2.1]
          simpa [settle_snoc] using hnew
        case measure => simp [intOf]; omega
    · obtain rfl : j = q := by omega
      have hji : decide ((j : Int) < (j : Int)) = false := by simp
      have hs := hrel.out.1
      have hlen : (settle s.sure (pick s.waits ks j)).length = s.sure.length := settle_length _ _
      have hbe : Below w.heap.size w wr := H1.out.2.2.trans (hrel.out.2.below H1.out.2.2.size (fun z hz => by rw [hz]; exact H1.out.2.1))
      have C := diskOf_any hbe hs H1.out.2.1 (settle_sec H.out.1.sec (fun z hz => (H.out.1.wsec z (pick_mem hz)).2)) (by rw [hlen]; exact H.out.1.pos) (by rw [hlen]; exact H.out.1.le)
      rw [hlen] at C
      have hkq : pick s.waits ks j = kept s.waits ks := by rw [kept, H.out.2.2.2.2.1, H.out.2.2.1.len, HQ.out.1]
      rw [hkq] at C
      have HC := Lib.hid C
      clear C hs hlen hbe hkq
      go_wp2_with fail
      refine HC.out.mono ?_
      rintro e w2 ⟨g', rfl, hM⟩
      go_wp2
      go_ret2
      exact ⟨g', rfl, hM⟩

end Go.Proofs.YtcdlocbonjgcgaaDoor
