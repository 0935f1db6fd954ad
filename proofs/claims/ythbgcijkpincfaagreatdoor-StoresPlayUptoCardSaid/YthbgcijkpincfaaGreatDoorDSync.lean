/-
  disks: settle, Sync; writes that are not let be.
-/
import Derived.Test.YthbgcijkpincfaaGreatDoorDWrite
namespace Go.Proofs.YthbgcijkpincfaaGreatDoor
open Go.RowKit

set_option maxRecDepth 100000 in
set_option maxHeartbeats 1000000 in
theorem write_bad {w : World} {g : Nat} {F : Nat → Prop} {s : St} (z : Int) (A : Option Addr) (n c : Nat) (hz : ¬ (0 ≤ z ∧ z < (s.sure.length : Int) ∧ n ≤ 64)) (h : Disk w g F s) :
    Calls Tryz.prog 20 #[.pointer (some ⟨g, 0, none⟩), .int .i64 z, .slice A n c] w fun e w' => e = .returned (.int .i64 1) ∧ w = w' := by
  have hd := isThere_yes h
  have hh := has_any z h
  clear h
  by_cases h1 : 0 ≤ z ∧ z < (s.sure.length : Int)
  · rw [show decide (0 ≤ z ∧ z < (s.sure.length : Int)) = true by simpa using h1] at hh
    have hn : (64 : Int) < (n : Int) := by omega
    have hn2 : 64 < n := by omega
    clear hz h1
    go_enter Tryz.func20, Tryz.ntmps20
    go_wp2_with fail
    refine hd.mono ?_
    rintro e w1 ⟨rfl, rfl⟩
    go_wp2_with fail
    refine hh.mono ?_
    rintro e w1 ⟨rfl, rfl⟩
    go_wp2
    go_ret
    exact ⟨rfl, rfl⟩
  · rw [show decide (0 ≤ z ∧ z < (s.sure.length : Int)) = false by simpa using h1] at hh
    clear hz h1
    go_enter Tryz.func20, Tryz.ntmps20
    go_wp2_with fail
    refine hd.mono ?_
    rintro e w1 ⟨rfl, rfl⟩
    go_wp2_with fail
    refine hh.mono ?_
    rintro e w1 ⟨rfl, rfl⟩
    go_wp2
    go_ret
    exact ⟨rfl, rfl⟩

set_option maxRecDepth 100000 in
set_option maxHeartbeats 1000000 in
/-- The fuse lets no more be. -/
theorem write_blow {w : World} {g : Nat} {F : Nat → Prop} {s : St} {k : Nat} (hk : k < s.sure.length) (A : Option Addr) (n c : Nat) (hn : n ≤ 64) (hl : s.lets = 0) (h : Disk w g F s) :
    Calls Tryz.prog 20 #[.pointer (some ⟨g, 0, none⟩), .int .i64 (k : Int), .slice A n c] w fun e w' => e = .returned (.int .i64 9) ∧ Acted w g F s.burnt w' := by
  have hd := isThere_yes h
  have hh := has_any (k : Int) h
  have e1 : decide ((0 : Int) ≤ (k : Int) ∧ (k : Int) < (s.sure.length : Int)) = true := by simp; omega
  rw [e1] at hh
  obtain ⟨ok, ⟨a, b, ca, cb, v, h, hf⟩, hF⟩ := h
  have hlb := letBe_at ok h
  rw [show decide (s.lets ≠ 0) = false by simpa using hl] at hlb
  have hni : decide (64 < (n : Int)) = false := by simp; omega
  have H0 := Lib.hid (And.intro ok (And.intro hf hF))
  clear ok h hf hF e1 hl
  go_enter Tryz.func20, Tryz.ntmps20
  go_wp2_with fail
  refine hd.mono ?_
  rintro e w1 ⟨rfl, rfl⟩
  go_wp2_with fail
  refine hh.mono ?_
  rintro e w1 ⟨rfl, rfl⟩
  go_wp2_with fail
  refine hlb.mono ?_
  rintro e w1 ⟨rfl, h1, hg1, hs1⟩
  go_wp2
  go_ret
  exact ⟨rfl, acted_head H0.out.1.burnt h1 H0.out.2.1 H0.out.2.2 hg1⟩

theorem row_form {w : World} {base : Nat} {e : TypeId} {m n : Nat} {v : Value} {xs : List Value} (h : w.ownsRow base e m v n xs) : ∃ A c, v = .slice A n c ∧ n ≤ c ∧ (0 < n → ∃ g, A = some ⟨g, 0, none⟩) ∧ c ≤ 9223372036854775807 := by
  rcases h.2 with ⟨rfl, rfl⟩ | ⟨g, cap, cur, rfl, _, _, hc, hm, _⟩
  · exact ⟨none, 0, rfl, Nat.le_refl _, fun h => by omega, by omega⟩
  · exact ⟨some ⟨g, 0, none⟩, cap, rfl, hc, fun _ => ⟨g, rfl⟩, by unfold maxLen at hm; omega⟩

theorem settle_take {R : List (List Nat)} {ws : List (Nat × List Nat)} {j : Nat} {x : Nat × List Nat} (hx : ws[j]? = some x) : settle R (ws.take (j + 1)) = (settle R (ws.take j)).set x.1 x.2 := by
  rw [List.take_add_one, hx]
  exact settle_snoc _ _ _

/-- What is left behind settle. -/
def St.settled (s : St) : St := ⟨s.read, [], s.lets, s.blown⟩
theorem St.settled_read (s : St) : s.settled.read = s.read := rfl
theorem St.Ok.settled {s : St} (h : s.Ok) : s.settled.Ok :=
  ⟨by show 0 < s.read.length; rw [s.read_length]; exact h.pos, by show s.read.length ≤ 4096; rw [s.read_length]; exact h.le, h.read, (fun x hx => by cases hx), h.lo, h.hi⟩

set_option maxRecDepth 100000 in
set_option maxHeartbeats 2000000 in
theorem settle_at {w : World} {g a b ca cb : Nat} {v : Value} {s : St} (ok : s.Ok) (h : DiskAt w g a b ca cb v s) :
    Calls Tryz.prog 84 #[.pointer (some ⟨g, 0, none⟩)] w fun e w' => e = .returned (.tuple #[]) ∧ DiskAt w' g a b ca cb (.slice none 0 0) s.settled ∧ But (fun x => x = g ∨ x = a) w w' := by
  obtain ⟨A, c, rfl, hnc, hA, hcm⟩ := row_form h.row
  obtain ⟨n, hn⟩ : ∃ n, s.waits.length = n := ⟨_, rfl⟩
  rw [hn] at h hnc hA
  have hnm : n ≤ 9223372036854775807 := Nat.le_trans hnc hcm
  clear hcm
  have c2 := h.c2
  have f2 := h.fz 2
  have H := Lib.hid (And.intro h (And.intro ok (And.intro hnc (And.intro hA hn))))
  clear h ok hnc hA hn
  go_enter Tryz.func84, Tryz.ntmps84
  go_wp2
  go_loopw [9] (fun i wr => ∃ j : Nat, j ≤ n ∧ i = .int .i64 (j : Int) ∧ Hid (SecAt wr a ca (settle s.sure (s.waits.take j)) ∧ But (fun x => x = a) w wr)) (fun i _ => n - (intOf i).toNat)
  case atStart => exact ⟨0, Nat.zero_le _, rfl, Lib.hid ⟨H.out.1.sure, But.refl _ w⟩⟩
  case round =>
    obtain ⟨j, hj, rfl, hrel⟩ := hrel
    by_cases hlt : j < n
    · obtain ⟨gv, rfl⟩ := H.out.2.2.2.1 (by omega)
      obtain ⟨x, hx⟩ : ∃ x, s.waits[j]? = some x := ⟨_, List.getElem?_eq_getElem (by rw [H.out.2.2.2.2]; exact hlt)⟩
      have hws := H.out.2.1.wsec x (List.mem_of_getElem? hx)
      have hlw : gv < w.heap.size := own_lt H.out.1.row rfl
      have row : wr.ownsRow 0 141 65 (.slice (some ⟨gv, 0, none⟩) n c) n (wcells s.waits).flatten := by
        have hr := H.out.1.row
        rw [H.out.2.2.2.2] at hr
        exact own_block hr (fun y hy => by cases hy; exact hrel.out.2.block gv hlw (fun e => H.out.1.av rfl e.symm))
      have hwc := wcells_len (fun y hy => (H.out.2.1.wsec y hy).2)
      have hr := own_range row hwc (by rw [wcells, List.length_map]; exact H.out.2.2.2.2) (wcells_get hx)
      have hwl : (wcell x).length = 65 := hwc _ (List.mem_map.2 ⟨x, List.mem_of_getElem? hx, rfl⟩)
      have hk : x.1 < s.sure.length := hws.1
      have hki : (x.1 : Int) < (s.sure.length : Int) := by omega
      have c0 : wr.cell? ⟨g, 0, none⟩ = some (.slice (some ⟨a, 0, none⟩) s.sure.length ca) := (World.cell?_of_block (hrel.out.2.block g H.out.1.lt H.out.1.ga)).trans H.out.1.c0
      have hji : (j : Int) < (n : Int) := by omega
      have z1 := zeroWrite_run wr
      have hsA : (Tryz.prog.info? 141).map (·.size) = some (wcell x).toArray.size := by rw [List.size_toArray, hwl]; exact sizeWrite
      have hsB : zeroWrite.toArray.size = (wcell x).toArray.size := by rw [List.size_toArray, List.size_toArray, hwl]; rfl
      have HX := Lib.hid (And.intro hx (And.intro hws (And.intro hr (And.intro hwl (And.intro row (And.intro hsA hsB))))))
      clear hx hws hr hwl row hwc c2 f2 hsA hsB
      go_wp2_with (first
        | (with_reducible refine wpList_load_mid rfl 141 _ rfl gv (j * 65) rfl (wcell x) _ HX.out.2.2.1 Tryz.underlying141 rfl (by rw [HX.out.2.2.2.1]; exact sizeWrite) ?_)
        | (with_reducible refine wpList_store_fresh rfl wr 141 _ (wcell x).toArray _ _ rfl rfl rfl HX.out.2.2.2.2.2.1 HX.out.2.2.2.2.2.2 (all_oneCell_toArray (wcell_one x)) ?_))
      obtain ⟨W, hW⟩ : ∃ W, wr.alloc (Obj.cells (wcell x).toArray 141) = W := ⟨_, rfl⟩
      obtain ⟨B, hB⟩ : ∃ B, wr.heap.size = B := ⟨_, rfl⟩
      have hbW : Below wr.heap.size wr W := hW ▸ below_alloc wr _
      have hHW : W.heap[B]? = some (.cells (wcell x).toArray 141 (0, 0)) := by rw [← hW, ← hB]; exact World.alloc_heap_new wr _
      have hglt : g < wr.heap.size := Nat.lt_of_lt_of_le H.out.1.lt hrel.out.2.size
      have c0' : W.cell? ⟨g, 0, none⟩ = some (.slice (some ⟨a, 0, none⟩) s.sure.length ca) := (hbW.cell hglt).trans c0
      have cB : W.cell? ⟨B, 0, none⟩ = some (.int .i64 (x.1 : Int)) := by rw [cell_of_row _ B 0 _ _ (0, 0) hHW]; rfl
      have rB : W.drew.rangeAt B 1 (bvs x.2) := fun i u hu => by
        rw [World.cell?_drew, cell_of_row _ B (1 + i) _ _ (0, 0) hHW, Nat.add_comm 1 i, List.getElem?_toArray, wcell, List.getElem?_cons_succ]
        exact hu
      have hsec := hrel.out.1.below hbW
      have HW := Lib.hid (And.intro rB (And.intro hbW (And.intro hB hsec)))
      rw [hB, hW]
      clear c0 z1 hW rB hbW hHW hB hsec hglt
      go_wp2
      refine wp_region_still_tail 10 (by kernel_rfl) (by kernel_rfl) ?_
      simp only [List.take_succ_cons, List.take_zero, List.drop_succ_cons, List.drop_zero]
      iterate 8 still_step
      refine wpStill_step (fun K hK => ?_)
      refine still_load_mid rfl 137 (.tmp 20) rfl B 1 rfl (bvs x.2) _ HW.out.1 Tryz.underlying137 rfl (by rw [bvs_length, HX.out.2.1.2.1]; exact sizeSector) (hK _ ?_)
      clear hK K
      still_step
      refine wpStill_nil ?_
      change wpList _ _ _ _ _ W.drew
      have hlen : (settle s.sure (s.waits.take j)).length = s.sure.length := settle_length _ _
      refine wpList_store_mid rfl 137 (.tmp 22) (.tmp 21) rfl a (x.1 * 64) (bvs x.2).toArray rfl rfl (by rw [List.size_toArray, bvs_length, HX.out.2.1.2.1]; exact HW.out.2.2.2.there (by rw [hlen]; exact hk)) (by rw [List.size_toArray, bvs_length, HX.out.2.1.2.1]; exact sizeSector) (all_oneCell_toArray (bvs_oneCell _)) ?_
      change wpList _ _ _ _ _ (W.drew.setCells a (x.1 * 64) (bvs x.2))
      have hsecs : ∀ y ∈ settle s.sure (s.waits.take j), Sec y := settle_sec H.out.2.1.sec (fun y hy => (H.out.2.1.wsec y (List.mem_of_mem_take hy)).2)
      have hnew : SecAt (W.drew.setCells a (x.1 * 64) (bvs x.2)) a ca (settle s.sure (s.waits.take (j + 1))) := by
        rw [settle_take HX.out.1]
        exact SecAt.set (w := W.drew) (HW.out.2.2.2.block rfl) hsecs (by rw [hlen]; exact hk) HX.out.2.1.2.1
      have hbut : But (fun x => x = a) w (W.drew.setCells a (x.1 * 64) (bvs x.2)) :=
        ((hrel.out.2.trans (But.of_below HW.out.2.1)).drew).grown (setCells_grown a (bvs x.2) W.drew (x.1 * 64)) (fun y e _ => by injection e with e; exact e.symm)
      obtain ⟨W2, hW2⟩ : ∃ W2, W.drew.setCells a (x.1 * 64) (bvs x.2) = W2 := ⟨_, rfl⟩
      rw [hW2] at hnew hbut ⊢
      have HN := Lib.hid (And.intro hnew hbut)
      clear hnew hbut hW2 hsecs hlen cB c0'
      go_wp2
      go_roundw
      case rel => exact ⟨j + 1, by omega, by go_num, HN⟩
      case measure => simp [intOf]; omega
    · obtain rfl : j = n := by omega
      have hji : decide ((j : Int) < (j : Int)) = false := by simp
      have hgr : wr.heap[g]? = w.heap[g]? := hrel.out.2.block g H.out.1.lt H.out.1.ga
      have c2' : wr.cell? ⟨g, 2, none⟩ = some (.slice A j c) := (World.cell?_of_block hgr).trans c2
      have f2' : wr.frozen? ⟨g, 2, none⟩ = false := (World.frozen?_of_block hgr).trans f2
      clear c2 f2
      go_wp2
      go_end0
      have hs := hrel.out.1
      have hb := hrel.out.2
      have h := H.out.1
      rw [List.take_of_length_le (by rw [H.out.2.2.2.2]; exact Nat.le_refl _)] at hs
      have hoth : ∀ x, x < w.heap.size → x ≠ g → x ≠ a → (wr.setCell ⟨g, 2, none⟩ (.slice none 0 0)).heap[x]? = w.heap[x]? := fun x hx hg ha => (heap_setCell_other wr ⟨g, 2, none⟩ x _ hg).trans (hb.block x hx ha)
      refine ⟨rfl, ⟨?_, ?_, ?_, ⟨rfl, .inl ⟨rfl, rfl⟩⟩, h.ne⟩, (hb.mono (fun x _ hx => .inr hx)).set 2 _ (fun _ => .inl rfl)⟩
      · have := heap_setCell_same wr g 2 _ _ (.slice none 0 0) (hgr.trans h.head)
        rw [show s.settled.sure.length = s.sure.length from s.read_length]
        exact this
      · exact hs.block (heap_setCell_other wr ⟨g, 2, none⟩ a _ h.ga.symm)
      · exact h.rd.block (hoth b h.rd.lt h.gb.symm h.ne.symm)

set_option maxRecDepth 100000 in
set_option maxHeartbeats 1000000 in
theorem sync_any {w : World} {g : Nat} {F : Nat → Prop} {s : St} (hl : s.lets ≠ 0) (h : Disk w g F s) :
    Calls Tryz.prog 80 #[.pointer (some ⟨g, 0, none⟩)] w fun e w' => e = .returned (.int .i64 0) ∧ Acted w g F s.burnt.settled w' := by
  have hd := isThere_yes h
  obtain ⟨ok, ⟨a, b, ca, cb, v, h, hf⟩, hF⟩ := h
  have hlb := letBe_at ok h
  rw [show decide (s.lets ≠ 0) = true by simpa using hl] at hlb
  have H0 := Lib.hid (And.intro ok (And.intro hf hF))
  clear ok h hf hF hl
  go_enter Tryz.func80, Tryz.ntmps80
  go_wp2_with fail
  refine hd.mono ?_
  rintro e w1 ⟨rfl, rfl⟩
  go_wp2_with fail
  refine hlb.mono ?_
  rintro e w1 ⟨rfl, h1, hg1, hs1⟩
  have C := settle_at H0.out.1.burnt h1
  clear hlb hd
  go_wp2_with fail
  refine C.mono ?_
  rintro e w2 ⟨rfl, h2, hb2⟩
  clear C
  go_wp2
  go_ret
  refine ⟨rfl, F, ⟨H0.out.1.burnt.settled, ⟨a, b, ca, cb, _, h2, fun x hx => ?_⟩, fun x hx => ?_⟩, ?_, fun x hx => .inl hx⟩
  · rcases hx with hx | hx | hx | hx
    · exact H0.out.2.1 x (.inl hx)
    · exact H0.out.2.1 x (.inr (.inl hx))
    · exact H0.out.2.1 x (.inr (.inr (.inl hx)))
    · cases hx
  · have := H0.out.2.2 x hx
    have := hb2.size
    omega
  · refine ((But.refl F w).grown hg1 (fun k e _ => by cases e; exact H0.out.2.1 _ (.inl rfl))).trans (hb2.mono (fun x _ hx => ?_))
    rcases hx with rfl | rfl
    · exact H0.out.2.1 _ (.inl rfl)
    · exact H0.out.2.1 _ (.inr (.inl rfl))

set_option maxRecDepth 100000 in
set_option maxHeartbeats 1000000 in
theorem sync_blow {w : World} {g : Nat} {F : Nat → Prop} {s : St} (hl : s.lets = 0) (h : Disk w g F s) :
    Calls Tryz.prog 80 #[.pointer (some ⟨g, 0, none⟩)] w fun e w' => e = .returned (.int .i64 9) ∧ Acted w g F s.burnt w' := by
  have hd := isThere_yes h
  obtain ⟨ok, ⟨a, b, ca, cb, v, h, hf⟩, hF⟩ := h
  have hlb := letBe_at ok h
  rw [show decide (s.lets ≠ 0) = false by simpa using hl] at hlb
  have H0 := Lib.hid (And.intro ok (And.intro hf hF))
  clear ok h hf hF hl
  go_enter Tryz.func80, Tryz.ntmps80
  go_wp2_with fail
  refine hd.mono ?_
  rintro e w1 ⟨rfl, rfl⟩
  go_wp2_with fail
  refine hlb.mono ?_
  rintro e w1 ⟨rfl, h1, hg1, hs1⟩
  go_wp2
  go_ret
  exact ⟨rfl, acted_head H0.out.1.burnt h1 H0.out.2.1 H0.out.2.2 hg1⟩

end Go.Proofs.YthbgcijkpincfaaGreatDoor
