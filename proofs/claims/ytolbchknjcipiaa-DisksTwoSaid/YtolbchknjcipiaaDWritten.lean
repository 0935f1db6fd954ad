/-
  written: a disk of five sectors with some writes.
-/
import Derived.Test.YtolbchknjcipiaaDTools
namespace Go.Proofs.Ytolbchknjcipiaa
open Go.RowKit

/-- A write of the statements, as the disk is asked for it. -/
def asW (x : Nat × List Nat) : Nat × List Nat := (x.1 % 5, pad (x.2.take 64))
/-- The disk, behind j of the writes; all is made sure behind t of them. -/
def wst (ws : List (Nat × List Nat)) (t j : Nat) : St :=
  if t < j then ⟨settle (zeros 5) ((ws.take t).map asW), ((ws.take j).drop t).map asW, -1, false⟩ else ⟨zeros 5, (ws.take j).map asW, -1, false⟩

theorem wst_zero (ws : List (Nat × List Nat)) (t : Nat) : wst ws t 0 = fresh (zeros 5) := by
  unfold wst
  rw [if_neg (by omega)]
  rfl
theorem burnt_all {s : St} (h : s.lets = -1) : s.burnt = s := by unfold St.burnt; rw [h]; rfl
theorem wst_lets (ws : List (Nat × List Nat)) (t j : Nat) : (wst ws t j).lets = -1 := by unfold wst; split <;> rfl
theorem wst_blown (ws : List (Nat × List Nat)) (t j : Nat) : (wst ws t j).blown = false := by unfold wst; split <;> rfl
theorem wst_sure (ws : List (Nat × List Nat)) (t j : Nat) : (wst ws t j).sure.length = 5 := by
  unfold wst
  split
  · exact (settle_length _ _).trans (zeros_length 5)
  · exact zeros_length 5
theorem wst_waits (ws : List (Nat × List Nat)) (t j : Nat) : (wst ws t j).waits.length ≤ ws.length := by
  unfold wst
  split
  · show (((ws.take j).drop t).map asW).length ≤ _
    simp only [List.length_map, List.length_drop, List.length_take]; omega
  · show ((ws.take j).map asW).length ≤ _
    simp only [List.length_map, List.length_take]; omega
theorem wst_step {ws : List (Nat × List Nat)} {t j : Nat} {x : Nat × List Nat} (hx : ws[j]? = some x) :
    wst ws t (j + 1) = (if j = t then (wst ws t j).settled else wst ws t j).wrote (x.1 % 5) (x.2.take 64) := by
  have hj := (List.getElem?_eq_some_iff.1 hx).1
  have e : ws.take (j + 1) = ws.take j ++ [x] := by rw [List.take_add_one, hx]; rfl
  by_cases h : j = t
  · subst h
    have hw : wst ws j j = ⟨zeros 5, (ws.take j).map asW, -1, false⟩ := by unfold wst; rw [if_neg (by omega)]
    have hd : (ws.take (j + 1)).drop j = [x] := by
      rw [e, List.drop_append, List.length_take, List.drop_of_length_le (by rw [List.length_take]; omega), Nat.min_eq_left (by omega), Nat.sub_self]
      rfl
    rw [if_pos rfl, hw]
    unfold wst
    rw [if_pos (by omega), hd]
    unfold St.wrote
    rw [burnt_all rfl]
    rfl
  · rw [if_neg h]
    unfold St.wrote
    rw [burnt_all (wst_lets _ _ _)]
    unfold wst
    by_cases h2 : t < j
    · rw [if_pos (by omega), if_pos h2, e, List.drop_append_of_le_length (by rw [List.length_take]; omega), List.map_append]
      rfl
    · rw [if_neg (by omega), if_neg h2, e, List.map_append]
      rfl

/-- A disk in blocks from 'base' on. -/
def Above (base : Nat) (w : World) (g : Nat) (s : St) : Prop := ∃ F, Disk w g F s ∧ ∀ x, F x → base ≤ x
theorem Acted.above {base : Nat} {w w' : World} {g : Nat} {F : Nat → Prop} {s' : St} (h : Acted w g F s' w') (hb : ∀ x, F x → base ≤ x) (hs : base ≤ w.heap.size) : Above base w' g s' ∧ Below base w w' := by
  obtain ⟨F', hd, hbut, hF⟩ := h
  refine ⟨⟨F', hd, fun x hx => ?_⟩, hbut.below hs hb⟩
  rcases hF x hx with h1 | h1
  · exact hb x h1
  · omega

theorem CameWrites.off {w w' : World} {A : Option Addr} {n c : Nat} {ws : List (Nat × List Nat)} {r : Nat} {x : Nat × List Nat} (h : CameWrites w A n c ws) (hx : ws[r]? = some x) (hb : Below w.heap.size w w') :
    ∃ ad B m k, A = some ad ∧ w'.cell? (ad.add (r * 2)) = some (.int .u8 (x.1 : Int)) ∧ w'.cell? (ad.add (r * 2 + 1)) = some (.slice B m k) ∧ In w' B m x.2 ∧ (∀ y ∈ x.2, y < 256) ∧ m ≤ k ∧ m ≤ 9223372036854775807 ∧ x.1 < 256 ∧ (0 < m → ∀ b, B = some b → b.block < w.heap.size) := by
  obtain ⟨ad, B, m, k, e, h1, h2, h3, h4, h5⟩ := h.row r x hx
  refine ⟨ad, B, m, k, e, (hb.cell (World.block_lt_of_cell? w _ h1)).trans h1, (hb.cell (World.block_lt_of_cell? w _ h2)).trans h2, h3.in_.below hb, h3.lt, h3.cap, h4, h5, fun hm b hb' => ?_⟩
  obtain ⟨b', y, e', _, hc⟩ := h3.in_.at_ hm
  rw [hb'] at e'
  cases e'
  have := World.block_lt_of_cell? w _ hc
  rwa [block_add] at this

set_option maxRecDepth 100000 in
set_option maxHeartbeats 4000000 in
theorem written_any {w : World} (A : Option Addr) (n c : Nat) (ws : List (Nat × List Nat)) (t : Nat) (h : CameWrites w A n c ws) (hn : n ≤ 1000) :
    Calls Try.prog 19 #[.slice A n c, .int .i64 (t : Int)] w fun e w' => ∃ g, e = .returned (.pointer (some ⟨g, 0, none⟩)) ∧ Above w.heap.size w' g (wst ws t n) ∧ Below w.heap.size w w' := by
  have C := new_yes w 5 (by decide) (by decide)
  have H := Lib.hid h
  clear h
  go_enter Try.func19, Try.ntmps19
  go_wp2_with fail
  refine C.mono ?_
  rintro e w1 ⟨g, rfl, hM⟩
  clear C
  go_wp2
  go_loopw [7] (fun i wr => ∃ j : Nat, j ≤ n ∧ i = .int .i64 (j : Int) ∧ Hid (Above w.heap.size wr g (wst ws t j) ∧ Below w.heap.size w wr)) (fun i _ => n - (intOf i).toNat)
  case atStart => exact ⟨0, Nat.zero_le _, rfl, Lib.hid ⟨⟨fun x => w.heap.size ≤ x ∧ x < w1.heap.size, by rw [wst_zero]; exact hM.1, fun x hx => hx.1⟩, hM.2⟩⟩
  case round =>
    obtain ⟨j, hj, rfl, hrel⟩ := hrel
    by_cases hlt : j < n
    · obtain ⟨x, hx⟩ : ∃ x, ws[j]? = some x := ⟨_, List.getElem?_eq_getElem (by rw [H.out.len]; exact hlt)⟩
      have hji : (j : Int) < (n : Int) := by omega
      have hstep := wst_step (t := t) hx
      by_cases hjt : j = t
      · subst hjt
        obtain ⟨F1, hd1, hf1⟩ := hrel.out.1
        have hle0 := wst_lets ws j j
        have CS := sync_any (by rw [hle0]; decide) hd1
        rw [burnt_all hle0] at CS
        rw [if_pos rfl] at hstep
        have hs5 : (wst ws j j).settled.sure.length = 5 := by show (wst ws j j).read.length = 5; rw [St.read_length, wst_sure]
        have hle : (wst ws j j).settled.lets = -1 := hle0
        have hwl : (wst ws j j).settled.waits.length ≤ 1000000000 := Nat.zero_le _
        have HF := Lib.hid (And.intro hf1 hle0)
        clear hd1 hf1 hle0
        go_wp2_with fail
        refine CS.mono ?_
        rintro e w2 ⟨rfl, ha2⟩
        obtain ⟨hab2, hbe1⟩ := ha2.above HF.out.1 hrel.out.2.size
        have hbe2 : Below w.heap.size w w2 := hrel.out.2.trans hbe1
        clear ha2 hbe1 CS
        obtain ⟨F2, hd2, hf2⟩ := hab2
        obtain ⟨ad, B, m, k, rfl, hc1, hc2, hin, hby, hmk, hm63, hx1, hoff⟩ := H.out.off hx hbe2
        obtain ⟨q, hq⟩ : ∃ q, min m 64 = q := ⟨_, rfl⟩
        have hif : (if (m : Int) < 64 then (m : Int) else 64) = (q : Int) := by split <;> omega
        have q64 : q ≤ 64 := by omega
        have qm : q ≤ m := by omega
        have hqk : (q : Int) ≤ (k : Int) := by omega
        have hqk2 : q ≤ k := by omega
        have hc3 : w2.cell? ⟨(ad.add (j * 2)).block, (ad.add (j * 2)).off + 1, none⟩ = some (.slice B m k) := by rw [← add_pos _ (by decide), add_add]; exact hc2
        have hwrap : IntKind.i64.wrap (x.1 : Int) = (x.1 : Int) := by rw [IntKind.wrap_i64]; omega
        obtain ⟨r, hr⟩ : ∃ r, x.1 % 5 = r := ⟨_, rfl⟩
        have hmod : Int.tmod (x.1 : Int) 5 = (r : Int) := by rw [Int.tmod_eq_emod_of_nonneg (by omega)]; omega
        have hr5 : r < 5 := by omega
        rw [hr] at hstep
        have htk : x.2.take 64 = x.2.take q := by
          rw [← hq]
          by_cases h64 : m ≤ 64
          · rw [Nat.min_eq_left h64, List.take_of_length_le (by rw [hin.len]; exact h64), List.take_of_length_le (by rw [hin.len]; exact Nat.le_refl _)]
          · rw [Nat.min_eq_right (by omega)]
        have CW := fun (q' : Nat) => write_any (w := w2.drewN q') (F := F2) (g := g) (s := (wst ws j j).settled) (k := r) (by rw [hs5]; exact hr5) B q k (x.2.take q) ⟨(hin.take qm).len, (hin.take qm).rd⟩ (fun h0 b hb => by have := hoff (by omega) b hb; have := hf2 g hd2.mem; omega) (fun y hy => hby y (List.mem_of_mem_take hy)) q64 (by rw [hle]; decide) hwl (hd2.below (w' := w2.drewN q') ⟨rfl, rfl, rfl, Nat.le_refl _, fun _ _ => rfl⟩)
        have HC := Lib.hid (And.intro CW (And.intro hf2 (And.intro hbe2 (And.intro htk (And.intro hd2 hstep)))))
        clear CW hf2 htk hd2 hstep hin hby hoff hmk hm63 hx1 hq hs5 hle hwl hr
        clear hc2
        go_wp2
        go_still_tail 21, (by kernel_rfl)
        change wpList _ _ _ _ _ (w2.drewN 1)
        go_wp2_with fail
        refine (HC.out.1 1).mono ?_
        rintro e w3 ⟨rfl, ha3⟩
        obtain ⟨hab3, hbe3⟩ := ha3.above HC.out.2.1 (show w.heap.size ≤ (w2.drewN 1).heap.size from HC.out.2.2.1.size)
        have hbe4 : Below w.heap.size w w3 := (HC.out.2.2.1.trans (⟨rfl, rfl, rfl, Nat.le_refl _, fun _ _ => rfl⟩ : Below w.heap.size w2 (w2.drewN 1))).trans hbe3
        have hst : Above w.heap.size w3 g (wst ws j (j + 1)) := by rw [HC.out.2.2.2.2.2, HC.out.2.2.2.1]; exact hab3
        have HFin := Lib.hid (And.intro hst hbe4)
        clear ha3 hab3 hbe3 hbe4 hst hc1 hc3 hif hmod hwrap HC
        go_wp2
        go_roundw
        case rel => exact ⟨j + 1, by omega, by go_num, HFin⟩
        case measure => simp [intOf]; omega
      · have hne : ((j : Int) == (t : Int)) = false := by simp; omega
        rw [if_neg hjt] at hstep
        obtain ⟨w2, rfl⟩ : ∃ w2, w2 = wr := ⟨_, rfl⟩
        have hab2 := hrel.out.1
        have hbe2 := hrel.out.2
        have hs5 := wst_sure ws t j
        have hle := wst_lets ws t j
        have hwl : (wst ws t j).waits.length ≤ 1000000000 := by have := wst_waits ws t j; have := H.out.len; omega
        obtain ⟨F2, hd2, hf2⟩ := hab2
        obtain ⟨ad, B, m, k, rfl, hc1, hc2, hin, hby, hmk, hm63, hx1, hoff⟩ := H.out.off hx hbe2
        obtain ⟨q, hq⟩ : ∃ q, min m 64 = q := ⟨_, rfl⟩
        have hif : (if (m : Int) < 64 then (m : Int) else 64) = (q : Int) := by split <;> omega
        have q64 : q ≤ 64 := by omega
        have qm : q ≤ m := by omega
        have hqk : (q : Int) ≤ (k : Int) := by omega
        have hqk2 : q ≤ k := by omega
        have hc3 : w2.cell? ⟨(ad.add (j * 2)).block, (ad.add (j * 2)).off + 1, none⟩ = some (.slice B m k) := by rw [← add_pos _ (by decide), add_add]; exact hc2
        have hwrap : IntKind.i64.wrap (x.1 : Int) = (x.1 : Int) := by rw [IntKind.wrap_i64]; omega
        obtain ⟨r, hr⟩ : ∃ r, x.1 % 5 = r := ⟨_, rfl⟩
        have hmod : Int.tmod (x.1 : Int) 5 = (r : Int) := by rw [Int.tmod_eq_emod_of_nonneg (by omega)]; omega
        have hr5 : r < 5 := by omega
        rw [hr] at hstep
        have htk : x.2.take 64 = x.2.take q := by
          rw [← hq]
          by_cases h64 : m ≤ 64
          · rw [Nat.min_eq_left h64, List.take_of_length_le (by rw [hin.len]; exact h64), List.take_of_length_le (by rw [hin.len]; exact Nat.le_refl _)]
          · rw [Nat.min_eq_right (by omega)]
        have CW := fun (q' : Nat) => write_any (w := w2.drewN q') (F := F2) (g := g) (s := (wst ws t j)) (k := r) (by rw [hs5]; exact hr5) B q k (x.2.take q) ⟨(hin.take qm).len, (hin.take qm).rd⟩ (fun h0 b hb => by have := hoff (by omega) b hb; have := hf2 g hd2.mem; omega) (fun y hy => hby y (List.mem_of_mem_take hy)) q64 (by rw [hle]; decide) hwl (hd2.below (w' := w2.drewN q') ⟨rfl, rfl, rfl, Nat.le_refl _, fun _ _ => rfl⟩)
        have HC := Lib.hid (And.intro CW (And.intro hf2 (And.intro hbe2 (And.intro htk (And.intro hd2 hstep)))))
        clear CW hf2 htk hd2 hstep hin hby hoff hmk hm63 hx1 hq hs5 hle hwl hr
        clear hc2
        go_wp2
        go_still_tail 21, (by kernel_rfl)
        change wpList _ _ _ _ _ (w2.drewN 1)
        go_wp2_with fail
        refine (HC.out.1 1).mono ?_
        rintro e w3 ⟨rfl, ha3⟩
        obtain ⟨hab3, hbe3⟩ := ha3.above HC.out.2.1 (show w.heap.size ≤ (w2.drewN 1).heap.size from HC.out.2.2.1.size)
        have hbe4 : Below w.heap.size w w3 := (HC.out.2.2.1.trans (⟨rfl, rfl, rfl, Nat.le_refl _, fun _ _ => rfl⟩ : Below w.heap.size w2 (w2.drewN 1))).trans hbe3
        have hst : Above w.heap.size w3 g (wst ws t (j + 1)) := by rw [HC.out.2.2.2.2.2, HC.out.2.2.2.1]; exact hab3
        have HFin := Lib.hid (And.intro hst hbe4)
        clear ha3 hab3 hbe3 hbe4 hst hc1 hc3 hif hmod hwrap HC
        go_wp2
        go_roundw
        case rel => exact ⟨j + 1, by omega, by go_num, HFin⟩
        case measure => simp [intOf]; omega
    · obtain rfl : j = n := by omega
      have hji : decide ((j : Int) < (j : Int)) = false := by simp
      go_wp2
      go_ret
      exact ⟨g, rfl, hrel.out⟩

end Go.Proofs.Ytolbchknjcipiaa
