/-
  DisksSure: what is sure stays.
-/
import Derived.Test.YtolbchknjcipiaaDTurnLaw
namespace Go.Proofs.Ytolbchknjcipiaa
open Go.RowKit

/-- Numbers of type int as values; an array of them in a block. -/
def iv (x : Nat) : Value := .int .i64 (x : Int)
def IArr (w : World) (g : Nat) (T : TypeId) (xs : List Nat) : Prop := w.heap[g]? = some (.cells (xs.map iv).toArray T (0, 0))
theorem IArr.cell {w : World} {g : Nat} {T : TypeId} {xs : List Nat} (h : IArr w g T xs) {i : Nat} (hi : i < xs.length) : w.cell? ⟨g, i, none⟩ = some (.int .i64 ((xs.getD i 0 : Nat) : Int)) := by
  rw [cell_of_row _ g i _ T (0, 0) h, List.getElem?_toArray, List.getElem?_map, List.getElem?_eq_getElem hi, List.getD_eq_getElem?_getD, List.getElem?_eq_getElem hi]
  rfl
theorem IArr.free {w : World} {g : Nat} {T : TypeId} {xs : List Nat} (h : IArr w g T xs) (i : Nat) : w.frozen? ⟨g, i, none⟩ = false := frozen_of_row w g i _ T h
theorem IArr.set {w : World} {g : Nat} {T : TypeId} {xs : List Nat} (h : IArr w g T xs) (i v : Nat) : IArr (w.setCell ⟨g, i, none⟩ (.int .i64 (v : Int))) g T (xs.set i v) := by
  unfold IArr
  rw [heap_setCell_same w g i _ T _ h, List.setIfInBounds_toArray, List.map_set]
  rfl
theorem IArr.block {w w' : World} {g : Nat} {T : TypeId} {xs : List Nat} (h : IArr w g T xs) (hb : w'.heap[g]? = w.heap[g]?) : IArr w' g T xs := hb.trans h
theorem IArr.lt {w : World} {g : Nat} {T : TypeId} {xs : List Nat} (h : IArr w g T xs) : g < w.heap.size := (Array.getElem?_eq_some_iff.1 h).1

theorem settle_other {R : List (List Nat)} {ws : List (Nat × List Nat)} {i : Nat} (h : ∀ x ∈ ws, x.1 ≠ i) : (settle R ws)[i]? = R[i]? := by
  induction ws generalizing R with
  | nil => rfl
  | cons x ws ih =>
    show (settle (R.set x.1 x.2) ws)[i]? = _
    rw [ih (fun y hy => h y (by simp [hy])), List.getElem?_set_ne (h x (by simp))]

/-- How often each sector was touched: nought only where none of the writes went. -/
structure Touched (T : List Nat) (ms : List (Nat × List Nat)) (j : Nat) : Prop where
  len : T.length = 5
  le : ∀ i, T.getD i 0 ≤ j
  none_ : ∀ i, T.getD i 0 = 0 → i < 5 → ∀ x ∈ ms.take j, x.1 % 5 ≠ i
theorem Touched.step {T : List Nat} {ms : List (Nat × List Nat)} {j : Nat} {x : Nat × List Nat} (h : Touched T ms j) (hx : ms[j]? = some x) : Touched (T.set (x.1 % 5) (T.getD (x.1 % 5) 0 + 1)) ms (j + 1) := by
  have hr : x.1 % 5 < T.length := by rw [h.len]; omega
  have hg : ∀ i, (T.set (x.1 % 5) (T.getD (x.1 % 5) 0 + 1)).getD i 0 = if x.1 % 5 = i then T.getD (x.1 % 5) 0 + 1 else T.getD i 0 := fun i => by
    rw [List.getD_eq_getElem?_getD, List.getElem?_set]
    by_cases e : x.1 % 5 = i
    · subst e
      rw [if_pos rfl, if_pos hr, if_pos rfl]
      rfl
    · rw [if_neg e, if_neg e, List.getD_eq_getElem?_getD]
  refine ⟨by rw [List.length_set]; exact h.len, fun i => ?_, fun i hi h5 y hy => ?_⟩
  · rw [hg i]
    have h1 := h.le (x.1 % 5)
    have h2 := h.le i
    split <;> omega
  · rw [hg i] at hi
    by_cases e : x.1 % 5 = i
    · rw [if_pos e] at hi; omega
    · rw [if_neg e] at hi
      rw [List.take_add_one, hx] at hy
      rcases List.mem_append.1 hy with h1 | h1
      · exact h.none_ i hi h5 y h1
      · simp at h1
        rw [h1]
        exact e

/-- The disk behind some more writes. -/
def mst (R : List (List Nat)) (ms : List (Nat × List Nat)) (j : Nat) : St := ⟨R, (ms.take j).map asW, -1, false⟩
theorem mst_step {R : List (List Nat)} {ms : List (Nat × List Nat)} {j : Nat} {x : Nat × List Nat} (hx : ms[j]? = some x) : (mst R ms j).wrote (x.1 % 5) (x.2.take 64) = mst R ms (j + 1) := by
  have e : ms.take (j + 1) = ms.take j ++ [x] := by rw [List.take_add_one, hx]; rfl
  unfold St.wrote
  rw [burnt_all rfl]
  unfold mst
  rw [e, List.map_append]
  rfl

/-- What holds between two rounds. -/
structure SureInv (w w4 w5 : World) (Bt g : Nat) (R : List (List Nat)) (ms : List (Nat × List Nat)) (A : Option Addr) (j : Nat) (F : Nat → Prop) (T : List Nat) (wr : World) : Prop where
  disk : Disk wr g F (mst R ms j)
  above : ∀ x, F x → w.heap.size ≤ x
  off : ∀ x, F x → ¬ Newly w4 w5 x ∧ x ≠ Bt
  was : Fixed (Newly w4 w5) wr (fun w => CameRows w A 5 R)
  arr : IArr wr Bt 49 T
  touch : Touched T ms j
  bel : Below w.heap.size w wr
  sz : w5.heap.size ≤ Bt
  bt : w.heap.size ≤ Bt

set_option maxRecDepth 100000 in
set_option maxHeartbeats 4000000 in
theorem disksSure_law (w : World) {A : Option Addr} {n c : Nat} {ws : List (Nat × List Nat)} (hw : CameWrites w A n c ws) {A2 : Option Addr} {n2 c2 : Nat} {ms : List (Nat × List Nat)} (hm : CameWrites w A2 n2 c2 ms)
    {A3 : Option Addr} {n3 c3 : Nat} {ks : List Bool} (hk : CameBools w A3 n3 c3 ks) :
    Calls Try.prog 5 #[.slice A n c, .slice A2 n2 c2, .slice A3 n3 c3] w fun e w' => e = .returned (.bool true) ∧ Below w.heap.size w w' := by
  by_cases hall : n ≤ 100 ∧ n2 ≤ 100 ∧ n3 ≤ 200
  · obtain ⟨h1, h2, h3⟩ := hall
    have i1 : decide (100 < (n : Int)) = false := by simp; omega
    have i2 : decide (100 < (n2 : Int)) = false := by simp; omega
    have i3 : decide (200 < (n3 : Int)) = false := by simp; omega
    go_enter Try.func5, Try.ntmps5
    go_wp2_with fail
    refine (alive_any w).mono ?_
    rintro e w2 ⟨rfl, b2⟩
    go_wp2_with fail
    refine (written_any A n c ws 101 (hw.below b2) (by omega)).mono ?_
    rintro e w3 ⟨g, rfl, h3, b3⟩
    rw [wst_all hw.len (by omega)] at h3
    obtain ⟨F3, d3, f3⟩ := h3.mono b2.size
    have b3' := below_on b2 (Nat.le_refl _) b3
    clear h3 b3 b2 i1
    go_wp2_with fail
    refine (sync_any (by show (-1 : Int) ≠ 0; decide) d3).mono ?_
    rintro e w4 ⟨rfl, h4⟩
    rw [burnt_all rfl] at h4
    obtain ⟨R, hR⟩ : ∃ R, (⟨zeros 5, ws.map asW, -1, false⟩ : St).read = R := ⟨_, rfl⟩
    have es : (⟨zeros 5, ws.map asW, -1, false⟩ : St).settled = mst R ms 0 := by unfold St.settled; rw [hR]; rfl
    rw [es] at h4
    have hR5 : R.length = 5 := by rw [← hR, St.read_length]; exact zeros_length 5
    obtain ⟨⟨F4, d4, f4⟩, b4⟩ := h4.above f3 b3'.size
    have b4' := b3'.trans b4
    clear d3 h4 f3 b3' b4 es hR
    have er : (mst R ms 0).read = R := rfl
    have C5 := all_five ⟨F4, d4, f4⟩ (show (mst R ms 0).sure.length = 5 from hR5)
    rw [er] at C5
    go_wp2_with fail
    refine C5.mono ?_
    rintro e w5 ⟨A5, c5, rfl, r5, b5⟩
    have d5 := d4.below b5
    have b5' := below_on b4' (Nat.le_refl _) b5
    have hF4 := d4.2.2
    have hsz := b5.size
    clear C5 er d4 b4' b5
    go_upto_region 8 with (fail)
    obtain ⟨W, hW⟩ : ∃ W, w5.alloc (Obj.cells #[Value.int IntKind.i64 0, Value.int IntKind.i64 0, Value.int IntKind.i64 0, Value.int IntKind.i64 0, Value.int IntKind.i64 0] 49) = W := ⟨_, rfl⟩
    have bW : Below w5.heap.size w5 W := hW ▸ below_alloc w5 _
    have hA : IArr W w5.heap.size 49 [0, 0, 0, 0, 0] := by rw [← hW]; exact World.alloc_heap_new w5 _
    obtain ⟨Bt, hBt⟩ : ∃ Bt, w5.heap.size = Bt := ⟨_, rfl⟩
    have hinv : SureInv w w4 w5 Bt g R ms A5 0 F4 [0, 0, 0, 0, 0] W :=
      ⟨d5.below bW, f4, fun x hx => ⟨fun hn => by have := hF4 x hx; have := hn.1; omega, by have := hF4 x hx; omega⟩, r5.below bW (fun x hx => hx.2), hBt ▸ hA,
        ⟨rfl, fun i => by rcases i with _ | _ | _ | _ | _ | i <;> simp, fun i _ _ x hx => by simp at hx⟩, below_on b5' (Nat.le_refl _) bW, Nat.le_of_eq hBt, by have := b5'.size; omega⟩
    rw [hW, hBt]
    have HI := Lib.hid hinv
    clear hW bW hA hinv d5 f4 hF4 r5 b5' hsz
    go_wp2
    go_loopw [10] (fun i wr => ∃ j : Nat, j ≤ n2 ∧ i = .int .i64 (j : Int) ∧ Hid (∃ F T, SureInv w w4 w5 Bt g R ms A5 j F T wr)) (fun i _ => n2 - (intOf i).toNat)
    case atStart => exact ⟨0, Nat.zero_le _, rfl, Lib.hid ⟨_, _, HI.out⟩⟩
    case round =>
      obtain ⟨j, hj, rfl, hrel⟩ := hrel
      by_cases hlt : j < n2
      · obtain ⟨x, hx⟩ : ∃ x, ms[j]? = some x := ⟨_, List.getElem?_eq_getElem (by rw [hm.len]; exact hlt)⟩
        have hji : (j : Int) < (n2 : Int) := by omega
        obtain ⟨F, T, I⟩ := hrel.out
        obtain ⟨ad, B, m, k, rfl, hc1, hc2, hin, hby, hmk, hm63, hx1, hoff⟩ := hm.off hx I.bel
        obtain ⟨q, hq⟩ : ∃ q, min m 64 = q := ⟨_, rfl⟩
        have hif : (if (m : Int) < 64 then (m : Int) else 64) = (q : Int) := by split <;> omega
        have hif2 : (if m < 64 then (m : Int) else 64) = (q : Int) := by split <;> omega
        have q64 : q ≤ 64 := by omega
        have qm : q ≤ m := by omega
        have hqk : (q : Int) ≤ (k : Int) := by omega
        have hqk2 : q ≤ k := by omega
        have hc3 : wr.cell? ⟨(ad.add (j * 2)).block, (ad.add (j * 2)).off + 1, none⟩ = some (.slice B m k) := by rw [← add_pos _ (by decide), add_add]; exact hc2
        have hwrap : IntKind.i64.wrap (x.1 : Int) = (x.1 : Int) := by rw [IntKind.wrap_i64]; omega
        obtain ⟨r, hr⟩ : ∃ r, x.1 % 5 = r := ⟨_, rfl⟩
        have hmod : Int.tmod (x.1 : Int) 5 = (r : Int) := by rw [Int.tmod_eq_emod_of_nonneg (by omega)]; omega
        have hmod2 : (x.1 : Int) % 5 = (r : Int) := by omega
        have hr5 : r < 5 := by omega
        have hri : (r : Int) < 5 := by omega
        have htk : x.2.take 64 = x.2.take q := by
          rw [← hq]
          by_cases h64 : m ≤ 64
          · rw [Nat.min_eq_left h64, List.take_of_length_le (by rw [hin.len]; exact h64), List.take_of_length_le (by rw [hin.len]; exact Nat.le_refl _)]
          · rw [Nat.min_eq_right (by omega)]
        have hwl : (mst R ms j).waits.length ≤ 1000000000 := by show ((ms.take j).map asW).length ≤ _; rw [List.length_map, List.length_take]; omega
        have CW := fun (q' : Nat) => write_any (w := wr.drewN q') (F := F) (g := g) (s := mst R ms j) (k := r) (by show r < R.length; omega) B q k (x.2.take q) ⟨(hin.take qm).len, (hin.take qm).rd⟩ (fun h0 b hb => by have := hoff (by omega) b hb; have := I.above g I.disk.mem; omega) (fun y hy => hby y (List.mem_of_mem_take hy)) q64 (by show (-1 : Int) ≠ 0; decide) hwl (I.disk.below (w' := wr.drewN q') ⟨rfl, rfl, rfl, Nat.le_refl _, fun _ _ => rfl⟩)
        have hstep := mst_step (R := R) hx
        rw [hr, htk] at hstep
        rw [hstep] at CW
        have htch := I.touch.step hx
        rw [hr] at htch
        obtain ⟨tv, htv⟩ : ∃ tv, T.getD r 0 = tv := ⟨_, rfl⟩
        rw [htv] at htch
        have htl := I.touch.le r
        rw [htv] at htl
        have HC := Lib.hid (And.intro CW (And.intro I (And.intro htch (And.intro htv htl))))
        clear CW I htch htv htl hstep htk hin hby hoff hmk hm63 hx1 hq hwl hr hx hc2
        go_wp2
        go_still_tail 15, (by kernel_rfl)
        change wpList _ _ _ _ _ (wr.drewN 1)
        go_wp2_with fail
        refine (HC.out.1 1).mono ?_
        rintro e w6 ⟨rfl, F6, d6, but6, hF6⟩
        have I := HC.out.2.1
        have hbtl := I.arr.lt
        have arr6 : IArr w6 Bt 49 T := I.arr.block (but6.block Bt hbtl (fun h => (I.off Bt h).2 rfl))
        have tc := arr6.cell (i := r) (by rw [I.touch.len]; exact hr5)
        rw [HC.out.2.2.2.1] at tc
        have tf := arr6.free r
        have tv63 : tv ≤ 1000 := by have := HC.out.2.2.2.2; omega
        have HN := Lib.hid (And.intro d6 (And.intro but6 (And.intro hF6 (And.intro arr6 hbtl))))
        clear d6 but6 hF6 arr6 hbtl I hc1 hc3 hif hif2 hwrap hmod hmod2
        go_wp2
        obtain ⟨W7, hW7⟩ : ∃ W7, w6.setCell ⟨Bt, r, none⟩ (.int .i64 ((tv : Int) + 1)) = W7 := ⟨_, rfl⟩
        rw [hW7]
        have I := HC.out.2.1
        obtain ⟨d6, but6, hF6, arr6, hbtl⟩ := HN.out
        have hgr7 : w6.grownBy W7 (some Bt) := hW7 ▸ setCell_grown w6 Bt r _
        have but7 : But (fun x => x = Bt) w6 W7 := (But.refl _ w6).grown hgr7 (fun y e _ => by injection e with e; exact e.symm)
        have hs6 := but6.size
        have hs6' : wr.heap.size ≤ w6.heap.size := hs6
        have hnew : SureInv w w4 w5 Bt g R ms A5 (j + 1) F6 (T.set r (tv + 1)) W7 := by
          refine ⟨d6.but but7 (fun x hx e => ?_), fun x hx => ?_, fun x hx => ⟨fun hn => ?_, fun e => ?_⟩, ?_, ?_, HC.out.2.2.1, ?_, I.sz, I.bt⟩
          · rcases hF6 x hx with h | h
            · exact (I.off x h).2 e
            · have : wr.heap.size ≤ x := h
              omega
          · rcases hF6 x hx with h | h
            · exact I.above x h
            · have h : wr.heap.size ≤ x := h
              have := I.bel.size
              omega
          · rcases hF6 x hx with h | h
            · exact (I.off x h).1 hn
            · have h : wr.heap.size ≤ x := h
              have := hn.2
              have := I.sz
              omega
          · rcases hF6 x hx with h | h
            · exact (I.off x h).2 e
            · have h : wr.heap.size ≤ x := h
              omega
          · have f6 : Fixed (Newly w4 w5) w6 (fun w => CameRows w A5 5 R) := (I.was.below (drewN_below wr 1) (fun x hx => by have := hx.2; have := I.sz; omega)).but but6 (fun x hx hf => (I.off x hf).1 hx) (fun x hx => by show x < wr.heap.size; have := hx.2; have := I.sz; omega)
            exact f6.but but7 (fun x hx e => by have := hx.2; have := I.sz; omega) (fun x hx => by have := hx.2; have := I.sz; omega)
          · rw [← hW7]
            have := arr6.set r (tv + 1)
            rw [show ((tv + 1 : Nat) : Int) = (tv : Int) + 1 by omega] at this
            exact this
          · have b1 : Below w.heap.size w (wr.drewN 1) := I.bel.trans ⟨rfl, rfl, rfl, Nat.le_refl _, fun _ _ => rfl⟩
            exact (b1.trans (but6.below I.bel.size I.above)).trans (but7.below (by have := I.bel.size; omega) (fun x e => by rw [e]; exact I.bt))
        have HNew := Lib.hid (⟨_, _, hnew⟩ : ∃ F T, SureInv w w4 w5 Bt g R ms A5 (j + 1) F T W7)
        clear hnew d6 but6 hF6 arr6 hbtl hgr7 but7 hs6 hs6' I tc tf
        go_roundw
        case rel => exact ⟨j + 1, by omega, by go_num, HNew⟩
        case measure => simp [intOf]; omega
      · obtain rfl : j = n2 := by omega
        have hji : decide ((j : Int) < (j : Int)) = false := by simp
        obtain ⟨F, T, I⟩ := hrel.out
        obtain ⟨X, hX⟩ : ∃ X, settle R (kept ((ms.take j).map asW) ks) = X := ⟨_, rfl⟩
        have hX5 : X.length = 5 := by rw [← hX, settle_length, hR5]
        have C6 := left_any A3 n3 c3 ks (hk.in_.below I.bel) I.disk
        rw [show settle (mst R ms j).sure (kept (mst R ms j).waits ks) = X from hX] at C6
        have HI := Lib.hid I
        clear I
        go_wp2_with fail
        refine C6.mono ?_
        rintro e w6 ⟨g6, rfl, m6⟩
        clear C6
        have CW := waits_any m6.1
        rw [show ((fresh X).waits.length : Int) = 0 from rfl] at CW
        go_wp2_with fail
        refine CW.mono ?_
        rintro e w7 ⟨rfl, rfl⟩
        clear CW
        have C7 := left_any none 0 0 [] (InB.none_ _ _) m6.1
        rw [show settle (fresh X).sure (kept (fresh X).waits []) = X from rfl] at C7
        go_wp2_with fail
        refine C7.mono ?_
        rintro e w7 ⟨g7, rfl, m7⟩
        clear C7
        have b6 := m6.2
        have b7 := below_on b6 (Nat.le_refl _) m7.2
        have C8 := all_five (m7.above (base := 0) (Nat.zero_le _)) (show (fresh X).sure.length = 5 from hX5)
        rw [show (fresh X).read = X from rfl] at C8
        go_wp2_with fail
        refine C8.mono ?_
        rintro e w8 ⟨A8, c8, rfl, r8, b8⟩
        clear C8 m6 m7
        have b8' := below_on b7 (Nat.le_refl _) b8
        have R8 := r8.now
        have P8 : CameRows w8 A5 5 R := (HI.out.was.below b8' (fun x hx => by have := hx.2; have := HI.out.sz; have := HI.out.arr.lt; omega)).now
        have T8 : IArr w8 Bt 49 T := HI.out.arr.block (b8'.block Bt HI.out.arr.lt)
        have bel8 := below_on HI.out.bel (Nat.le_refl _) b8'
        have HF := Lib.hid (And.intro R8 (And.intro P8 (And.intro T8 bel8)))
        clear R8 P8 T8 bel8 b8 b7 b6 b8' r8
        go_wp2
        go_loopw [14] (fun i wl => ∃ l : Nat, l ≤ 5 ∧ i = .int .i64 (l : Int) ∧ Hid (∃ q, wl = w8.drewN q)) (fun i _ => 5 - (intOf i).toNat)
        case atStart => exact ⟨0, Nat.zero_le _, rfl, Lib.hid ⟨0, rfl⟩⟩
        case round =>
          obtain ⟨l, hl, rfl, hq⟩ := hrel
          have bel : Below w8.heap.size w8 wr := by obtain ⟨q, rfl⟩ := hq.out; exact drewN_below w8 q
          by_cases hlt : l < 5
          · have hli : (l : Int) < 5 := by omega
            obtain ⟨tv, htv⟩ : ∃ tv, T.getD l 0 = tv := ⟨_, rfl⟩
            have tc : wr.cell? ⟨Bt, l, none⟩ = some (.int .i64 (tv : Int)) := by
              have := HF.out.2.2.1.cell (i := l) (by rw [HI.out.touch.len]; exact hlt)
              rw [htv] at this
              exact (bel.cell (World.block_lt_of_cell? w8 _ this)).trans this
            obtain ⟨xs, hxs⟩ : ∃ xs, R[l]? = some xs := ⟨_, List.getElem?_eq_getElem (by rw [hR5]; exact hlt)⟩
            obtain ⟨ys, hys⟩ : ∃ ys, X[l]? = some ys := ⟨_, List.getElem?_eq_getElem (by rw [hX5]; exact hlt)⟩
            obtain ⟨ad, B, m, k, rfl, hcell, hcame, hm63⟩ := HF.out.2.1.row l xs hxs
            obtain ⟨ad2, B2, m2, k2, rfl, hcell2, hcame2, _⟩ := HF.out.1.row l ys hys
            have hc1 : wr.cell? (ad.add l) = some (.slice B m k) := (bel.cell (World.block_lt_of_cell? w8 _ hcell)).trans hcell
            have hc2 : wr.cell? (ad2.add l) = some (.slice B2 m2 k2) := (bel.cell (World.block_lt_of_cell? w8 _ hcell2)).trans hcell2
            by_cases ht0 : tv = 0
            · have hsame : ys = xs := by
                have h1 : X[l]? = R[l]? := by
                  rw [← hX]
                  refine settle_other (fun x hx => ?_)
                  obtain ⟨y, hy, rfl⟩ := List.mem_map.1 (pick_mem hx)
                  exact HI.out.touch.none_ l (by rw [htv]; exact ht0) hlt y hy
                rw [hys, hxs] at h1
                injection h1
              subst hsame
              have hmm : m2 = m := by rw [← hcame2.in_.len, ← hcame.in_.len]
              subst hmm
              have C := Lib.hid (fun q => sameBytes_yes B B2 m2 k k2 ys (wr.drewN q) ((hcame.in_.below bel).drewN q) ((hcame2.in_.below bel).drewN q) (by omega))
              subst ht0
              clear hcell hcell2 hcame hcame2 hxs hys bel htv
              go_wp2
              go_quiet ((go_at_call 23; exact Calls.quiet_of (C.out _)))
              go_wp2
              go_roundw
              case rel =>
                refine ⟨l + 1, by omega, by go_num, ?_⟩
                obtain ⟨q, hq'⟩ := hq.out
                exact Lib.hid ⟨q + nq, by rw [hq', World.drewN_drewN]⟩
              case measure => simp [intOf]; omega
            · have ht1 : ((tv : Int) == 0) = false := by simp; omega
              clear hcell hcell2 hcame hcame2 hxs hys bel htv
              go_wp2
              refine wp_region_still_lit (by kernel_rfl) (by kernel_rfl) ?_
              iterate 16 (with_reducible refine wpStill_step (fun K hK => ?_); go_simp; with_reducible refine hK _ ?_; clear hK K)
              refine wpStill_nil ?_
              change Exit.then _ _ _ _ (wr.drewN 1)
              go_wp2
              go_roundw
              case rel =>
                refine ⟨l + 1, by omega, by go_num, ?_⟩
                obtain ⟨q, hq'⟩ := hq.out
                exact Lib.hid ⟨q + 1, by rw [hq', World.drewN_drewN]⟩
              case measure => simp [intOf]; omega
          · obtain rfl : l = 5 := by omega
            obtain ⟨q, hq'⟩ := hq.out
            go_wp2
            go_ret
            exact ⟨rfl, below_on HF.out.2.2.2 (Nat.le_refl _) (drewN_below w8 q)⟩
  · go_enter Try.func5, Try.ntmps5
    go_wp2_with fail
    refine (alive_any w).mono ?_
    rintro e w2 ⟨rfl, b2⟩
    have CA := alive_any w2
    by_cases i1 : n ≤ 100
    · have j1 : decide (100 < (n : Int)) = false := by simp; omega
      by_cases i2 : n2 ≤ 100
      · have j2 : decide (100 < (n2 : Int)) = false := by simp; omega
        have j3 : 200 < n3 := by omega
        have j3' : (200 : Int) < (n3 : Int) := by omega
        go_wp2_with fail
        refine CA.mono ?_
        rintro e w3 ⟨rfl, b3⟩
        go_wp2
        go_ret
        exact ⟨rfl, below_on b2 (Nat.le_refl _) b3⟩
      · have j3 : 100 < n2 := by omega
        have j3' : (100 : Int) < (n2 : Int) := by omega
        go_wp2_with fail
        refine CA.mono ?_
        rintro e w3 ⟨rfl, b3⟩
        go_wp2
        go_ret
        exact ⟨rfl, below_on b2 (Nat.le_refl _) b3⟩
    · have j3 : 100 < n := by omega
      have j3' : (100 : Int) < (n : Int) := by omega
      go_wp2_with fail
      refine CA.mono ?_
      rintro e w3 ⟨rfl, b3⟩
      go_wp2
      go_ret
      exact ⟨rfl, below_on b2 (Nat.le_refl _) b3⟩

end Go.Proofs.Ytolbchknjcipiaa
