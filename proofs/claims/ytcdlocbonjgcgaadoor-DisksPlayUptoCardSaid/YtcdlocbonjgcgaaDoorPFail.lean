/-
  The document's own disk (almonerref05): Fail.
-/
import Derived.Test.YtcdlocbonjgcgaaDoorPNew
import Derived.StillTailTactics
namespace Go.Proofs.YtcdlocbonjgcgaaDoor
open Go.RowKit

/-- The new disk, the sectors R in it. -/
structure MadeAt (w wr : World) (n : Nat) (sv : Value) (bl : List Nat) (R : List (List Nat)) : Prop where
  head : wr.heap[w.heap.size]? = some (.cells #[sv, .slice none 0 0, .int .i64 (-1), .bool false] 65 (0, 0))
  row : wr.ownsRow w.heap.size 42 1 sv n (bl.map sl)
  len : R.length = n
  secs : ∀ (i b : Nat) (xs : List Nat), bl[i]? = some b → R[i]? = some xs → BArr wr b 5 xs ∧ w.heap.size ≤ b
  apart : ∀ (i k b : Nat), bl[i]? = some b → bl[k]? = some b → i = k
  below : Below w.heap.size w wr

theorem NewAt.nought {w wr : World} {n : Nat} {sv : Value} {bl : List Nat} (h : NewAt w wr n sv bl) : MadeAt w wr n sv bl (zeros n) :=
  ⟨h.head, h.row, zeros_length n, fun i b xs hb hx => by
    have : xs = List.replicate 64 0 := List.eq_of_mem_replicate (List.mem_of_getElem? hx)
    rw [this]
    exact h.secs i b hb, h.apart, h.below⟩
theorem MadeAt.drew {w wr : World} {n : Nat} {sv : Value} {bl : List Nat} {R : List (List Nat)} (h : MadeAt w wr n sv bl R) : MadeAt w wr.drew n sv bl R :=
  ⟨h.head, own_block h.row (fun _ _ => rfl), h.len, fun i b xs hb hx => h.secs i b xs hb hx, h.apart, ⟨h.below.os, h.below.tape, h.below.output, h.below.size, h.below.block⟩⟩
theorem MadeAt.bl_len {w wr : World} {n : Nat} {sv : Value} {bl : List Nat} {R : List (List Nat)} (h : MadeAt w wr n sv bl R) : bl.length = n := by
  have := h.row.1
  rw [List.length_map] at this
  omega
theorem MadeAt.set {w wr : World} {n k b : Nat} {sv : Value} {bl : List Nat} {R : List (List Nat)} {xs : List Nat} (h : MadeAt w wr n sv bl R) (hb : bl[k]? = some b) :
    MadeAt w (wr.setRow b (bvs xs).toArray) n sv bl (R.set k xs) := by
  have hk : k < n := by rw [← h.bl_len]; exact (List.getElem?_eq_some_iff.1 hb).1
  obtain ⟨ys, hy⟩ : ∃ ys, R[k]? = some ys := ⟨_, List.getElem?_eq_getElem (by rw [h.len]; exact hk)⟩
  obtain ⟨hB, hle⟩ := h.secs k b ys hb hy
  have hne : w.heap.size ≠ b := block_ne h.head hB rt3
  refine ⟨(setRow_other wr b _ _ hne).trans h.head, own_block h.row (fun x e => setRow_other wr b x _ (fun e2 => ?_)), by rw [List.length_set]; exact h.len, fun i c zs hi hz => ?_, h.apart, below_setRow h.below hle _⟩
  · obtain ⟨cur, hc⟩ := own_type h.row e
    exact block_ne hc hB rt5 e2
  · by_cases e : i = k
    · subst e
      rw [hb] at hi
      cases hi
      rw [List.getElem?_set_self (by rw [h.len]; exact hk)] at hz
      cases hz
      exact ⟨hB.setRow _, hle⟩
    · rw [List.getElem?_set_ne (Ne.symm e)] at hz
      obtain ⟨hC, hlc⟩ := h.secs i c zs hi hz
      exact ⟨hC.setRow_other b (fun e2 => e (h.apart i k b (e2 ▸ hi) hb)) _, hlc⟩
theorem MadeAt.made {w wr : World} {n : Nat} {sv : Value} {bl : List Nat} {R : List (List Nat)} (h : MadeAt w wr n sv bl R) (hR : ∀ x ∈ R, Sec x) (h0 : 0 < n) (h1 : n ≤ 4096) : RMade w (fresh R) w.heap.size wr := by
  have gl : w.heap.size < wr.heap.size := (Array.getElem?_eq_some_iff.1 h.head).1
  refine ⟨⟨fresh_ok hR (by rw [h.len]; exact h0) (by rw [h.len]; exact h1), (fun e => by cases e), ⟨sv, .slice none 0 0, ⟨h.head, ⟨bl.map sl, ?_, fun i v xs hi hx => ?_⟩, ⟨[], ⟨rfl, .inl ⟨rfl, rfl⟩⟩, rfl, fun i x e hi => by cases hi⟩, ⟨Nat.le_refl _, gl⟩, fun b e => ⟨(h.row.lt b e).1, own_lt h.row e⟩, fun b e => by cases e⟩⟩, fun x hx => hx.2⟩, h.below⟩
  · show wr.ownsRow 0 _ 1 sv R.length (bl.map sl)
    rw [h.len]
    exact own_base h.row
  · have hx' : R[i]? = some xs := hx
    rw [List.getElem?_map] at hi
    obtain ⟨b, hb, rfl⟩ := Option.map_eq_some_iff.1 hi
    obtain ⟨hB, hle⟩ := h.secs i b xs hb hx'
    exact bsec hB (hR xs (List.mem_of_getElem? hx')).1 ⟨hle, hB.lt⟩

/-- The copy of a sector into a block. -/
theorem wpList_copy_sec {ops : Array Oper} {rest : List Oper} {o : Oper} {a : Act} {Q : Exit → Act → World → Prop} {w : World} (hgd : o.guard = none) (d s : Operand)
    (ho : o.op = .call { callee := .builtin .copy, args := #[d, s], argTypes := #[42, 42] }) {b c : Nat} {ad : Addr} {old xs : List Nat} (hb : BArr w b 5 old) (hol : old.length = 64)
    (hin : In w (some ad) 64 xs) (hd : a.eval d = sl b) (hs : a.eval s = .slice (some ad) 64 c)
    (h : wpList Tryd.prog ops Q rest (a.put o.dst (.int .i64 64)) (w.setRow b (bvs xs).toArray)) : wpList Tryd.prog ops Q (o :: rest) a w := by
  have hl : (bvs xs).length = 64 := by rw [bvs_length, hin.len]
  refine wpList_copy_own hgd d s 42 42 ho 5 Tryd.underlying42 sizeByte b 0 64 64 ad 64 c hd hs (bvs old).toArray 5 hb (bvs xs) hl (fun j v hv => ?_) (by rw [hl, List.size_toArray, bvs_length, hol]; exact Nat.le_refl _) (bvs_oneCell xs) ?_
  · rw [bvs_get] at hv
    obtain ⟨x, hx, rfl⟩ := Option.map_eq_some_iff.1 hv
    obtain ⟨ad', e, hc⟩ := hin.rd j x hx
    cases e
    exact hc
  · rw [hl]
    have e : ((bvs old).toArray.toList.take 0 ++ (bvs xs ++ (bvs old).toArray.toList.drop (0 + 64))) = bvs xs := by
      rw [List.take_zero, List.nil_append, List.drop_eq_nil_of_le (by simp [bvs_length, hol]), List.append_nil]
    rw [e]
    exact h

theorem laid_set {A B : List (List Nat)} {j : Nat} {x : List Nat} (hx : A[j]? = some x) (hl : B.length = A.length) : (A.take j ++ B.drop j).set j x = A.take (j + 1) ++ B.drop (j + 1) := by
  have hj := (List.getElem?_eq_some_iff.1 hx).1
  have h1 : (A.take j).length = j := by rw [List.length_take]; omega
  rw [List.set_append_right _ _ (by omega), h1, Nat.sub_self, List.take_add_one, hx, List.drop_eq_getElem_cons (by omega : j < B.length), List.set_cons_zero, List.append_assoc]
  rfl
theorem pick_same {ws : List (Nat × List Nat)} {ks : List Bool} {j : Nat} (h : ks.length ≤ j) : pick ws ks (j + 1) = pick ws ks j := by
  have : (ws.zip ks).length ≤ j := by rw [List.length_zip]; omega
  rw [pick, pick, List.take_of_length_le (by omega), List.take_of_length_le this]
theorem pick_all (ws : List (Nat × List Nat)) (ks : List Bool) : pick ws ks ws.length = kept ws ks := by
  have h1 : (ws.zip ks).length ≤ ws.length := by rw [List.length_zip]; omega
  have h2 : (ws.zip ks).length ≤ min ws.length ks.length := by rw [List.length_zip]; omega
  rw [kept, pick, pick, List.take_of_length_le h1, List.take_of_length_le h2]

set_option maxRecDepth 100000 in
set_option maxHeartbeats 2000000 in
theorem rfail_any {w : World} {g : Nat} {F : Nat → Prop} {s : St} (A : Option Addr) (n c : Nat) (ks : List Bool) (hk : InB w A n ks) (h : RDisk w g F s) :
    Calls Tryd.prog 19 #[.pointer (some ⟨g, 0, none⟩), .slice A n c] w fun e w' => ∃ g', e = .returned (.pointer (some ⟨g', 0, none⟩)) ∧ RMade w (fresh (settle s.sure (kept s.waits ks))) g' w' := by
  obtain ⟨ok, _, ⟨sv0, lv, h⟩, hl⟩ := h
  obtain ⟨vals, hrow, hsec⟩ := h.sure
  obtain ⟨E, hrowL, hEl, hEs⟩ := h.l
  obtain ⟨A0, cc, rfl, hnc, hA, hcm⟩ := row_form hrow
  obtain ⟨AL, cL, rfl, hncL, hAL, hcmL⟩ := row_form hrowL
  obtain ⟨B, rfl⟩ := hA ok.pos
  obtain ⟨N, hN⟩ : ∃ N, s.sure.length = N := ⟨_, rfl⟩
  obtain ⟨m, hm⟩ : ∃ m, s.waits.length = m := ⟨_, rfl⟩
  have hE2 : ∀ e ∈ E, e.length = 2 := wait_len (by omega) hEs
  rw [hm] at hrowL hncL hAL h hEl
  rw [hN] at hrow hnc h
  have C := rnew_at w N (by rw [← hN]; exact ok.pos) (by rw [← hN]; exact ok.le)
  have c0 := h.c0
  have c1 := h.c1
  have nm : N ≤ 9223372036854775807 := by omega
  have mm : m ≤ 9223372036854775807 := by omega
  have H := Lib.hid (And.intro h (And.intro ok (And.intro hsec (And.intro hrowL (And.intro hEl (And.intro hEs (And.intro hm (And.intro hN (And.intro hncL (And.intro hAL (And.intro hrow (And.intro hl (And.intro hnc (And.intro hE2 hk))))))))))))))
  clear h ok hsec hrowL hEl hEs hm hN hncL hAL hl hrow hnc hcmL hcm hk hE2
  go_enter Tryd.func19, Tryd.ntmps19
  go_wp2_with fail
  refine C.mono ?_
  rintro e w1 ⟨rfl, sv, bl, hnew⟩
  obtain ⟨AN, cN, rfl, hncN, hAN, hcmN⟩ := row_form hnew.row
  obtain ⟨G, rfl⟩ := hAN (by have := H.out.2.1.pos; have := H.out.2.2.2.2.2.2.2.1; omega)
  have HM := Lib.hid hnew
  clear hnew C
  go_wp2
  go_loopw [7] (fun i wr => ∃ j : Nat, j ≤ N ∧ i = .int .i64 (j : Int) ∧ Hid (MadeAt w wr N (.slice (some ⟨G, 0, none⟩) N cN) bl (s.sure.take j ++ (zeros N).drop j))) (fun i _ => N - (intOf i).toNat)
  case atStart => exact ⟨0, Nat.zero_le _, rfl, Lib.hid (by simpa using HM.out.nought)⟩
  case round =>
    obtain ⟨j, hj, rfl, hrel⟩ := hrel
    have hb := hrel.out.below
    have k0 : wr.cell? ⟨g, 0, none⟩ = some (.slice (some ⟨B, 0, none⟩) N cc) := (hb.cell (World.block_lt_of_cell? w _ c0)).trans c0
    by_cases hlt : j < N
    · have hji : (j : Int) < (N : Int) := by omega
      obtain ⟨v, hv⟩ : ∃ v, vals[j]? = some v := ⟨_, List.getElem?_eq_getElem (by rw [H.out.2.2.2.2.2.2.2.2.2.2.1.1]; omega)⟩
      obtain ⟨xs, hx⟩ : ∃ xs, s.sure[j]? = some xs := ⟨_, List.getElem?_eq_getElem (by rw [H.out.2.2.2.2.2.2.2.1]; exact hlt)⟩
      obtain ⟨Bj, cj, rfl, hin, hcj, hFj, _⟩ := H.out.2.2.1 j v xs hv hx
      have cv0 : w.cell? ⟨B, j, none⟩ = some (.slice (some ⟨Bj, 0, none⟩) 64 cj) := (H.out.2.2.2.2.2.2.2.2.2.2.1.cellAt j (by omega)).trans hv
      have cv : wr.cell? ⟨B, j, none⟩ = some (.slice (some ⟨Bj, 0, none⟩) 64 cj) := (hb.cell (World.block_lt_of_cell? w _ cv0)).trans cv0
      obtain ⟨b, hbj⟩ : ∃ b, bl[j]? = some b := ⟨_, List.getElem?_eq_getElem (by rw [hrel.out.bl_len]; exact hlt)⟩
      have n0 : wr.cell? ⟨w.heap.size, 0, none⟩ = some (.slice (some ⟨G, 0, none⟩) N cN) := by rw [cell_of_row _ _ 0 _ _ (0, 0) hrel.out.head]; rfl
      have n1 : wr.cell? ⟨G, j, none⟩ = some (.slice (some ⟨b, 0, none⟩) 64 64) := by
        rw [hrel.out.row.cellAt j (by omega), List.getElem?_map, hbj]
        rfl
      have hinr : In wr (some ⟨Bj, 0, none⟩) 64 xs := hin.below hb
      have hlr : (s.sure.take j ++ (zeros N).drop j).length = N := hrel.out.len
      obtain ⟨old, hold⟩ : ∃ old, (s.sure.take j ++ (zeros N).drop j)[j]? = some old := ⟨_, List.getElem?_eq_getElem (by rw [hlr]; exact hlt)⟩
      have hob := (hrel.out.secs j b old hbj hold).1
      have hsl : old.length = 64 := by
        rcases List.mem_append.1 (List.mem_of_getElem? hold) with h | h
        · exact (H.out.2.1.sec _ (List.mem_of_mem_take h)).1
        · rw [List.eq_of_mem_replicate (List.mem_of_mem_drop h)]; rfl
      have HX := Lib.hid (And.intro hx (And.intro hbj (And.intro hinr (And.intro hob hsl))))
      clear hv hin hcj hFj hx hbj hinr hob hsl hold hlr cv0 hb
      go_wp2
      go_still_tail 14, (by kernel_rfl)
      refine wpList_copy_sec (w := wr.drew) rfl (.tmp 33) (.tmp 40) rfl HX.out.2.2.2.1.drew HX.out.2.2.2.2 ⟨HX.out.2.2.1.len, HX.out.2.2.1.rd⟩ rfl rfl ?_
      have HN := Lib.hid (hrel.out.drew.set HX.out.2.1 (xs := xs))
      rw [laid_set HX.out.1 (by rw [zeros_length, H.out.2.2.2.2.2.2.2.1])] at HN
      go_wp2
      go_roundw
      case rel => exact ⟨j + 1, by omega, by go_num, HN⟩
      case measure => simp [intOf]; omega
    · obtain rfl : j = N := by omega
      have hji : decide ((j : Int) < (j : Int)) = false := by simp
      have hfull : s.sure.take j ++ (zeros j).drop j = s.sure := by
        rw [List.take_of_length_le (by rw [H.out.2.2.2.2.2.2.2.1]; exact Nat.le_refl _), List.drop_eq_nil_of_le (by rw [zeros_length]; exact Nat.le_refl _), List.append_nil]
      have HM1 : Hid (MadeAt w wr j (.slice (some ⟨G, 0, none⟩) j cN) bl s.sure) := Lib.hid (by have := hrel.out; rwa [hfull] at this)
      clear hrel hfull hb
      go_wp2
      go_loopw [8] (fun i wr => ∃ q : Nat, q ≤ m ∧ i = .int .i64 (q : Int) ∧ Hid (MadeAt w wr j (.slice (some ⟨G, 0, none⟩) j cN) bl (settle s.sure (pick s.waits ks q)))) (fun i _ => m - (intOf i).toNat)
      case atStart => exact ⟨0, Nat.zero_le _, rfl, Lib.hid (by simpa [pick, settle] using HM1.out)⟩
      case round =>
        obtain ⟨q, hq, rfl, hrel⟩ := hrel
        have hb := hrel.out.below
        have k1 : wr.cell? ⟨g, 1, none⟩ = some (.slice AL m cL) := (hb.cell (World.block_lt_of_cell? w _ c1)).trans c1
        by_cases hqm : q < m
        · have hqi : (q : Int) < (m : Int) := by omega
          by_cases hqn : q < n
          · have hqni : (q : Int) < (n : Int) := by omega
            obtain ⟨gl, rfl⟩ := H.out.2.2.2.2.2.2.2.2.2.1 (by omega)
            obtain ⟨kb, hkb⟩ : ∃ kb, ks[q]? = some kb := ⟨_, List.getElem?_eq_getElem (by rw [H.out.2.2.2.2.2.2.2.2.2.2.2.2.2.2.len]; exact hqn)⟩
            obtain ⟨ad, rfl, hkc0⟩ := H.out.2.2.2.2.2.2.2.2.2.2.2.2.2.2.rd q kb hkb
            have hkc : wr.cell? (ad.add q) = some (.bool kb) := (hb.cell (World.block_lt_of_cell? w _ hkc0)).trans hkc0
            obtain ⟨x, hx⟩ : ∃ x, s.waits[q]? = some x := ⟨_, List.getElem?_eq_getElem (by rw [H.out.2.2.2.2.2.2.1]; exact hqm)⟩
            have hstep := pick_step hx hkb
            cases kb
            · have HS := Lib.hid hstep
              clear hstep hkb hkc0 hx hb
              go_wp2
              go_roundw
              case rel => exact ⟨q + 1, by omega, by go_num, Lib.hid (by rw [HS.out]; simpa using hrel.out)⟩
              case measure => simp [intOf]; omega
            · obtain ⟨e, he⟩ : ∃ e, E[q]? = some e := ⟨_, List.getElem?_eq_getElem (by rw [H.out.2.2.2.2.1]; exact hqm)⟩
              obtain ⟨v, hev, hsv⟩ := H.out.2.2.2.2.2.1 q x e hx he
              have hlen2 := H.out.2.2.2.2.2.2.2.2.2.2.2.2.2.1
              have d00 : w.cell? ⟨gl, q * 2, none⟩ = some (.int .i64 (x.1 : Int)) := by
                have := chunk_get hlen2 he (j := 0) (by omega)
                rw [(H.out.2.2.2.1.cellAt (q * 2) (by omega))]
                rw [hev] at this
                exact this
              have d10 : w.cell? ⟨gl, q * 2 + 1, none⟩ = some v := by
                have := chunk_get hlen2 he (j := 1) (by omega)
                rw [(H.out.2.2.2.1.cellAt (q * 2 + 1) (by omega))]
                rw [hev] at this
                exact this
              obtain ⟨Bj, cj, rfl, hin, hcj, hFj, _⟩ := hsv
              have d0 : wr.cell? ⟨gl, q * 2, none⟩ = some (.int .i64 (x.1 : Int)) := (hb.cell (World.block_lt_of_cell? w _ d00)).trans d00
              have d1 : wr.cell? ⟨gl, q * 2 + 1, none⟩ = some (.slice (some ⟨Bj, 0, none⟩) 64 cj) := (hb.cell (World.block_lt_of_cell? w _ d10)).trans d10
              have hxj : x.1 < j := by have := (H.out.2.1.wsec x (List.mem_of_getElem? hx)).1; rw [H.out.2.2.2.2.2.2.2.1] at this; exact this
              have hxi : (x.1 : Int) < (j : Int) := by omega
              obtain ⟨b, hbj⟩ : ∃ b, bl[x.1]? = some b := ⟨_, List.getElem?_eq_getElem (by rw [hrel.out.bl_len]; exact hxj)⟩
              have n0 : wr.cell? ⟨w.heap.size, 0, none⟩ = some (.slice (some ⟨G, 0, none⟩) j cN) := by rw [cell_of_row _ _ 0 _ _ (0, 0) hrel.out.head]; rfl
              have n1 : wr.cell? ⟨G, x.1, none⟩ = some (.slice (some ⟨b, 0, none⟩) 64 64) := by
                rw [hrel.out.row.cellAt x.1 (by omega), List.getElem?_map, hbj]
                rfl
              have hinr : In wr (some ⟨Bj, 0, none⟩) 64 x.2 := hin.below hb
              have hlr : (settle s.sure (pick s.waits ks q)).length = j := hrel.out.len
              obtain ⟨old, hold⟩ : ∃ old, (settle s.sure (pick s.waits ks q))[x.1]? = some old := ⟨_, List.getElem?_eq_getElem (by rw [hlr]; exact hxj)⟩
              have hob := (hrel.out.secs x.1 b old hbj hold).1
              have hsl : old.length = 64 := (settle_sec H.out.2.1.sec (fun z hz => (H.out.2.1.wsec z (pick_mem hz)).2) _ (List.mem_of_getElem? hold)).1
              have HX := Lib.hid (And.intro hstep (And.intro hbj (And.intro hinr (And.intro hob hsl))))
              clear hstep hkb hkc0 hx hb he hev hlen2 d00 d10 hin hcj hFj hbj hinr hob hsl hold hlr hxj
              go_wp2
              go_still_tail 22, (by kernel_rfl)
              refine wpList_copy_sec (w := wr.drew) rfl (.tmp 74) (.tmp 82) rfl HX.out.2.2.2.1.drew HX.out.2.2.2.2 ⟨HX.out.2.2.1.len, HX.out.2.2.1.rd⟩ rfl rfl ?_
              have HN := Lib.hid (hrel.out.drew.set HX.out.2.1 (xs := x.2))
              rw [← settle_snoc] at HN
              go_wp2
              go_roundw
              case rel => exact ⟨q + 1, by omega, by go_num, Lib.hid (by rw [HX.out.1]; simpa using HN.out)⟩
              case measure => simp [intOf]; omega
          · have hqni : decide ((q : Int) < (n : Int)) = false := by simp; omega
            have HS := Lib.hid (pick_same (ws := s.waits) (ks := ks) (j := q) (by rw [H.out.2.2.2.2.2.2.2.2.2.2.2.2.2.2.len]; omega))
            clear hb
            go_wp2
            go_roundw
            case rel => exact ⟨q + 1, by omega, by go_num, Lib.hid (by rw [HS.out]; exact hrel.out)⟩
            case measure => simp [intOf]; omega
        · obtain rfl : q = m := by omega
          have hqi : decide ((q : Int) < (q : Int)) = false := by simp
          have hfin : RMade w (fresh (settle s.sure (kept s.waits ks))) w.heap.size wr := by
            rw [← pick_all, H.out.2.2.2.2.2.2.1]
            exact hrel.out.made (settle_sec H.out.2.1.sec (fun z hz => (H.out.2.1.wsec z (pick_mem hz)).2)) (by have := H.out.2.1.pos; have := H.out.2.2.2.2.2.2.2.1; omega) (by have := H.out.2.1.le; have := H.out.2.2.2.2.2.2.2.1; omega)
          have HF := Lib.hid hfin
          clear hfin hb
          go_wp2
          go_ret
          exact ⟨_, rfl, HF.out⟩

end Go.Proofs.YtcdlocbonjgcgaaDoor
