/-
  frames.Put.
-/
import Derived.Test.YtfniddnfkciblaaDoorFNum
import Derived.Test.YtfniddnfkciblaaDoorFBack
import Derived.Lib.SmallJoins
import Derived.ArgAppend
import Derived.Deep.Cut
namespace Go.Proofs.YtfniddnfkciblaaDoor
open Go.RowKit

theorem splice_bytes (ys : List Nat) (k : Nat) (cs : List Nat) : splice (bvs ys) k (bvs cs) = bvs (ys.take k ++ cs ++ ys.drop (k + cs.length)) := by
  unfold splice
  rw [bvs_append, bvs_append, bvs_length]
  simp [bvs, List.map_take, List.map_drop]
theorem made_noughts (m : Nat) : madeCells #[.int .u8 0] m = (bvs (List.replicate m 0)).toArray := by
  apply Array.ext'
  simp only [madeCells, bvs, List.map_replicate, Array.toList_map, Array.toList_range]
  rw [List.eq_replicate_iff]
  refine ⟨by simp, fun b hb => ?_⟩
  obtain ⟨i, _, rfl⟩ := List.mem_map.1 hb
  simp [Nat.mod_one, bv]
theorem In.from_ {W : World} {A : Option Addr} {n : Nat} {xs : List Nat} (h : In W A n xs) : 0 < (bvs xs).length → ∃ ad, A = some ad ∧ ∀ j v, (bvs xs)[j]? = some v → W.cell? (ad.add j) = some v := by
  intro h0
  rw [bvs_length] at h0
  obtain ⟨ad, rfl, _⟩ := h.rd.at_ h0
  refine ⟨ad, rfl, fun j v hv => ?_⟩
  rw [bvs_get] at hv
  obtain ⟨x, hx, rfl⟩ := Option.map_eq_some_iff.1 hv
  obtain ⟨ad', e, hc⟩ := h.rd j x hx
  cases e
  exact hc

/-- 'append(s, l...)' of bytes, s without room for l. -/
theorem wpList_app_grows {ops : Array Oper} {rest : List Oper} {o : Oper} {a : Act} {Q : Exit → Act → World → Prop} (w : World) (hgd : o.guard = none) (s x : Operand)
    (ho : o.op = .call { callee := .builtin .append, args := #[s, x], argTypes := #[23, 23] })
    (A : Option Addr) (n c : Nat) (xs : List Nat) (hs : a.eval s = .slice A n c) (hin : In w A n xs) (hA : A = none → n = 0 ∧ c = 0)
    (ad : Addr) (m c2 : Nat) (ys : List Nat) (hx : a.eval x = .slice (some ad) m c2) (hin2 : In w (some ad) m ys) (hg : c < n + m) (hle : n + m ≤ 140737488355328)
    (h : ∀ A' c' w', w'.ownsRow w.heap.size 5 1 (.slice A' (n + m) c') (n + m) (bvs (xs ++ ys)) → Below w.heap.size w w' → wpList Tryd.prog ops Q rest (a.put o.dst (.slice A' (n + m) c')) w') :
    wpList Tryd.prog ops Q (o :: rest) a w := by
  obtain ⟨i0, hi, hz0, hz1, hz2⟩ := info_parts infoByte
  refine wpList_append_grows w hgd s x 23 ho 5 i0 _ 1 1 Tryd.underlying23 hi hz0 hz1 hz2 rfl (by decide) A n c (bvs xs) hs hA (by rw [bvs_length, hin.len]; simp) ?_ ad m c2 (bvs ys) hx (by rw [bvs_length, hin2.len]; simp) ?_ (bvs_oneCell ys) hg (by unfold maxLen; omega) (by omega) ?_
  · intro b hb j u hu
    rw [bvs_get] at hu
    obtain ⟨y, hy, rfl⟩ := Option.map_eq_some_iff.1 hu
    obtain ⟨ad', e, hc⟩ := hin.rd j y hy
    rw [hb] at e
    cases e
    exact hc
  · intro j u hu
    rw [bvs_get] at hu
    obtain ⟨y, hy, rfl⟩ := Option.map_eq_some_iff.1 hu
    obtain ⟨ad', e, hc⟩ := hin2.rd j y hy
    cases e
    exact hc
  · intro v' w' h2 h3
    rw [← bvs_append] at h2
    obtain ⟨A', c', rfl⟩ := own_form h2
    exact h A' c' w' h2 ((Below.refl _ _).grown h3 (Nat.le_refl _) (fun k hk => by cases hk))
theorem In.lit_ (W : World) (xs : List Nat) (fr : Nat × Nat) : In (W.alloc (.cells (bvs xs).toArray 5 fr)) (some ⟨W.heap.size, 0, none⟩) xs.length xs :=
  ⟨rfl, fun j x hx => ⟨_, rfl, by
    rw [show (⟨W.heap.size, 0, none⟩ : Addr).add j = ⟨W.heap.size, j, none⟩ from by unfold Addr.add; split <;> simp_all]
    rw [cell_of_row _ W.heap.size j _ 5 fr (World.alloc_heap_new W _), List.getElem?_toArray, bvs_get, hx]
    rfl⟩⟩
theorem own_ad {w : World} {base size n : Nat} {A : Option Addr} {c : Nat} {e : TypeId} {xs : List Value} (h : w.ownsRow base e size (.slice A n c) n xs) (hn : 0 < n) : ∃ g, A = some ⟨g, 0, none⟩ := by
  obtain ⟨g, cap, hv⟩ := Joins.ownsRow_form h hn
  injection hv with h1
  exact ⟨g, h1⟩

/-- What Put answers. -/
def PutPost (num : Nat) (xs : List Nat) (n : Nat) (w : World) (e : Ending) (w' : World) : Prop :=
  ∃ A c, e = .returned (.tuple #[.slice A (64 * secs n) c, .int .i64 0]) ∧ w'.ownsRow w.heap.size 5 1 (.slice A (64 * secs n) c) (64 * secs n) (bvs (frameL num xs)) ∧ Below w.heap.size w w'

set_option maxRecDepth 100000 in
theorem put_great (num n c : Nat) (A : Option Addr) (w : World) (h : 256 < n) :
    Calls Tryd.prog 7 #[.int .u64 (num : Int), .slice A n c] w fun e w' => e = .returned (.tuple #[.slice none 0 0, .int .i64 3]) ∧ w = w' := by
  have hi : (256 : Int) < (n : Int) := by omega
  go_enter Tryd.func7, Tryd.ntmps7
  go_wp2_with fail
  go_ret2
  exact ⟨rfl, rfl⟩

set_option maxRecDepth 100000 in
set_option maxHeartbeats 4000000 in
theorem put_frame (num n c : Nat) (A : Option Addr) (xs : List Nat) (w : World) (h : n ≤ 256) (hin : In w A n xs) (hx : ∀ x ∈ xs, x < 256) (hA : A = none → n = 0) (hnc : n ≤ c) :
    Calls Tryd.prog 7 #[.int .u64 (num : Int), .slice A n c] w (PutPost num xs n w) := by
  have hi : ¬ (256 : Int) < (n : Int) := by omega
  have C1 := Lib.hid (fun W => numbers_any num n (by omega) (by omega) W)
  have C2 := Lib.hid (fun (W : World) (hb : Below w.heap.size w W) => sumOf_any num A n c xs W (hin.below hb) hx hA hnc (by omega))
  have C3 := Lib.hid (fun (A1 : Option Addr) (c1 : Nat) (W : World) (hi : In W A1 14 (recMark ++ toldL num n)) => put_any A1 14 c1 (recMark ++ toldL num n) (sumL num xs) 4 4 (kk_nat 4 (by omega)) W hi (by omega))
  have C4 := Lib.hid (fun W => sectors_any n (by omega) W)
  have hmk := fun m (hm : m ≤ 1000) => make_bytes m m (Nat.le_refl _) (by omega)
  have HX := Lib.hid (And.intro hin (And.intro hx hA))
  clear hin hx hA
  have kc := fun (W : World) (C : Array Value) (n c g : Nat) (hg : g = W.heap.size) => Joins.run_convert_bytes_const_at (P := Tryd.prog) W 23 5 C n c g hg Tryd.underlying23 Tryd.underlying5
  go_enter Tryd.func7, Tryd.ntmps7
  go_wp2_with fail
  have i1 : In (w.alloc (.cells #[.int .u8 82, .int .u8 69, .int .u8 67, .int .u8 49] 5 (4, 5))) (some ⟨w.heap.size, 0, none⟩) 4 recMark := In.lit_ w recMark (4, 5)
  have hb1 := below_alloc w (.cells #[.int .u8 82, .int .u8 69, .int .u8 67, .int .u8 49] 5 (4, 5))
  obtain ⟨w1, hw1⟩ : ∃ w1, w.alloc (.cells #[.int .u8 82, .int .u8 69, .int .u8 67, .int .u8 49] 5 (4, 5)) = w1 := ⟨_, rfl⟩
  rw [hw1] at i1 hb1 ⊢
  clear hw1 kc
  have HB1 := Lib.hid hb1
  clear hb1
  obtain ⟨g0, hg0⟩ : ∃ g, w.heap.size = g := ⟨_, rfl⟩
  rw [hg0] at i1 ⊢
  have HG0 := Lib.hid hg0
  clear hg0
  have I1 := Lib.hid i1
  clear i1
  refine (C1.out _).mono ?_
  rintro e w2 ⟨A2, c2, rfl, ho2, hb2⟩
  obtain ⟨g2, rfl⟩ := own_ad ho2 (by omega)
  have H2 := Lib.hid (And.intro (I1.out.below hb2) (And.intro (In.of_own ho2) (below_on HB1.out (Nat.le_refl _) hb2)))
  clear ho2 hb2
  go_wp2_with (at_builtin; refine wpList_app_grows _ rfl (.tmp 12) (.tmp 16) rfl (some ⟨g0, 0, none⟩) 4 4 recMark rfl H2.out.1 (fun e => by cases e) ⟨g2, 0, none⟩ 10 c2 (toldL num n) rfl H2.out.2.1 (by omega) (by omega) ?_; intro A3 c3 w3 ho3 hb3)
  have H3 := Lib.hid (And.intro (show In w3 A3 14 (recMark ++ toldL num n) from In.of_own ho3) (below_on H2.out.2.2 (Nat.le_refl _) hb3))
  clear ho3 hb3
  refine (C2.out _ H3.out.2).mono ?_
  rintro e w4 ⟨rfl, hb4⟩
  have H4 := Lib.hid (And.intro (H3.out.1.below hb4) (below_on H3.out.2 (Nat.le_refl _) hb4))
  clear hb4
  go_wp2_with fail
  refine (C3.out A3 c3 w4 H4.out.1).mono ?_
  rintro e w5 ⟨A5, c5, rfl, ho5, hb5⟩
  have hhd : recMark ++ toldL num n ++ dg (sumL num xs) 4 = headL num xs := by unfold headL; rw [HX.out.1.len]
  rw [hhd] at ho5
  have H5 := Lib.hid (And.intro (show In w5 A5 18 (headL num xs) from In.of_own ho5) (below_on H4.out.2 (Nat.le_refl _) hb5))
  clear ho5 hb5 hhd
  obtain ⟨q, hq⟩ : ∃ q, secs n = q := ⟨_, rfl⟩
  have q1 := secs_ge n
  have q2 := secs_le n h
  rw [hq] at q1 q2 C4
  obtain ⟨L, hL⟩ : ∃ L, 64 * q = L := ⟨_, rfl⟩
  have hLi : 64 * (q : Int) = (L : Int) := by omega
  have hL1 : 18 + n ≤ L := by omega
  have hL2 : L ≤ 320 := by omega
  have hL3 : L % 64 = 0 := by omega
  have HQ := Lib.hid (And.intro hq hL)
  clear hq q1 q2 hL
  have hmk5 := hmk L (by omega) w5
  rw [made_noughts] at hmk5
  have hg6 : (w5.alloc (.cells (bvs (List.replicate L 0)).toArray 5)).heap[w5.heap.size]? = some (.cells (bvs (List.replicate L 0)).toArray 5 (0, 0)) := World.alloc_heap_new w5 _
  have hb6 := below_alloc w5 (.cells (bvs (List.replicate L 0)).toArray 5)
  obtain ⟨w6, hw6⟩ : ∃ w6, w5.alloc (.cells (bvs (List.replicate L 0)).toArray 5) = w6 := ⟨_, rfl⟩
  rw [hw6] at hmk5 hg6 hb6
  clear hw6 hmk
  have hB6 : Hid (Below w.heap.size w w6) := below_on H5.out.2 (Nat.le_refl _) hb6
  have i5 := Lib.hid (H5.out.1.below hb6)
  have hgw : Hid (w.heap.size ≤ w5.heap.size) := H5.out.2.size
  obtain ⟨g6, hgg⟩ : ∃ g, w5.heap.size = g := ⟨_, rfl⟩
  rw [hgg] at hmk5 hg6 hgw
  clear hgg hb6
  obtain ⟨B6, hcut, hB6'⟩ := cut_name (A := some ⟨g6, 0, none⟩) (n := L) (c := L) (k := 18) (by omega)
  rw [if_neg (by omega)] at hB6'
  have hB6'' : B6 = some ⟨g6, 18, none⟩ := by rw [hB6']; rfl
  subst hB6''
  clear hB6'
  obtain ⟨L2, hL4⟩ : ∃ L2, L - 18 = L2 := ⟨_, rfl⟩
  rw [hL4] at hcut
  have HL4 := Lib.hid hL4
  have hcut' : ∀ W : World, (Instr.slice 23 (.slice (some ⟨g6, 0, none⟩) L L) (some (.int .i64 18)) none none).run Tryd.prog W = .ok (.slice (some ⟨g6, 18, none⟩) L2 L2) W := hcut
  clear hcut
  clear hL4
  have hn1 : Hid ((bvs (headL num xs)).length = Nat.min 18 L) := by
    show _ = _
    rw [bvs_length, headL_length]
    exact (Nat.min_eq_left (by omega)).symm
  have hf1 : Hid (0 + (bvs (headL num xs)).length ≤ (bvs (List.replicate L 0)).length) := by
    show _ ≤ _
    rw [bvs_length, headL_length, bvs_length, List.length_replicate]
    omega
  have hc5 : 18 ≤ L := by omega
  have HG6 := Lib.hid hg6
  clear hg6
  go_wp2_with fail
  refine (C4.out _).mono ?_
  rintro e w5' ⟨rfl, rfl⟩
  go_upto_region 7 with (with_reducible refine wpList_copy_splice rfl (.tmp 28) (.tmp 29) 23 23 rfl 5 Tryd.underlying23 sizeByte (some ⟨g6, 0, none⟩) A5 L L 18 c5 rfl rfl g6 0 (bvs (List.replicate L 0)) 5 HG6.out (bvs (headL num xs)) hn1.out (fun h => ⟨rfl, i5.out.from_ h⟩) hf1.out (bvs_oneCell _) w.heap.size w hB6.out hgw.out ?_; intro w7 hw7 hb7)
  have hg7 := hw7.out
  rw [splice_bytes, headL_length] at hg7
  have e7 : List.take 0 (List.replicate L 0) ++ headL num xs ++ List.drop (0 + 18) (List.replicate L 0) = headL num xs ++ List.replicate L2 0 := by
    rw [List.take_zero, List.nil_append, List.drop_replicate, Nat.zero_add, HL4.out]
  rw [e7] at hg7
  have HB7 := Lib.hid hb7
  have i7 := Lib.hid (HX.out.1.below hb7)
  have HG7 := Lib.hid hg7
  have hn2 : Hid ((bvs xs).length = Nat.min n L2) := by
    show _ = _
    have := HL4.out
    rw [bvs_length, HX.out.1.len]
    exact (Nat.min_eq_left (by omega)).symm
  have hf2 : Hid (18 + (bvs xs).length ≤ (bvs (headL num xs ++ List.replicate L2 0)).length) := by
    show _ ≤ _
    have := HL4.out
    rw [bvs_length, HX.out.1.len, bvs_length, List.length_append, headL_length, List.length_replicate]
    omega
  clear hw7 hb7 hg7 e7
  go_wp2_with (with_reducible refine wpList_copy_splice rfl (.tmp 32) (.tmp 33) 23 23 rfl 5 Tryd.underlying23 sizeByte (some ⟨g6, 18, none⟩) A L2 L2 n c rfl rfl g6 18 (bvs (headL num xs ++ List.replicate L2 0)) 5 HG7.out (bvs xs) hn2.out (fun h => ⟨rfl, i7.out.from_ h⟩) hf2.out (bvs_oneCell _) w.heap.size w HB7.out hgw.out ?_; intro w8 hw8 hb8)
  go_ret2
  refine ⟨some ⟨g6, 0, none⟩, L, ?_, ?_, hb8⟩
  · rw [HQ.out.1, HQ.out.2]; rfl
  · have hg8 := hw8.out
    have e8 : List.take 18 (headL num xs ++ List.replicate L2 0) ++ xs ++ List.drop (18 + xs.length) (headL num xs ++ List.replicate L2 0) = frameL num xs := by
      have h1 := HL4.out
      have h2 := HX.out.1.len
      have h3 := HQ.out
      rw [take_append_len _ _ _ (headL_length _ _), ← List.drop_drop, drop_append_len _ _ _ (headL_length _ _), List.drop_replicate, frameL, noug, h2, h3.1, h3.2, h1]
    rw [splice_bytes, e8] at hg8
    rw [HQ.out.1, HQ.out.2]
    have hfl := frameL_length num xs
    rw [HX.out.1.len, HQ.out.1, HQ.out.2] at hfl
    refine ⟨by rw [bvs_length, hfl]; simp, .inr ⟨g6, L, (bvs (frameL num xs)).toArray, rfl, hgw.out, hg8, Nat.le_refl _, by unfold maxLen; omega, ?_, ?_⟩⟩
    · rw [List.size_toArray, bvs_length, hfl]; simp
    · rw [List.take_of_length_le (by rw [bvs_length, hfl]; omega)]

end Go.Proofs.YtfniddnfkciblaaDoor
