/-
  DisksTurn: a byte that is turned, and turned back.
-/
import Derived.Test.YtolbchknjcipiaaDLawTools
import Derived.Deep.Cut
namespace Go.Proofs.Ytolbchknjcipiaa
open Go.RowKit

theorem turned_read (s : St) (n k y : Nat) : (s.turned n k y).read = s.read.set n (turnAt (s.read.getD n []) k y) := rfl
theorem turned_twice {xs : List Nat} {k y : Nat} (hk : k < xs.length) : turnAt (turnAt xs k y) k y = xs := by
  unfold turnAt
  rw [List.set_set, List.getD_eq_getElem?_getD, List.getElem?_set_self hk, Option.getD_some, List.getD_eq_getElem?_getD, List.getElem?_eq_getElem hk, Option.getD_some, Nat.xor_assoc, Nat.xor_self, Nat.xor_zero]
  exact List.set_getElem_self hk
theorem kept_none (ws : List (Nat × List Nat)) : kept ws [] = [] := by simp [kept, pick]

set_option maxRecDepth 100000 in
set_option maxHeartbeats 4000000 in
theorem disksTurn_law (w : World) {A : Option Addr} {n c : Nat} {ws : List (Nat × List Nat)} (hw : CameWrites w A n c ws) {p : List Nat} (hp : p.length = 2) (hpb : ∀ x ∈ p, x < 256) {y : Nat} (hy : y < 256) :
    Calls Try.prog 7 #[.slice A n c, .agg (bvs p).toArray, .int .u8 (y : Int)] w fun e w' => e = .returned (.bool true) ∧ Below w.heap.size w w' := by
  obtain ⟨p0, p1, rfl⟩ : ∃ p0 p1, p = [p0, p1] := by
    match p, hp with
    | [a, b], _ => exact ⟨a, b, rfl⟩
  have hp0 : p0 < 256 := hpb p0 (by simp)
  have hp1 : p1 < 256 := hpb p1 (by simp)
  have hV : (Value.agg (bvs [p0, p1]).toArray) = .agg #[.int .u8 (p0 : Int), .int .u8 (p1 : Int)] := rfl
  rw [hV]
  clear hV hp hpb
  go_enter Try.func7, Try.ntmps7
  go_wp2_with fail
  obtain ⟨W0, hW0⟩ : ∃ W, w.alloc (Obj.cells #[Value.int IntKind.u8 (p0 : Int), Value.int IntKind.u8 (p1 : Int)] 56) = W := ⟨_, rfl⟩
  have b0 : Below w.heap.size w W0 := hW0 ▸ below_alloc w _
  have hh0 : W0.heap[w.heap.size]? = some (Obj.cells #[Value.int IntKind.u8 (p0 : Int), Value.int IntKind.u8 (p1 : Int)] 56 (0, 0)) := hW0 ▸ World.alloc_heap_new w _
  rw [hW0]
  obtain ⟨B, hB⟩ : ∃ B, w.heap.size = B := ⟨_, rfl⟩
  rw [hB] at hh0 ⊢
  clear hW0
  refine (alive_any W0).mono ?_
  rintro e w2 ⟨rfl, b2⟩
  have b2' := below_on b0 (Nat.le_refl _) b2
  have hh2 : w2.heap[B]? = some (Obj.cells #[Value.int IntKind.u8 (p0 : Int), Value.int IntKind.u8 (p1 : Int)] 56 (0, 0)) := (b2.block B (Array.getElem?_eq_some_iff.1 hh0).1).trans hh0
  clear b2 hh0 b0
  by_cases hn : n ≤ 100
  · have hni : decide (100 < (n : Int)) = false := by simp; omega
    go_wp2_with fail
    refine (written_any A n c ws 101 (hw.below b2') (by omega)).mono ?_
    rintro e w3 ⟨g, rfl, h3, b3⟩
    rw [wst_all hw.len (by omega)] at h3
    obtain ⟨s0, hs0⟩ : ∃ s0 : St, s0 = ⟨zeros 5, ws.map asW, -1, false⟩ := ⟨_, rfl⟩
    rw [← hs0] at h3
    have hs5 : s0.sure.length = 5 := by rw [hs0]; exact zeros_length 5
    have hbl : s0.blown = false := by rw [hs0]
    have hh3 := (b3.block B (Array.getElem?_eq_some_iff.1 hh2).1).trans hh2
    have b3' := below_on b2' (Nat.le_refl _) b3
    obtain ⟨F3, d3, f3⟩ := h3.mono b2'.size
    have hok : s0.Ok := d3.1
    clear h3 b3 hh2 b2' hs0
    go_wp2_with fail
    refine (all_five ⟨F3, d3, f3⟩ hs5).mono ?_
    rintro e w4 ⟨A4, c4, rfl, r4, b4⟩
    have d4 := d3.below b4
    have hh4 := (b4.block B (Array.getElem?_eq_some_iff.1 hh3).1).trans hh3
    have b4' := below_on b3' (Nat.le_refl _) b4
    have hF3 := d3.2.2
    clear d3 b4 hh3 b3'
    obtain ⟨r, hr⟩ : ∃ r, p0 % 5 = r := ⟨_, rfl⟩
    obtain ⟨k, hk⟩ : ∃ k, p1 % 64 = k := ⟨_, rfl⟩
    have hr5 : r < 5 := by omega
    have hk64 : k < 64 := by omega
    have m1 : Int.tmod (p0 : Int) 5 = (r : Int) := by rw [Int.tmod_eq_emod_of_nonneg (by omega)]; omega
    have m2 : (p0 : Int) % 5 = (r : Int) := by omega
    have m3 : Int.tmod (p1 : Int) 64 = (k : Int) := by rw [Int.tmod_eq_emod_of_nonneg (by omega)]; omega
    have m4 : (p1 : Int) % 64 = (k : Int) := by omega
    have m5 : IntKind.i64.wrap (p0 : Int) = (p0 : Int) := by rw [IntKind.wrap_i64]; omega
    have m6 : IntKind.i64.wrap (p1 : Int) = (p1 : Int) := by rw [IntKind.wrap_i64]; omega
    have q0 : w4.cell? ⟨B, 0, none⟩ = some (.int .u8 (p0 : Int)) := by rw [cell_of_row _ B 0 _ _ (0, 0) hh4]; rfl
    have q1 : w4.cell? ⟨B, 1, none⟩ = some (.int .u8 (p1 : Int)) := by rw [cell_of_row _ B 1 _ _ (0, 0) hh4]; rfl
    have CT := turn_any (n := r) (k := k) (y := y) (by rw [hs5]; exact hr5) hk64 hy hbl d4
    obtain ⟨xs, hxs⟩ : ∃ xs, s0.read[r]? = some xs := ⟨_, List.getElem?_eq_getElem (by rw [s0.read_length, hs5]; exact hr5)⟩
    have hsx := hok.read xs (List.mem_of_getElem? hxs)
    have hxd : s0.read.getD r [] = xs := by rw [List.getD_eq_getElem?_getD, hxs]; rfl
    obtain ⟨s1, hs1⟩ : ∃ s1, s0.turned r k y = s1 := ⟨_, rfl⟩
    have hr1 : s1.read = s0.read.set r (turnAt xs k y) := by rw [← hs1, turned_read, hxd]
    have h15 : s1.sure.length = 5 := by rw [← s1.read_length, hr1, List.length_set, s0.read_length, hs5]
    have hw1 : s1.waits = [] := by rw [← hs1]; rfl
    have hbl1 : s1.blown = false := by rw [← hs1]; exact hbl
    rw [hs1] at CT
    have HT := Lib.hid CT
    clear CT hh4 d4 hr hk
    go_wp2_with fail
    refine HT.out.mono ?_
    rintro e w5 ⟨rfl, h5⟩
    clear HT m1 m2 m3 m4 m5 m6 q0 q1
    obtain ⟨F5, d5, but5, hF5⟩ := h5
    have f5 : ∀ x, F5 x → w.heap.size ≤ x := fun x hx => (hF5 x hx).elim (f3 x) (fun h => Nat.le_trans b4'.size h)
    have hG5 : ∀ x, F5 x → ¬ Newly w3 w4 x := fun x hx hn => (hF5 x hx).elim (fun h => by have := hF3 x h; have := hn.1; omega) (fun h => by have := hn.2; omega)
    have K5 := r4.but but5 (fun x hx hf => by have := hF3 x hf; have := hx.1; omega) (fun x hx => hx.2)
    have b5' : Below w.heap.size w w5 := b4'.trans (but5.below b4'.size f3)
    have n5 : w4.heap.size ≤ w5.heap.size := but5.size
    clear r4 but5 hF5 b4' hF3 f3
    go_wp2_with fail
    refine (all_five ⟨F5, d5, f5⟩ h15).mono ?_
    rintro e w6 ⟨A6, c6, rfl, r6, b6⟩
    have d6 := d5.below b6
    have K6 := K5.below b6 (fun x hx => Nat.lt_of_lt_of_le hx.2 n5)
    have R6 := r6.now
    have b6' := below_on b5' (Nat.le_refl _) b6
    have n6 := Nat.le_trans n5 b6.size
    clear d5 K5 r6 b5' b6 n5
    go_wp2_with fail
    refine (left_any none 0 0 [] (InB.none_ _ _) d6).mono ?_
    rintro e w7 ⟨g7, rfl, m7⟩
    have efr : fresh (settle s1.sure (kept s1.waits [])) = fresh s1.sure := by rw [kept_none]; rfl
    rw [efr] at m7
    have d7 := d6.below m7.2
    have K7 := K6.below m7.2 (fun x hx => Nat.lt_of_lt_of_le hx.2 n6)
    have R7 := R6.below m7.2
    have b7' := below_on b6' (Nat.le_refl _) m7.2
    have n7 := Nat.le_trans n6 m7.2.size
    have a7 : Above w.heap.size w7 g7 (fresh s1.sure) := m7.above b6'.size
    have e7 : (fresh s1.sure).read = s1.read := by show s1.sure = settle s1.sure s1.waits; rw [hw1]; rfl
    clear d6 K6 R6 b6' n6 m7 efr
    obtain ⟨ad, Bx, mx, cx, rfl, hcx, hcame, _⟩ := K7.now.row r xs hxs
    have hmx : mx = 64 := by rw [← hcame.in_.len]; exact hsx.1
    subst hmx
    have CW := waits_any d7
    rw [hw1, show (([] : List (Nat × List Nat)).length : Int) = 0 from rfl] at CW
    have hri : (r : Int) < 5 := by omega
    clear hcame
    go_wp2_with fail
    refine CW.mono ?_
    rintro e w8 ⟨rfl, rfl⟩
    clear CW
    have C8 := all_five a7 h15
    rw [e7] at C8
    go_wp2_with fail
    refine C8.mono ?_
    rintro e w8 ⟨A8, c8, rfl, r8, b8⟩
    clear C8 hcx
    have d8 := d7.below b8
    have K8 := K7.below b8 (fun x hx => Nat.lt_of_lt_of_le hx.2 n7)
    have R8 := R7.below b8
    have b8' := below_on b7' (Nat.le_refl _) b8
    have n8 := Nat.le_trans n7 b8.size
    clear d7 K7 R7 b7' n7 a7 b8
    go_wp2_with fail
    refine (sameLists_yes A8 A6 5 c8 c6 s1.read w8 r8.now R8 (by decide)).mono ?_
    rintro e w9 ⟨rfl, q9, h9⟩
    have bq : Below w8.heap.size w8 w9 := h9 ▸ drewN_below w8 q9
    have d9 := d8.below bq
    have K9 := K8.below bq (fun x hx => Nat.lt_of_lt_of_le hx.2 n8)
    have R9 := R8.below bq
    have b9' := below_on b8' (Nat.le_refl _) bq
    have n9 := Nat.le_trans n8 bq.size
    clear d8 K8 R8 b8' n8 r8 bq h9
    have hl0 : s0.read.length = 5 := by rw [s0.read_length, hs5]
    go_wp2_with fail
    refine (twinLists_any (some ad) 5 c4 s0.read w9 K9.now (by decide) (by rw [tot_five hok.read, hl0]; decide)).mono ?_
    rintro e w10 ⟨rfl, hT, b10⟩
    obtain ⟨gT, hgT⟩ : ∃ gT, w9.heap.size = gT := ⟨_, rfl⟩
    rw [hgT] at hT ⊢
    have bdr : Below w10.heap.size w10 w10.drew := (Below.refl _ _).drew
    obtain ⟨bt, hgb, hcT, htw, hturn⟩ := (hT.below bdr).turn (fun x hx => ⟨(hok.read x hx).2, by have := (hok.read x hx).1; omega⟩) hxs (k := k) (by rw [hsx.1]; exact hk64)
    rw [hsx.1] at hcT htw
    obtain ⟨x, hx⟩ : ∃ x, xs.getD k 0 = x := ⟨_, rfl⟩
    have hxk : xs[k]? = some x := by rw [← hx, List.getD_eq_getElem?_getD, List.getElem?_eq_getElem (by rw [hsx.1]; exact hk64)]; rfl
    have hxb : x < 256 := hsx.2 x (List.mem_of_getElem? hxk)
    have cT1 : w10.cell? ⟨gT, r, none⟩ = some (.slice (some ⟨bt, 0, none⟩) 64 65) := hcT
    have cT2 : w10.cell? ⟨bt, k, none⟩ = some (.int .u8 (x : Int)) := by
      obtain ⟨ad', e', hc'⟩ := htw.in_.rd k x hxk
      cases e'
      rw [Addr.add_mid, Nat.zero_add] at hc'
      exact hc'
    have fT2 : w10.frozen? ⟨bt, k, none⟩ = false := frozen_of_row w10 bt k _ _ htw.2
    have qx := u8_xor_nat x y hxb hy
    have hki : (k : Int) < 64 := by omega
    have hW := hturn (x ^^^ y) (xor_lt hxb hy)
    have hxt : xs.set k (x ^^^ y) = turnAt xs k y := by rw [turnAt, hx]
    rw [hxt, ← hr1, hl0] at hW
    have bW : Below w9.heap.size w9 (w10.drew.setCell ⟨bt, k, none⟩ (.int .u8 ((x ^^^ y : Nat) : Int))) := (b10.drew).setCell (show w9.heap.size ≤ bt by omega) _
    obtain ⟨W, hWe⟩ : ∃ W, w10.drew.setCell ⟨bt, k, none⟩ (.int .u8 ((x ^^^ y : Nat) : Int)) = W := ⟨_, rfl⟩
    rw [hWe] at hW bW
    have d11 := d9.below bW
    have K11 := K9.below bW (fun x hx => Nat.lt_of_lt_of_le hx.2 n9)
    have R11 := R9.below bW
    have b11' := below_on b9' (Nat.le_refl _) bW
    have n11 := Nat.le_trans n9 bW.size
    have HH := Lib.hid (And.intro hW (And.intro d11 (And.intro K11 (And.intro R11 (And.intro b11' (And.intro n11 (And.intro f5 hG5)))))))
    have HS := Lib.hid (And.intro hxs (And.intro hsx (And.intro hr1 (And.intro h15 (And.intro hw1 (And.intro hbl1 (And.intro hok hs5)))))))
    clear hW d11 K11 R11 b11' n11 f5 hG5 d9 K9 R9 b9' n9 bW hxt hxb hxk hx hcT htw hturn hgb bdr hT b10 hxs hsx hr1 h15 hw1 hbl1 hok hs5 hxd hl0 e7
    go_wp2
    go_still_tail 15, (by kernel_rfl)
    change wpList _ _ _ _ _ w10.drew
    go_upto_region 16 with (fail)
    clear cT1 cT2 fT2 qx hWe
    go_wp2_with fail
    refine (sameLists_yes A6 (some ⟨gT, 0, none⟩) 5 c6 6 s1.read W HH.out.2.2.2.1 HH.out.1 (by decide)).mono ?_
    rintro e w11 ⟨rfl, q11, h11⟩
    have bq : Below W.heap.size W w11 := h11 ▸ drewN_below W q11
    have d12 := HH.out.2.1.below bq
    have K12 := HH.out.2.2.1.below bq (fun x hx => Nat.lt_of_lt_of_le hx.2 HH.out.2.2.2.2.2.1)
    have b12' := below_on HH.out.2.2.2.2.1 (Nat.le_refl _) bq
    have n12 := Nat.le_trans HH.out.2.2.2.2.2.1 bq.size
    have CT := turn_any (n := r) (k := k) (y := y) (by rw [HS.out.2.2.2.1]; exact hr5) hk64 hy HS.out.2.2.2.2.2.1 d12
    obtain ⟨s2, hs2⟩ : ∃ s2, s1.turned r k y = s2 := ⟨_, rfl⟩
    have hl0 : s0.read.length = 5 := by rw [s0.read_length, HS.out.2.2.2.2.2.2.2]
    have hr2 : s2.read = s0.read := by
      have hg1 : s1.read.getD r [] = turnAt xs k y := by rw [HS.out.2.2.1, List.getD_eq_getElem?_getD, List.getElem?_set_self (by rw [hl0]; exact hr5)]; rfl
      rw [← hs2, turned_read, hg1, turned_twice (by rw [HS.out.2.1.1]; exact hk64), HS.out.2.2.1, List.set_set]
      exact (List.getElem?_eq_some_iff.1 HS.out.1).2 ▸ List.set_getElem_self _
    have h25 : s2.sure.length = 5 := by rw [← s2.read_length, hr2, hl0]
    rw [hs2] at CT
    clear d12 bq h11
    go_wp2_with fail
    refine CT.mono ?_
    rintro e w13 ⟨rfl, h13⟩
    obtain ⟨F13, d13, but13, hF13⟩ := h13
    have K13 := K12.but but13 (fun x hx hf => HH.out.2.2.2.2.2.2.2 x hf hx) (fun x hx => Nat.lt_of_lt_of_le hx.2 n12)
    have b13' := b12'.trans (but13.below b12'.size HH.out.2.2.2.2.2.2.1)
    have n13 := Nat.le_trans n12 but13.size
    have a13 : Above w.heap.size w13 g s2 := ⟨F13, d13, fun x hx => (hF13 x hx).elim (HH.out.2.2.2.2.2.2.1 x) (fun h => Nat.le_trans b12'.size h)⟩
    clear CT K12 b12' n12 d13 but13 hF13
    have CA := all_five a13 h25
    rw [hr2] at CA
    go_wp2_with fail
    refine CA.mono ?_
    rintro e w14 ⟨A14, c14, rfl, r14, b14⟩
    have K14 := K13.below b14 (fun x hx => Nat.lt_of_lt_of_le hx.2 n13)
    have b14' := below_on b13' (Nat.le_refl _) b14
    clear CA
    go_wp2_with fail
    refine (sameLists_yes A14 (some ad) 5 c14 c4 s0.read w14 r14.now K14.now (by decide)).mono ?_
    rintro e w15 ⟨rfl, q15, h15⟩
    go_wp2
    go_ret
    exact ⟨rfl, below_on b14' (Nat.le_refl _) (h15 ▸ drewN_below w14 q15)⟩
  · have hni : decide (100 < (n : Int)) = true := by simp; omega
    have hni2 : (100 : Int) < (n : Int) := by omega
    have hni3 : 100 < n := by omega
    go_wp2_with fail
    refine (alive_any w2).mono ?_
    rintro e w3 ⟨rfl, b3⟩
    go_wp2
    go_ret
    exact ⟨rfl, below_on b2' (Nat.le_refl _) b3⟩

end Go.Proofs.Ytolbchknjcipiaa
