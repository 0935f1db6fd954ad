/-
  Several texts in one: HPlayLaw, ShaLaidZ.
-/
import Derived.Test.YtnaebjdccngeoaaGreatDoorHpY3
import Derived.Test.YtnaebjdccngeoaaGreatDoorShaLaid
import Derived.LaidSub
/-
  almonerlaw12.ChainsPlay.
-/
namespace Go.Proofs.YtnaebjdccngeoaaGreatDoor
open Go.RowKit Go.Deep

theorem Twin.ownH {w : World} {g n base : Nat} {xs : List Nat} (h : Twin w g n xs) (hb : base ≤ g) (hn : n ≤ 1000000000) : w.ownsRow base 5 1 (.slice (some ⟨g, 0, none⟩) n (n + 1)) n (bvs xs) :=
  ⟨by rw [bvs_length, h.1]; omega, .inr ⟨g, n + 1, _, rfl, hb, h.2, by omega, by unfold maxLen; omega, by rw [List.size_toArray, bvs_length, List.length_append, h.1]; simp, by
    rw [List.toList_toArray, bvs_append, List.take_append_of_le_length (by rw [bvs_length, h.1]; omega), List.take_of_length_le (by rw [bvs_length, h.1]; omega)]⟩⟩

theorem own_le3 {w : World} {base base' size n : Nat} {e : TypeId} {v : Value} {xs : List Value} (h : w.ownsRow base e size v n xs) (hb : base' ≤ base) : w.ownsRow base' e size v n xs :=
  ⟨h.1, h.2.elim Or.inl (fun ⟨g, cap, cur, hv, hg, r⟩ => Or.inr ⟨g, cap, cur, hv, Nat.le_trans hb hg, r⟩)⟩
theorem own_row_cap {w : World} {base size n c : Nat} {e : TypeId} {A : Option Addr} {xs : List Value} (h : w.ownsRow base e size (.slice A n c) n xs) : (A = none → c = 0) ∧ n ≤ c := by
  rcases h.2 with ⟨e, h0⟩ | ⟨g, cap, cur, e, hg, _, hc, _⟩
  · cases e; exact ⟨fun _ => rfl, by omega⟩
  · cases e; exact ⟨(fun e => by cases e), hc⟩
structure OwnH (w : World) (base : Nat) (e : TypeId) (size : Nat) (v : Value) (n : Nat) (xs : List Value) : Prop where
  own : w.ownsRow base e size v n xs
theorem OwnH.below {w w' : World} {base : Nat} {e : TypeId} {size : Nat} {v : Value} {n : Nat} {xs : List Value} (h : OwnH w base e size v n xs) (hb : Below w.heap.size w w') : OwnH w' base e size v n xs := ⟨own_on h.own hb⟩

set_option maxRecDepth 100000 in
set_option maxHeartbeats 1000000 in
theorem hsize_lists (Ao : Option Addr) (no co : Nat) (rows : List (List Nat)) (w : World) (h : CameRows w Ao no rows) (hno : no ≤ 50) :
    Calls Tryz.prog 5 #[.slice Ao no co] w fun e w' => ∃ R : Nat, e = .returned (.int .i64 (R : Int)) ∧ (R ≤ 1000000 → R = no + tot rows) ∧ w = w' := by
  go_enter Tryz.func5, Tryz.ntmps5
  go_wp2
  go_loop [3, 4] (fun s i => ∃ j z : Nat, j ≤ no ∧ i = .int .i64 (j : Int) ∧ s = .int .i64 (z : Int) ∧ z = no + tot (rows.take j) ∧ z ≤ 140737489403904) (fun _ i => no - (intOf i).toNat)
  case atStart => exact ⟨0, no, by omega, rfl, rfl, rfl, by omega⟩
  case round =>
    obtain ⟨j, z, hj, rfl, rfl, hz, hzb⟩ := hrel
    have HZ := Lib.hid hz
    clear hz
    by_cases hlt : j < no
    · by_cases hs : z ≤ 1048576
      · obtain ⟨xs, hxs⟩ : ∃ xs, rows[j]? = some xs := ⟨_, List.getElem?_eq_getElem (by rw [h.len]; exact hlt)⟩
        obtain ⟨ad, A, n, c, rfl, hcell, hcame, hn⟩ := h.row j xs hxs
        have HX := Lib.hid (And.intro hxs hcame)
        have hji : (j : Int) < (no : Int) := by omega
        have hzi : (z : Int) ≤ 1048576 := by omega
        clear hxs hcame
        go_wp2_with (go_at_call 43; refine (bytesSize_any A n c _).mono ?_; rintro e w' ⟨rfl, rfl⟩)
        go_round
        case rel =>
          refine ⟨j + 1, z + n, by omega, by go_num, by go_num, ?_, by omega⟩
          rw [rows_snoc HX.out.1, tot_snoc, HX.out.2.in_.len, HZ.out]
          omega
        case measure => simp [intOf]; omega
      · have hji : (j : Int) < (no : Int) := by omega
        have hzi : decide ((z : Int) ≤ 1048576) = false := by simp; omega
        go_wp2
        go_ret
        exact ⟨z, rfl, fun hh => absurd hh (by omega), rfl⟩
    · have hji : decide ((j : Int) < (no : Int)) = false := by simp; omega
      obtain rfl : j = no := by omega
      rw [List.take_of_length_le (by rw [h.len]; omega)] at HZ
      go_wp2
      go_ret
      exact ⟨z, rfl, fun _ => HZ.out, rfl⟩

set_option maxRecDepth 100000 in
set_option maxHeartbeats 4000000 in
theorem hplay_else (w : World) (A : Option Addr) (n c : Nat) (B : Option Addr) (m d : Nat) (h : 30 < n ∨ 30 < m) :
    Calls Tryz.prog 3 #[.slice A n c, .slice B m d] w fun e w' => e = .returned (.bool true) ∧ Below w.heap.size w w' := by
  by_cases h1 : (30 : Int) < (n : Int)
  · go_enter Tryz.func3, Tryz.ntmps3
    go_wp2_with fail
    go_ret
    exact ⟨rfl, Below.refl _ _⟩
  · have h2 : (30 : Int) < (m : Int) := by omega
    go_enter Tryz.func3, Tryz.ntmps3
    go_wp2_with fail
    go_ret
    exact ⟨rfl, Below.refl _ _⟩

set_option maxRecDepth 100000 in
set_option maxHeartbeats 8000000 in
theorem hplay_some (w : World) (hk : Knows w) (hs : Starts w) {A : Option Addr} {n c : Nat} {rows : List (List Nat)} (cr : CameRows w A n rows)
    {B : Option Addr} {m d : Nat} {f : Nat → Nat} (ca : CameAsk w B m d f) (hn : n ≤ 30) (hm : m ≤ 30) :
    Calls Tryz.prog 3 #[.slice A n c, .slice B m d] w fun e w' => e = .returned (.bool true) ∧ Below w.heap.size w w' := by
  have CZ := Lib.hid (hsize_lists A n c rows w cr (by omega))
  have hn1 : ¬ ((30 : Int) < (n : Int)) := by omega
  have hm1 : ¬ ((30 : Int) < (m : Int)) := by omega
  have CN := Lib.hid (new_chain w)
  have HK := Lib.hid (And.intro hk (And.intro hs (And.intro cr ca)))
  clear hk hs cr ca
  go_enter Tryz.func3, Tryz.ntmps3
  go_wp2_with fail
  refine CZ.out.mono ?_
  rintro e w' ⟨R, rfl, hR, e1⟩
  obtain rfl := e1
  by_cases hR4 : 40000 < R
  · have hRi : (40000 : Int) < (R : Int) := by omega
    go_wp2_with fail
    go_ret
    exact ⟨rfl, Below.refl _ _⟩
  have hRi : ¬ ((40000 : Int) < (R : Int)) := by omega
  have ht : tot rows ≤ 40000 := by have := hR (by omega); omega
  have HT := Lib.hid ht
  clear hR CZ ht
  go_wp2_with fail
  refine CN.out.mono ?_
  rintro e w1 ⟨g, rfl, hb1, hc1⟩
  have P0 := play_start hb1 hc1 (fun x hx => hx.1)
  clear CN hc1
  have HB1 := Lib.hid hb1
  clear hb1
  obtain ⟨w2, hw2⟩ : ∃ w2, w2 = w1.alloc (.cells #[.int .i64 0, .slice none 0 0, .slice none 0 0, .slice none 0 0, .slice none 0 0, .slice none 0 0, .slice none 0 0, .slice none 0 0, .slice none 0 0, .slice none 0 0] 37) := ⟨_, rfl⟩
  obtain ⟨kb, hkb⟩ : ∃ kb, w1.heap.size = kb := ⟨_, rfl⟩
  rw [← hw2, hkb] at P0
  have P1 : Hid (∃ (G : Nat → Prop) (l : List (List Nat)) (Y : List Value) (bs : Value) (h1 : List Held), PlayM w w2 g kb G l bs (.slice none 0 0) h1 [] ∧ RowM w w2 G none 0 0 Y l ∧ h1.length = 0 ∧ l.length = 0) := Lib.hid ⟨_, _, _, _, _, P0, row_start, rfl, rfl⟩
  clear P0
  go_upto_region 5 with fail
  rw [← hw2]
  clear hw2 hkb HB1
  go_wp2

  go_loopw [7, 8] (fun v i wr => ∃ (j k : Nat) (rA : Option Addr) (rc : Nat), j ≤ n ∧ k ≤ j ∧ v = .slice rA k rc ∧ i = .int .i64 (j : Int) ∧ Hid (∃ (G : Nat → Prop) (l : List (List Nat)) (Y : List Value) (bs : Value) (h1 : List Held), PlayM w wr g kb G l bs (.slice none 0 0) h1 [] ∧ RowM w wr G rA k rc Y l ∧ h1.length = j ∧ l.length = k)) (fun _ i _ => n - (intOf i).toNat)
  case atStart => exact ⟨0, 0, none, 0, Nat.zero_le _, Nat.le_refl _, rfl, rfl, P1⟩
  case round =>
    clear P1
    obtain ⟨j, k, rA, rc, hj, hkj, rfl, rfl, HR⟩ := hrel
    obtain ⟨G, l, Y, bs, h1, hP, hRow, hl1, hlk⟩ := HR.out
    clear HR
    by_cases hlt : j < n
    · have hji : (j : Int) < (n : Int) := by omega
      obtain ⟨b, hbj⟩ : ∃ b, rows[j]? = some b := ⟨_, List.getElem?_eq_getElem (by rw [HK.out.2.2.1.len]; exact hlt)⟩
      obtain ⟨ad, B0, bl, d0, rfl, hcell, hcame, hbl⟩ := HK.out.2.2.1.row j b hbj
      have hblt : bl ≤ 40000 := by
        have h1 := tot_take rows (j + 1)
        rw [rows_snoc hbj, tot_snoc, hcame.in_.len] at h1
        have := HT.out; omega
      have HC := Lib.hid (fun (W : World) (hW : Below w.heap.size w W) => (hW.cell (World.block_lt_of_cell? w _ hcell)).trans hcell)
      have HA := Lib.hid hcame
      obtain ⟨t0, ht0⟩ : ∃ t0, wr.heap.size = t0 := ⟨_, rfl⟩
      have CT := Lib.hid (twinBytes_any B0 bl d0 b wr (hcame.below hP.bel).in_ (by omega))
      rw [ht0] at CT
      have hG0 : ∀ x, G x → x < t0 := fun x hx => by rw [← ht0]; exact hP.chain.2 x hx
      have hR0 : ∀ x, (Value.slice rA k rc).ownBlock = some x → x < t0 := fun x hx => by rw [← ht0]; exact (hRow.own.lt x hx).2
      have hL0 : ¬ inLists h1 t0 := fun hin => by have := lists_lt hP.kept.lists1 t0 hin; omega
      have hw0 : w.heap.size ≤ t0 := by rw [← ht0]; exact hP.bel.size
      have HS := Lib.hid (And.intro hP (And.intro hRow (And.intro hl1 (And.intro hlk (And.intro hG0 (And.intro hR0 (And.intro hL0 (And.intro hw0 (And.intro hbl ht0)))))))))
      have hcc := HC.out wr hP.bel
      clear hP hRow hl1 hlk hG0 hR0 hL0 hw0 hcame hbj hbl hcell ht0
      go_wp2_with fail
      refine CT.out.mono ?_
      rintro e w3 ⟨rfl, htw, hb⟩
      have hb3 : Below wr.heap.size wr w3 := by rw [HS.out.2.2.2.2.2.2.2.2.2]; exact hb
      have H3 := Lib.hid (And.intro (HS.out.1.below hb3) (And.intro (HS.out.2.1.below hb3) htw))
      have hct : Came w3 (some ⟨t0, 0, none⟩) bl (bl + 1) b := ⟨htw.in_, HA.out.lt, (fun e => by cases e), Nat.le_succ _⟩
      have HCT := Lib.hid hct
      clear htw hb hb3 CT hct hcc
      by_cases h16 : bl ≤ 16384
      · have hle : (bl : Int) ≤ 16384 := by omega
        have CA := Lib.hid (hadd_yes H3.out.1.chain (by have := HS.out.2.2.2.1; omega) HCT.out h16 (away_of HK.out.1 HK.out.2.1 H3.out.1.new) (HK.out.1.below H3.out.1.bel) (HK.out.2.1.below H3.out.1.bel))
        go_wp2_with fail
        refine CA.out.mono ?_
        rintro e w4 ⟨rfl, hg⟩
        obtain ⟨G4, hP4, hG4, hB4⟩ := H3.out.1.grew hg
        have tl := H3.out.2.2.lt
        have ht4 : Twin w4 t0 bl b := ⟨H3.out.2.2.1, (hB4.block t0 tl (fun e => by have := HS.out.2.2.2.2.1 t0 e; omega)).trans H3.out.2.2.2⟩
        have hG40 : ¬ G4 t0 := fun e => by
          rcases hG4 t0 e with e | e
          · have := HS.out.2.2.2.2.1 t0 e; omega
          · omega
        have H4 := Lib.hid (And.intro hP4 (And.intro (H3.out.2.1.grew hG4 hB4) (And.intro ht4 hG40)))
        clear hg hP4 hG4 hB4 ht4 hG40 tl CA H3 HCT
        have hcc := HC.out w4 H4.out.1.bel
        have CL := Lib.hid (leftBytes_yes B0 t0 bl d0 b w4 H4.out.2.2.1 (HA.out.below H4.out.1.bel).in_ (by omega))
        go_wp2_with fail
        refine CL.out.mono ?_
        rintro e w5 ⟨rfl, q5, hq5⟩
        have hb5 : Below w4.heap.size w4 w5 := by rw [hq5]; exact ⟨rfl, rfl, rfl, Nat.le_refl _, fun _ _ => rfl⟩
        have H5 := Lib.hid (And.intro (H4.out.1.below hb5) (And.intro (H4.out.2.1.below hb5) (And.intro (H4.out.2.2.1.below hb5) H4.out.2.2.2)))
        clear hq5 hb5 H4 CL hcc
        have hcc := HC.out w5 H5.out.1.bel
        obtain ⟨w6, hw6⟩ : ∃ w6, w6 = w5.alloc (.cells #[.slice B0 bl d0] 38) := ⟨_, rfl⟩
        have b6 : Below w5.heap.size w5 w6 := by rw [hw6]; exact below_alloc _ _
        have cell6 : w6.cell? ⟨w5.heap.size, 0, none⟩ = some (.slice B0 bl d0) := by rw [hw6, cell_of_row _ _ 0 _ _ (0, 0) (World.alloc_heap_new w5 _)]; rfl
        have HW6 := Lib.hid hw6
        have H6 := Lib.hid (And.intro (H5.out.1.below b6) (And.intro (H5.out.2.1.below b6) (And.intro (H5.out.2.2.1.below b6) (And.intro H5.out.2.2.2 cell6))))
        clear hw6 b6 cell6 H5
        go_wp2_with (rw [← HW6.out]; refine wpList_step fun K hK => ?_; refine hstep_rapp (K := K) (by rfl) _ _ (by rfl) w.heap.size rA k rc Y (by rfl) H6.out.2.1.own ⟨w5.heap.size, 0, none⟩ 1 (.slice B0 bl d0) (by rfl) H6.out.2.2.2.2 rfl (by omega) H6.out.1.bel.size ?_; intro A7 c7 w7 ow7 hn7; refine hK _ _ ?_; clear hK K)
        have tl := H6.out.2.2.1.lt
        have ht7 : Twin w7 t0 bl b := ⟨H6.out.2.2.1.1, (hn7.grown.block t0 tl (fun e => by have := HS.out.2.2.2.2.2.1 t0 e.symm; omega)).trans H6.out.2.2.1.2⟩
        have hP7 := H6.out.1.row H6.out.2.1 hn7
        have hR7 := RowM.more H6.out.1 H6.out.2.1 hn7 ow7 HA.out HS.out.2.2.2.2.2.2.2.2.1
        have H7 := Lib.hid (And.intro hP7 (And.intro hR7 (And.intro ht7 H6.out.2.2.2.1)))
        clear ow7 hn7 tl ht7 hP7 hR7 H6 HW6 hcc
        have CB := Lib.hid (play_bytes H7.out.1 (H7.out.2.2.1.ownH HS.out.2.2.2.2.2.2.2.1 (by omega)) (fun x e => by cases e; exact H7.out.2.2.2) (fun x e => by cases e; exact HS.out.2.2.2.2.2.2.1) (by omega) (by have := HS.out.2.2.1; simp; omega))
        refine CB.out.mono ?_
        rintro e w8 ⟨rfl, bs', hs', hP8, hb8, hl8, hin8⟩
        have hR8 := H7.out.2.1.bytes H7.out.1 hb8
        have hl9 : hs'.length = j + 1 := by have := HS.out.2.2.1; omega
        have hk9 : (l ++ [b]).length = k + 1 := by rw [List.length_append, HS.out.2.2.2.1]; rfl
        have H8 := Lib.hid (And.intro hP8 (And.intro hR8 (And.intro hl9 hk9)))
        clear hP8 hb8 hl8 hin8 hR8 hl9 hk9 CB H7
        go_wp2_with fail
        go_roundw
        case rel => exact ⟨j + 1, k + 1, A7, c7, by omega, by omega, rfl, by go_num, Lib.hid ⟨_, _, _, _, _, H8.out⟩⟩
        case measure => simp [intOf]; omega
      · have hle : ¬ ((bl : Int) ≤ 16384) := by omega
        have CA := Lib.hid (hadd_long (A := some ⟨t0, 0, none⟩) (c := bl + 1) H3.out.1.chain (show 16384 < bl by omega))
        go_wp2_with fail
        refine CA.out.mono ?_
        rintro e w4 ⟨rfl, e4⟩
        obtain rfl := e4.symm
        have hG40 : ¬ G t0 := fun e => by have := HS.out.2.2.2.2.1 t0 e; omega
        have H4 := Lib.hid (And.intro H3.out.1 (And.intro H3.out.2.1 (And.intro H3.out.2.2 hG40)))
        clear hG40 CA H3 HCT
        have hcc := HC.out w3 H4.out.1.bel
        have CL := Lib.hid (leftBytes_yes B0 t0 bl d0 b w3 H4.out.2.2.1 (HA.out.below H4.out.1.bel).in_ (by omega))
        go_wp2_with fail
        refine CL.out.mono ?_
        rintro e w5 ⟨rfl, q5, hq5⟩
        have hb5 : Below w3.heap.size w3 w5 := by rw [hq5]; exact ⟨rfl, rfl, rfl, Nat.le_refl _, fun _ _ => rfl⟩
        have H5 := Lib.hid (And.intro (H4.out.1.below hb5) (And.intro (H4.out.2.1.below hb5) (And.intro (H4.out.2.2.1.below hb5) H4.out.2.2.2)))
        clear hq5 hb5 H4 CL hcc
        have CB := Lib.hid (play_bytes H5.out.1 (H5.out.2.2.1.ownH HS.out.2.2.2.2.2.2.2.1 (by omega)) (fun x e => by cases e; exact H5.out.2.2.2) (fun x e => by cases e; exact HS.out.2.2.2.2.2.2.1) (by omega) (by have := HS.out.2.2.1; simp; omega))
        go_wp2_with fail
        refine CB.out.mono ?_
        rintro e w8 ⟨rfl, bs', hs', hP8, hb8, hl8, hin8⟩
        have hR8 := H5.out.2.1.bytes H5.out.1 hb8
        have hl9 : hs'.length = j + 1 := by have := HS.out.2.2.1; omega
        have hk9 : (l).length = k := by exact HS.out.2.2.2.1
        have H8 := Lib.hid (And.intro hP8 (And.intro hR8 (And.intro hl9 hk9)))
        clear hP8 hb8 hl8 hin8 hR8 hl9 hk9 CB H5
        go_wp2_with fail
        go_roundw
        case rel => exact ⟨j + 1, k, rA, rc, by omega, by omega, rfl, by go_num, Lib.hid ⟨_, _, _, _, _, H8.out⟩⟩
        case measure => simp [intOf]; omega
    · have hji : ¬ ((j : Int) < (n : Int)) := by omega
      obtain rfl : j = n := by omega
      have H1 := Lib.hid (And.intro hP (And.intro hRow (And.intro hl1 hlk)))
      have CS := c_size hP.chain
      rw [hlk] at CS
      have CZ := Lib.hid CS
      have hfit := Lib.hid (show Fit l from fun b hb => (hP.chain.ok b hb).1)
      clear CS hP hRow hl1 hlk
      go_wp2_with fail
      refine CZ.out.mono ?_
      rintro e w' ⟨rfl, e1⟩
      obtain rfl := e1.symm
      clear e1 CZ
      go_wp2
      go_loopw [12] (fun i wx => ∃ q : Nat, q ≤ m ∧ i = .int .i64 (q : Int) ∧ Hid (∃ (bs ss : Value) (h1 h2 : List Held), PlayM w wx g kb G l bs ss h1 h2 ∧ RowM w wx G rA k rc Y l ∧ h1.length = j + q ∧ h2.length = 2 * q)) (fun i _ => m - (intOf i).toNat)
      case atStart => exact ⟨0, by omega, rfl, Lib.hid ⟨_, _, _, _, H1.out.1, H1.out.2.1, H1.out.2.2.1, rfl⟩⟩
      case round =>
        have hlk := H1.out.2.2.2
        have HLk := Lib.hid hlk
        clear H1 hlk
        obtain ⟨q, hq, rfl, HR⟩ := hrel
        obtain ⟨bs', ss, h1', h2, hP, hRow, hl1, hl2⟩ := HR.out
        clear HR
        obtain ⟨w9, hw9⟩ : ∃ w9, wr = w9 := ⟨_, rfl⟩
        rw [hw9] at hP hRow ⊢
        clear hw9
        by_cases hqm : q < m
        · have hqi : (q : Int) < (m : Int) := by omega
          obtain ⟨ad, rfl, hca, ha64⟩ := HK.out.2.2.2.at_ (2 * q) (by omega)
          obtain ⟨ad2, e2, hcb, hb64⟩ := HK.out.2.2.2.at_ (2 * q + 1) (by omega)
          cases e2
          obtain ⟨a, ha⟩ : ∃ a, f (2 * q) = a := ⟨_, rfl⟩
          obtain ⟨b, hb⟩ : ∃ b, f (2 * q + 1) = b := ⟨_, rfl⟩
          rw [ha] at hca ha64
          rw [hb] at hcb hb64
          have HS := Lib.hid (And.intro hP (And.intro hRow (And.intro hl1 hl2)))
          have hc0 : w9.cell? (ad.add (q * 2)) = some (.int .u64 (a : Int)) := by
            rw [Nat.mul_comm]; exact ((hP.bel.cell (World.block_lt_of_cell? w _ hca)).trans hca)
          have hc1 : w9.cell? ((ad.add (q * 2)).add 1) = some (.int .u64 (b : Int)) := by
            rw [add_add, Nat.mul_comm]; exact ((hP.bel.cell (World.block_lt_of_cell? w _ hcb)).trans hcb)
          have hc1' : w9.cell? ⟨(ad.add (q * 2)).block, (ad.add (q * 2)).off + 1, none⟩ = some (.int .u64 (b : Int)) := by
            rw [← hc1]; congr 1
          clear hP hRow hl1 hl2 hca hcb ha hb
          obtain ⟨ec, hec⟩ : ∃ ec : Int, (if a < l.length then (0 : Int) else 1) = ec := ⟨_, rfl⟩
          obtain ⟨fc, hfc⟩ : ∃ fc : Int, hasE l a = fc := ⟨_, rfl⟩
          obtain ⟨pe, hpe⟩ : ∃ pe : Int, pathE l a b = pe := ⟨_, rfl⟩
          obtain ⟨le, hle⟩ : ∃ le : Int, linkE l a b = le := ⟨_, rfl⟩
          obtain ⟨pn, hpn⟩ : ∃ pn, pathN l a b = pn := ⟨_, rfl⟩
          obtain ⟨ln, hln⟩ : ∃ ln, linkN l a b = ln := ⟨_, rfl⟩
          obtain ⟨ps, hps⟩ : ∃ ps, pathS l a b = ps := ⟨_, rfl⟩
          obtain ⟨ls, hls⟩ : ∃ ls, linkS l a b = ls := ⟨_, rfl⟩
          obtain ⟨xs, hxs⟩ : ∃ xs, l.getD a [] = xs := ⟨_, rfl⟩
          obtain ⟨xl, hxl⟩ : ∃ xl, xs.length = xl := ⟨_, rfl⟩
          obtain ⟨mv, hmv⟩ : ∃ mv, markV l a = mv := ⟨_, rfl⟩
          have lm : mv.length = 32 := by rw [← hmv]; exact markV_length _ _
          obtain ⟨rv, hrv⟩ : ∃ rv, rootV l a = rv := ⟨_, rfl⟩
          have lr : rv.length = 32 := by rw [← hrv]; exact rootV_length _ _
          have HE := Lib.hid (And.intro hec (And.intro hfc (And.intro hpe (And.intro hle (And.intro hpn (And.intro hln (And.intro hps (And.intro hls (And.intro hxs (And.intro hxl (And.intro hmv hrv)))))))))))
          clear hec hfc hpe hle hpn hln hps hls hxs hxl hmv hrv
          have HF9 := Lib.hid (And.intro (HS.out.1) (And.intro (HS.out.2.1) trivial))
          have z10 := HF9.out.1.chain.2
          have y10 := lists_lt HF9.out.1.kept.lists1
          have x10 := listsS_lt HF9.out.1.kept.lists2
          have s10 := HF9.out.1.bel.size
          have CT := c_entry HF9.out.1.chain a
          rw [HE.out.2.2.2.2.2.2.2.2.1, HE.out.2.2.2.2.2.2.2.2.2.1, HE.out.1] at CT
          have C1 := Lib.hid CT
          clear CT
          go_wp2_with fail
          refine C1.out.mono ?_
          rintro e w10 ⟨A10, d10, rfl, ho10, hb⟩
          clear C1
          have HF10 := Lib.hid (And.intro (HF9.out.1.below hb) (And.intro (HF9.out.2.1.below hb) (And.intro (OwnH.mk (own_le3 ho10 s10)) trivial)))
          clear HF9
          clear hb
          have O10 := Lib.hid (show ∀ b, (Value.slice A10 xl d10).ownBlock = some b → ¬ G b ∧ ¬ inLists h1' b ∧ ¬ inLists h2 b from fun b e => ⟨fun h => by have := z10 b h; have := (ho10.lt b e).1; omega, fun h => by have := y10 b h; have := (ho10.lt b e).1; omega, fun h => by have := x10 b h; have := (ho10.lt b e).1; omega⟩)
          clear ho10 z10 y10 x10 s10
          have CT := c_mark HF10.out.1.chain (by have := HLk.out; omega) a
          rw [HE.out.2.2.2.2.2.2.2.2.2.2.1, HE.out.2.1] at CT
          have C1 := Lib.hid CT
          clear CT
          go_wp2_with fail
          refine C1.out.mono ?_
          rintro e w11 ⟨rfl, hb⟩
          clear C1
          have HF11 := Lib.hid (And.intro (HF10.out.1.below hb) (And.intro (HF10.out.2.1.below hb) (And.intro (HF10.out.2.2.1.below hb) trivial)))
          clear HF10
          clear hb
          obtain ⟨w12, hw⟩ : ∃ w12, w12 = w11.alloc (.cells (bvs mv).toArray 50) := ⟨_, rfl⟩
          have hb : Below w11.heap.size w11 w12 := by rw [hw]; exact below_alloc _ _
          have hn : BArr w12 w11.heap.size 50 mv := by rw [hw]; exact BArr.new _ _ _
          have HW := Lib.hid hw
          clear hw
          go_wp2_with (with_reducible refine wpList_store_new w11 _ (by simp) rfl (.tmp 17) (.tmp 127) rfl rfl mv lm rfl ?_; rw [← HW.out])
          clear HW
          obtain ⟨g12, hg⟩ : ∃ g, w11.heap.size = g := ⟨_, rfl⟩
          rw [hg] at hn
          have HF12 := Lib.hid (And.intro (HF11.out.1.below hb) (And.intro (HF11.out.2.1.below hb) (And.intro (HF11.out.2.2.1.below hb) (And.intro (hn) trivial))))
          clear HF11
          rw [hg]
          clear hn hb hg
          have CT := c_root HF12.out.1.chain (by have := HLk.out; omega) a (HK.out.1.below HF12.out.1.bel) (HK.out.2.1.below HF12.out.1.bel)
          rw [HE.out.2.2.2.2.2.2.2.2.2.2.2, HE.out.2.1] at CT
          have C1 := Lib.hid CT
          clear CT
          go_wp2_with fail
          refine C1.out.mono ?_
          rintro e w13 ⟨rfl, hb⟩
          clear C1
          have HF13 := Lib.hid (And.intro (HF12.out.1.below hb) (And.intro (HF12.out.2.1.below hb) (And.intro (HF12.out.2.2.1.below hb) (And.intro (HF12.out.2.2.2.1.below hb) trivial))))
          clear HF12
          clear hb
          obtain ⟨w14, hw⟩ : ∃ w14, w14 = w13.alloc (.cells (bvs rv).toArray 50) := ⟨_, rfl⟩
          have hb : Below w13.heap.size w13 w14 := by rw [hw]; exact below_alloc _ _
          have hn : BArr w14 w13.heap.size 50 rv := by rw [hw]; exact BArr.new _ _ _
          have HW := Lib.hid hw
          clear hw
          go_wp2_with (with_reducible refine wpList_store_new w13 _ (by simp) rfl (.tmp 19) (.tmp 133) rfl rfl rv lr rfl ?_; rw [← HW.out])
          clear HW
          obtain ⟨g14, hg⟩ : ∃ g, w13.heap.size = g := ⟨_, rfl⟩
          rw [hg] at hn
          have HF14 := Lib.hid (And.intro (HF13.out.1.below hb) (And.intro (HF13.out.2.1.below hb) (And.intro (HF13.out.2.2.1.below hb) (And.intro (HF13.out.2.2.2.1.below hb) (And.intro (hn) trivial)))))
          clear HF13
          rw [hg]
          clear hn hb hg
          have z15 := HF14.out.1.chain.2
          have y15 := lists_lt HF14.out.1.kept.lists1
          have x15 := listsS_lt HF14.out.1.kept.lists2
          have s15 := HF14.out.1.bel.size
          have CT := c_path HF14.out.1.chain (by have := HLk.out; omega) a b (HK.out.1.below HF14.out.1.bel) (HK.out.2.1.below HF14.out.1.bel)
          rw [HE.out.2.2.2.2.1, HE.out.2.2.1, HE.out.2.2.2.2.2.2.1] at CT
          have C1 := Lib.hid CT
          clear CT
          go_wp2_with fail
          refine C1.out.mono ?_
          rintro e w15 ⟨A15, d15, rfl, ho15, hb⟩
          clear C1
          have HF15 := Lib.hid (And.intro (HF14.out.1.below hb) (And.intro (HF14.out.2.1.below hb) (And.intro (HF14.out.2.2.1.below hb) (And.intro (HF14.out.2.2.2.1.below hb) (And.intro (HF14.out.2.2.2.2.1.below hb) (And.intro (OwnH.mk (own_le3 ho15 s15)) trivial))))))
          clear HF14
          clear hb
          have O15 := Lib.hid (show ∀ b, (Value.slice A15 pn d15).ownBlock = some b → ¬ G b ∧ ¬ inLists h1' b ∧ ¬ inLists h2 b from fun b e => ⟨fun h => by have := z15 b h; have := (ho15.lt b e).1; omega, fun h => by have := y15 b h; have := (ho15.lt b e).1; omega, fun h => by have := x15 b h; have := (ho15.lt b e).1; omega⟩)
          clear ho15 z15 y15 x15 s15
          have pz := HF15.out.2.2.2.2.2.1.own.lt
          have z16 := HF15.out.1.chain.2
          have y16 := lists_lt HF15.out.1.kept.lists1
          have x16 := listsS_lt HF15.out.1.kept.lists2
          have s16 := HF15.out.1.bel.size
          have CT := c_link HF15.out.1.chain (by have := HLk.out; omega) a b (HK.out.1.below HF15.out.1.bel) (HK.out.2.1.below HF15.out.1.bel)
          rw [HE.out.2.2.2.2.2.1, HE.out.2.2.2.1, HE.out.2.2.2.2.2.2.2.1] at CT
          have C1 := Lib.hid CT
          clear CT
          go_wp2_with fail
          refine C1.out.mono ?_
          rintro e w16 ⟨A16, d16, rfl, ho16, hb⟩
          clear C1
          have HF16 := Lib.hid (And.intro (HF15.out.1.below hb) (And.intro (HF15.out.2.1.below hb) (And.intro (HF15.out.2.2.1.below hb) (And.intro (HF15.out.2.2.2.1.below hb) (And.intro (HF15.out.2.2.2.2.1.below hb) (And.intro (HF15.out.2.2.2.2.2.1.below hb) (And.intro (OwnH.mk (own_le3 ho16 s16)) trivial)))))))
          clear HF15
          clear hb
          have O16 := Lib.hid (show ∀ b, (Value.slice A16 ln d16).ownBlock = some b → ¬ G b ∧ ¬ inLists h1' b ∧ ¬ inLists h2 b from fun b e => ⟨fun h => by have := z16 b h; have := (ho16.lt b e).1; omega, fun h => by have := y16 b h; have := (ho16.lt b e).1; omega, fun h => by have := x16 b h; have := (ho16.lt b e).1; omega⟩)
          have OPL := Lib.hid (show ∀ b, (Value.slice A16 ln d16).ownBlock = some b → (Value.slice A15 pn d15).ownBlock = some b → False from fun b e1 e2 => by have h1 := (ho16.lt b e1).1; have h2 := (pz b e2).2; omega)
          clear pz
          clear ho16 z16 y16 x16 s16
          have hcr := (rowIn_of_own HF16.out.2.1.own HF16.out.2.1.is_).came HF16.out.1.bel
          have hcp := own_row_cap HF16.out.2.1.own
          have CT := refPathH_any hcr hcp.2 hcp.1 (by omega) hfit.out a b ha64
          rw [HE.out.2.2.2.2.1, HE.out.2.2.1, HE.out.2.2.2.2.2.2.1] at CT
          have C1 := Lib.hid CT
          clear CT
          go_wp2_with fail
          refine C1.out.mono ?_
          rintro e w17 ⟨A17, d17, rfl, ho17, hb⟩
          clear C1
          have HF17 := Lib.hid (And.intro (HF16.out.1.below hb) (And.intro (HF16.out.2.1.below hb) (And.intro (HF16.out.2.2.1.below hb) (And.intro (HF16.out.2.2.2.1.below hb) (And.intro (HF16.out.2.2.2.2.1.below hb) (And.intro (HF16.out.2.2.2.2.2.1.below hb) (And.intro (HF16.out.2.2.2.2.2.2.1.below hb) (And.intro (OwnH.mk ho17) trivial))))))))
          clear HF16
          clear hb hcr hcp ho17
          have hcr := (rowIn_of_own HF17.out.2.1.own HF17.out.2.1.is_).came HF17.out.1.bel
          have hcp := own_row_cap HF17.out.2.1.own
          have CT := refLinkH_any hcr hcp.2 hcp.1 (by omega) hfit.out a b ha64
          rw [HE.out.2.2.2.2.2.1, HE.out.2.2.2.1, HE.out.2.2.2.2.2.2.2.1] at CT
          have C1 := Lib.hid CT
          clear CT
          go_wp2_with fail
          refine C1.out.mono ?_
          rintro e w18 ⟨A18, d18, rfl, ho18, hb⟩
          clear C1
          have HF18 := Lib.hid (And.intro (HF17.out.1.below hb) (And.intro (HF17.out.2.1.below hb) (And.intro (HF17.out.2.2.1.below hb) (And.intro (HF17.out.2.2.2.1.below hb) (And.intro (HF17.out.2.2.2.2.1.below hb) (And.intro (HF17.out.2.2.2.2.2.1.below hb) (And.intro (HF17.out.2.2.2.2.2.2.1.below hb) (And.intro (HF17.out.2.2.2.2.2.2.2.1.below hb) (And.intro (OwnH.mk ho18) trivial)))))))))
          clear HF17
          clear hb hcr hcp ho18
          have hpn64 : pn ≤ 64 := by
            rw [← HE.out.2.2.2.2.1]; unfold pathN; split
            · exact dep_64 (by rename_i h; exact h.2) (by omega)
            · omega
          have hln65 : ln ≤ 65 := by
            rw [← HE.out.2.2.2.2.2.1]; unfold linkN; split
            · exact ldep_64 (by omega) _ _
            · omega
          have n1 := run_neq_sum mv mv lm lm
          rw [decide_eq_true rfl] at n1
          have n2 := run_neq_sum rv rv lr lr
          rw [decide_eq_true rfl] at n2
          have n3 := run_guard_neq
          rcases Nat.lt_trichotomy a k with hak | hak | hak
          · as_aux_lemma =>
              have hi1 : (a : Int) < (k : Int) := by omega
              have hi2 : (a : Int) ≤ (k : Int) := by omega
              have hec : ec = 0 := by rw [← HE.out.1, if_pos (by rw [HLk.out]; exact hak)]
              have hfc : fc = 0 := by rw [← HE.out.2.1]; exact if_pos (by rw [HLk.out]; omega)
              subst hec hfc
              have CP := Lib.hid (sameSums_yes A15 A17 pn d15 d17 ps _ (InS.of_own HF18.out.2.2.2.2.2.1.own) (InS.of_own HF18.out.2.2.2.2.2.2.2.1.own) (by omega))
              go_wp2_with fail
              refine CP.out.mono ?_
              rintro e w19 ⟨rfl, qq, hqq⟩
              have hb : Below w18.heap.size w18 w19 := by rw [hqq]; exact ⟨rfl, rfl, rfl, Nat.le_refl _, fun _ _ => rfl⟩
              clear CP hqq
              have HF19 := Lib.hid (And.intro (HF18.out.1.below hb) (And.intro (HF18.out.2.1.below hb) (And.intro (HF18.out.2.2.1.below hb) (And.intro (HF18.out.2.2.2.1.below hb) (And.intro (HF18.out.2.2.2.2.1.below hb) (And.intro (HF18.out.2.2.2.2.2.1.below hb) (And.intro (HF18.out.2.2.2.2.2.2.1.below hb) (And.intro (HF18.out.2.2.2.2.2.2.2.1.below hb) (And.intro (HF18.out.2.2.2.2.2.2.2.2.1.below hb) trivial)))))))))
              clear HF18
              clear hb
              have CP := Lib.hid (sameSums_yes A16 A18 ln d16 d18 ls _ (InS.of_own HF19.out.2.2.2.2.2.2.1.own) (InS.of_own HF19.out.2.2.2.2.2.2.2.2.1.own) (by omega))
              go_wp2_with fail
              refine CP.out.mono ?_
              rintro e w20 ⟨rfl, qq, hqq⟩
              have hb : Below w19.heap.size w19 w20 := by rw [hqq]; exact ⟨rfl, rfl, rfl, Nat.le_refl _, fun _ _ => rfl⟩
              clear CP hqq
              have HF20 := Lib.hid (And.intro (HF19.out.1.below hb) (And.intro (HF19.out.2.1.below hb) (And.intro (HF19.out.2.2.1.below hb) (And.intro (HF19.out.2.2.2.1.below hb) (And.intro (HF19.out.2.2.2.2.1.below hb) (And.intro (HF19.out.2.2.2.2.2.1.below hb) (And.intro (HF19.out.2.2.2.2.2.2.1.below hb) (And.intro (HF19.out.2.2.2.2.2.2.2.1.below hb) (And.intro (HF19.out.2.2.2.2.2.2.2.2.1.below hb) trivial)))))))))
              clear HF19
              clear hb
              have BW := Lib.hid (fun (W : World) (hW : Below w20.heap.size w20 W) => below_on HF20.out.1.bel (Nat.le_refl _) hW)
              have hak2 : a ≤ k := by omega
              have hcr := (rowIn_of_own HF20.out.2.1.own HF20.out.2.1.is_).came HF20.out.1.bel
              have hcp := own_row_cap HF20.out.2.1.own
              have HIN := Lib.hid (fun W => run_take_rowsU (A := rA) (n := k) (c := rc) hak2 hcp.2 hcp.1 W)
              have hct : CameRows w20 rA a (l.take a) := ⟨by rw [List.length_take, HLk.out]; omega, fun r xs hx => by
                rw [List.getElem?_take] at hx
                split at hx
                · exact hcr.row r xs hx
                · cases hx⟩
              have em : markL (l.take a) = mv := by rw [← HE.out.2.2.2.2.2.2.2.2.2.2.1]; unfold markV; rw [if_pos (by rw [HLk.out]; omega)]
              have er : rt (lf (l.take a)) 0 a = rv := by
                have h1 := root_begin (l.take a) (l.drop a) (n := a) (by rw [List.length_take, HLk.out]; omega)
                rw [List.take_append_drop] at h1
                rw [← HE.out.2.2.2.2.2.2.2.2.2.2.2, ← h1]; unfold rootV; rw [if_pos (by rw [HLk.out]; omega)]
              have CM := Lib.hid (fun (W : World) (hW : Below w20.heap.size w20 W) => (refMarkH_any rA a rc (l.take a) W (hct.below hW) (by omega) (hfit.out.take a)).mono (R' := fun e w' => e = .returned (sv mv) ∧ Below W.heap.size W w') fun e w' ⟨he, hb⟩ => ⟨by rw [he, em], hb⟩)
              have CR := Lib.hid (fun (W : World) (hW : Below w20.heap.size w20 W) => (refRootH_any rA a rc (l.take a) W (hct.below hW) (by omega) (hfit.out.take a)).mono (R' := fun e w' => e = .returned (sv rv) ∧ Below W.heap.size W w') fun e w' ⟨he, hb⟩ => ⟨by rw [he, er], hb⟩)
              clear hct em er
              obtain ⟨bb, hbb⟩ : ∃ bb, l[a]? = some bb := ⟨_, List.getElem?_eq_getElem (by rw [HLk.out]; exact hak)⟩
              obtain ⟨ar, Br, br, dr, rfl, hrc, hrcame, hrbl⟩ := hcr.row a bb hbb
              have hxb : xs = bb := by rw [← HE.out.2.2.2.2.2.2.2.2.1, List.getD_eq_getElem?_getD, hbb]; rfl
              have hxl : br = xl := by rw [← HE.out.2.2.2.2.2.2.2.2.2.1, hxb]; exact hrcame.in_.len.symm
              subst hxb hxl
              have hxl16 : br ≤ 16384 := by have := hfit.out xs (List.mem_of_getElem? hbb); rw [hrcame.in_.len] at this; exact this
              have HC2 := Lib.hid (fun (W : World) (hW : Below w20.heap.size w20 W) => (hW.cell (World.block_lt_of_cell? w20 _ hrc)).trans hrc)
              have CS := Lib.hid (fun (W : World) (hW : Below w20.heap.size w20 W) => (sameBytes_yes A10 Br br d10 dr xs W (In.of_own (own_on HF20.out.2.2.1.own hW)) (hrcame.below hW).in_ (by omega)).mono (R' := fun e w' => e = .returned (.bool true) ∧ Below W.heap.size W w') fun e w' ⟨he, q0, hq0⟩ => ⟨he, by rw [hq0]; exact ⟨rfl, rfl, rfl, Nat.le_refl _, fun _ _ => rfl⟩⟩)
              clear hrc hrcame hbb
              clear hcr hcp
              go_upto_region 33 with fail
              have hSlz1 : Below w20.heap.size w20 w20.drew := (Below.refl _ _).drew
              refine wp_region_held_drew (S := fun W => Below w20.heap.size w20 W) (by kernel_rfl) (hSlz1) (fun _ => ?_)
              change wpAnyH _ _ _ _ _ _ _ _ w20.drew
              generalize w20.drew = Wlz2 at hSlz1 ⊢
              refine' wpAnyH_take (i := 0) (oi := _) (v := _) ?hilz3 (by kernel_rfl) ?hflz3 ?hrlz3 ?hQlz3 ?hylz3 (hSlz1) ?restlz3
              case hilz3 => (simp only [List.getElem?_toArray, List.getElem?_cons_zero]; rfl)
              case hflz3 => kernel_rfl
              case hrlz3 => kernel_rfl
              case hQlz3 => exact fun _ _ _ h => h
              case hylz3 => refine Or.inl ⟨by rfl, ?_⟩; intro W hSw; go_simp; try with_reducible rfl
              try simp only [Act.put, List.setIfInBounds_toArray, List.set_cons_zero, List.set_cons_succ]
              refine' wpAnyH_take (i := 1) (oi := _) (v := _) ?hilz4 (by kernel_rfl) ?hflz4 ?hrlz4 ?hQlz4 ?hylz4 (hSlz1) ?restlz4
              case hilz4 => (simp only [List.getElem?_toArray, List.getElem?_cons_zero, List.getElem?_cons_succ]; rfl)
              case hflz4 => kernel_rfl
              case hrlz4 => kernel_rfl
              case hQlz4 => exact fun _ _ _ h => h
              case hylz4 => refine Or.inl ⟨by rfl, ?_⟩; intro W hSw; go_simp; try with_reducible rfl
              try simp only [Act.put, List.setIfInBounds_toArray, List.set_cons_zero, List.set_cons_succ]
              refine' wpAnyH_take (i := 2) (oi := _) (v := _) ?hilz5 (by kernel_rfl) ?hflz5 ?hrlz5 ?hQlz5 ?hylz5 (hSlz1) ?restlz5
              case hilz5 => (simp only [List.getElem?_toArray, List.getElem?_cons_zero, List.getElem?_cons_succ]; rfl)
              case hflz5 => kernel_rfl
              case hrlz5 => kernel_rfl
              case hQlz5 => exact fun _ _ _ h => h
              case hylz5 => refine Or.inl ⟨by rfl, ?_⟩; intro W hSw; go_simp; try with_reducible rfl
              try simp only [Act.put, List.setIfInBounds_toArray, List.set_cons_zero, List.set_cons_succ]
              refine' wpAnyH_take (i := 3) (oi := _) (v := _) ?hilz6 (by kernel_rfl) ?hflz6 ?hrlz6 ?hQlz6 ?hylz6 (hSlz1) ?restlz6
              case hilz6 => (simp only [List.getElem?_toArray, List.getElem?_cons_zero, List.getElem?_cons_succ]; rfl)
              case hflz6 => kernel_rfl
              case hrlz6 => kernel_rfl
              case hQlz6 => exact fun _ _ _ h => h
              case hylz6 => refine Or.inl ⟨by rfl, ?_⟩; intro W hSw; go_simp; try with_reducible rfl
              try simp only [Act.put, List.setIfInBounds_toArray, List.set_cons_zero, List.set_cons_succ]
              refine' wpAnyH_take (i := 4) (oi := _) (v := _) ?hilz7 (by kernel_rfl) ?hflz7 ?hrlz7 ?hQlz7 ?hylz7 (hSlz1) ?restlz7
              case hilz7 => (simp only [List.getElem?_toArray, List.getElem?_cons_zero, List.getElem?_cons_succ]; rfl)
              case hflz7 => kernel_rfl
              case hrlz7 => kernel_rfl
              case hQlz7 => exact fun _ _ _ h => h
              case hylz7 => refine Or.inl ⟨by rfl, ?_⟩; intro W hSw; go_simp; try with_reducible rfl
              try simp only [Act.put, List.setIfInBounds_toArray, List.set_cons_zero, List.set_cons_succ]
              refine' wpAnyH_take (i := 5) (oi := _) (v := _) ?hilz8 (by kernel_rfl) ?hflz8 ?hrlz8 ?hQlz8 ?hylz8 (hSlz1) ?restlz8
              case hilz8 => (simp only [List.getElem?_toArray, List.getElem?_cons_zero, List.getElem?_cons_succ]; rfl)
              case hflz8 => kernel_rfl
              case hrlz8 => kernel_rfl
              case hQlz8 => exact fun _ _ _ h => h
              case hylz8 => refine Or.inl ⟨by rfl, ?_⟩; intro W hSw; go_simp; try with_reducible rfl
              try simp only [Act.put, List.setIfInBounds_toArray, List.set_cons_zero, List.set_cons_succ]
              refine' wpAnyH_take (i := 6) (oi := _) (v := _) ?hilz9 (by kernel_rfl) ?hflz9 ?hrlz9 ?hQlz9 ?hylz9 (hSlz1) ?restlz9
              case hilz9 => (simp only [List.getElem?_toArray, List.getElem?_cons_zero, List.getElem?_cons_succ]; rfl)
              case hflz9 => kernel_rfl
              case hrlz9 => kernel_rfl
              case hQlz9 => exact fun _ _ _ h => h
              case hylz9 => refine Or.inl ⟨by rfl, ?_⟩; intro W hSw; go_simp; try with_reducible rfl
              try simp only [Act.put, List.setIfInBounds_toArray, List.set_cons_zero, List.set_cons_succ]
              refine' wpAnyH_take (i := 7) (oi := _) (v := .slice Br br dr) ?hilz10 (by kernel_rfl) ?hflz10 ?hrlz10 ?hQlz10 ?hylz10 (hSlz1) ?restlz10
              case hilz10 => (simp only [List.getElem?_toArray, List.getElem?_cons_zero, List.getElem?_cons_succ]; rfl)
              case hflz10 => kernel_rfl
              case hrlz10 => kernel_rfl
              case hQlz10 => exact fun _ _ _ h => h
              case hylz10 => refine Or.inl ⟨by rfl, ?_⟩; intro W hSw; have hcc := HC2.out W hSw; go_simp; try with_reducible rfl
              try simp only [Act.put, List.setIfInBounds_toArray, List.set_cons_zero, List.set_cons_succ]
              refine wpAnyH_ready (rs := [8]) (by kernel_rfl) (by simp) ?_
              refine' (AllReadyH.cons (o := _) ?hilz11 (fun K hK => ?_) AllReadyH.nil)
              case hilz11 => (simp only [List.getElem?_toArray, List.getElem?_cons_zero, List.getElem?_cons_succ]; rfl)
              go_simp
              go_at_call 20
              refine (CS.out Wlz2 hSlz1).mono ?_
              rintro e Wlz14 ⟨rfl, hblz12⟩
              have hBlz13 := below_on hSlz1 (Nat.le_refl _) hblz12
              refine hK.out _ _ (hBlz13) (fun _ => ?_)
              clear hK K
              try simp only [Act.put, List.setIfInBounds_toArray, List.set_cons_zero, List.set_cons_succ]
              refine' wpAnyH_take (i := 9) (oi := _) (v := _) ?hilz15 (by kernel_rfl) ?hflz15 ?hrlz15 ?hQlz15 ?hylz15 (hBlz13) ?restlz15
              case hilz15 => (simp only [List.getElem?_toArray, List.getElem?_cons_zero, List.getElem?_cons_succ]; rfl)
              case hflz15 => kernel_rfl
              case hrlz15 => kernel_rfl
              case hQlz15 => exact fun _ _ _ h => h
              case hylz15 => refine Or.inl ⟨by rfl, ?_⟩; intro W hSw; go_simp; try with_reducible rfl
              try simp only [Act.put, List.setIfInBounds_toArray, List.set_cons_zero, List.set_cons_succ]
              refine' wpAnyH_take (i := 10) (oi := _) (v := _) ?hilz16 (by kernel_rfl) ?hflz16 ?hrlz16 ?hQlz16 ?hylz16 (hBlz13) ?restlz16
              case hilz16 => (simp only [List.getElem?_toArray, List.getElem?_cons_zero, List.getElem?_cons_succ]; rfl)
              case hflz16 => kernel_rfl
              case hrlz16 => kernel_rfl
              case hQlz16 => exact fun _ _ _ h => h
              case hylz16 => refine Or.inl ⟨by rfl, ?_⟩; intro W hSw; go_simp; try with_reducible rfl
              try simp only [Act.put, List.setIfInBounds_toArray, List.set_cons_zero, List.set_cons_succ]
              refine' wpAnyH_take (i := 11) (oi := _) (v := _) ?hilz17 (by kernel_rfl) ?hflz17 ?hrlz17 ?hQlz17 ?hylz17 (hBlz13) ?restlz17
              case hilz17 => (simp only [List.getElem?_toArray, List.getElem?_cons_zero, List.getElem?_cons_succ]; rfl)
              case hflz17 => kernel_rfl
              case hrlz17 => kernel_rfl
              case hQlz17 => exact fun _ _ _ h => h
              case hylz17 => refine Or.inl ⟨by rfl, ?_⟩; intro W hSw; go_simp; try with_reducible rfl
              try simp only [Act.put, List.setIfInBounds_toArray, List.set_cons_zero, List.set_cons_succ]
              refine' wpAnyH_take (i := 12) (oi := _) (v := _) ?hilz18 (by kernel_rfl) ?hflz18 ?hrlz18 ?hQlz18 ?hylz18 (hBlz13) ?restlz18
              case hilz18 => (simp only [List.getElem?_toArray, List.getElem?_cons_zero, List.getElem?_cons_succ]; rfl)
              case hflz18 => kernel_rfl
              case hrlz18 => kernel_rfl
              case hQlz18 => exact fun _ _ _ h => h
              case hylz18 => refine Or.inl ⟨by rfl, ?_⟩; intro W hSw; go_simp; try with_reducible rfl
              try simp only [Act.put, List.setIfInBounds_toArray, List.set_cons_zero, List.set_cons_succ]
              refine' wpAnyH_take (i := 13) (oi := _) (v := _) ?hilz19 (by kernel_rfl) ?hflz19 ?hrlz19 ?hQlz19 ?hylz19 (hBlz13) ?restlz19
              case hilz19 => (simp only [List.getElem?_toArray, List.getElem?_cons_zero, List.getElem?_cons_succ]; rfl)
              case hflz19 => kernel_rfl
              case hrlz19 => kernel_rfl
              case hQlz19 => exact fun _ _ _ h => h
              case hylz19 => refine Or.inl ⟨by rfl, ?_⟩; intro W hSw; go_simp; try with_reducible rfl
              try simp only [Act.put, List.setIfInBounds_toArray, List.set_cons_zero, List.set_cons_succ]
              refine' wpAnyH_take (i := 14) (oi := _) (v := _) ?hilz20 (by kernel_rfl) ?hflz20 ?hrlz20 ?hQlz20 ?hylz20 (hBlz13) ?restlz20
              case hilz20 => (simp only [List.getElem?_toArray, List.getElem?_cons_zero, List.getElem?_cons_succ]; rfl)
              case hflz20 => kernel_rfl
              case hrlz20 => kernel_rfl
              case hQlz20 => exact fun _ _ _ h => h
              case hylz20 => refine Or.inl ⟨by rfl, ?_⟩; intro W hSw; go_simp; try with_reducible rfl
              try simp only [Act.put, List.setIfInBounds_toArray, List.set_cons_zero, List.set_cons_succ]
              refine' wpAnyH_take (i := 15) (oi := _) (v := sv (mv)) ?hilz21 (by kernel_rfl) ?hflz21 ?hrlz21 ?hQlz21 ?hylz21 (hBlz13) ?restlz21
              case hilz21 => (simp only [List.getElem?_toArray, List.getElem?_cons_zero, List.getElem?_cons_succ]; rfl)
              case hflz21 => kernel_rfl
              case hrlz21 => kernel_rfl
              case hQlz21 => exact fun _ _ _ h => h
              case hylz21 => refine yields_sum ?_ (.tmp 17) rfl ⟨g12, 0, none⟩ rfl mv lm (fun W hSw => (HF20.out.2.2.2.1.below hSw).at_); rfl
              try simp only [Act.put, List.setIfInBounds_toArray, List.set_cons_zero, List.set_cons_succ]
              refine' wpAnyH_take (i := 16) (oi := _) (v := _) ?hilz22 (by kernel_rfl) ?hflz22 ?hrlz22 ?hQlz22 ?hylz22 (hBlz13) ?restlz22
              case hilz22 => (simp only [List.getElem?_toArray, List.getElem?_cons_zero, List.getElem?_cons_succ]; rfl)
              case hflz22 => kernel_rfl
              case hrlz22 => kernel_rfl
              case hQlz22 => exact fun _ _ _ h => h
              case hylz22 => refine Or.inl ⟨by rfl, ?_⟩; intro W hSw; go_simp; try with_reducible rfl
              try simp only [Act.put, List.setIfInBounds_toArray, List.set_cons_zero, List.set_cons_succ]
              refine' wpAnyH_take (i := 17) (oi := _) (v := _) ?hilz23 (by kernel_rfl) ?hflz23 ?hrlz23 ?hQlz23 ?hylz23 (hBlz13) ?restlz23
              case hilz23 => (simp only [List.getElem?_toArray, List.getElem?_cons_zero, List.getElem?_cons_succ]; rfl)
              case hflz23 => kernel_rfl
              case hrlz23 => kernel_rfl
              case hQlz23 => exact fun _ _ _ h => h
              case hylz23 => refine Or.inl ⟨by rfl, ?_⟩; intro W hSw; go_simp; try with_reducible rfl
              try simp only [Act.put, List.setIfInBounds_toArray, List.set_cons_zero, List.set_cons_succ]
              refine' wpAnyH_take (i := 18) (oi := _) (v := .slice (some ar) a rc) ?hilz24 (by kernel_rfl) ?hflz24 ?hrlz24 ?hQlz24 ?hylz24 (hBlz13) ?restlz24
              case hilz24 => (simp only [List.getElem?_toArray, List.getElem?_cons_zero, List.getElem?_cons_succ]; rfl)
              case hflz24 => kernel_rfl
              case hrlz24 => kernel_rfl
              case hQlz24 => exact fun _ _ _ h => h
              case hylz24 => refine Or.inl ⟨by rfl, ?_⟩; intro W hSw; exact high_rows_op (.tmp 220) (.tmp 221) (by rfl) (by rfl) (by rfl) (HIN.out W)
              try simp only [Act.put, List.setIfInBounds_toArray, List.set_cons_zero, List.set_cons_succ]
              refine wpAnyH_ready (rs := [19]) (by kernel_rfl) (by simp) ?_
              refine' (AllReadyH.cons (o := _) ?hilz25 (fun K hK => ?_) AllReadyH.nil)
              case hilz25 => (simp only [List.getElem?_toArray, List.getElem?_cons_zero, List.getElem?_cons_succ]; rfl)
              go_simp
              go_at_call 21
              refine (CM.out Wlz14 hBlz13).mono ?_
              rintro e Wlz28 ⟨rfl, hblz26⟩
              have hBlz27 := below_on hBlz13 (Nat.le_refl _) hblz26
              refine hK.out _ _ (hBlz27) (fun _ => ?_)
              clear hK K
              try simp only [Act.put, List.setIfInBounds_toArray, List.set_cons_zero, List.set_cons_succ]
              refine' wpAnyH_take (i := 20) (oi := _) (v := .bool false) ?hilz29 (by kernel_rfl) ?hflz29 ?hrlz29 ?hQlz29 ?hylz29 (hBlz27) ?restlz29
              case hilz29 => (simp only [List.getElem?_toArray, List.getElem?_cons_zero, List.getElem?_cons_succ]; rfl)
              case hflz29 => kernel_rfl
              case hrlz29 => kernel_rfl
              case hQlz29 => exact fun _ _ _ h => h
              case hylz29 => refine Or.inl ⟨by rfl, ?_⟩; intro W hSw; exact neq_same_op (.tmp 219) (.tmp 223) (by rfl) (by rfl) (by rfl) lm
              try simp only [Act.put, List.setIfInBounds_toArray, List.set_cons_zero, List.set_cons_succ]
              refine' wpAnyH_take (i := 21) (oi := _) (v := _) ?hilz30 (by kernel_rfl) ?hflz30 ?hrlz30 ?hQlz30 ?hylz30 (hBlz27) ?restlz30
              case hilz30 => (simp only [List.getElem?_toArray, List.getElem?_cons_zero, List.getElem?_cons_succ]; rfl)
              case hflz30 => kernel_rfl
              case hrlz30 => kernel_rfl
              case hQlz30 => exact fun _ _ _ h => h
              case hylz30 => refine Or.inl ⟨by rfl, ?_⟩; intro W hSw; go_simp; try with_reducible rfl
              try simp only [Act.put, List.setIfInBounds_toArray, List.set_cons_zero, List.set_cons_succ]
              refine' wpAnyH_take (i := 22) (oi := _) (v := sv (rv)) ?hilz31 (by kernel_rfl) ?hflz31 ?hrlz31 ?hQlz31 ?hylz31 (hBlz27) ?restlz31
              case hilz31 => (simp only [List.getElem?_toArray, List.getElem?_cons_zero, List.getElem?_cons_succ]; rfl)
              case hflz31 => kernel_rfl
              case hrlz31 => kernel_rfl
              case hQlz31 => exact fun _ _ _ h => h
              case hylz31 => refine yields_sum ?_ (.tmp 19) rfl ⟨g14, 0, none⟩ rfl rv lr (fun W hSw => (HF20.out.2.2.2.2.1.below hSw).at_); rfl
              try simp only [Act.put, List.setIfInBounds_toArray, List.set_cons_zero, List.set_cons_succ]
              refine' wpAnyH_take (i := 23) (oi := _) (v := _) ?hilz32 (by kernel_rfl) ?hflz32 ?hrlz32 ?hQlz32 ?hylz32 (hBlz27) ?restlz32
              case hilz32 => (simp only [List.getElem?_toArray, List.getElem?_cons_zero, List.getElem?_cons_succ]; rfl)
              case hflz32 => kernel_rfl
              case hrlz32 => kernel_rfl
              case hQlz32 => exact fun _ _ _ h => h
              case hylz32 => refine Or.inl ⟨by rfl, ?_⟩; intro W hSw; go_simp; try with_reducible rfl
              try simp only [Act.put, List.setIfInBounds_toArray, List.set_cons_zero, List.set_cons_succ]
              refine' wpAnyH_take (i := 24) (oi := _) (v := _) ?hilz33 (by kernel_rfl) ?hflz33 ?hrlz33 ?hQlz33 ?hylz33 (hBlz27) ?restlz33
              case hilz33 => (simp only [List.getElem?_toArray, List.getElem?_cons_zero, List.getElem?_cons_succ]; rfl)
              case hflz33 => kernel_rfl
              case hrlz33 => kernel_rfl
              case hQlz33 => exact fun _ _ _ h => h
              case hylz33 => refine Or.inl ⟨by rfl, ?_⟩; intro W hSw; go_simp; try with_reducible rfl
              try simp only [Act.put, List.setIfInBounds_toArray, List.set_cons_zero, List.set_cons_succ]
              refine' wpAnyH_take (i := 25) (oi := _) (v := .slice (some ar) a rc) ?hilz34 (by kernel_rfl) ?hflz34 ?hrlz34 ?hQlz34 ?hylz34 (hBlz27) ?restlz34
              case hilz34 => (simp only [List.getElem?_toArray, List.getElem?_cons_zero, List.getElem?_cons_succ]; rfl)
              case hflz34 => kernel_rfl
              case hrlz34 => kernel_rfl
              case hQlz34 => exact fun _ _ _ h => h
              case hylz34 => refine Or.inl ⟨by rfl, ?_⟩; intro W hSw; exact high_rows_op (.tmp 227) (.tmp 228) (by rfl) (by rfl) (by rfl) (HIN.out W)
              try simp only [Act.put, List.setIfInBounds_toArray, List.set_cons_zero, List.set_cons_succ]
              refine wpAnyH_ready (rs := [26]) (by kernel_rfl) (by simp) ?_
              refine' (AllReadyH.cons (o := _) ?hilz35 (fun K hK => ?_) AllReadyH.nil)
              case hilz35 => (simp only [List.getElem?_toArray, List.getElem?_cons_zero, List.getElem?_cons_succ]; rfl)
              go_simp
              go_at_call 22
              refine (CR.out Wlz28 hBlz27).mono ?_
              rintro e Wlz38 ⟨rfl, hblz36⟩
              have hBlz37 := below_on hBlz27 (Nat.le_refl _) hblz36
              refine hK.out _ _ (hBlz37) (fun _ => ?_)
              clear hK K
              try simp only [Act.put, List.setIfInBounds_toArray, List.set_cons_zero, List.set_cons_succ]
              refine' wpAnyH_take (i := 27) (oi := _) (v := .bool false) ?hilz39 (by kernel_rfl) ?hflz39 ?hrlz39 ?hQlz39 ?hylz39 (hBlz37) ?restlz39
              case hilz39 => (simp only [List.getElem?_toArray, List.getElem?_cons_zero, List.getElem?_cons_succ]; rfl)
              case hflz39 => kernel_rfl
              case hrlz39 => kernel_rfl
              case hQlz39 => exact fun _ _ _ h => h
              case hylz39 => refine Or.inl ⟨by rfl, ?_⟩; intro W hSw; exact neq_same_op (.tmp 226) (.tmp 230) (by rfl) (by rfl) (by rfl) lr
              try simp only [Act.put, List.setIfInBounds_toArray, List.set_cons_zero, List.set_cons_succ]
              refine' wpAnyH_take (i := 28) (oi := _) (v := _) ?hilz40 (by kernel_rfl) ?hflz40 ?hrlz40 ?hQlz40 ?hylz40 (hBlz37) ?restlz40
              case hilz40 => (simp only [List.getElem?_toArray, List.getElem?_cons_zero, List.getElem?_cons_succ]; rfl)
              case hflz40 => kernel_rfl
              case hrlz40 => kernel_rfl
              case hQlz40 => exact fun _ _ _ h => h
              case hylz40 => refine Or.inl ⟨by rfl, ?_⟩; intro W hSw; go_simp; try with_reducible rfl
              try simp only [Act.put, List.setIfInBounds_toArray, List.set_cons_zero, List.set_cons_succ]
              refine' wpAnyH_take (i := 29) (oi := _) (v := _) ?hilz41 (by kernel_rfl) ?hflz41 ?hrlz41 ?hQlz41 ?hylz41 (hBlz37) ?restlz41
              case hilz41 => (simp only [List.getElem?_toArray, List.getElem?_cons_zero, List.getElem?_cons_succ]; rfl)
              case hflz41 => kernel_rfl
              case hrlz41 => kernel_rfl
              case hQlz41 => exact fun _ _ _ h => h
              case hylz41 => refine Or.inl ⟨by rfl, ?_⟩; intro W hSw; go_simp; try with_reducible rfl
              try simp only [Act.put, List.setIfInBounds_toArray, List.set_cons_zero, List.set_cons_succ]
              refine' wpAnyH_take (i := 30) (oi := _) (v := _) ?hilz42 (by kernel_rfl) ?hflz42 ?hrlz42 ?hQlz42 ?hylz42 (hBlz37) ?restlz42
              case hilz42 => (simp only [List.getElem?_toArray, List.getElem?_cons_zero, List.getElem?_cons_succ]; rfl)
              case hflz42 => kernel_rfl
              case hrlz42 => kernel_rfl
              case hQlz42 => exact fun _ _ _ h => h
              case hylz42 => refine Or.inl ⟨by rfl, ?_⟩; intro W hSw; go_simp; try with_reducible rfl
              try simp only [Act.put, List.setIfInBounds_toArray, List.set_cons_zero, List.set_cons_succ]
              refine' wpAnyH_take (i := 31) (oi := _) (v := _) ?hilz43 (by kernel_rfl) ?hflz43 ?hrlz43 ?hQlz43 ?hylz43 (hBlz37) ?restlz43
              case hilz43 => (simp only [List.getElem?_toArray, List.getElem?_cons_zero, List.getElem?_cons_succ]; rfl)
              case hflz43 => kernel_rfl
              case hrlz43 => kernel_rfl
              case hQlz43 => exact fun _ _ _ h => h
              case hylz43 => refine Or.inl ⟨by rfl, ?_⟩; intro W hSw; go_simp; try with_reducible rfl
              try simp only [Act.put, List.setIfInBounds_toArray, List.set_cons_zero, List.set_cons_succ]
              refine' wpAnyH_take (i := 32) (oi := _) (v := _) ?hilz44 (by kernel_rfl) ?hflz44 ?hrlz44 ?hQlz44 ?hylz44 (hBlz37) ?restlz44
              case hilz44 => (simp only [List.getElem?_toArray, List.getElem?_cons_zero, List.getElem?_cons_succ]; rfl)
              case hflz44 => kernel_rfl
              case hrlz44 => kernel_rfl
              case hQlz44 => exact fun _ _ _ h => h
              case hylz44 => refine Or.inl ⟨by rfl, ?_⟩; intro W hSw; go_simp; try with_reducible rfl
              try simp only [Act.put, List.setIfInBounds_toArray, List.set_cons_zero, List.set_cons_succ]
              refine' wpAnyH_take (i := 33) (oi := _) (v := _) ?hilz45 (by kernel_rfl) ?hflz45 ?hrlz45 ?hQlz45 ?hylz45 (hBlz37) ?restlz45
              case hilz45 => (simp only [List.getElem?_toArray, List.getElem?_cons_zero, List.getElem?_cons_succ]; rfl)
              case hflz45 => kernel_rfl
              case hrlz45 => kernel_rfl
              case hQlz45 => exact fun _ _ _ h => h
              case hylz45 => refine Or.inl ⟨by rfl, ?_⟩; intro W hSw; go_simp; try with_reducible rfl
              try simp only [Act.put, List.setIfInBounds_toArray, List.set_cons_zero, List.set_cons_succ]
              refine' wpAnyH_take (i := 34) (oi := _) (v := _) ?hilz46 (by kernel_rfl) ?hflz46 ?hrlz46 ?hQlz46 ?hylz46 (hBlz37) ?restlz46
              case hilz46 => (simp only [List.getElem?_toArray, List.getElem?_cons_zero, List.getElem?_cons_succ]; rfl)
              case hflz46 => kernel_rfl
              case hrlz46 => kernel_rfl
              case hQlz46 => exact fun _ _ _ h => h
              case hylz46 => refine Or.inl ⟨by rfl, ?_⟩; intro W hSw; go_simp; try with_reducible rfl
              try simp only [Act.put, List.setIfInBounds_toArray, List.set_cons_zero, List.set_cons_succ]
              refine' wpAnyH_take (i := 35) (oi := _) (v := undef) ?hilz47 (by kernel_rfl) ?hflz47 ?hrlz47 ?hQlz47 ?hylz47 (hBlz37) ?restlz47
              case hilz47 => (simp only [List.getElem?_toArray, List.getElem?_cons_zero, List.getElem?_cons_succ]; rfl)
              case hflz47 => kernel_rfl
              case hrlz47 => kernel_rfl
              case hQlz47 => exact fun _ _ _ h => h
              case hylz47 => exact Or.inr ⟨by rfl, rfl⟩
              try simp only [Act.put, List.setIfInBounds_toArray, List.set_cons_zero, List.set_cons_succ]
              refine' wpAnyH_take (i := 36) (oi := _) (v := undef) ?hilz48 (by kernel_rfl) ?hflz48 ?hrlz48 ?hQlz48 ?hylz48 (hBlz37) ?restlz48
              case hilz48 => (simp only [List.getElem?_toArray, List.getElem?_cons_zero, List.getElem?_cons_succ]; rfl)
              case hflz48 => kernel_rfl
              case hrlz48 => kernel_rfl
              case hQlz48 => exact fun _ _ _ h => h
              case hylz48 => exact Or.inr ⟨by rfl, rfl⟩
              try simp only [Act.put, List.setIfInBounds_toArray, List.set_cons_zero, List.set_cons_succ]
              refine' wpAnyH_take (i := 37) (oi := _) (v := undef) ?hilz49 (by kernel_rfl) ?hflz49 ?hrlz49 ?hQlz49 ?hylz49 (hBlz37) ?restlz49
              case hilz49 => (simp only [List.getElem?_toArray, List.getElem?_cons_zero, List.getElem?_cons_succ]; rfl)
              case hflz49 => kernel_rfl
              case hrlz49 => kernel_rfl
              case hQlz49 => exact fun _ _ _ h => h
              case hylz49 => exact Or.inr ⟨by rfl, rfl⟩
              try simp only [Act.put, List.setIfInBounds_toArray, List.set_cons_zero, List.set_cons_succ]
              refine' wpAnyH_take (i := 38) (oi := _) (v := undef) ?hilz50 (by kernel_rfl) ?hflz50 ?hrlz50 ?hQlz50 ?hylz50 (hBlz37) ?restlz50
              case hilz50 => (simp only [List.getElem?_toArray, List.getElem?_cons_zero, List.getElem?_cons_succ]; rfl)
              case hflz50 => kernel_rfl
              case hrlz50 => kernel_rfl
              case hQlz50 => exact fun _ _ _ h => h
              case hylz50 => exact Or.inr ⟨by rfl, rfl⟩
              try simp only [Act.put, List.setIfInBounds_toArray, List.set_cons_zero, List.set_cons_succ]
              refine' wpAnyH_take (i := 39) (oi := _) (v := undef) ?hilz51 (by kernel_rfl) ?hflz51 ?hrlz51 ?hQlz51 ?hylz51 (hBlz37) ?restlz51
              case hilz51 => (simp only [List.getElem?_toArray, List.getElem?_cons_zero, List.getElem?_cons_succ]; rfl)
              case hflz51 => kernel_rfl
              case hrlz51 => kernel_rfl
              case hQlz51 => exact fun _ _ _ h => h
              case hylz51 => exact Or.inr ⟨by rfl, rfl⟩
              try simp only [Act.put, List.setIfInBounds_toArray, List.set_cons_zero, List.set_cons_succ]
              refine' wpAnyH_take (i := 40) (oi := _) (v := undef) ?hilz52 (by kernel_rfl) ?hflz52 ?hrlz52 ?hQlz52 ?hylz52 (hBlz37) ?restlz52
              case hilz52 => (simp only [List.getElem?_toArray, List.getElem?_cons_zero, List.getElem?_cons_succ]; rfl)
              case hflz52 => kernel_rfl
              case hrlz52 => kernel_rfl
              case hQlz52 => exact fun _ _ _ h => h
              case hylz52 => exact Or.inr ⟨by rfl, rfl⟩
              try simp only [Act.put, List.setIfInBounds_toArray, List.set_cons_zero, List.set_cons_succ]
              refine' wpAnyH_take (i := 41) (oi := _) (v := undef) ?hilz53 (by kernel_rfl) ?hflz53 ?hrlz53 ?hQlz53 ?hylz53 (hBlz37) ?restlz53
              case hilz53 => (simp only [List.getElem?_toArray, List.getElem?_cons_zero, List.getElem?_cons_succ]; rfl)
              case hflz53 => kernel_rfl
              case hrlz53 => kernel_rfl
              case hQlz53 => exact fun _ _ _ h => h
              case hylz53 => exact Or.inr ⟨by rfl, rfl⟩
              try simp only [Act.put, List.setIfInBounds_toArray, List.set_cons_zero, List.set_cons_succ]
              refine' wpAnyH_take (i := 42) (oi := _) (v := _) ?hilz54 (by kernel_rfl) ?hflz54 ?hrlz54 ?hQlz54 ?hylz54 (hBlz37) ?restlz54
              case hilz54 => (simp only [List.getElem?_toArray, List.getElem?_cons_zero, List.getElem?_cons_succ]; rfl)
              case hflz54 => kernel_rfl
              case hrlz54 => kernel_rfl
              case hQlz54 => exact fun _ _ _ h => h
              case hylz54 => refine Or.inl ⟨by rfl, ?_⟩; intro W hSw; go_simp; try with_reducible rfl
              try simp only [Act.put, List.setIfInBounds_toArray, List.set_cons_zero, List.set_cons_succ]
              refine' wpAnyH_take (i := 43) (oi := _) (v := _) ?hilz55 (by kernel_rfl) ?hflz55 ?hrlz55 ?hQlz55 ?hylz55 (hBlz37) ?restlz55
              case hilz55 => (simp only [List.getElem?_toArray, List.getElem?_cons_zero, List.getElem?_cons_succ]; rfl)
              case hflz55 => kernel_rfl
              case hrlz55 => kernel_rfl
              case hQlz55 => exact fun _ _ _ h => h
              case hylz55 => refine Or.inl ⟨by rfl, ?_⟩; intro W hSw; go_simp; try with_reducible rfl
              try simp only [Act.put, List.setIfInBounds_toArray, List.set_cons_zero, List.set_cons_succ]
              refine' wpAnyH_take (i := 44) (oi := _) (v := _) ?hilz56 (by kernel_rfl) ?hflz56 ?hrlz56 ?hQlz56 ?hylz56 (hBlz37) ?restlz56
              case hilz56 => (simp only [List.getElem?_toArray, List.getElem?_cons_zero, List.getElem?_cons_succ]; rfl)
              case hflz56 => kernel_rfl
              case hrlz56 => kernel_rfl
              case hQlz56 => exact fun _ _ _ h => h
              case hylz56 => refine Or.inl ⟨by rfl, ?_⟩; intro W hSw; go_simp; try with_reducible rfl
              try simp only [Act.put, List.setIfInBounds_toArray, List.set_cons_zero, List.set_cons_succ]
              refine' wpAnyH_take (i := 45) (oi := _) (v := _) ?hilz57 (by kernel_rfl) ?hflz57 ?hrlz57 ?hQlz57 ?hylz57 (hBlz37) ?restlz57
              case hilz57 => (simp only [List.getElem?_toArray, List.getElem?_cons_zero, List.getElem?_cons_succ]; rfl)
              case hflz57 => kernel_rfl
              case hrlz57 => kernel_rfl
              case hQlz57 => exact fun _ _ _ h => h
              case hylz57 => refine Or.inl ⟨by rfl, ?_⟩; intro W hSw; go_simp; try with_reducible rfl
              try simp only [Act.put, List.setIfInBounds_toArray, List.set_cons_zero, List.set_cons_succ]
              refine' wpAnyH_take (i := 46) (oi := _) (v := _) ?hilz58 (by kernel_rfl) ?hflz58 ?hrlz58 ?hQlz58 ?hylz58 (hBlz37) ?restlz58
              case hilz58 => (simp only [List.getElem?_toArray, List.getElem?_cons_zero, List.getElem?_cons_succ]; rfl)
              case hflz58 => kernel_rfl
              case hrlz58 => kernel_rfl
              case hQlz58 => exact fun _ _ _ h => h
              case hylz58 => refine Or.inl ⟨by rfl, ?_⟩; intro W hSw; go_simp; try with_reducible rfl
              try simp only [Act.put, List.setIfInBounds_toArray, List.set_cons_zero, List.set_cons_succ]
              refine' wpAnyH_take (i := 47) (oi := _) (v := _) ?hilz59 (by kernel_rfl) ?hflz59 ?hrlz59 ?hQlz59 ?hylz59 (hBlz37) ?restlz59
              case hilz59 => (simp only [List.getElem?_toArray, List.getElem?_cons_zero, List.getElem?_cons_succ]; rfl)
              case hflz59 => kernel_rfl
              case hrlz59 => kernel_rfl
              case hQlz59 => exact fun _ _ _ h => h
              case hylz59 => refine Or.inl ⟨by rfl, ?_⟩; intro W hSw; go_simp; try with_reducible rfl
              try simp only [Act.put, List.setIfInBounds_toArray, List.set_cons_zero, List.set_cons_succ]
              refine' wpAnyH_take (i := 48) (oi := _) (v := undef) ?hilz60 (by kernel_rfl) ?hflz60 ?hrlz60 ?hQlz60 ?hylz60 (hBlz37) ?restlz60
              case hilz60 => (simp only [List.getElem?_toArray, List.getElem?_cons_zero, List.getElem?_cons_succ]; rfl)
              case hflz60 => kernel_rfl
              case hrlz60 => kernel_rfl
              case hQlz60 => exact fun _ _ _ h => h
              case hylz60 => exact Or.inr ⟨by rfl, rfl⟩
              try simp only [Act.put, List.setIfInBounds_toArray, List.set_cons_zero, List.set_cons_succ]
              refine' wpAnyH_take (i := 49) (oi := _) (v := undef) ?hilz61 (by kernel_rfl) ?hflz61 ?hrlz61 ?hQlz61 ?hylz61 (hBlz37) ?restlz61
              case hilz61 => (simp only [List.getElem?_toArray, List.getElem?_cons_zero, List.getElem?_cons_succ]; rfl)
              case hflz61 => kernel_rfl
              case hrlz61 => kernel_rfl
              case hQlz61 => exact fun _ _ _ h => h
              case hylz61 => exact Or.inr ⟨by rfl, rfl⟩
              try simp only [Act.put, List.setIfInBounds_toArray, List.set_cons_zero, List.set_cons_succ]
              refine' wpAnyH_take (i := 50) (oi := _) (v := undef) ?hilz62 (by kernel_rfl) ?hflz62 ?hrlz62 ?hQlz62 ?hylz62 (hBlz37) ?restlz62
              case hilz62 => (simp only [List.getElem?_toArray, List.getElem?_cons_zero, List.getElem?_cons_succ]; rfl)
              case hflz62 => kernel_rfl
              case hrlz62 => kernel_rfl
              case hQlz62 => exact fun _ _ _ h => h
              case hylz62 => exact Or.inr ⟨by rfl, rfl⟩
              try simp only [Act.put, List.setIfInBounds_toArray, List.set_cons_zero, List.set_cons_succ]
              refine' wpAnyH_take (i := 51) (oi := _) (v := undef) ?hilz63 (by kernel_rfl) ?hflz63 ?hrlz63 ?hQlz63 ?hylz63 (hBlz37) ?restlz63
              case hilz63 => (simp only [List.getElem?_toArray, List.getElem?_cons_zero, List.getElem?_cons_succ]; rfl)
              case hflz63 => kernel_rfl
              case hrlz63 => kernel_rfl
              case hQlz63 => exact fun _ _ _ h => h
              case hylz63 => exact Or.inr ⟨by rfl, rfl⟩
              try simp only [Act.put, List.setIfInBounds_toArray, List.set_cons_zero, List.set_cons_succ]
              refine' wpAnyH_take (i := 52) (oi := _) (v := undef) ?hilz64 (by kernel_rfl) ?hflz64 ?hrlz64 ?hQlz64 ?hylz64 (hBlz37) ?restlz64
              case hilz64 => (simp only [List.getElem?_toArray, List.getElem?_cons_zero, List.getElem?_cons_succ]; rfl)
              case hflz64 => kernel_rfl
              case hrlz64 => kernel_rfl
              case hQlz64 => exact fun _ _ _ h => h
              case hylz64 => exact Or.inr ⟨by rfl, rfl⟩
              try simp only [Act.put, List.setIfInBounds_toArray, List.set_cons_zero, List.set_cons_succ]
              refine' wpAnyH_take (i := 53) (oi := _) (v := undef) ?hilz65 (by kernel_rfl) ?hflz65 ?hrlz65 ?hQlz65 ?hylz65 (hBlz37) ?restlz65
              case hilz65 => (simp only [List.getElem?_toArray, List.getElem?_cons_zero, List.getElem?_cons_succ]; rfl)
              case hflz65 => kernel_rfl
              case hrlz65 => kernel_rfl
              case hQlz65 => exact fun _ _ _ h => h
              case hylz65 => exact Or.inr ⟨by rfl, rfl⟩
              try simp only [Act.put, List.setIfInBounds_toArray, List.set_cons_zero, List.set_cons_succ]
              refine' wpAnyH_take (i := 54) (oi := _) (v := undef) ?hilz66 (by kernel_rfl) ?hflz66 ?hrlz66 ?hQlz66 ?hylz66 (hBlz37) ?restlz66
              case hilz66 => (simp only [List.getElem?_toArray, List.getElem?_cons_zero, List.getElem?_cons_succ]; rfl)
              case hflz66 => kernel_rfl
              case hrlz66 => kernel_rfl
              case hQlz66 => exact fun _ _ _ h => h
              case hylz66 => exact Or.inr ⟨by rfl, rfl⟩
              try simp only [Act.put, List.setIfInBounds_toArray, List.set_cons_zero, List.set_cons_succ]
              refine' wpAnyH_take (i := 55) (oi := _) (v := undef) ?hilz67 (by kernel_rfl) ?hflz67 ?hrlz67 ?hQlz67 ?hylz67 (hBlz37) ?restlz67
              case hilz67 => (simp only [List.getElem?_toArray, List.getElem?_cons_zero, List.getElem?_cons_succ]; rfl)
              case hflz67 => kernel_rfl
              case hrlz67 => kernel_rfl
              case hQlz67 => exact fun _ _ _ h => h
              case hylz67 => exact Or.inr ⟨by rfl, rfl⟩
              try simp only [Act.put, List.setIfInBounds_toArray, List.set_cons_zero, List.set_cons_succ]
              refine' wpAnyH_take (i := 56) (oi := _) (v := undef) ?hilz68 (by kernel_rfl) ?hflz68 ?hrlz68 ?hQlz68 ?hylz68 (hBlz37) ?restlz68
              case hilz68 => (simp only [List.getElem?_toArray, List.getElem?_cons_zero, List.getElem?_cons_succ]; rfl)
              case hflz68 => kernel_rfl
              case hrlz68 => kernel_rfl
              case hQlz68 => exact fun _ _ _ h => h
              case hylz68 => exact Or.inr ⟨by rfl, rfl⟩
              try simp only [Act.put, List.setIfInBounds_toArray, List.set_cons_zero, List.set_cons_succ]
              refine' wpAnyH_take (i := 57) (oi := _) (v := undef) ?hilz69 (by kernel_rfl) ?hflz69 ?hrlz69 ?hQlz69 ?hylz69 (hBlz37) ?restlz69
              case hilz69 => (simp only [List.getElem?_toArray, List.getElem?_cons_zero, List.getElem?_cons_succ]; rfl)
              case hflz69 => kernel_rfl
              case hrlz69 => kernel_rfl
              case hQlz69 => exact fun _ _ _ h => h
              case hylz69 => exact Or.inr ⟨by rfl, rfl⟩
              try simp only [Act.put, List.setIfInBounds_toArray, List.set_cons_zero, List.set_cons_succ]
              refine' wpAnyH_take (i := 58) (oi := _) (v := undef) ?hilz70 (by kernel_rfl) ?hflz70 ?hrlz70 ?hQlz70 ?hylz70 (hBlz37) ?restlz70
              case hilz70 => (simp only [List.getElem?_toArray, List.getElem?_cons_zero, List.getElem?_cons_succ]; rfl)
              case hflz70 => kernel_rfl
              case hrlz70 => kernel_rfl
              case hQlz70 => exact fun _ _ _ h => h
              case hylz70 => exact Or.inr ⟨by rfl, rfl⟩
              try simp only [Act.put, List.setIfInBounds_toArray, List.set_cons_zero, List.set_cons_succ]
              refine' wpAnyH_take (i := 59) (oi := _) (v := undef) ?hilz71 (by kernel_rfl) ?hflz71 ?hrlz71 ?hQlz71 ?hylz71 (hBlz37) ?restlz71
              case hilz71 => (simp only [List.getElem?_toArray, List.getElem?_cons_zero, List.getElem?_cons_succ]; rfl)
              case hflz71 => kernel_rfl
              case hrlz71 => kernel_rfl
              case hQlz71 => exact fun _ _ _ h => h
              case hylz71 => exact Or.inr ⟨by rfl, rfl⟩
              try simp only [Act.put, List.setIfInBounds_toArray, List.set_cons_zero, List.set_cons_succ]
              refine' wpAnyH_take (i := 60) (oi := _) (v := _) ?hilz72 (by kernel_rfl) ?hflz72 ?hrlz72 ?hQlz72 ?hylz72 (hBlz37) ?restlz72
              case hilz72 => (simp only [List.getElem?_toArray, List.getElem?_cons_zero, List.getElem?_cons_succ]; rfl)
              case hflz72 => kernel_rfl
              case hrlz72 => kernel_rfl
              case hQlz72 => exact fun _ _ _ h => h
              case hylz72 => refine Or.inl ⟨by rfl, ?_⟩; intro W hSw; go_simp; try with_reducible rfl
              try simp only [Act.put, List.setIfInBounds_toArray, List.set_cons_zero, List.set_cons_succ]
              refine' wpAnyH_take (i := 61) (oi := _) (v := _) ?hilz73 (by kernel_rfl) ?hflz73 ?hrlz73 ?hQlz73 ?hylz73 (hBlz37) ?restlz73
              case hilz73 => (simp only [List.getElem?_toArray, List.getElem?_cons_zero, List.getElem?_cons_succ]; rfl)
              case hflz73 => kernel_rfl
              case hrlz73 => kernel_rfl
              case hQlz73 => exact fun _ _ _ h => h
              case hylz73 => refine Or.inl ⟨by rfl, ?_⟩; intro W hSw; go_simp; try with_reducible rfl
              try simp only [Act.put, List.setIfInBounds_toArray, List.set_cons_zero, List.set_cons_succ]
              refine wpAnyH_done (by kernel_rfl) ?_ _
              have P33 := HF20.out.1.below hBlz37
              have R33 := HF20.out.2.1.below hBlz37
              have X33 := HF20.out.2.2.1.below hBlz37
              have A33 := HF20.out.2.2.2.2.2.1.below hBlz37
              have L33 := HF20.out.2.2.2.2.2.2.1.below hBlz37
              have CB0 := play_bytes P33 X33.own (fun b e => (O10.out b e).1) (fun b e => (O10.out b e).2.1) (by omega) (by have h1 := HS.out.2.2.1; have h2 := HS.out.2.2.2; omega)
              have A34 := fun {W' : World} {b1 : Value} (hb : But (fun b => b = kb ∨ bs'.ownBlock = some b) Wlz38 W') => own_kept_but A33.own hb (fun b e1 e2 => by
                rcases e2 with e2 | e2
                · subst e2; exact P33.kept.book.other (by decide) A33.own e1
                · exact not_row (by decide) A33.own P33.kept.own1 b e1 e2)
              have L34 := fun {W' : World} {b1 : Value} (hb : But (fun b => b = kb ∨ bs'.ownBlock = some b) Wlz38 W') => own_kept_but L33.own hb (fun b e1 e2 => by
                rcases e2 with e2 | e2
                · subst e2; exact P33.kept.book.other (by decide) L33.own e1
                · exact not_row (by decide) L33.own P33.kept.own1 b e1 e2)
              have CB := Lib.hid CB0
              have HALL := Lib.hid (And.intro P33 R33)
              have HA34 := Lib.hid (fun W' (hb : But (fun b => b = kb ∨ bs'.ownBlock = some b) Wlz38 W') => And.intro (A34 (b1 := undef) hb) (L34 (b1 := undef) hb))
              clear P33 R33 X33 A33 L33 CB0 A34 L34 n1 n2 n3 hi1 hi2
              go_wp2_with fail
              refine CB.out.mono ?_
              rintro e w81 ⟨rfl, bs8, hs8, hP8, hb8, hl8, hin8⟩
              have R8 := HALL.out.2.bytes HALL.out.1 hb8
              have AL8 := HA34.out _ hb8
              have CS0 := play_sums hP8 AL8.1 (fun b e => (O15.out b e).1) (fun b e => (O15.out b e).2.2) (by omega) (by have h1 := HS.out.2.2.1; have h2 := HS.out.2.2.2; omega)
              have H8 := Lib.hid (And.intro hP8 (And.intro R8 (And.intro AL8.2 hl8)))
              have CSh := Lib.hid CS0
              clear CS0 hP8 hb8 hin8 R8 AL8 hl8 HA34 HALL CB
              go_wp2_with fail
              refine CSh.out.mono ?_
              rintro e w82 ⟨rfl, ss9, hs9, hP9, hb9, hl9, hin9⟩
              have R9 := H8.out.2.1.sums H8.out.1 hb9
              have L9 := own_kept_but H8.out.2.2.1 hb9 (fun b e1 e2 => by
                rcases e2 with e2 | e2
                · subst e2; exact H8.out.1.kept.book.other (by decide) H8.out.2.2.1 e1
                · exact not_row (by decide) H8.out.2.2.1 H8.out.1.kept.own2 b e1 e2)
              have CT0 := play_sums hP9 L9 (fun b e => (O16.out b e).1) (fun b e hin => (hin9 b hin).elim (O16.out b e).2.2 (fun e2 => OPL.out b e e2)) (by omega) (by have h1 := HS.out.2.2.1; have h2 := HS.out.2.2.2; have h3 := H8.out.2.2.2; omega)
              have H9 := Lib.hid (And.intro hP9 (And.intro R9 (And.intro hl9 H8.out.2.2.2)))
              have CTh := Lib.hid CT0
              clear CT0 hP9 hb9 hin9 R9 L9 hl9 H8 CSh
              go_wp2_with fail
              refine CTh.out.mono ?_
              rintro e w83 ⟨rfl, ss10, hs10, hP10, hb10, hl10, hin10⟩
              have R10 := H9.out.2.1.sums H9.out.1 hb10
              have HF := Lib.hid (show ∃ (bs ss : Value) (h1 h2 : List Held), PlayM w w83 g kb G l bs ss h1 h2 ∧ RowM w w83 G (some ar) k rc Y l ∧ h1.length = j + (q + 1) ∧ h2.length = 2 * (q + 1) from ⟨_, _, _, _, hP10, R10, by have h1 := HS.out.2.2.1; have h3 := H9.out.2.2.2; omega, by have h2 := HS.out.2.2.2; have h3 := H9.out.2.2.1; omega⟩)
              clear hP10 R10 hb10 hl10 hin10 H9 CTh
              go_wp2_with fail
              go_roundw
              case rel => exact ⟨q + 1, by omega, by go_num, HF⟩
              case measure => simp [intOf]; omega
          · as_aux_lemma =>
              have hi1 : ¬ ((a : Int) < (k : Int)) := by omega
              have hi2 : (a : Int) ≤ (k : Int) := by omega
              have hec : ec = 1 := by rw [← HE.out.1, if_neg (by rw [HLk.out]; omega)]
              have hfc : fc = 0 := by rw [← HE.out.2.1]; exact if_pos (by rw [HLk.out]; omega)
              have hxl : xl = 0 := by rw [← HE.out.2.2.2.2.2.2.2.2.2.1, ← HE.out.2.2.2.2.2.2.2.2.1, List.getD_eq_getElem?_getD, List.getElem?_eq_none (by rw [HLk.out]; omega)]; rfl
              subst hec hfc hxl
              have hak2 : a ≤ k := by omega
              clear hak
              have CP := Lib.hid (sameSums_yes A15 A17 pn d15 d17 ps _ (InS.of_own HF18.out.2.2.2.2.2.1.own) (InS.of_own HF18.out.2.2.2.2.2.2.2.1.own) (by omega))
              go_wp2_with fail
              refine CP.out.mono ?_
              rintro e w19 ⟨rfl, qq, hqq⟩
              have hb : Below w18.heap.size w18 w19 := by rw [hqq]; exact ⟨rfl, rfl, rfl, Nat.le_refl _, fun _ _ => rfl⟩
              clear CP hqq
              have HF19 := Lib.hid (And.intro (HF18.out.1.below hb) (And.intro (HF18.out.2.1.below hb) (And.intro (HF18.out.2.2.1.below hb) (And.intro (HF18.out.2.2.2.1.below hb) (And.intro (HF18.out.2.2.2.2.1.below hb) (And.intro (HF18.out.2.2.2.2.2.1.below hb) (And.intro (HF18.out.2.2.2.2.2.2.1.below hb) (And.intro (HF18.out.2.2.2.2.2.2.2.1.below hb) (And.intro (HF18.out.2.2.2.2.2.2.2.2.1.below hb) trivial)))))))))
              clear HF18
              clear hb
              have CP := Lib.hid (sameSums_yes A16 A18 ln d16 d18 ls _ (InS.of_own HF19.out.2.2.2.2.2.2.1.own) (InS.of_own HF19.out.2.2.2.2.2.2.2.2.1.own) (by omega))
              go_wp2_with fail
              refine CP.out.mono ?_
              rintro e w20 ⟨rfl, qq, hqq⟩
              have hb : Below w19.heap.size w19 w20 := by rw [hqq]; exact ⟨rfl, rfl, rfl, Nat.le_refl _, fun _ _ => rfl⟩
              clear CP hqq
              have HF20 := Lib.hid (And.intro (HF19.out.1.below hb) (And.intro (HF19.out.2.1.below hb) (And.intro (HF19.out.2.2.1.below hb) (And.intro (HF19.out.2.2.2.1.below hb) (And.intro (HF19.out.2.2.2.2.1.below hb) (And.intro (HF19.out.2.2.2.2.2.1.below hb) (And.intro (HF19.out.2.2.2.2.2.2.1.below hb) (And.intro (HF19.out.2.2.2.2.2.2.2.1.below hb) (And.intro (HF19.out.2.2.2.2.2.2.2.2.1.below hb) trivial)))))))))
              clear HF19
              clear hb
              have BW := Lib.hid (fun (W : World) (hW : Below w20.heap.size w20 W) => below_on HF20.out.1.bel (Nat.le_refl _) hW)
              have hcr := (rowIn_of_own HF20.out.2.1.own HF20.out.2.1.is_).came HF20.out.1.bel
              have hcp := own_row_cap HF20.out.2.1.own
              have HIN := Lib.hid (fun W => run_take_rowsU (A := rA) (n := k) (c := rc) hak2 hcp.2 hcp.1 W)
              have hct : CameRows w20 rA a (l.take a) := ⟨by rw [List.length_take, HLk.out]; omega, fun r xs hx => by
                rw [List.getElem?_take] at hx
                split at hx
                · exact hcr.row r xs hx
                · cases hx⟩
              have em : markL (l.take a) = mv := by rw [← HE.out.2.2.2.2.2.2.2.2.2.2.1]; unfold markV; rw [if_pos (by rw [HLk.out]; omega)]
              have er : rt (lf (l.take a)) 0 a = rv := by
                have h1 := root_begin (l.take a) (l.drop a) (n := a) (by rw [List.length_take, HLk.out]; omega)
                rw [List.take_append_drop] at h1
                rw [← HE.out.2.2.2.2.2.2.2.2.2.2.2, ← h1]; unfold rootV; rw [if_pos (by rw [HLk.out]; omega)]
              have CM := Lib.hid (fun (W : World) (hW : Below w20.heap.size w20 W) => (refMarkH_any rA a rc (l.take a) W (hct.below hW) (by omega) (hfit.out.take a)).mono (R' := fun e w' => e = .returned (sv mv) ∧ Below W.heap.size W w') fun e w' ⟨he, hb⟩ => ⟨by rw [he, em], hb⟩)
              have CR := Lib.hid (fun (W : World) (hW : Below w20.heap.size w20 W) => (refRootH_any rA a rc (l.take a) W (hct.below hW) (by omega) (hfit.out.take a)).mono (R' := fun e w' => e = .returned (sv rv) ∧ Below W.heap.size W w') fun e w' ⟨he, hb⟩ => ⟨by rw [he, er], hb⟩)
              clear hct em er
              clear hcr hcp
              go_upto_region 33 with fail
              have hSez1 : Below w20.heap.size w20 w20.drew := (Below.refl _ _).drew
              refine wp_region_held_drew (S := fun W => Below w20.heap.size w20 W) (by kernel_rfl) (hSez1) (fun _ => ?_)
              change wpAnyH _ _ _ _ _ _ _ _ w20.drew
              generalize w20.drew = Wez2 at hSez1 ⊢
              refine' wpAnyH_take (i := 0) (oi := _) (v := _) ?hiez3 (by kernel_rfl) ?hfez3 ?hrez3 ?hQez3 ?hyez3 (hSez1) ?restez3
              case hiez3 => (simp only [List.getElem?_toArray, List.getElem?_cons_zero]; rfl)
              case hfez3 => kernel_rfl
              case hrez3 => kernel_rfl
              case hQez3 => exact fun _ _ _ h => h
              case hyez3 => refine Or.inl ⟨by rfl, ?_⟩; intro W hSw; go_simp; try with_reducible rfl
              try simp only [Act.put, List.setIfInBounds_toArray, List.set_cons_zero, List.set_cons_succ]
              refine' wpAnyH_take (i := 1) (oi := _) (v := _) ?hiez4 (by kernel_rfl) ?hfez4 ?hrez4 ?hQez4 ?hyez4 (hSez1) ?restez4
              case hiez4 => (simp only [List.getElem?_toArray, List.getElem?_cons_zero, List.getElem?_cons_succ]; rfl)
              case hfez4 => kernel_rfl
              case hrez4 => kernel_rfl
              case hQez4 => exact fun _ _ _ h => h
              case hyez4 => refine Or.inl ⟨by rfl, ?_⟩; intro W hSw; go_simp; try with_reducible rfl
              try simp only [Act.put, List.setIfInBounds_toArray, List.set_cons_zero, List.set_cons_succ]
              refine' wpAnyH_take (i := 2) (oi := _) (v := _) ?hiez5 (by kernel_rfl) ?hfez5 ?hrez5 ?hQez5 ?hyez5 (hSez1) ?restez5
              case hiez5 => (simp only [List.getElem?_toArray, List.getElem?_cons_zero, List.getElem?_cons_succ]; rfl)
              case hfez5 => kernel_rfl
              case hrez5 => kernel_rfl
              case hQez5 => exact fun _ _ _ h => h
              case hyez5 => refine Or.inl ⟨by rfl, ?_⟩; intro W hSw; go_simp; try with_reducible rfl
              try simp only [Act.put, List.setIfInBounds_toArray, List.set_cons_zero, List.set_cons_succ]
              refine' wpAnyH_take (i := 3) (oi := _) (v := undef) ?hiez6 (by kernel_rfl) ?hfez6 ?hrez6 ?hQez6 ?hyez6 (hSez1) ?restez6
              case hiez6 => (simp only [List.getElem?_toArray, List.getElem?_cons_zero, List.getElem?_cons_succ]; rfl)
              case hfez6 => kernel_rfl
              case hrez6 => kernel_rfl
              case hQez6 => exact fun _ _ _ h => h
              case hyez6 => exact Or.inr ⟨by rfl, rfl⟩
              try simp only [Act.put, List.setIfInBounds_toArray, List.set_cons_zero, List.set_cons_succ]
              refine' wpAnyH_take (i := 4) (oi := _) (v := undef) ?hiez7 (by kernel_rfl) ?hfez7 ?hrez7 ?hQez7 ?hyez7 (hSez1) ?restez7
              case hiez7 => (simp only [List.getElem?_toArray, List.getElem?_cons_zero, List.getElem?_cons_succ]; rfl)
              case hfez7 => kernel_rfl
              case hrez7 => kernel_rfl
              case hQez7 => exact fun _ _ _ h => h
              case hyez7 => exact Or.inr ⟨by rfl, rfl⟩
              try simp only [Act.put, List.setIfInBounds_toArray, List.set_cons_zero, List.set_cons_succ]
              refine' wpAnyH_take (i := 5) (oi := _) (v := undef) ?hiez8 (by kernel_rfl) ?hfez8 ?hrez8 ?hQez8 ?hyez8 (hSez1) ?restez8
              case hiez8 => (simp only [List.getElem?_toArray, List.getElem?_cons_zero, List.getElem?_cons_succ]; rfl)
              case hfez8 => kernel_rfl
              case hrez8 => kernel_rfl
              case hQez8 => exact fun _ _ _ h => h
              case hyez8 => exact Or.inr ⟨by rfl, rfl⟩
              try simp only [Act.put, List.setIfInBounds_toArray, List.set_cons_zero, List.set_cons_succ]
              refine' wpAnyH_take (i := 6) (oi := _) (v := undef) ?hiez9 (by kernel_rfl) ?hfez9 ?hrez9 ?hQez9 ?hyez9 (hSez1) ?restez9
              case hiez9 => (simp only [List.getElem?_toArray, List.getElem?_cons_zero, List.getElem?_cons_succ]; rfl)
              case hfez9 => kernel_rfl
              case hrez9 => kernel_rfl
              case hQez9 => exact fun _ _ _ h => h
              case hyez9 => exact Or.inr ⟨by rfl, rfl⟩
              try simp only [Act.put, List.setIfInBounds_toArray, List.set_cons_zero, List.set_cons_succ]
              refine' wpAnyH_take (i := 7) (oi := _) (v := undef) ?hiez10 (by kernel_rfl) ?hfez10 ?hrez10 ?hQez10 ?hyez10 (hSez1) ?restez10
              case hiez10 => (simp only [List.getElem?_toArray, List.getElem?_cons_zero, List.getElem?_cons_succ]; rfl)
              case hfez10 => kernel_rfl
              case hrez10 => kernel_rfl
              case hQez10 => exact fun _ _ _ h => h
              case hyez10 => exact Or.inr ⟨by rfl, rfl⟩
              try simp only [Act.put, List.setIfInBounds_toArray, List.set_cons_zero, List.set_cons_succ]
              refine' wpAnyH_take (i := 8) (oi := _) (v := undef) ?hiez11 (by kernel_rfl) ?hfez11 ?hrez11 ?hQez11 ?hyez11 (hSez1) ?restez11
              case hiez11 => (simp only [List.getElem?_toArray, List.getElem?_cons_zero, List.getElem?_cons_succ]; rfl)
              case hfez11 => kernel_rfl
              case hrez11 => kernel_rfl
              case hQez11 => exact fun _ _ _ h => h
              case hyez11 => exact Or.inr ⟨by rfl, rfl⟩
              try simp only [Act.put, List.setIfInBounds_toArray, List.set_cons_zero, List.set_cons_succ]
              refine' wpAnyH_take (i := 9) (oi := _) (v := undef) ?hiez12 (by kernel_rfl) ?hfez12 ?hrez12 ?hQez12 ?hyez12 (hSez1) ?restez12
              case hiez12 => (simp only [List.getElem?_toArray, List.getElem?_cons_zero, List.getElem?_cons_succ]; rfl)
              case hfez12 => kernel_rfl
              case hrez12 => kernel_rfl
              case hQez12 => exact fun _ _ _ h => h
              case hyez12 => exact Or.inr ⟨by rfl, rfl⟩
              try simp only [Act.put, List.setIfInBounds_toArray, List.set_cons_zero, List.set_cons_succ]
              refine' wpAnyH_take (i := 10) (oi := _) (v := _) ?hiez13 (by kernel_rfl) ?hfez13 ?hrez13 ?hQez13 ?hyez13 (hSez1) ?restez13
              case hiez13 => (simp only [List.getElem?_toArray, List.getElem?_cons_zero, List.getElem?_cons_succ]; rfl)
              case hfez13 => kernel_rfl
              case hrez13 => kernel_rfl
              case hQez13 => exact fun _ _ _ h => h
              case hyez13 => refine Or.inl ⟨by rfl, ?_⟩; intro W hSw; go_simp; try with_reducible rfl
              try simp only [Act.put, List.setIfInBounds_toArray, List.set_cons_zero, List.set_cons_succ]
              refine' wpAnyH_take (i := 11) (oi := _) (v := _) ?hiez14 (by kernel_rfl) ?hfez14 ?hrez14 ?hQez14 ?hyez14 (hSez1) ?restez14
              case hiez14 => (simp only [List.getElem?_toArray, List.getElem?_cons_zero, List.getElem?_cons_succ]; rfl)
              case hfez14 => kernel_rfl
              case hrez14 => kernel_rfl
              case hQez14 => exact fun _ _ _ h => h
              case hyez14 => refine Or.inl ⟨by rfl, ?_⟩; intro W hSw; go_simp; try with_reducible rfl
              try simp only [Act.put, List.setIfInBounds_toArray, List.set_cons_zero, List.set_cons_succ]
              refine' wpAnyH_take (i := 12) (oi := _) (v := _) ?hiez15 (by kernel_rfl) ?hfez15 ?hrez15 ?hQez15 ?hyez15 (hSez1) ?restez15
              case hiez15 => (simp only [List.getElem?_toArray, List.getElem?_cons_zero, List.getElem?_cons_succ]; rfl)
              case hfez15 => kernel_rfl
              case hrez15 => kernel_rfl
              case hQez15 => exact fun _ _ _ h => h
              case hyez15 => refine Or.inl ⟨by rfl, ?_⟩; intro W hSw; go_simp; try with_reducible rfl
              try simp only [Act.put, List.setIfInBounds_toArray, List.set_cons_zero, List.set_cons_succ]
              refine' wpAnyH_take (i := 13) (oi := _) (v := _) ?hiez16 (by kernel_rfl) ?hfez16 ?hrez16 ?hQez16 ?hyez16 (hSez1) ?restez16
              case hiez16 => (simp only [List.getElem?_toArray, List.getElem?_cons_zero, List.getElem?_cons_succ]; rfl)
              case hfez16 => kernel_rfl
              case hrez16 => kernel_rfl
              case hQez16 => exact fun _ _ _ h => h
              case hyez16 => refine Or.inl ⟨by rfl, ?_⟩; intro W hSw; go_simp; try with_reducible rfl
              try simp only [Act.put, List.setIfInBounds_toArray, List.set_cons_zero, List.set_cons_succ]
              refine' wpAnyH_take (i := 14) (oi := _) (v := _) ?hiez17 (by kernel_rfl) ?hfez17 ?hrez17 ?hQez17 ?hyez17 (hSez1) ?restez17
              case hiez17 => (simp only [List.getElem?_toArray, List.getElem?_cons_zero, List.getElem?_cons_succ]; rfl)
              case hfez17 => kernel_rfl
              case hrez17 => kernel_rfl
              case hQez17 => exact fun _ _ _ h => h
              case hyez17 => refine Or.inl ⟨by rfl, ?_⟩; intro W hSw; go_simp; try with_reducible rfl
              try simp only [Act.put, List.setIfInBounds_toArray, List.set_cons_zero, List.set_cons_succ]
              refine' wpAnyH_take (i := 15) (oi := _) (v := sv (mv)) ?hiez18 (by kernel_rfl) ?hfez18 ?hrez18 ?hQez18 ?hyez18 (hSez1) ?restez18
              case hiez18 => (simp only [List.getElem?_toArray, List.getElem?_cons_zero, List.getElem?_cons_succ]; rfl)
              case hfez18 => kernel_rfl
              case hrez18 => kernel_rfl
              case hQez18 => exact fun _ _ _ h => h
              case hyez18 => refine yields_sum ?_ (.tmp 17) rfl ⟨g12, 0, none⟩ rfl mv lm (fun W hSw => (HF20.out.2.2.2.1.below hSw).at_); rfl
              try simp only [Act.put, List.setIfInBounds_toArray, List.set_cons_zero, List.set_cons_succ]
              refine' wpAnyH_take (i := 16) (oi := _) (v := _) ?hiez19 (by kernel_rfl) ?hfez19 ?hrez19 ?hQez19 ?hyez19 (hSez1) ?restez19
              case hiez19 => (simp only [List.getElem?_toArray, List.getElem?_cons_zero, List.getElem?_cons_succ]; rfl)
              case hfez19 => kernel_rfl
              case hrez19 => kernel_rfl
              case hQez19 => exact fun _ _ _ h => h
              case hyez19 => refine Or.inl ⟨by rfl, ?_⟩; intro W hSw; go_simp; try with_reducible rfl
              try simp only [Act.put, List.setIfInBounds_toArray, List.set_cons_zero, List.set_cons_succ]
              refine' wpAnyH_take (i := 17) (oi := _) (v := _) ?hiez20 (by kernel_rfl) ?hfez20 ?hrez20 ?hQez20 ?hyez20 (hSez1) ?restez20
              case hiez20 => (simp only [List.getElem?_toArray, List.getElem?_cons_zero, List.getElem?_cons_succ]; rfl)
              case hfez20 => kernel_rfl
              case hrez20 => kernel_rfl
              case hQez20 => exact fun _ _ _ h => h
              case hyez20 => refine Or.inl ⟨by rfl, ?_⟩; intro W hSw; go_simp; try with_reducible rfl
              try simp only [Act.put, List.setIfInBounds_toArray, List.set_cons_zero, List.set_cons_succ]
              refine' wpAnyH_take (i := 18) (oi := _) (v := .slice rA a rc) ?hiez21 (by kernel_rfl) ?hfez21 ?hrez21 ?hQez21 ?hyez21 (hSez1) ?restez21
              case hiez21 => (simp only [List.getElem?_toArray, List.getElem?_cons_zero, List.getElem?_cons_succ]; rfl)
              case hfez21 => kernel_rfl
              case hrez21 => kernel_rfl
              case hQez21 => exact fun _ _ _ h => h
              case hyez21 => refine Or.inl ⟨by rfl, ?_⟩; intro W hSw; exact high_rows_op (.tmp 220) (.tmp 221) (by rfl) (by rfl) (by rfl) (HIN.out W)
              try simp only [Act.put, List.setIfInBounds_toArray, List.set_cons_zero, List.set_cons_succ]
              refine wpAnyH_ready (rs := [19]) (by kernel_rfl) (by simp) ?_
              refine' (AllReadyH.cons (o := _) ?hiez22 (fun K hK => ?_) AllReadyH.nil)
              case hiez22 => (simp only [List.getElem?_toArray, List.getElem?_cons_zero, List.getElem?_cons_succ]; rfl)
              go_simp
              go_at_call 21
              refine (CM.out Wez2 hSez1).mono ?_
              rintro e Wez25 ⟨rfl, hbez23⟩
              have hBez24 := below_on hSez1 (Nat.le_refl _) hbez23
              refine hK.out _ _ (hBez24) (fun _ => ?_)
              clear hK K
              try simp only [Act.put, List.setIfInBounds_toArray, List.set_cons_zero, List.set_cons_succ]
              refine' wpAnyH_take (i := 20) (oi := _) (v := .bool false) ?hiez26 (by kernel_rfl) ?hfez26 ?hrez26 ?hQez26 ?hyez26 (hBez24) ?restez26
              case hiez26 => (simp only [List.getElem?_toArray, List.getElem?_cons_zero, List.getElem?_cons_succ]; rfl)
              case hfez26 => kernel_rfl
              case hrez26 => kernel_rfl
              case hQez26 => exact fun _ _ _ h => h
              case hyez26 => refine Or.inl ⟨by rfl, ?_⟩; intro W hSw; exact neq_same_op (.tmp 219) (.tmp 223) (by rfl) (by rfl) (by rfl) lm
              try simp only [Act.put, List.setIfInBounds_toArray, List.set_cons_zero, List.set_cons_succ]
              refine' wpAnyH_take (i := 21) (oi := _) (v := _) ?hiez27 (by kernel_rfl) ?hfez27 ?hrez27 ?hQez27 ?hyez27 (hBez24) ?restez27
              case hiez27 => (simp only [List.getElem?_toArray, List.getElem?_cons_zero, List.getElem?_cons_succ]; rfl)
              case hfez27 => kernel_rfl
              case hrez27 => kernel_rfl
              case hQez27 => exact fun _ _ _ h => h
              case hyez27 => refine Or.inl ⟨by rfl, ?_⟩; intro W hSw; go_simp; try with_reducible rfl
              try simp only [Act.put, List.setIfInBounds_toArray, List.set_cons_zero, List.set_cons_succ]
              refine' wpAnyH_take (i := 22) (oi := _) (v := sv (rv)) ?hiez28 (by kernel_rfl) ?hfez28 ?hrez28 ?hQez28 ?hyez28 (hBez24) ?restez28
              case hiez28 => (simp only [List.getElem?_toArray, List.getElem?_cons_zero, List.getElem?_cons_succ]; rfl)
              case hfez28 => kernel_rfl
              case hrez28 => kernel_rfl
              case hQez28 => exact fun _ _ _ h => h
              case hyez28 => refine yields_sum ?_ (.tmp 19) rfl ⟨g14, 0, none⟩ rfl rv lr (fun W hSw => (HF20.out.2.2.2.2.1.below hSw).at_); rfl
              try simp only [Act.put, List.setIfInBounds_toArray, List.set_cons_zero, List.set_cons_succ]
              refine' wpAnyH_take (i := 23) (oi := _) (v := _) ?hiez29 (by kernel_rfl) ?hfez29 ?hrez29 ?hQez29 ?hyez29 (hBez24) ?restez29
              case hiez29 => (simp only [List.getElem?_toArray, List.getElem?_cons_zero, List.getElem?_cons_succ]; rfl)
              case hfez29 => kernel_rfl
              case hrez29 => kernel_rfl
              case hQez29 => exact fun _ _ _ h => h
              case hyez29 => refine Or.inl ⟨by rfl, ?_⟩; intro W hSw; go_simp; try with_reducible rfl
              try simp only [Act.put, List.setIfInBounds_toArray, List.set_cons_zero, List.set_cons_succ]
              refine' wpAnyH_take (i := 24) (oi := _) (v := _) ?hiez30 (by kernel_rfl) ?hfez30 ?hrez30 ?hQez30 ?hyez30 (hBez24) ?restez30
              case hiez30 => (simp only [List.getElem?_toArray, List.getElem?_cons_zero, List.getElem?_cons_succ]; rfl)
              case hfez30 => kernel_rfl
              case hrez30 => kernel_rfl
              case hQez30 => exact fun _ _ _ h => h
              case hyez30 => refine Or.inl ⟨by rfl, ?_⟩; intro W hSw; go_simp; try with_reducible rfl
              try simp only [Act.put, List.setIfInBounds_toArray, List.set_cons_zero, List.set_cons_succ]
              refine' wpAnyH_take (i := 25) (oi := _) (v := .slice rA a rc) ?hiez31 (by kernel_rfl) ?hfez31 ?hrez31 ?hQez31 ?hyez31 (hBez24) ?restez31
              case hiez31 => (simp only [List.getElem?_toArray, List.getElem?_cons_zero, List.getElem?_cons_succ]; rfl)
              case hfez31 => kernel_rfl
              case hrez31 => kernel_rfl
              case hQez31 => exact fun _ _ _ h => h
              case hyez31 => refine Or.inl ⟨by rfl, ?_⟩; intro W hSw; exact high_rows_op (.tmp 227) (.tmp 228) (by rfl) (by rfl) (by rfl) (HIN.out W)
              try simp only [Act.put, List.setIfInBounds_toArray, List.set_cons_zero, List.set_cons_succ]
              refine wpAnyH_ready (rs := [26]) (by kernel_rfl) (by simp) ?_
              refine' (AllReadyH.cons (o := _) ?hiez32 (fun K hK => ?_) AllReadyH.nil)
              case hiez32 => (simp only [List.getElem?_toArray, List.getElem?_cons_zero, List.getElem?_cons_succ]; rfl)
              go_simp
              go_at_call 22
              refine (CR.out Wez25 hBez24).mono ?_
              rintro e Wez35 ⟨rfl, hbez33⟩
              have hBez34 := below_on hBez24 (Nat.le_refl _) hbez33
              refine hK.out _ _ (hBez34) (fun _ => ?_)
              clear hK K
              try simp only [Act.put, List.setIfInBounds_toArray, List.set_cons_zero, List.set_cons_succ]
              refine' wpAnyH_take (i := 27) (oi := _) (v := .bool false) ?hiez36 (by kernel_rfl) ?hfez36 ?hrez36 ?hQez36 ?hyez36 (hBez34) ?restez36
              case hiez36 => (simp only [List.getElem?_toArray, List.getElem?_cons_zero, List.getElem?_cons_succ]; rfl)
              case hfez36 => kernel_rfl
              case hrez36 => kernel_rfl
              case hQez36 => exact fun _ _ _ h => h
              case hyez36 => refine Or.inl ⟨by rfl, ?_⟩; intro W hSw; exact neq_same_op (.tmp 226) (.tmp 230) (by rfl) (by rfl) (by rfl) lr
              try simp only [Act.put, List.setIfInBounds_toArray, List.set_cons_zero, List.set_cons_succ]
              refine' wpAnyH_take (i := 28) (oi := _) (v := _) ?hiez37 (by kernel_rfl) ?hfez37 ?hrez37 ?hQez37 ?hyez37 (hBez34) ?restez37
              case hiez37 => (simp only [List.getElem?_toArray, List.getElem?_cons_zero, List.getElem?_cons_succ]; rfl)
              case hfez37 => kernel_rfl
              case hrez37 => kernel_rfl
              case hQez37 => exact fun _ _ _ h => h
              case hyez37 => refine Or.inl ⟨by rfl, ?_⟩; intro W hSw; go_simp; try with_reducible rfl
              try simp only [Act.put, List.setIfInBounds_toArray, List.set_cons_zero, List.set_cons_succ]
              refine' wpAnyH_take (i := 29) (oi := _) (v := _) ?hiez38 (by kernel_rfl) ?hfez38 ?hrez38 ?hQez38 ?hyez38 (hBez34) ?restez38
              case hiez38 => (simp only [List.getElem?_toArray, List.getElem?_cons_zero, List.getElem?_cons_succ]; rfl)
              case hfez38 => kernel_rfl
              case hrez38 => kernel_rfl
              case hQez38 => exact fun _ _ _ h => h
              case hyez38 => refine Or.inl ⟨by rfl, ?_⟩; intro W hSw; go_simp; try with_reducible rfl
              try simp only [Act.put, List.setIfInBounds_toArray, List.set_cons_zero, List.set_cons_succ]
              refine' wpAnyH_take (i := 30) (oi := _) (v := _) ?hiez39 (by kernel_rfl) ?hfez39 ?hrez39 ?hQez39 ?hyez39 (hBez34) ?restez39
              case hiez39 => (simp only [List.getElem?_toArray, List.getElem?_cons_zero, List.getElem?_cons_succ]; rfl)
              case hfez39 => kernel_rfl
              case hrez39 => kernel_rfl
              case hQez39 => exact fun _ _ _ h => h
              case hyez39 => refine Or.inl ⟨by rfl, ?_⟩; intro W hSw; go_simp; try with_reducible rfl
              try simp only [Act.put, List.setIfInBounds_toArray, List.set_cons_zero, List.set_cons_succ]
              refine' wpAnyH_take (i := 31) (oi := _) (v := _) ?hiez40 (by kernel_rfl) ?hfez40 ?hrez40 ?hQez40 ?hyez40 (hBez34) ?restez40
              case hiez40 => (simp only [List.getElem?_toArray, List.getElem?_cons_zero, List.getElem?_cons_succ]; rfl)
              case hfez40 => kernel_rfl
              case hrez40 => kernel_rfl
              case hQez40 => exact fun _ _ _ h => h
              case hyez40 => refine Or.inl ⟨by rfl, ?_⟩; intro W hSw; go_simp; try with_reducible rfl
              try simp only [Act.put, List.setIfInBounds_toArray, List.set_cons_zero, List.set_cons_succ]
              refine' wpAnyH_take (i := 32) (oi := _) (v := _) ?hiez41 (by kernel_rfl) ?hfez41 ?hrez41 ?hQez41 ?hyez41 (hBez34) ?restez41
              case hiez41 => (simp only [List.getElem?_toArray, List.getElem?_cons_zero, List.getElem?_cons_succ]; rfl)
              case hfez41 => kernel_rfl
              case hrez41 => kernel_rfl
              case hQez41 => exact fun _ _ _ h => h
              case hyez41 => refine Or.inl ⟨by rfl, ?_⟩; intro W hSw; go_simp; try with_reducible rfl
              try simp only [Act.put, List.setIfInBounds_toArray, List.set_cons_zero, List.set_cons_succ]
              refine' wpAnyH_take (i := 33) (oi := _) (v := _) ?hiez42 (by kernel_rfl) ?hfez42 ?hrez42 ?hQez42 ?hyez42 (hBez34) ?restez42
              case hiez42 => (simp only [List.getElem?_toArray, List.getElem?_cons_zero, List.getElem?_cons_succ]; rfl)
              case hfez42 => kernel_rfl
              case hrez42 => kernel_rfl
              case hQez42 => exact fun _ _ _ h => h
              case hyez42 => refine Or.inl ⟨by rfl, ?_⟩; intro W hSw; go_simp; try with_reducible rfl
              try simp only [Act.put, List.setIfInBounds_toArray, List.set_cons_zero, List.set_cons_succ]
              refine' wpAnyH_take (i := 34) (oi := _) (v := _) ?hiez43 (by kernel_rfl) ?hfez43 ?hrez43 ?hQez43 ?hyez43 (hBez34) ?restez43
              case hiez43 => (simp only [List.getElem?_toArray, List.getElem?_cons_zero, List.getElem?_cons_succ]; rfl)
              case hfez43 => kernel_rfl
              case hrez43 => kernel_rfl
              case hQez43 => exact fun _ _ _ h => h
              case hyez43 => refine Or.inl ⟨by rfl, ?_⟩; intro W hSw; go_simp; try with_reducible rfl
              try simp only [Act.put, List.setIfInBounds_toArray, List.set_cons_zero, List.set_cons_succ]
              refine' wpAnyH_take (i := 35) (oi := _) (v := _) ?hiez44 (by kernel_rfl) ?hfez44 ?hrez44 ?hQez44 ?hyez44 (hBez34) ?restez44
              case hiez44 => (simp only [List.getElem?_toArray, List.getElem?_cons_zero, List.getElem?_cons_succ]; rfl)
              case hfez44 => kernel_rfl
              case hrez44 => kernel_rfl
              case hQez44 => exact fun _ _ _ h => h
              case hyez44 => refine Or.inl ⟨by rfl, ?_⟩; intro W hSw; go_simp; try with_reducible rfl
              try simp only [Act.put, List.setIfInBounds_toArray, List.set_cons_zero, List.set_cons_succ]
              refine' wpAnyH_take (i := 36) (oi := _) (v := _) ?hiez45 (by kernel_rfl) ?hfez45 ?hrez45 ?hQez45 ?hyez45 (hBez34) ?restez45
              case hiez45 => (simp only [List.getElem?_toArray, List.getElem?_cons_zero, List.getElem?_cons_succ]; rfl)
              case hfez45 => kernel_rfl
              case hrez45 => kernel_rfl
              case hQez45 => exact fun _ _ _ h => h
              case hyez45 => refine Or.inl ⟨by rfl, ?_⟩; intro W hSw; go_simp; try with_reducible rfl
              try simp only [Act.put, List.setIfInBounds_toArray, List.set_cons_zero, List.set_cons_succ]
              refine' wpAnyH_take (i := 37) (oi := _) (v := _) ?hiez46 (by kernel_rfl) ?hfez46 ?hrez46 ?hQez46 ?hyez46 (hBez34) ?restez46
              case hiez46 => (simp only [List.getElem?_toArray, List.getElem?_cons_zero, List.getElem?_cons_succ]; rfl)
              case hfez46 => kernel_rfl
              case hrez46 => kernel_rfl
              case hQez46 => exact fun _ _ _ h => h
              case hyez46 => refine Or.inl ⟨by rfl, ?_⟩; intro W hSw; go_simp; try with_reducible rfl
              try simp only [Act.put, List.setIfInBounds_toArray, List.set_cons_zero, List.set_cons_succ]
              refine' wpAnyH_take (i := 38) (oi := _) (v := _) ?hiez47 (by kernel_rfl) ?hfez47 ?hrez47 ?hQez47 ?hyez47 (hBez34) ?restez47
              case hiez47 => (simp only [List.getElem?_toArray, List.getElem?_cons_zero, List.getElem?_cons_succ]; rfl)
              case hfez47 => kernel_rfl
              case hrez47 => kernel_rfl
              case hQez47 => exact fun _ _ _ h => h
              case hyez47 => refine Or.inl ⟨by rfl, ?_⟩; intro W hSw; go_simp; try with_reducible rfl
              try simp only [Act.put, List.setIfInBounds_toArray, List.set_cons_zero, List.set_cons_succ]
              refine' wpAnyH_take (i := 39) (oi := _) (v := _) ?hiez48 (by kernel_rfl) ?hfez48 ?hrez48 ?hQez48 ?hyez48 (hBez34) ?restez48
              case hiez48 => (simp only [List.getElem?_toArray, List.getElem?_cons_zero, List.getElem?_cons_succ]; rfl)
              case hfez48 => kernel_rfl
              case hrez48 => kernel_rfl
              case hQez48 => exact fun _ _ _ h => h
              case hyez48 => refine Or.inl ⟨by rfl, ?_⟩; intro W hSw; go_simp; try with_reducible rfl
              try simp only [Act.put, List.setIfInBounds_toArray, List.set_cons_zero, List.set_cons_succ]
              refine' wpAnyH_take (i := 40) (oi := _) (v := _) ?hiez49 (by kernel_rfl) ?hfez49 ?hrez49 ?hQez49 ?hyez49 (hBez34) ?restez49
              case hiez49 => (simp only [List.getElem?_toArray, List.getElem?_cons_zero, List.getElem?_cons_succ]; rfl)
              case hfez49 => kernel_rfl
              case hrez49 => kernel_rfl
              case hQez49 => exact fun _ _ _ h => h
              case hyez49 => refine Or.inl ⟨by rfl, ?_⟩; intro W hSw; go_simp; try with_reducible rfl
              try simp only [Act.put, List.setIfInBounds_toArray, List.set_cons_zero, List.set_cons_succ]
              refine' wpAnyH_take (i := 41) (oi := _) (v := _) ?hiez50 (by kernel_rfl) ?hfez50 ?hrez50 ?hQez50 ?hyez50 (hBez34) ?restez50
              case hiez50 => (simp only [List.getElem?_toArray, List.getElem?_cons_zero, List.getElem?_cons_succ]; rfl)
              case hfez50 => kernel_rfl
              case hrez50 => kernel_rfl
              case hQez50 => exact fun _ _ _ h => h
              case hyez50 => refine Or.inl ⟨by rfl, ?_⟩; intro W hSw; go_simp; try with_reducible rfl
              try simp only [Act.put, List.setIfInBounds_toArray, List.set_cons_zero, List.set_cons_succ]
              refine' wpAnyH_take (i := 42) (oi := _) (v := _) ?hiez51 (by kernel_rfl) ?hfez51 ?hrez51 ?hQez51 ?hyez51 (hBez34) ?restez51
              case hiez51 => (simp only [List.getElem?_toArray, List.getElem?_cons_zero, List.getElem?_cons_succ]; rfl)
              case hfez51 => kernel_rfl
              case hrez51 => kernel_rfl
              case hQez51 => exact fun _ _ _ h => h
              case hyez51 => refine Or.inl ⟨by rfl, ?_⟩; intro W hSw; go_simp; try with_reducible rfl
              try simp only [Act.put, List.setIfInBounds_toArray, List.set_cons_zero, List.set_cons_succ]
              refine' wpAnyH_take (i := 43) (oi := _) (v := _) ?hiez52 (by kernel_rfl) ?hfez52 ?hrez52 ?hQez52 ?hyez52 (hBez34) ?restez52
              case hiez52 => (simp only [List.getElem?_toArray, List.getElem?_cons_zero, List.getElem?_cons_succ]; rfl)
              case hfez52 => kernel_rfl
              case hrez52 => kernel_rfl
              case hQez52 => exact fun _ _ _ h => h
              case hyez52 => refine Or.inl ⟨by rfl, ?_⟩; intro W hSw; go_simp; try with_reducible rfl
              try simp only [Act.put, List.setIfInBounds_toArray, List.set_cons_zero, List.set_cons_succ]
              refine' wpAnyH_take (i := 44) (oi := _) (v := _) ?hiez53 (by kernel_rfl) ?hfez53 ?hrez53 ?hQez53 ?hyez53 (hBez34) ?restez53
              case hiez53 => (simp only [List.getElem?_toArray, List.getElem?_cons_zero, List.getElem?_cons_succ]; rfl)
              case hfez53 => kernel_rfl
              case hrez53 => kernel_rfl
              case hQez53 => exact fun _ _ _ h => h
              case hyez53 => refine Or.inl ⟨by rfl, ?_⟩; intro W hSw; go_simp; try with_reducible rfl
              try simp only [Act.put, List.setIfInBounds_toArray, List.set_cons_zero, List.set_cons_succ]
              refine' wpAnyH_take (i := 45) (oi := _) (v := _) ?hiez54 (by kernel_rfl) ?hfez54 ?hrez54 ?hQez54 ?hyez54 (hBez34) ?restez54
              case hiez54 => (simp only [List.getElem?_toArray, List.getElem?_cons_zero, List.getElem?_cons_succ]; rfl)
              case hfez54 => kernel_rfl
              case hrez54 => kernel_rfl
              case hQez54 => exact fun _ _ _ h => h
              case hyez54 => refine Or.inl ⟨by rfl, ?_⟩; intro W hSw; go_simp; try with_reducible rfl
              try simp only [Act.put, List.setIfInBounds_toArray, List.set_cons_zero, List.set_cons_succ]
              refine' wpAnyH_take (i := 46) (oi := _) (v := _) ?hiez55 (by kernel_rfl) ?hfez55 ?hrez55 ?hQez55 ?hyez55 (hBez34) ?restez55
              case hiez55 => (simp only [List.getElem?_toArray, List.getElem?_cons_zero, List.getElem?_cons_succ]; rfl)
              case hfez55 => kernel_rfl
              case hrez55 => kernel_rfl
              case hQez55 => exact fun _ _ _ h => h
              case hyez55 => refine Or.inl ⟨by rfl, ?_⟩; intro W hSw; go_simp; try with_reducible rfl
              try simp only [Act.put, List.setIfInBounds_toArray, List.set_cons_zero, List.set_cons_succ]
              refine' wpAnyH_take (i := 47) (oi := _) (v := _) ?hiez56 (by kernel_rfl) ?hfez56 ?hrez56 ?hQez56 ?hyez56 (hBez34) ?restez56
              case hiez56 => (simp only [List.getElem?_toArray, List.getElem?_cons_zero, List.getElem?_cons_succ]; rfl)
              case hfez56 => kernel_rfl
              case hrez56 => kernel_rfl
              case hQez56 => exact fun _ _ _ h => h
              case hyez56 => refine Or.inl ⟨by rfl, ?_⟩; intro W hSw; go_simp; try with_reducible rfl
              try simp only [Act.put, List.setIfInBounds_toArray, List.set_cons_zero, List.set_cons_succ]
              refine' wpAnyH_take (i := 48) (oi := _) (v := undef) ?hiez57 (by kernel_rfl) ?hfez57 ?hrez57 ?hQez57 ?hyez57 (hBez34) ?restez57
              case hiez57 => (simp only [List.getElem?_toArray, List.getElem?_cons_zero, List.getElem?_cons_succ]; rfl)
              case hfez57 => kernel_rfl
              case hrez57 => kernel_rfl
              case hQez57 => exact fun _ _ _ h => h
              case hyez57 => exact Or.inr ⟨by rfl, rfl⟩
              try simp only [Act.put, List.setIfInBounds_toArray, List.set_cons_zero, List.set_cons_succ]
              refine' wpAnyH_take (i := 49) (oi := _) (v := undef) ?hiez58 (by kernel_rfl) ?hfez58 ?hrez58 ?hQez58 ?hyez58 (hBez34) ?restez58
              case hiez58 => (simp only [List.getElem?_toArray, List.getElem?_cons_zero, List.getElem?_cons_succ]; rfl)
              case hfez58 => kernel_rfl
              case hrez58 => kernel_rfl
              case hQez58 => exact fun _ _ _ h => h
              case hyez58 => exact Or.inr ⟨by rfl, rfl⟩
              try simp only [Act.put, List.setIfInBounds_toArray, List.set_cons_zero, List.set_cons_succ]
              refine' wpAnyH_take (i := 50) (oi := _) (v := undef) ?hiez59 (by kernel_rfl) ?hfez59 ?hrez59 ?hQez59 ?hyez59 (hBez34) ?restez59
              case hiez59 => (simp only [List.getElem?_toArray, List.getElem?_cons_zero, List.getElem?_cons_succ]; rfl)
              case hfez59 => kernel_rfl
              case hrez59 => kernel_rfl
              case hQez59 => exact fun _ _ _ h => h
              case hyez59 => exact Or.inr ⟨by rfl, rfl⟩
              try simp only [Act.put, List.setIfInBounds_toArray, List.set_cons_zero, List.set_cons_succ]
              refine' wpAnyH_take (i := 51) (oi := _) (v := undef) ?hiez60 (by kernel_rfl) ?hfez60 ?hrez60 ?hQez60 ?hyez60 (hBez34) ?restez60
              case hiez60 => (simp only [List.getElem?_toArray, List.getElem?_cons_zero, List.getElem?_cons_succ]; rfl)
              case hfez60 => kernel_rfl
              case hrez60 => kernel_rfl
              case hQez60 => exact fun _ _ _ h => h
              case hyez60 => exact Or.inr ⟨by rfl, rfl⟩
              try simp only [Act.put, List.setIfInBounds_toArray, List.set_cons_zero, List.set_cons_succ]
              refine' wpAnyH_take (i := 52) (oi := _) (v := undef) ?hiez61 (by kernel_rfl) ?hfez61 ?hrez61 ?hQez61 ?hyez61 (hBez34) ?restez61
              case hiez61 => (simp only [List.getElem?_toArray, List.getElem?_cons_zero, List.getElem?_cons_succ]; rfl)
              case hfez61 => kernel_rfl
              case hrez61 => kernel_rfl
              case hQez61 => exact fun _ _ _ h => h
              case hyez61 => exact Or.inr ⟨by rfl, rfl⟩
              try simp only [Act.put, List.setIfInBounds_toArray, List.set_cons_zero, List.set_cons_succ]
              refine' wpAnyH_take (i := 53) (oi := _) (v := undef) ?hiez62 (by kernel_rfl) ?hfez62 ?hrez62 ?hQez62 ?hyez62 (hBez34) ?restez62
              case hiez62 => (simp only [List.getElem?_toArray, List.getElem?_cons_zero, List.getElem?_cons_succ]; rfl)
              case hfez62 => kernel_rfl
              case hrez62 => kernel_rfl
              case hQez62 => exact fun _ _ _ h => h
              case hyez62 => exact Or.inr ⟨by rfl, rfl⟩
              try simp only [Act.put, List.setIfInBounds_toArray, List.set_cons_zero, List.set_cons_succ]
              refine' wpAnyH_take (i := 54) (oi := _) (v := undef) ?hiez63 (by kernel_rfl) ?hfez63 ?hrez63 ?hQez63 ?hyez63 (hBez34) ?restez63
              case hiez63 => (simp only [List.getElem?_toArray, List.getElem?_cons_zero, List.getElem?_cons_succ]; rfl)
              case hfez63 => kernel_rfl
              case hrez63 => kernel_rfl
              case hQez63 => exact fun _ _ _ h => h
              case hyez63 => exact Or.inr ⟨by rfl, rfl⟩
              try simp only [Act.put, List.setIfInBounds_toArray, List.set_cons_zero, List.set_cons_succ]
              refine' wpAnyH_take (i := 55) (oi := _) (v := undef) ?hiez64 (by kernel_rfl) ?hfez64 ?hrez64 ?hQez64 ?hyez64 (hBez34) ?restez64
              case hiez64 => (simp only [List.getElem?_toArray, List.getElem?_cons_zero, List.getElem?_cons_succ]; rfl)
              case hfez64 => kernel_rfl
              case hrez64 => kernel_rfl
              case hQez64 => exact fun _ _ _ h => h
              case hyez64 => exact Or.inr ⟨by rfl, rfl⟩
              try simp only [Act.put, List.setIfInBounds_toArray, List.set_cons_zero, List.set_cons_succ]
              refine' wpAnyH_take (i := 56) (oi := _) (v := undef) ?hiez65 (by kernel_rfl) ?hfez65 ?hrez65 ?hQez65 ?hyez65 (hBez34) ?restez65
              case hiez65 => (simp only [List.getElem?_toArray, List.getElem?_cons_zero, List.getElem?_cons_succ]; rfl)
              case hfez65 => kernel_rfl
              case hrez65 => kernel_rfl
              case hQez65 => exact fun _ _ _ h => h
              case hyez65 => exact Or.inr ⟨by rfl, rfl⟩
              try simp only [Act.put, List.setIfInBounds_toArray, List.set_cons_zero, List.set_cons_succ]
              refine' wpAnyH_take (i := 57) (oi := _) (v := undef) ?hiez66 (by kernel_rfl) ?hfez66 ?hrez66 ?hQez66 ?hyez66 (hBez34) ?restez66
              case hiez66 => (simp only [List.getElem?_toArray, List.getElem?_cons_zero, List.getElem?_cons_succ]; rfl)
              case hfez66 => kernel_rfl
              case hrez66 => kernel_rfl
              case hQez66 => exact fun _ _ _ h => h
              case hyez66 => exact Or.inr ⟨by rfl, rfl⟩
              try simp only [Act.put, List.setIfInBounds_toArray, List.set_cons_zero, List.set_cons_succ]
              refine' wpAnyH_take (i := 58) (oi := _) (v := undef) ?hiez67 (by kernel_rfl) ?hfez67 ?hrez67 ?hQez67 ?hyez67 (hBez34) ?restez67
              case hiez67 => (simp only [List.getElem?_toArray, List.getElem?_cons_zero, List.getElem?_cons_succ]; rfl)
              case hfez67 => kernel_rfl
              case hrez67 => kernel_rfl
              case hQez67 => exact fun _ _ _ h => h
              case hyez67 => exact Or.inr ⟨by rfl, rfl⟩
              try simp only [Act.put, List.setIfInBounds_toArray, List.set_cons_zero, List.set_cons_succ]
              refine' wpAnyH_take (i := 59) (oi := _) (v := undef) ?hiez68 (by kernel_rfl) ?hfez68 ?hrez68 ?hQez68 ?hyez68 (hBez34) ?restez68
              case hiez68 => (simp only [List.getElem?_toArray, List.getElem?_cons_zero, List.getElem?_cons_succ]; rfl)
              case hfez68 => kernel_rfl
              case hrez68 => kernel_rfl
              case hQez68 => exact fun _ _ _ h => h
              case hyez68 => exact Or.inr ⟨by rfl, rfl⟩
              try simp only [Act.put, List.setIfInBounds_toArray, List.set_cons_zero, List.set_cons_succ]
              refine' wpAnyH_take (i := 60) (oi := _) (v := _) ?hiez69 (by kernel_rfl) ?hfez69 ?hrez69 ?hQez69 ?hyez69 (hBez34) ?restez69
              case hiez69 => (simp only [List.getElem?_toArray, List.getElem?_cons_zero, List.getElem?_cons_succ]; rfl)
              case hfez69 => kernel_rfl
              case hrez69 => kernel_rfl
              case hQez69 => exact fun _ _ _ h => h
              case hyez69 => refine Or.inl ⟨by rfl, ?_⟩; intro W hSw; go_simp; try with_reducible rfl
              try simp only [Act.put, List.setIfInBounds_toArray, List.set_cons_zero, List.set_cons_succ]
              refine' wpAnyH_take (i := 61) (oi := _) (v := _) ?hiez70 (by kernel_rfl) ?hfez70 ?hrez70 ?hQez70 ?hyez70 (hBez34) ?restez70
              case hiez70 => (simp only [List.getElem?_toArray, List.getElem?_cons_zero, List.getElem?_cons_succ]; rfl)
              case hfez70 => kernel_rfl
              case hrez70 => kernel_rfl
              case hQez70 => exact fun _ _ _ h => h
              case hyez70 => refine Or.inl ⟨by rfl, ?_⟩; intro W hSw; go_simp; try with_reducible rfl
              try simp only [Act.put, List.setIfInBounds_toArray, List.set_cons_zero, List.set_cons_succ]
              refine wpAnyH_done (by kernel_rfl) ?_ _
              have P33 := HF20.out.1.below hBez34
              have R33 := HF20.out.2.1.below hBez34
              have X33 := HF20.out.2.2.1.below hBez34
              have A33 := HF20.out.2.2.2.2.2.1.below hBez34
              have L33 := HF20.out.2.2.2.2.2.2.1.below hBez34
              have CB0 := play_bytes P33 X33.own (fun b e => (O10.out b e).1) (fun b e => (O10.out b e).2.1) (by omega) (by have h1 := HS.out.2.2.1; have h2 := HS.out.2.2.2; omega)
              have A34 := fun {W' : World} {b1 : Value} (hb : But (fun b => b = kb ∨ bs'.ownBlock = some b) Wez35 W') => own_kept_but A33.own hb (fun b e1 e2 => by
                rcases e2 with e2 | e2
                · subst e2; exact P33.kept.book.other (by decide) A33.own e1
                · exact not_row (by decide) A33.own P33.kept.own1 b e1 e2)
              have L34 := fun {W' : World} {b1 : Value} (hb : But (fun b => b = kb ∨ bs'.ownBlock = some b) Wez35 W') => own_kept_but L33.own hb (fun b e1 e2 => by
                rcases e2 with e2 | e2
                · subst e2; exact P33.kept.book.other (by decide) L33.own e1
                · exact not_row (by decide) L33.own P33.kept.own1 b e1 e2)
              have CB := Lib.hid CB0
              have HALL := Lib.hid (And.intro P33 R33)
              have HA34 := Lib.hid (fun W' (hb : But (fun b => b = kb ∨ bs'.ownBlock = some b) Wez35 W') => And.intro (A34 (b1 := undef) hb) (L34 (b1 := undef) hb))
              clear P33 R33 X33 A33 L33 CB0 A34 L34 n1 n2 n3 hi1 hi2
              go_wp2_with fail
              refine CB.out.mono ?_
              rintro e w81 ⟨rfl, bs8, hs8, hP8, hb8, hl8, hin8⟩
              have R8 := HALL.out.2.bytes HALL.out.1 hb8
              have AL8 := HA34.out _ hb8
              have CS0 := play_sums hP8 AL8.1 (fun b e => (O15.out b e).1) (fun b e => (O15.out b e).2.2) (by omega) (by have h1 := HS.out.2.2.1; have h2 := HS.out.2.2.2; omega)
              have H8 := Lib.hid (And.intro hP8 (And.intro R8 (And.intro AL8.2 hl8)))
              have CSh := Lib.hid CS0
              clear CS0 hP8 hb8 hin8 R8 AL8 hl8 HA34 HALL CB
              go_wp2_with fail
              refine CSh.out.mono ?_
              rintro e w82 ⟨rfl, ss9, hs9, hP9, hb9, hl9, hin9⟩
              have R9 := H8.out.2.1.sums H8.out.1 hb9
              have L9 := own_kept_but H8.out.2.2.1 hb9 (fun b e1 e2 => by
                rcases e2 with e2 | e2
                · subst e2; exact H8.out.1.kept.book.other (by decide) H8.out.2.2.1 e1
                · exact not_row (by decide) H8.out.2.2.1 H8.out.1.kept.own2 b e1 e2)
              have CT0 := play_sums hP9 L9 (fun b e => (O16.out b e).1) (fun b e hin => (hin9 b hin).elim (O16.out b e).2.2 (fun e2 => OPL.out b e e2)) (by omega) (by have h1 := HS.out.2.2.1; have h2 := HS.out.2.2.2; have h3 := H8.out.2.2.2; omega)
              have H9 := Lib.hid (And.intro hP9 (And.intro R9 (And.intro hl9 H8.out.2.2.2)))
              have CTh := Lib.hid CT0
              clear CT0 hP9 hb9 hin9 R9 L9 hl9 H8 CSh
              go_wp2_with fail
              refine CTh.out.mono ?_
              rintro e w83 ⟨rfl, ss10, hs10, hP10, hb10, hl10, hin10⟩
              have R10 := H9.out.2.1.sums H9.out.1 hb10
              have HF := Lib.hid (show ∃ (bs ss : Value) (h1 h2 : List Held), PlayM w w83 g kb G l bs ss h1 h2 ∧ RowM w w83 G rA k rc Y l ∧ h1.length = j + (q + 1) ∧ h2.length = 2 * (q + 1) from ⟨_, _, _, _, hP10, R10, by have h1 := HS.out.2.2.1; have h3 := H9.out.2.2.2; omega, by have h2 := HS.out.2.2.2; have h3 := H9.out.2.2.1; omega⟩)
              clear hP10 R10 hb10 hl10 hin10 H9 CTh
              go_wp2_with fail
              go_roundw
              case rel => exact ⟨q + 1, by omega, by go_num, HF⟩
              case measure => simp [intOf]; omega
          · as_aux_lemma =>
              have hi1 : ¬ ((a : Int) < (k : Int)) := by omega
              have hi2 : ¬ ((a : Int) ≤ (k : Int)) := by omega
              have hec : ec = 1 := by rw [← HE.out.1, if_neg (by rw [HLk.out]; omega)]
              have hfc : fc = 1 := by rw [← HE.out.2.1]; exact if_neg (by rw [HLk.out]; omega)
              have hxl : xl = 0 := by rw [← HE.out.2.2.2.2.2.2.2.2.2.1, ← HE.out.2.2.2.2.2.2.2.2.1, List.getD_eq_getElem?_getD, List.getElem?_eq_none (by rw [HLk.out]; omega)]; rfl
              have hmz : mv = zero32 := by rw [← HE.out.2.2.2.2.2.2.2.2.2.2.1]; unfold markV; rw [if_neg (by rw [HLk.out]; omega)]
              have hrz : rv = zero32 := by rw [← HE.out.2.2.2.2.2.2.2.2.2.2.2]; unfold rootV; rw [if_neg (by rw [HLk.out]; omega)]
              subst hec hfc hxl hmz hrz
              have CP := Lib.hid (sameSums_yes A15 A17 pn d15 d17 ps _ (InS.of_own HF18.out.2.2.2.2.2.1.own) (InS.of_own HF18.out.2.2.2.2.2.2.2.1.own) (by omega))
              go_wp2_with fail
              refine CP.out.mono ?_
              rintro e w19 ⟨rfl, qq, hqq⟩
              have hb : Below w18.heap.size w18 w19 := by rw [hqq]; exact ⟨rfl, rfl, rfl, Nat.le_refl _, fun _ _ => rfl⟩
              clear CP hqq
              have HF19 := Lib.hid (And.intro (HF18.out.1.below hb) (And.intro (HF18.out.2.1.below hb) (And.intro (HF18.out.2.2.1.below hb) (And.intro (HF18.out.2.2.2.1.below hb) (And.intro (HF18.out.2.2.2.2.1.below hb) (And.intro (HF18.out.2.2.2.2.2.1.below hb) (And.intro (HF18.out.2.2.2.2.2.2.1.below hb) (And.intro (HF18.out.2.2.2.2.2.2.2.1.below hb) (And.intro (HF18.out.2.2.2.2.2.2.2.2.1.below hb) trivial)))))))))
              clear HF18
              clear hb
              have CP := Lib.hid (sameSums_yes A16 A18 ln d16 d18 ls _ (InS.of_own HF19.out.2.2.2.2.2.2.1.own) (InS.of_own HF19.out.2.2.2.2.2.2.2.2.1.own) (by omega))
              go_wp2_with fail
              refine CP.out.mono ?_
              rintro e w20 ⟨rfl, qq, hqq⟩
              have hb : Below w19.heap.size w19 w20 := by rw [hqq]; exact ⟨rfl, rfl, rfl, Nat.le_refl _, fun _ _ => rfl⟩
              clear CP hqq
              have HF20 := Lib.hid (And.intro (HF19.out.1.below hb) (And.intro (HF19.out.2.1.below hb) (And.intro (HF19.out.2.2.1.below hb) (And.intro (HF19.out.2.2.2.1.below hb) (And.intro (HF19.out.2.2.2.2.1.below hb) (And.intro (HF19.out.2.2.2.2.2.1.below hb) (And.intro (HF19.out.2.2.2.2.2.2.1.below hb) (And.intro (HF19.out.2.2.2.2.2.2.2.1.below hb) (And.intro (HF19.out.2.2.2.2.2.2.2.2.1.below hb) trivial)))))))))
              clear HF19
              clear hb
              have BW := Lib.hid (fun (W : World) (hW : Below w20.heap.size w20 W) => below_on HF20.out.1.bel (Nat.le_refl _) hW)
              go_upto_region 33 with fail
              have hSgz1 : Below w20.heap.size w20 w20.drew := (Below.refl _ _).drew
              refine wp_region_held_drew (S := fun W => Below w20.heap.size w20 W) (by kernel_rfl) (hSgz1) (fun _ => ?_)
              change wpAnyH _ _ _ _ _ _ _ _ w20.drew
              generalize w20.drew = Wgz2 at hSgz1 ⊢
              refine' wpAnyH_take (i := 0) (oi := _) (v := _) ?higz3 (by kernel_rfl) ?hfgz3 ?hrgz3 ?hQgz3 ?hygz3 (hSgz1) ?restgz3
              case higz3 => (simp only [List.getElem?_toArray, List.getElem?_cons_zero]; rfl)
              case hfgz3 => kernel_rfl
              case hrgz3 => kernel_rfl
              case hQgz3 => exact fun _ _ _ h => h
              case hygz3 => refine Or.inl ⟨by rfl, ?_⟩; intro W hSw; go_simp; try with_reducible rfl
              try simp only [Act.put, List.setIfInBounds_toArray, List.set_cons_zero, List.set_cons_succ]
              refine' wpAnyH_take (i := 1) (oi := _) (v := _) ?higz4 (by kernel_rfl) ?hfgz4 ?hrgz4 ?hQgz4 ?hygz4 (hSgz1) ?restgz4
              case higz4 => (simp only [List.getElem?_toArray, List.getElem?_cons_zero, List.getElem?_cons_succ]; rfl)
              case hfgz4 => kernel_rfl
              case hrgz4 => kernel_rfl
              case hQgz4 => exact fun _ _ _ h => h
              case hygz4 => refine Or.inl ⟨by rfl, ?_⟩; intro W hSw; go_simp; try with_reducible rfl
              try simp only [Act.put, List.setIfInBounds_toArray, List.set_cons_zero, List.set_cons_succ]
              refine' wpAnyH_take (i := 2) (oi := _) (v := _) ?higz5 (by kernel_rfl) ?hfgz5 ?hrgz5 ?hQgz5 ?hygz5 (hSgz1) ?restgz5
              case higz5 => (simp only [List.getElem?_toArray, List.getElem?_cons_zero, List.getElem?_cons_succ]; rfl)
              case hfgz5 => kernel_rfl
              case hrgz5 => kernel_rfl
              case hQgz5 => exact fun _ _ _ h => h
              case hygz5 => refine Or.inl ⟨by rfl, ?_⟩; intro W hSw; go_simp; try with_reducible rfl
              try simp only [Act.put, List.setIfInBounds_toArray, List.set_cons_zero, List.set_cons_succ]
              refine' wpAnyH_take (i := 3) (oi := _) (v := undef) ?higz6 (by kernel_rfl) ?hfgz6 ?hrgz6 ?hQgz6 ?hygz6 (hSgz1) ?restgz6
              case higz6 => (simp only [List.getElem?_toArray, List.getElem?_cons_zero, List.getElem?_cons_succ]; rfl)
              case hfgz6 => kernel_rfl
              case hrgz6 => kernel_rfl
              case hQgz6 => exact fun _ _ _ h => h
              case hygz6 => exact Or.inr ⟨by rfl, rfl⟩
              try simp only [Act.put, List.setIfInBounds_toArray, List.set_cons_zero, List.set_cons_succ]
              refine' wpAnyH_take (i := 4) (oi := _) (v := undef) ?higz7 (by kernel_rfl) ?hfgz7 ?hrgz7 ?hQgz7 ?hygz7 (hSgz1) ?restgz7
              case higz7 => (simp only [List.getElem?_toArray, List.getElem?_cons_zero, List.getElem?_cons_succ]; rfl)
              case hfgz7 => kernel_rfl
              case hrgz7 => kernel_rfl
              case hQgz7 => exact fun _ _ _ h => h
              case hygz7 => exact Or.inr ⟨by rfl, rfl⟩
              try simp only [Act.put, List.setIfInBounds_toArray, List.set_cons_zero, List.set_cons_succ]
              refine' wpAnyH_take (i := 5) (oi := _) (v := undef) ?higz8 (by kernel_rfl) ?hfgz8 ?hrgz8 ?hQgz8 ?hygz8 (hSgz1) ?restgz8
              case higz8 => (simp only [List.getElem?_toArray, List.getElem?_cons_zero, List.getElem?_cons_succ]; rfl)
              case hfgz8 => kernel_rfl
              case hrgz8 => kernel_rfl
              case hQgz8 => exact fun _ _ _ h => h
              case hygz8 => exact Or.inr ⟨by rfl, rfl⟩
              try simp only [Act.put, List.setIfInBounds_toArray, List.set_cons_zero, List.set_cons_succ]
              refine' wpAnyH_take (i := 6) (oi := _) (v := undef) ?higz9 (by kernel_rfl) ?hfgz9 ?hrgz9 ?hQgz9 ?hygz9 (hSgz1) ?restgz9
              case higz9 => (simp only [List.getElem?_toArray, List.getElem?_cons_zero, List.getElem?_cons_succ]; rfl)
              case hfgz9 => kernel_rfl
              case hrgz9 => kernel_rfl
              case hQgz9 => exact fun _ _ _ h => h
              case hygz9 => exact Or.inr ⟨by rfl, rfl⟩
              try simp only [Act.put, List.setIfInBounds_toArray, List.set_cons_zero, List.set_cons_succ]
              refine' wpAnyH_take (i := 7) (oi := _) (v := undef) ?higz10 (by kernel_rfl) ?hfgz10 ?hrgz10 ?hQgz10 ?hygz10 (hSgz1) ?restgz10
              case higz10 => (simp only [List.getElem?_toArray, List.getElem?_cons_zero, List.getElem?_cons_succ]; rfl)
              case hfgz10 => kernel_rfl
              case hrgz10 => kernel_rfl
              case hQgz10 => exact fun _ _ _ h => h
              case hygz10 => exact Or.inr ⟨by rfl, rfl⟩
              try simp only [Act.put, List.setIfInBounds_toArray, List.set_cons_zero, List.set_cons_succ]
              refine' wpAnyH_take (i := 8) (oi := _) (v := undef) ?higz11 (by kernel_rfl) ?hfgz11 ?hrgz11 ?hQgz11 ?hygz11 (hSgz1) ?restgz11
              case higz11 => (simp only [List.getElem?_toArray, List.getElem?_cons_zero, List.getElem?_cons_succ]; rfl)
              case hfgz11 => kernel_rfl
              case hrgz11 => kernel_rfl
              case hQgz11 => exact fun _ _ _ h => h
              case hygz11 => exact Or.inr ⟨by rfl, rfl⟩
              try simp only [Act.put, List.setIfInBounds_toArray, List.set_cons_zero, List.set_cons_succ]
              refine' wpAnyH_take (i := 9) (oi := _) (v := undef) ?higz12 (by kernel_rfl) ?hfgz12 ?hrgz12 ?hQgz12 ?hygz12 (hSgz1) ?restgz12
              case higz12 => (simp only [List.getElem?_toArray, List.getElem?_cons_zero, List.getElem?_cons_succ]; rfl)
              case hfgz12 => kernel_rfl
              case hrgz12 => kernel_rfl
              case hQgz12 => exact fun _ _ _ h => h
              case hygz12 => exact Or.inr ⟨by rfl, rfl⟩
              try simp only [Act.put, List.setIfInBounds_toArray, List.set_cons_zero, List.set_cons_succ]
              refine' wpAnyH_take (i := 10) (oi := _) (v := _) ?higz13 (by kernel_rfl) ?hfgz13 ?hrgz13 ?hQgz13 ?hygz13 (hSgz1) ?restgz13
              case higz13 => (simp only [List.getElem?_toArray, List.getElem?_cons_zero, List.getElem?_cons_succ]; rfl)
              case hfgz13 => kernel_rfl
              case hrgz13 => kernel_rfl
              case hQgz13 => exact fun _ _ _ h => h
              case hygz13 => refine Or.inl ⟨by rfl, ?_⟩; intro W hSw; go_simp; try with_reducible rfl
              try simp only [Act.put, List.setIfInBounds_toArray, List.set_cons_zero, List.set_cons_succ]
              refine' wpAnyH_take (i := 11) (oi := _) (v := _) ?higz14 (by kernel_rfl) ?hfgz14 ?hrgz14 ?hQgz14 ?hygz14 (hSgz1) ?restgz14
              case higz14 => (simp only [List.getElem?_toArray, List.getElem?_cons_zero, List.getElem?_cons_succ]; rfl)
              case hfgz14 => kernel_rfl
              case hrgz14 => kernel_rfl
              case hQgz14 => exact fun _ _ _ h => h
              case hygz14 => refine Or.inl ⟨by rfl, ?_⟩; intro W hSw; go_simp; try with_reducible rfl
              try simp only [Act.put, List.setIfInBounds_toArray, List.set_cons_zero, List.set_cons_succ]
              refine' wpAnyH_take (i := 12) (oi := _) (v := _) ?higz15 (by kernel_rfl) ?hfgz15 ?hrgz15 ?hQgz15 ?hygz15 (hSgz1) ?restgz15
              case higz15 => (simp only [List.getElem?_toArray, List.getElem?_cons_zero, List.getElem?_cons_succ]; rfl)
              case hfgz15 => kernel_rfl
              case hrgz15 => kernel_rfl
              case hQgz15 => exact fun _ _ _ h => h
              case hygz15 => refine Or.inl ⟨by rfl, ?_⟩; intro W hSw; go_simp; try with_reducible rfl
              try simp only [Act.put, List.setIfInBounds_toArray, List.set_cons_zero, List.set_cons_succ]
              refine' wpAnyH_take (i := 13) (oi := _) (v := _) ?higz16 (by kernel_rfl) ?hfgz16 ?hrgz16 ?hQgz16 ?hygz16 (hSgz1) ?restgz16
              case higz16 => (simp only [List.getElem?_toArray, List.getElem?_cons_zero, List.getElem?_cons_succ]; rfl)
              case hfgz16 => kernel_rfl
              case hrgz16 => kernel_rfl
              case hQgz16 => exact fun _ _ _ h => h
              case hygz16 => refine Or.inl ⟨by rfl, ?_⟩; intro W hSw; go_simp; try with_reducible rfl
              try simp only [Act.put, List.setIfInBounds_toArray, List.set_cons_zero, List.set_cons_succ]
              refine' wpAnyH_take (i := 14) (oi := _) (v := _) ?higz17 (by kernel_rfl) ?hfgz17 ?hrgz17 ?hQgz17 ?hygz17 (hSgz1) ?restgz17
              case higz17 => (simp only [List.getElem?_toArray, List.getElem?_cons_zero, List.getElem?_cons_succ]; rfl)
              case hfgz17 => kernel_rfl
              case hrgz17 => kernel_rfl
              case hQgz17 => exact fun _ _ _ h => h
              case hygz17 => refine Or.inl ⟨by rfl, ?_⟩; intro W hSw; go_simp; try with_reducible rfl
              try simp only [Act.put, List.setIfInBounds_toArray, List.set_cons_zero, List.set_cons_succ]
              refine' wpAnyH_take (i := 15) (oi := _) (v := undef) ?higz18 (by kernel_rfl) ?hfgz18 ?hrgz18 ?hQgz18 ?hygz18 (hSgz1) ?restgz18
              case higz18 => (simp only [List.getElem?_toArray, List.getElem?_cons_zero, List.getElem?_cons_succ]; rfl)
              case hfgz18 => kernel_rfl
              case hrgz18 => kernel_rfl
              case hQgz18 => exact fun _ _ _ h => h
              case hygz18 => exact Or.inr ⟨by rfl, rfl⟩
              try simp only [Act.put, List.setIfInBounds_toArray, List.set_cons_zero, List.set_cons_succ]
              refine' wpAnyH_take (i := 16) (oi := _) (v := undef) ?higz19 (by kernel_rfl) ?hfgz19 ?hrgz19 ?hQgz19 ?hygz19 (hSgz1) ?restgz19
              case higz19 => (simp only [List.getElem?_toArray, List.getElem?_cons_zero, List.getElem?_cons_succ]; rfl)
              case hfgz19 => kernel_rfl
              case hrgz19 => kernel_rfl
              case hQgz19 => exact fun _ _ _ h => h
              case hygz19 => exact Or.inr ⟨by rfl, rfl⟩
              try simp only [Act.put, List.setIfInBounds_toArray, List.set_cons_zero, List.set_cons_succ]
              refine' wpAnyH_take (i := 17) (oi := _) (v := undef) ?higz20 (by kernel_rfl) ?hfgz20 ?hrgz20 ?hQgz20 ?hygz20 (hSgz1) ?restgz20
              case higz20 => (simp only [List.getElem?_toArray, List.getElem?_cons_zero, List.getElem?_cons_succ]; rfl)
              case hfgz20 => kernel_rfl
              case hrgz20 => kernel_rfl
              case hQgz20 => exact fun _ _ _ h => h
              case hygz20 => exact Or.inr ⟨by rfl, rfl⟩
              try simp only [Act.put, List.setIfInBounds_toArray, List.set_cons_zero, List.set_cons_succ]
              refine' wpAnyH_take (i := 18) (oi := _) (v := undef) ?higz21 (by kernel_rfl) ?hfgz21 ?hrgz21 ?hQgz21 ?hygz21 (hSgz1) ?restgz21
              case higz21 => (simp only [List.getElem?_toArray, List.getElem?_cons_zero, List.getElem?_cons_succ]; rfl)
              case hfgz21 => kernel_rfl
              case hrgz21 => kernel_rfl
              case hQgz21 => exact fun _ _ _ h => h
              case hygz21 => exact Or.inr ⟨by rfl, rfl⟩
              try simp only [Act.put, List.setIfInBounds_toArray, List.set_cons_zero, List.set_cons_succ]
              refine' wpAnyH_take (i := 19) (oi := _) (v := undef) ?higz22 (by kernel_rfl) ?hfgz22 ?hrgz22 ?hQgz22 ?hygz22 (hSgz1) ?restgz22
              case higz22 => (simp only [List.getElem?_toArray, List.getElem?_cons_zero, List.getElem?_cons_succ]; rfl)
              case hfgz22 => kernel_rfl
              case hrgz22 => kernel_rfl
              case hQgz22 => exact fun _ _ _ h => h
              case hygz22 => exact Or.inr ⟨by rfl, rfl⟩
              try simp only [Act.put, List.setIfInBounds_toArray, List.set_cons_zero, List.set_cons_succ]
              refine' wpAnyH_take (i := 20) (oi := _) (v := undef) ?higz23 (by kernel_rfl) ?hfgz23 ?hrgz23 ?hQgz23 ?hygz23 (hSgz1) ?restgz23
              case higz23 => (simp only [List.getElem?_toArray, List.getElem?_cons_zero, List.getElem?_cons_succ]; rfl)
              case hfgz23 => kernel_rfl
              case hrgz23 => kernel_rfl
              case hQgz23 => exact fun _ _ _ h => h
              case hygz23 => exact Or.inr ⟨by rfl, rfl⟩
              try simp only [Act.put, List.setIfInBounds_toArray, List.set_cons_zero, List.set_cons_succ]
              refine' wpAnyH_take (i := 21) (oi := _) (v := undef) ?higz24 (by kernel_rfl) ?hfgz24 ?hrgz24 ?hQgz24 ?hygz24 (hSgz1) ?restgz24
              case higz24 => (simp only [List.getElem?_toArray, List.getElem?_cons_zero, List.getElem?_cons_succ]; rfl)
              case hfgz24 => kernel_rfl
              case hrgz24 => kernel_rfl
              case hQgz24 => exact fun _ _ _ h => h
              case hygz24 => exact Or.inr ⟨by rfl, rfl⟩
              try simp only [Act.put, List.setIfInBounds_toArray, List.set_cons_zero, List.set_cons_succ]
              refine' wpAnyH_take (i := 22) (oi := _) (v := undef) ?higz25 (by kernel_rfl) ?hfgz25 ?hrgz25 ?hQgz25 ?hygz25 (hSgz1) ?restgz25
              case higz25 => (simp only [List.getElem?_toArray, List.getElem?_cons_zero, List.getElem?_cons_succ]; rfl)
              case hfgz25 => kernel_rfl
              case hrgz25 => kernel_rfl
              case hQgz25 => exact fun _ _ _ h => h
              case hygz25 => exact Or.inr ⟨by rfl, rfl⟩
              try simp only [Act.put, List.setIfInBounds_toArray, List.set_cons_zero, List.set_cons_succ]
              refine' wpAnyH_take (i := 23) (oi := _) (v := undef) ?higz26 (by kernel_rfl) ?hfgz26 ?hrgz26 ?hQgz26 ?hygz26 (hSgz1) ?restgz26
              case higz26 => (simp only [List.getElem?_toArray, List.getElem?_cons_zero, List.getElem?_cons_succ]; rfl)
              case hfgz26 => kernel_rfl
              case hrgz26 => kernel_rfl
              case hQgz26 => exact fun _ _ _ h => h
              case hygz26 => exact Or.inr ⟨by rfl, rfl⟩
              try simp only [Act.put, List.setIfInBounds_toArray, List.set_cons_zero, List.set_cons_succ]
              refine' wpAnyH_take (i := 24) (oi := _) (v := undef) ?higz27 (by kernel_rfl) ?hfgz27 ?hrgz27 ?hQgz27 ?hygz27 (hSgz1) ?restgz27
              case higz27 => (simp only [List.getElem?_toArray, List.getElem?_cons_zero, List.getElem?_cons_succ]; rfl)
              case hfgz27 => kernel_rfl
              case hrgz27 => kernel_rfl
              case hQgz27 => exact fun _ _ _ h => h
              case hygz27 => exact Or.inr ⟨by rfl, rfl⟩
              try simp only [Act.put, List.setIfInBounds_toArray, List.set_cons_zero, List.set_cons_succ]
              refine' wpAnyH_take (i := 25) (oi := _) (v := undef) ?higz28 (by kernel_rfl) ?hfgz28 ?hrgz28 ?hQgz28 ?hygz28 (hSgz1) ?restgz28
              case higz28 => (simp only [List.getElem?_toArray, List.getElem?_cons_zero, List.getElem?_cons_succ]; rfl)
              case hfgz28 => kernel_rfl
              case hrgz28 => kernel_rfl
              case hQgz28 => exact fun _ _ _ h => h
              case hygz28 => exact Or.inr ⟨by rfl, rfl⟩
              try simp only [Act.put, List.setIfInBounds_toArray, List.set_cons_zero, List.set_cons_succ]
              refine' wpAnyH_take (i := 26) (oi := _) (v := undef) ?higz29 (by kernel_rfl) ?hfgz29 ?hrgz29 ?hQgz29 ?hygz29 (hSgz1) ?restgz29
              case higz29 => (simp only [List.getElem?_toArray, List.getElem?_cons_zero, List.getElem?_cons_succ]; rfl)
              case hfgz29 => kernel_rfl
              case hrgz29 => kernel_rfl
              case hQgz29 => exact fun _ _ _ h => h
              case hygz29 => exact Or.inr ⟨by rfl, rfl⟩
              try simp only [Act.put, List.setIfInBounds_toArray, List.set_cons_zero, List.set_cons_succ]
              refine' wpAnyH_take (i := 27) (oi := _) (v := undef) ?higz30 (by kernel_rfl) ?hfgz30 ?hrgz30 ?hQgz30 ?hygz30 (hSgz1) ?restgz30
              case higz30 => (simp only [List.getElem?_toArray, List.getElem?_cons_zero, List.getElem?_cons_succ]; rfl)
              case hfgz30 => kernel_rfl
              case hrgz30 => kernel_rfl
              case hQgz30 => exact fun _ _ _ h => h
              case hygz30 => exact Or.inr ⟨by rfl, rfl⟩
              try simp only [Act.put, List.setIfInBounds_toArray, List.set_cons_zero, List.set_cons_succ]
              refine' wpAnyH_take (i := 28) (oi := _) (v := undef) ?higz31 (by kernel_rfl) ?hfgz31 ?hrgz31 ?hQgz31 ?hygz31 (hSgz1) ?restgz31
              case higz31 => (simp only [List.getElem?_toArray, List.getElem?_cons_zero, List.getElem?_cons_succ]; rfl)
              case hfgz31 => kernel_rfl
              case hrgz31 => kernel_rfl
              case hQgz31 => exact fun _ _ _ h => h
              case hygz31 => exact Or.inr ⟨by rfl, rfl⟩
              try simp only [Act.put, List.setIfInBounds_toArray, List.set_cons_zero, List.set_cons_succ]
              refine' wpAnyH_take (i := 29) (oi := _) (v := _) ?higz32 (by kernel_rfl) ?hfgz32 ?hrgz32 ?hQgz32 ?hygz32 (hSgz1) ?restgz32
              case higz32 => (simp only [List.getElem?_toArray, List.getElem?_cons_zero, List.getElem?_cons_succ]; rfl)
              case hfgz32 => kernel_rfl
              case hrgz32 => kernel_rfl
              case hQgz32 => exact fun _ _ _ h => h
              case hygz32 => refine Or.inl ⟨by rfl, ?_⟩; intro W hSw; go_simp; try with_reducible rfl
              try simp only [Act.put, List.setIfInBounds_toArray, List.set_cons_zero, List.set_cons_succ]
              refine' wpAnyH_take (i := 30) (oi := _) (v := _) ?higz33 (by kernel_rfl) ?hfgz33 ?hrgz33 ?hQgz33 ?hygz33 (hSgz1) ?restgz33
              case higz33 => (simp only [List.getElem?_toArray, List.getElem?_cons_zero, List.getElem?_cons_succ]; rfl)
              case hfgz33 => kernel_rfl
              case hrgz33 => kernel_rfl
              case hQgz33 => exact fun _ _ _ h => h
              case hygz33 => refine Or.inl ⟨by rfl, ?_⟩; intro W hSw; go_simp; try with_reducible rfl
              try simp only [Act.put, List.setIfInBounds_toArray, List.set_cons_zero, List.set_cons_succ]
              refine' wpAnyH_take (i := 31) (oi := _) (v := _) ?higz34 (by kernel_rfl) ?hfgz34 ?hrgz34 ?hQgz34 ?hygz34 (hSgz1) ?restgz34
              case higz34 => (simp only [List.getElem?_toArray, List.getElem?_cons_zero, List.getElem?_cons_succ]; rfl)
              case hfgz34 => kernel_rfl
              case hrgz34 => kernel_rfl
              case hQgz34 => exact fun _ _ _ h => h
              case hygz34 => refine Or.inl ⟨by rfl, ?_⟩; intro W hSw; go_simp; try with_reducible rfl
              try simp only [Act.put, List.setIfInBounds_toArray, List.set_cons_zero, List.set_cons_succ]
              refine' wpAnyH_take (i := 32) (oi := _) (v := _) ?higz35 (by kernel_rfl) ?hfgz35 ?hrgz35 ?hQgz35 ?hygz35 (hSgz1) ?restgz35
              case higz35 => (simp only [List.getElem?_toArray, List.getElem?_cons_zero, List.getElem?_cons_succ]; rfl)
              case hfgz35 => kernel_rfl
              case hrgz35 => kernel_rfl
              case hQgz35 => exact fun _ _ _ h => h
              case hygz35 => refine Or.inl ⟨by rfl, ?_⟩; intro W hSw; go_simp; try with_reducible rfl
              try simp only [Act.put, List.setIfInBounds_toArray, List.set_cons_zero, List.set_cons_succ]
              refine' wpAnyH_take (i := 33) (oi := _) (v := _) ?higz36 (by kernel_rfl) ?hfgz36 ?hrgz36 ?hQgz36 ?hygz36 (hSgz1) ?restgz36
              case higz36 => (simp only [List.getElem?_toArray, List.getElem?_cons_zero, List.getElem?_cons_succ]; rfl)
              case hfgz36 => kernel_rfl
              case hrgz36 => kernel_rfl
              case hQgz36 => exact fun _ _ _ h => h
              case hygz36 => refine Or.inl ⟨by rfl, ?_⟩; intro W hSw; go_simp; try with_reducible rfl
              try simp only [Act.put, List.setIfInBounds_toArray, List.set_cons_zero, List.set_cons_succ]
              refine' wpAnyH_take (i := 34) (oi := _) (v := _) ?higz37 (by kernel_rfl) ?hfgz37 ?hrgz37 ?hQgz37 ?hygz37 (hSgz1) ?restgz37
              case higz37 => (simp only [List.getElem?_toArray, List.getElem?_cons_zero, List.getElem?_cons_succ]; rfl)
              case hfgz37 => kernel_rfl
              case hrgz37 => kernel_rfl
              case hQgz37 => exact fun _ _ _ h => h
              case hygz37 => refine Or.inl ⟨by rfl, ?_⟩; intro W hSw; go_simp; try with_reducible rfl
              try simp only [Act.put, List.setIfInBounds_toArray, List.set_cons_zero, List.set_cons_succ]
              refine' wpAnyH_take (i := 35) (oi := _) (v := _) ?higz38 (by kernel_rfl) ?hfgz38 ?hrgz38 ?hQgz38 ?hygz38 (hSgz1) ?restgz38
              case higz38 => (simp only [List.getElem?_toArray, List.getElem?_cons_zero, List.getElem?_cons_succ]; rfl)
              case hfgz38 => kernel_rfl
              case hrgz38 => kernel_rfl
              case hQgz38 => exact fun _ _ _ h => h
              case hygz38 => refine Or.inl ⟨by rfl, ?_⟩; intro W hSw; go_simp; try with_reducible rfl
              try simp only [Act.put, List.setIfInBounds_toArray, List.set_cons_zero, List.set_cons_succ]
              refine' wpAnyH_take (i := 36) (oi := _) (v := _) ?higz39 (by kernel_rfl) ?hfgz39 ?hrgz39 ?hQgz39 ?hygz39 (hSgz1) ?restgz39
              case higz39 => (simp only [List.getElem?_toArray, List.getElem?_cons_zero, List.getElem?_cons_succ]; rfl)
              case hfgz39 => kernel_rfl
              case hrgz39 => kernel_rfl
              case hQgz39 => exact fun _ _ _ h => h
              case hygz39 => refine Or.inl ⟨by rfl, ?_⟩; intro W hSw; go_simp; try with_reducible rfl
              try simp only [Act.put, List.setIfInBounds_toArray, List.set_cons_zero, List.set_cons_succ]
              refine' wpAnyH_take (i := 37) (oi := _) (v := _) ?higz40 (by kernel_rfl) ?hfgz40 ?hrgz40 ?hQgz40 ?hygz40 (hSgz1) ?restgz40
              case higz40 => (simp only [List.getElem?_toArray, List.getElem?_cons_zero, List.getElem?_cons_succ]; rfl)
              case hfgz40 => kernel_rfl
              case hrgz40 => kernel_rfl
              case hQgz40 => exact fun _ _ _ h => h
              case hygz40 => refine Or.inl ⟨by rfl, ?_⟩; intro W hSw; go_simp; try with_reducible rfl
              try simp only [Act.put, List.setIfInBounds_toArray, List.set_cons_zero, List.set_cons_succ]
              refine' wpAnyH_take (i := 38) (oi := _) (v := _) ?higz41 (by kernel_rfl) ?hfgz41 ?hrgz41 ?hQgz41 ?hygz41 (hSgz1) ?restgz41
              case higz41 => (simp only [List.getElem?_toArray, List.getElem?_cons_zero, List.getElem?_cons_succ]; rfl)
              case hfgz41 => kernel_rfl
              case hrgz41 => kernel_rfl
              case hQgz41 => exact fun _ _ _ h => h
              case hygz41 => refine Or.inl ⟨by rfl, ?_⟩; intro W hSw; go_simp; try with_reducible rfl
              try simp only [Act.put, List.setIfInBounds_toArray, List.set_cons_zero, List.set_cons_succ]
              refine' wpAnyH_take (i := 39) (oi := _) (v := _) ?higz42 (by kernel_rfl) ?hfgz42 ?hrgz42 ?hQgz42 ?hygz42 (hSgz1) ?restgz42
              case higz42 => (simp only [List.getElem?_toArray, List.getElem?_cons_zero, List.getElem?_cons_succ]; rfl)
              case hfgz42 => kernel_rfl
              case hrgz42 => kernel_rfl
              case hQgz42 => exact fun _ _ _ h => h
              case hygz42 => refine Or.inl ⟨by rfl, ?_⟩; intro W hSw; go_simp; try with_reducible rfl
              try simp only [Act.put, List.setIfInBounds_toArray, List.set_cons_zero, List.set_cons_succ]
              refine' wpAnyH_take (i := 40) (oi := _) (v := _) ?higz43 (by kernel_rfl) ?hfgz43 ?hrgz43 ?hQgz43 ?hygz43 (hSgz1) ?restgz43
              case higz43 => (simp only [List.getElem?_toArray, List.getElem?_cons_zero, List.getElem?_cons_succ]; rfl)
              case hfgz43 => kernel_rfl
              case hrgz43 => kernel_rfl
              case hQgz43 => exact fun _ _ _ h => h
              case hygz43 => refine Or.inl ⟨by rfl, ?_⟩; intro W hSw; go_simp; try with_reducible rfl
              try simp only [Act.put, List.setIfInBounds_toArray, List.set_cons_zero, List.set_cons_succ]
              refine' wpAnyH_take (i := 41) (oi := _) (v := _) ?higz44 (by kernel_rfl) ?hfgz44 ?hrgz44 ?hQgz44 ?hygz44 (hSgz1) ?restgz44
              case higz44 => (simp only [List.getElem?_toArray, List.getElem?_cons_zero, List.getElem?_cons_succ]; rfl)
              case hfgz44 => kernel_rfl
              case hrgz44 => kernel_rfl
              case hQgz44 => exact fun _ _ _ h => h
              case hygz44 => refine Or.inl ⟨by rfl, ?_⟩; intro W hSw; go_simp; try with_reducible rfl
              try simp only [Act.put, List.setIfInBounds_toArray, List.set_cons_zero, List.set_cons_succ]
              refine' wpAnyH_take (i := 42) (oi := _) (v := _) ?higz45 (by kernel_rfl) ?hfgz45 ?hrgz45 ?hQgz45 ?hygz45 (hSgz1) ?restgz45
              case higz45 => (simp only [List.getElem?_toArray, List.getElem?_cons_zero, List.getElem?_cons_succ]; rfl)
              case hfgz45 => kernel_rfl
              case hrgz45 => kernel_rfl
              case hQgz45 => exact fun _ _ _ h => h
              case hygz45 => refine Or.inl ⟨by rfl, ?_⟩; intro W hSw; go_simp; try with_reducible rfl
              try simp only [Act.put, List.setIfInBounds_toArray, List.set_cons_zero, List.set_cons_succ]
              refine' wpAnyH_take (i := 43) (oi := _) (v := _) ?higz46 (by kernel_rfl) ?hfgz46 ?hrgz46 ?hQgz46 ?hygz46 (hSgz1) ?restgz46
              case higz46 => (simp only [List.getElem?_toArray, List.getElem?_cons_zero, List.getElem?_cons_succ]; rfl)
              case hfgz46 => kernel_rfl
              case hrgz46 => kernel_rfl
              case hQgz46 => exact fun _ _ _ h => h
              case hygz46 => refine Or.inl ⟨by rfl, ?_⟩; intro W hSw; go_simp; try with_reducible rfl
              try simp only [Act.put, List.setIfInBounds_toArray, List.set_cons_zero, List.set_cons_succ]
              refine' wpAnyH_take (i := 44) (oi := _) (v := _) ?higz47 (by kernel_rfl) ?hfgz47 ?hrgz47 ?hQgz47 ?hygz47 (hSgz1) ?restgz47
              case higz47 => (simp only [List.getElem?_toArray, List.getElem?_cons_zero, List.getElem?_cons_succ]; rfl)
              case hfgz47 => kernel_rfl
              case hrgz47 => kernel_rfl
              case hQgz47 => exact fun _ _ _ h => h
              case hygz47 => refine Or.inl ⟨by rfl, ?_⟩; intro W hSw; go_simp; try with_reducible rfl
              try simp only [Act.put, List.setIfInBounds_toArray, List.set_cons_zero, List.set_cons_succ]
              refine' wpAnyH_take (i := 45) (oi := _) (v := _) ?higz48 (by kernel_rfl) ?hfgz48 ?hrgz48 ?hQgz48 ?hygz48 (hSgz1) ?restgz48
              case higz48 => (simp only [List.getElem?_toArray, List.getElem?_cons_zero, List.getElem?_cons_succ]; rfl)
              case hfgz48 => kernel_rfl
              case hrgz48 => kernel_rfl
              case hQgz48 => exact fun _ _ _ h => h
              case hygz48 => refine Or.inl ⟨by rfl, ?_⟩; intro W hSw; go_simp; try with_reducible rfl
              try simp only [Act.put, List.setIfInBounds_toArray, List.set_cons_zero, List.set_cons_succ]
              refine' wpAnyH_take (i := 46) (oi := _) (v := _) ?higz49 (by kernel_rfl) ?hfgz49 ?hrgz49 ?hQgz49 ?hygz49 (hSgz1) ?restgz49
              case higz49 => (simp only [List.getElem?_toArray, List.getElem?_cons_zero, List.getElem?_cons_succ]; rfl)
              case hfgz49 => kernel_rfl
              case hrgz49 => kernel_rfl
              case hQgz49 => exact fun _ _ _ h => h
              case hygz49 => refine Or.inl ⟨by rfl, ?_⟩; intro W hSw; go_simp; try with_reducible rfl
              try simp only [Act.put, List.setIfInBounds_toArray, List.set_cons_zero, List.set_cons_succ]
              refine' wpAnyH_take (i := 47) (oi := _) (v := _) ?higz50 (by kernel_rfl) ?hfgz50 ?hrgz50 ?hQgz50 ?hygz50 (hSgz1) ?restgz50
              case higz50 => (simp only [List.getElem?_toArray, List.getElem?_cons_zero, List.getElem?_cons_succ]; rfl)
              case hfgz50 => kernel_rfl
              case hrgz50 => kernel_rfl
              case hQgz50 => exact fun _ _ _ h => h
              case hygz50 => refine Or.inl ⟨by rfl, ?_⟩; intro W hSw; go_simp; try with_reducible rfl
              try simp only [Act.put, List.setIfInBounds_toArray, List.set_cons_zero, List.set_cons_succ]
              refine' wpAnyH_take (i := 48) (oi := _) (v := _) ?higz51 (by kernel_rfl) ?hfgz51 ?hrgz51 ?hQgz51 ?hygz51 (hSgz1) ?restgz51
              case higz51 => (simp only [List.getElem?_toArray, List.getElem?_cons_zero, List.getElem?_cons_succ]; rfl)
              case hfgz51 => kernel_rfl
              case hrgz51 => kernel_rfl
              case hQgz51 => exact fun _ _ _ h => h
              case hygz51 => refine Or.inl ⟨by rfl, ?_⟩; intro W hSw; go_simp; try with_reducible rfl
              try simp only [Act.put, List.setIfInBounds_toArray, List.set_cons_zero, List.set_cons_succ]
              refine' wpAnyH_take (i := 49) (oi := _) (v := _) ?higz52 (by kernel_rfl) ?hfgz52 ?hrgz52 ?hQgz52 ?hygz52 (hSgz1) ?restgz52
              case higz52 => (simp only [List.getElem?_toArray, List.getElem?_cons_zero, List.getElem?_cons_succ]; rfl)
              case hfgz52 => kernel_rfl
              case hrgz52 => kernel_rfl
              case hQgz52 => exact fun _ _ _ h => h
              case hygz52 => refine Or.inl ⟨by rfl, ?_⟩; intro W hSw; go_simp; try with_reducible rfl
              try simp only [Act.put, List.setIfInBounds_toArray, List.set_cons_zero, List.set_cons_succ]
              refine' wpAnyH_take (i := 50) (oi := _) (v := _) ?higz53 (by kernel_rfl) ?hfgz53 ?hrgz53 ?hQgz53 ?hygz53 (hSgz1) ?restgz53
              case higz53 => (simp only [List.getElem?_toArray, List.getElem?_cons_zero, List.getElem?_cons_succ]; rfl)
              case hfgz53 => kernel_rfl
              case hrgz53 => kernel_rfl
              case hQgz53 => exact fun _ _ _ h => h
              case hygz53 => refine Or.inl ⟨by rfl, ?_⟩; intro W hSw; go_simp; try with_reducible rfl
              try simp only [Act.put, List.setIfInBounds_toArray, List.set_cons_zero, List.set_cons_succ]
              refine' wpAnyH_take (i := 51) (oi := _) (v := sv (zero32)) ?higz54 (by kernel_rfl) ?hfgz54 ?hrgz54 ?hQgz54 ?hygz54 (hSgz1) ?restgz54
              case higz54 => (simp only [List.getElem?_toArray, List.getElem?_cons_zero, List.getElem?_cons_succ]; rfl)
              case hfgz54 => kernel_rfl
              case hrgz54 => kernel_rfl
              case hQgz54 => exact fun _ _ _ h => h
              case hygz54 => refine yields_sum ?_ (.tmp 17) rfl ⟨g12, 0, none⟩ rfl zero32 lm (fun W hSw => (HF20.out.2.2.2.1.below hSw).at_); rfl
              try simp only [Act.put, List.setIfInBounds_toArray, List.set_cons_zero, List.set_cons_succ]
              refine' wpAnyH_take (i := 52) (oi := _) (v := sv zero32) ?higz55 (by kernel_rfl) ?hfgz55 ?hrgz55 ?hQgz55 ?hygz55 (hSgz1) ?restgz55
              case higz55 => (simp only [List.getElem?_toArray, List.getElem?_cons_zero, List.getElem?_cons_succ]; rfl)
              case hfgz55 => kernel_rfl
              case hrgz55 => kernel_rfl
              case hQgz55 => exact fun _ _ _ h => h
              case hygz55 => refine Or.inl ⟨by rfl, ?_⟩; intro W hSw; go_simp; rfl
              try simp only [Act.put, List.setIfInBounds_toArray, List.set_cons_zero, List.set_cons_succ]
              refine' wpAnyH_take (i := 53) (oi := _) (v := _) ?higz56 (by kernel_rfl) ?hfgz56 ?hrgz56 ?hQgz56 ?hygz56 (hSgz1) ?restgz56
              case higz56 => (simp only [List.getElem?_toArray, List.getElem?_cons_zero, List.getElem?_cons_succ]; rfl)
              case hfgz56 => kernel_rfl
              case hrgz56 => kernel_rfl
              case hQgz56 => exact fun _ _ _ h => h
              case hygz56 => refine Or.inl ⟨by rfl, ?_⟩; intro W hSw; go_simp; try with_reducible rfl
              try simp only [Act.put, List.setIfInBounds_toArray, List.set_cons_zero, List.set_cons_succ]
              refine' wpAnyH_take (i := 54) (oi := _) (v := _) ?higz57 (by kernel_rfl) ?hfgz57 ?hrgz57 ?hQgz57 ?hygz57 (hSgz1) ?restgz57
              case higz57 => (simp only [List.getElem?_toArray, List.getElem?_cons_zero, List.getElem?_cons_succ]; rfl)
              case hfgz57 => kernel_rfl
              case hrgz57 => kernel_rfl
              case hQgz57 => exact fun _ _ _ h => h
              case hygz57 => refine Or.inl ⟨by rfl, ?_⟩; intro W hSw; go_simp; try with_reducible rfl
              try simp only [Act.put, List.setIfInBounds_toArray, List.set_cons_zero, List.set_cons_succ]
              refine' wpAnyH_take (i := 55) (oi := _) (v := _) ?higz58 (by kernel_rfl) ?hfgz58 ?hrgz58 ?hQgz58 ?hygz58 (hSgz1) ?restgz58
              case higz58 => (simp only [List.getElem?_toArray, List.getElem?_cons_zero, List.getElem?_cons_succ]; rfl)
              case hfgz58 => kernel_rfl
              case hrgz58 => kernel_rfl
              case hQgz58 => exact fun _ _ _ h => h
              case hygz58 => refine Or.inl ⟨by rfl, ?_⟩; intro W hSw; go_simp; try with_reducible rfl
              try simp only [Act.put, List.setIfInBounds_toArray, List.set_cons_zero, List.set_cons_succ]
              refine' wpAnyH_take (i := 56) (oi := _) (v := sv (zero32)) ?higz59 (by kernel_rfl) ?hfgz59 ?hrgz59 ?hQgz59 ?hygz59 (hSgz1) ?restgz59
              case higz59 => (simp only [List.getElem?_toArray, List.getElem?_cons_zero, List.getElem?_cons_succ]; rfl)
              case hfgz59 => kernel_rfl
              case hrgz59 => kernel_rfl
              case hQgz59 => exact fun _ _ _ h => h
              case hygz59 => refine yields_sum ?_ (.tmp 19) rfl ⟨g14, 0, none⟩ rfl zero32 lr (fun W hSw => (HF20.out.2.2.2.2.1.below hSw).at_); rfl
              try simp only [Act.put, List.setIfInBounds_toArray, List.set_cons_zero, List.set_cons_succ]
              refine' wpAnyH_take (i := 57) (oi := _) (v := sv zero32) ?higz60 (by kernel_rfl) ?hfgz60 ?hrgz60 ?hQgz60 ?hygz60 (hSgz1) ?restgz60
              case higz60 => (simp only [List.getElem?_toArray, List.getElem?_cons_zero, List.getElem?_cons_succ]; rfl)
              case hfgz60 => kernel_rfl
              case hrgz60 => kernel_rfl
              case hQgz60 => exact fun _ _ _ h => h
              case hygz60 => refine Or.inl ⟨by rfl, ?_⟩; intro W hSw; go_simp; rfl
              try simp only [Act.put, List.setIfInBounds_toArray, List.set_cons_zero, List.set_cons_succ]
              refine' wpAnyH_take (i := 58) (oi := _) (v := _) ?higz61 (by kernel_rfl) ?hfgz61 ?hrgz61 ?hQgz61 ?hygz61 (hSgz1) ?restgz61
              case higz61 => (simp only [List.getElem?_toArray, List.getElem?_cons_zero, List.getElem?_cons_succ]; rfl)
              case hfgz61 => kernel_rfl
              case hrgz61 => kernel_rfl
              case hQgz61 => exact fun _ _ _ h => h
              case hygz61 => refine Or.inl ⟨by rfl, ?_⟩; intro W hSw; go_simp; try with_reducible rfl
              try simp only [Act.put, List.setIfInBounds_toArray, List.set_cons_zero, List.set_cons_succ]
              refine' wpAnyH_take (i := 59) (oi := _) (v := _) ?higz62 (by kernel_rfl) ?hfgz62 ?hrgz62 ?hQgz62 ?hygz62 (hSgz1) ?restgz62
              case higz62 => (simp only [List.getElem?_toArray, List.getElem?_cons_zero, List.getElem?_cons_succ]; rfl)
              case hfgz62 => kernel_rfl
              case hrgz62 => kernel_rfl
              case hQgz62 => exact fun _ _ _ h => h
              case hygz62 => refine Or.inl ⟨by rfl, ?_⟩; intro W hSw; go_simp; try with_reducible rfl
              try simp only [Act.put, List.setIfInBounds_toArray, List.set_cons_zero, List.set_cons_succ]
              refine' wpAnyH_take (i := 60) (oi := _) (v := _) ?higz63 (by kernel_rfl) ?hfgz63 ?hrgz63 ?hQgz63 ?hygz63 (hSgz1) ?restgz63
              case higz63 => (simp only [List.getElem?_toArray, List.getElem?_cons_zero, List.getElem?_cons_succ]; rfl)
              case hfgz63 => kernel_rfl
              case hrgz63 => kernel_rfl
              case hQgz63 => exact fun _ _ _ h => h
              case hygz63 => refine Or.inl ⟨by rfl, ?_⟩; intro W hSw; go_simp; try with_reducible rfl
              try simp only [Act.put, List.setIfInBounds_toArray, List.set_cons_zero, List.set_cons_succ]
              refine' wpAnyH_take (i := 61) (oi := _) (v := _) ?higz64 (by kernel_rfl) ?hfgz64 ?hrgz64 ?hQgz64 ?hygz64 (hSgz1) ?restgz64
              case higz64 => (simp only [List.getElem?_toArray, List.getElem?_cons_zero, List.getElem?_cons_succ]; rfl)
              case hfgz64 => kernel_rfl
              case hrgz64 => kernel_rfl
              case hQgz64 => exact fun _ _ _ h => h
              case hygz64 => refine Or.inl ⟨by rfl, ?_⟩; intro W hSw; go_simp; try with_reducible rfl
              try simp only [Act.put, List.setIfInBounds_toArray, List.set_cons_zero, List.set_cons_succ]
              refine wpAnyH_done (by kernel_rfl) ?_ _
              have P33 := HF20.out.1.below hSgz1
              have R33 := HF20.out.2.1.below hSgz1
              have X33 := HF20.out.2.2.1.below hSgz1
              have A33 := HF20.out.2.2.2.2.2.1.below hSgz1
              have L33 := HF20.out.2.2.2.2.2.2.1.below hSgz1
              have CB0 := play_bytes P33 X33.own (fun b e => (O10.out b e).1) (fun b e => (O10.out b e).2.1) (by omega) (by have h1 := HS.out.2.2.1; have h2 := HS.out.2.2.2; omega)
              have A34 := fun {W' : World} {b1 : Value} (hb : But (fun b => b = kb ∨ bs'.ownBlock = some b) Wgz2 W') => own_kept_but A33.own hb (fun b e1 e2 => by
                rcases e2 with e2 | e2
                · subst e2; exact P33.kept.book.other (by decide) A33.own e1
                · exact not_row (by decide) A33.own P33.kept.own1 b e1 e2)
              have L34 := fun {W' : World} {b1 : Value} (hb : But (fun b => b = kb ∨ bs'.ownBlock = some b) Wgz2 W') => own_kept_but L33.own hb (fun b e1 e2 => by
                rcases e2 with e2 | e2
                · subst e2; exact P33.kept.book.other (by decide) L33.own e1
                · exact not_row (by decide) L33.own P33.kept.own1 b e1 e2)
              have CB := Lib.hid CB0
              have HALL := Lib.hid (And.intro P33 R33)
              have HA34 := Lib.hid (fun W' (hb : But (fun b => b = kb ∨ bs'.ownBlock = some b) Wgz2 W') => And.intro (A34 (b1 := undef) hb) (L34 (b1 := undef) hb))
              clear P33 R33 X33 A33 L33 CB0 A34 L34 n1 n2 n3 hi1 hi2
              go_wp2_with fail
              refine CB.out.mono ?_
              rintro e w81 ⟨rfl, bs8, hs8, hP8, hb8, hl8, hin8⟩
              have R8 := HALL.out.2.bytes HALL.out.1 hb8
              have AL8 := HA34.out _ hb8
              have CS0 := play_sums hP8 AL8.1 (fun b e => (O15.out b e).1) (fun b e => (O15.out b e).2.2) (by omega) (by have h1 := HS.out.2.2.1; have h2 := HS.out.2.2.2; omega)
              have H8 := Lib.hid (And.intro hP8 (And.intro R8 (And.intro AL8.2 hl8)))
              have CSh := Lib.hid CS0
              clear CS0 hP8 hb8 hin8 R8 AL8 hl8 HA34 HALL CB
              go_wp2_with fail
              refine CSh.out.mono ?_
              rintro e w82 ⟨rfl, ss9, hs9, hP9, hb9, hl9, hin9⟩
              have R9 := H8.out.2.1.sums H8.out.1 hb9
              have L9 := own_kept_but H8.out.2.2.1 hb9 (fun b e1 e2 => by
                rcases e2 with e2 | e2
                · subst e2; exact H8.out.1.kept.book.other (by decide) H8.out.2.2.1 e1
                · exact not_row (by decide) H8.out.2.2.1 H8.out.1.kept.own2 b e1 e2)
              have CT0 := play_sums hP9 L9 (fun b e => (O16.out b e).1) (fun b e hin => (hin9 b hin).elim (O16.out b e).2.2 (fun e2 => OPL.out b e e2)) (by omega) (by have h1 := HS.out.2.2.1; have h2 := HS.out.2.2.2; have h3 := H8.out.2.2.2; omega)
              have H9 := Lib.hid (And.intro hP9 (And.intro R9 (And.intro hl9 H8.out.2.2.2)))
              have CTh := Lib.hid CT0
              clear CT0 hP9 hb9 hin9 R9 L9 hl9 H8 CSh
              go_wp2_with fail
              refine CTh.out.mono ?_
              rintro e w83 ⟨rfl, ss10, hs10, hP10, hb10, hl10, hin10⟩
              have R10 := H9.out.2.1.sums H9.out.1 hb10
              have HF := Lib.hid (show ∃ (bs ss : Value) (h1 h2 : List Held), PlayM w w83 g kb G l bs ss h1 h2 ∧ RowM w w83 G rA k rc Y l ∧ h1.length = j + (q + 1) ∧ h2.length = 2 * (q + 1) from ⟨_, _, _, _, hP10, R10, by have h1 := HS.out.2.2.1; have h3 := H9.out.2.2.2; omega, by have h2 := HS.out.2.2.2; have h3 := H9.out.2.2.1; omega⟩)
              clear hP10 R10 hb10 hl10 hin10 H9 CTh
              go_wp2_with fail
              go_roundw
              case rel => exact ⟨q + 1, by omega, by go_num, HF⟩
              case measure => simp [intOf]; omega
        · have hqi : ¬ ((q : Int) < (m : Int)) := by omega
          obtain rfl : q = m := by omega
          have CA := Lib.hid (apart_any kb _ w.heap.size _ _ bs' ss h1' h2 _ hP.kept)
          have HB := Lib.hid hP.bel
          clear hP hRow hl1 hl2
          go_wp2_with fail
          refine CA.out.mono ?_
          rintro e w3 ⟨rfl, hb3⟩
          have HB3 := Lib.hid (HB.out.trans hb3)
          go_wp2_with fail
          go_ret
          exact ⟨rfl, HB3.out⟩

theorem chainsPlay_law (w : World) (hk : Knows w) (hs : Starts w) {A : Option Addr} {n c : Nat} {rows : List (List Nat)} (cr : CameRows w A n rows) {B : Option Addr} {m d : Nat} {f : Nat → Nat} (ca : CameAsk w B m d f) :
    Calls Tryz.prog 3 #[.slice A n c, .slice B m d] w fun e w' => e = .returned (.bool true) ∧ Below w.heap.size w w' := by
  by_cases h : 30 < n ∨ 30 < m
  · exact hplay_else w A n c B m d h
  · exact hplay_some w hk hs cr ca (by omega) (by omega)

end Go.Proofs.YtnaebjdccngeoaaGreatDoor

/-
  Five listed variables: two of them are package shas'.
-/
namespace Go.Proofs.YtnaebjdccngeoaaGreatDoor
open Go.ChangeShapes Go.WideShapes Go.ChangeAt Go.RowKit

def laid5 : List (String × DataW Unit) := [("math/bits.deBruijn32tab", Rows.laid_math_bits_deBruijn32tab), ("math/bits.deBruijn64tab", Rows.laid_math_bits_deBruijn64tab), ("internal/strconv.uint64pow10", Rows.laid_internal_strconv_uint64pow10), ("almoner/shas.start", Rows.laid_almoner_shas_start), ("almoner/shas.added", Rows.laid_almoner_shas_added)]
def isShas (x : String × DataW Unit) : Bool := ["almoner/shas.start", "almoner/shas.added"].contains x.1
theorem laid5_shas : laid5.filter isShas = laid2 := by
  unfold laid5 laid2 isShas
  simp [List.filter]

theorem of_laid5 {W : World} (h : laidMetH Tryz.prog laid5 W) : Starts W ∧ Knows W := by
  have h3 := h.filter isShas
  rw [laid5_shas] at h3
  exact of_laid h3

end Go.Proofs.YtnaebjdccngeoaaGreatDoor
