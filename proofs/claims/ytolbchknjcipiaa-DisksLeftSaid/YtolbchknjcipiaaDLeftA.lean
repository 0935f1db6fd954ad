/-
  DisksLeft, part A.
-/
import Derived.Test.YtolbchknjcipiaaDLeftDefs
import Derived.Deep.Cut
namespace Go.Proofs.Ytolbchknjcipiaa
open Go.RowKit


set_option maxRecDepth 100000 in
set_option maxHeartbeats 8000000 in
theorem disksLeft_lt (w : World) {A : Option Addr} {n c : Nat} {ws : List (Nat × List Nat)} (hw : CameWrites w A n c ws) {p1 : Nat} (h1 : p1 < 256) {p2 : Nat} (h2 : p2 < 256) (hn : n ≤ 100) (hc : p1 % (n + 1) < n) :
    Calls Try.prog 4 #[.slice A n c, .int .u8 (p1 : Int), .int .u8 (p2 : Int)] w fun e w' => e = .returned (.bool true) ∧ Below w.heap.size w w' := by
  go_enter Try.func4, Try.ntmps4
  go_wp2_with fail
  refine (alive_any w).mono ?_
  rintro e w2 ⟨rfl, b2⟩
  · have hni : decide (100 < (n : Int)) = false := by simp; omega
    obtain ⟨s, hs⟩ : ∃ s, p1 % (n + 1) = s := ⟨_, rfl⟩
    have hsn : s ≤ n := by have := Nat.mod_lt p1 (show 0 < n + 1 by omega); omega
    obtain ⟨k, hk⟩ : ∃ k, p2 % (n - s + 1) = k := ⟨_, rfl⟩
    have hkn : k ≤ n - s := by have := Nat.mod_lt p2 (show 0 < n - s + 1 by omega); omega
    have u1 : IntKind.i64.wrap (p1 : Int) = (p1 : Int) := by rw [IntKind.wrap_i64]; omega
    have u2 : IntKind.i64.wrap (p2 : Int) = (p2 : Int) := by rw [IntKind.wrap_i64]; omega
    have m1 : Int.tmod (p1 : Int) ((n : Int) + 1) = (s : Int) := by
      rw [Int.tmod_eq_emod_of_nonneg (by omega), show (n : Int) + 1 = ((n + 1 : Nat) : Int) by omega, ← Int.natCast_emod, hs]
    have m2 : (p1 : Int) % ((n : Int) + 1) = (s : Int) := by rw [show (n : Int) + 1 = ((n + 1 : Nat) : Int) by omega, ← Int.natCast_emod, hs]
    have m3 : Int.tmod (p2 : Int) ((n : Int) - (s : Int) + 1) = (k : Int) := by
      rw [Int.tmod_eq_emod_of_nonneg (by omega), show (n : Int) - (s : Int) + 1 = ((n - s + 1 : Nat) : Int) by omega, ← Int.natCast_emod, hk]
    have m4 : (p2 : Int) % ((n : Int) - (s : Int) + 1) = (k : Int) := by rw [show (n : Int) - (s : Int) + 1 = ((n - s + 1 : Nat) : Int) by omega, ← Int.natCast_emod, hk]
    have z1 : ¬ ((n : Int) + 1 = 0) := by omega
    have z2 : ¬ ((n : Int) - (s : Int) + 1 = 0) := by omega
    have HE : Hid (s < n) := Lib.hid (by rw [← hs]; exact hc)
    have CWr := written_any A n c ws s (hw.below b2) (by omega)
    have HCW := Lib.hid (And.intro CWr b2)
    clear CWr b2 hs hk hc
    go_wp2_with fail
    refine HCW.out.1.mono ?_
    rintro e w3 ⟨g, rfl, h3, b3⟩
    have a3 : Above w.heap.size w3 g (wst ws s n) := h3.mono HCW.out.2.size
    have b3' := below_on HCW.out.2 (Nat.le_refl _) b3
    clear HCW h3 b3 u1 u2 m1 m2 m3 m4 z1 z2
    obtain ⟨ps, hps⟩ : ∃ ps, ws.map asW = ps := ⟨_, rfl⟩
    have hpl : ps.length = n := by rw [← hps, List.length_map, hw.len]
    have hsb : ((s : Int) == (n : Int)) = false := by have : s < n := HE.out; simp; omega
    have d3_ : Above 0 w3 g (lst ps s) := by
      have := lst_wst (t := s) hw.len HE.out
      rw [hps] at this
      rw [← this]
      exact a3.mono (Nat.zero_le _)
    have b3_ := b3'
    clear a3 b3'
    obtain ⟨w10, rfl⟩ : ∃ W, W = w3 := ⟨_, rfl⟩
    have H := Lib.hid (And.intro d3_ b3_)
    clear d3_ b3_
    obtain ⟨d, bel⟩ := H.out
    have C := all_five d (settle_five _)
    rw [lst_read] at C
    have HC := Lib.hid C
    clear d bel C
    go_wp2_with fail
    refine HC.out.mono ?_
    rintro e w11 ⟨Aw, cw, rfl, r0, bx⟩
    clear HC
    obtain ⟨d, bel⟩ := H.out
    have d_ := d.below bx
    have bel_ := below_on bel (Nat.le_refl _) bx
    have was_ := r0.now
    have H2 := Lib.hid (And.intro d_ (And.intro was_ bel_))
    clear d bel H d_ was_ bel_ bx
    have H := Lib.hid H2.out
    clear H2
    clear r0
    have hmk1 := make_bools k (by omega) w11
    have bA := below_alloc w11 (.cells ((List.replicate k false).map blv).toArray 4)
    have hA0 := World.alloc_heap_new w11 (.cells ((List.replicate k false).map blv).toArray 4)
    obtain ⟨Ba, hBa⟩ : ∃ B, w11.heap.size = B := ⟨_, rfl⟩
    obtain ⟨w12, hW⟩ : ∃ W, w11.alloc (.cells ((List.replicate k false).map blv).toArray 4) = W := ⟨_, rfl⟩
    rw [hW] at hmk1 bA hA0
    rw [hBa] at hmk1 hA0
    have hA : BlArr w12 Ba (List.replicate k false) := hA0
    have bB : w11.heap.size ≤ Ba := Nat.le_of_eq hBa
    have HA := Lib.hid (And.intro bA (And.intro hA bB))
    clear hW bA hA hA0 hBa bB
    go_wp2
    clear hmk1
    go_loopw [12] (fun i wr => ∃ j : Nat, j ≤ k ∧ i = .int .i64 (j : Int) ∧ Hid (BlArr wr Ba (List.replicate j true ++ List.replicate (k - j) false) ∧ Below w11.heap.size w11 wr)) (fun i _ => k - (intOf i).toNat)
    case atStart => exact ⟨0, Nat.zero_le _, rfl, Lib.hid ⟨by simpa using HA.out.2.1, HA.out.1⟩⟩
    case round =>
      obtain ⟨j, hjj, rfl, hrel⟩ := hrel
      by_cases hlt : j < k
      · have hji : (j : Int) < (k : Int) := by omega
        have hget : (List.replicate j true ++ List.replicate (k - j) false)[j]? = some false := by rw [List.getElem?_append_right (by simp), List.length_replicate, Nat.sub_self, List.getElem?_replicate, if_pos (by omega)]
        have cc := hrel.out.1.cell hget
        have ff := hrel.out.1.free j
        have hset := hrel.out.1.set j true
        rw [set_true j k hlt] at hset
        have HS := Lib.hid (And.intro hset (show Below w11.heap.size w11 (wr.setCell ⟨Ba, j, none⟩ (.bool true)) from hrel.out.2.setCell (show w11.heap.size ≤ Ba from HA.out.2.2) _))
        clear hset hget
        go_wp2
        go_roundw
        case rel => exact ⟨j + 1, by omega, by go_num, HS⟩
        case measure => simp [intOf]; omega
      · obtain rfl : k = j := by omega
        have hji : decide ((k : Int) < (k : Int)) = false := by simp
        obtain ⟨hKr, bLr⟩ := hrel.out
        rw [Nat.sub_self, List.replicate_zero, List.append_nil] at hKr
        obtain ⟨w13, rfl⟩ : ∃ W, W = wr := ⟨_, rfl⟩
        clear HA hrel hlt
        obtain ⟨d, was, bel⟩ := H.out
        have d_ := d.below bLr
        have was_ := was.up bLr
        have bel_ := below_on bel (Nat.le_refl _) bLr
        have ka_ := hKr
        have H2 := Lib.hid (And.intro d_ (And.intro was_ (And.intro ka_ bel_)))
        clear d was bel H d_ was_ ka_ bel_ bLr
        have H := Lib.hid H2.out
        clear H2
        clear hKr
        have hpk : settle (settle (zeros 5) (ps.take s)) ((ps.drop s).take k) = settle (zeros 5) (ps.take (s + k)) := by rw [← settle_append, List.take_add]
        have hkd : k ≤ (ps.drop s).length := by rw [List.length_drop, hpl]; exact hkn
        have HPK := Lib.hid (And.intro hpk hkd)
        clear hpk hkd
        obtain ⟨d, was, ka, bel⟩ := H.out
        obtain ⟨Fd, dd, _⟩ := d
        have C := left_any (some ⟨Ba, 0, none⟩) k k (List.replicate k true) (by have := ka.in_; rw [List.length_replicate] at this; exact this) dd
        have eR : settle (lst ps s).sure (kept (lst ps s).waits (List.replicate k true)) = settle (zeros 5) (ps.take (s + k)) := by have := kept_true (lst ps s).waits k 0 HPK.out.2; rw [List.replicate_zero, List.append_nil] at this; rw [this]; exact HPK.out.1
        rw [eR] at C
        have HC := Lib.hid C
        clear was ka bel C dd eR
        go_wp2_with fail
        refine HC.out.mono ?_
        rintro e w14 ⟨gc, rfl, mm⟩
        clear HC
        have bm := mm.2
        obtain ⟨d, was, ka, bel⟩ := H.out
        have d_ := d.below bm
        have was_ := was.up bm
        have ka_ := ka.below bm
        have bel_ := below_on bel (Nat.le_refl _) bm
        have dc_ := mm.up
        have H2 := Lib.hid (And.intro d_ (And.intro was_ (And.intro ka_ (And.intro dc_ bel_))))
        clear d was ka bel H d_ was_ ka_ dc_ bel_ bm
        have H := Lib.hid H2.out
        clear H2
        clear mm
        obtain ⟨d, was, ka, dc, bel⟩ := H.out
        obtain ⟨Fd, dd, _⟩ := d
        have C := left_any none 0 0 [] (InB.none_ _ _) dd
        have eR : settle (lst ps s).sure (kept (lst ps s).waits []) = settle (zeros 5) (ps.take s) := by rw [show kept (lst ps s).waits [] = [] from by simp [kept, pick]]; rfl
        rw [eR] at C
        have HC := Lib.hid C
        clear was ka dc bel C dd eR
        go_wp2_with fail
        refine HC.out.mono ?_
        rintro e w15 ⟨gn, rfl, mm⟩
        clear HC
        have bm := mm.2
        obtain ⟨d, was, ka, dc, bel⟩ := H.out
        have d_ := d.below bm
        have was_ := was.up bm
        have ka_ := ka.below bm
        have dc_ := dc.below bm
        have bel_ := below_on bel (Nat.le_refl _) bm
        have dn_ := mm.up
        have H2 := Lib.hid (And.intro d_ (And.intro was_ (And.intro ka_ (And.intro dc_ (And.intro dn_ bel_)))))
        clear d was ka dc bel H d_ was_ ka_ dc_ dn_ bel_ bm
        have H := Lib.hid H2.out
        clear H2
        clear mm
        obtain ⟨d, was, ka, dc, dn, bel⟩ := H.out
        obtain ⟨A9, c9, w99, hap1, hap2, hap3⟩ := run_append_falses w15 23 Ba k n (List.replicate k true) ka List.length_replicate (by omega)
        clear d was ka dc dn bel
        obtain ⟨w16, rfl⟩ : ∃ W, W = w99 := ⟨_, rfl⟩
        obtain ⟨d, was, ka, dc, dn, bel⟩ := H.out
        have d_ := d.below hap3
        have was_ := was.up hap3
        have ka_ := ka.below hap3
        have dc_ := dc.below hap3
        have dn_ := dn.below hap3
        have bel_ := below_on bel (Nat.le_refl _) hap3
        have ev_ := hap2
        have H2 := Lib.hid (And.intro d_ (And.intro was_ (And.intro ka_ (And.intro dc_ (And.intro dn_ (And.intro ev_ bel_))))))
        clear d was ka dc dn bel H d_ was_ ka_ dc_ dn_ ev_ bel_ hap3
        have H := Lib.hid H2.out
        clear H2
        clear hap2
        obtain ⟨d, was, ka, dc, dn, ev, bel⟩ := H.out
        obtain ⟨Fd, dd, _⟩ := d
        have C := left_any A9 (k + n) c9 (List.replicate k true ++ List.replicate n false) ev dd
        have eR : settle (lst ps s).sure (kept (lst ps s).waits (List.replicate k true ++ List.replicate n false)) = settle (zeros 5) (ps.take (s + k)) := by rw [kept_true (lst ps s).waits k n HPK.out.2]; exact HPK.out.1
        rw [eR] at C
        have HC := Lib.hid C
        clear was ka dc dn ev bel C dd eR
        go_wp2_with (at_builtin; refine wpList_falses rfl (.tmp 72) (.tmp 74) rfl hap1 rfl rfl ?_)
        refine HC.out.mono ?_
        rintro e w17 ⟨ge, rfl, mm⟩
        clear HC
        have bm := mm.2
        obtain ⟨d, was, ka, dc, dn, ev, bel⟩ := H.out
        have d_ := d.below bm
        have was_ := was.up bm
        have ka_ := ka.below bm
        have dc_ := dc.below bm
        have dn_ := dn.below bm
        have ev_ := ev.below bm
        have bel_ := below_on bel (Nat.le_refl _) bm
        have de_ := mm.up
        have H2 := Lib.hid (And.intro d_ (And.intro was_ (And.intro ka_ (And.intro dc_ (And.intro dn_ (And.intro ev_ (And.intro de_ bel_)))))))
        clear d was ka dc dn ev bel H d_ was_ ka_ dc_ dn_ ev_ de_ bel_ bm
        have H := Lib.hid H2.out
        clear H2
        clear mm
        clear hap1
        obtain ⟨q, hq⟩ : ∃ q, s + k = q := ⟨_, rfl⟩
        have hqi : (s : Int) + (k : Int) = (q : Int) := by omega
        have hqn : q ≤ n := by omega
        have hqc : q ≤ c := Nat.le_trans hqn hw.cap
        have hqci : (q : Int) ≤ (c : Int) := by omega
        have hsc : s ≤ c := Nat.le_trans hsn hw.cap
        have hsci : (s : Int) ≤ (c : Int) := by omega
        obtain ⟨d, was, ka, dc, dn, ev, de, bel⟩ := H.out
        have C := written_any A q c (ws.take q) 101 ((hw.take hqn).below bel) (by omega)
        rw [wst_all (by rw [List.length_take, hw.len]; omega) (by omega), List.map_take, hps] at C
        have HC := Lib.hid C
        clear d was ka dc dn ev de bel C
        go_wp2_with fail
        refine HC.out.mono ?_
        rintro e w18 ⟨gs, rfl, mm, bm⟩
        clear HC
        obtain ⟨d, was, ka, dc, dn, ev, de, bel⟩ := H.out
        have d_ := d.below bm
        have was_ := was.up bm
        have ka_ := ka.below bm
        have dc_ := dc.below bm
        have dn_ := dn.below bm
        have ev_ := ev.below bm
        have de_ := de.below bm
        have bel_ := below_on bel (Nat.le_refl _) bm
        have ds_ := mm.mono (Nat.zero_le _)
        have H2 := Lib.hid (And.intro d_ (And.intro was_ (And.intro ka_ (And.intro dc_ (And.intro dn_ (And.intro ev_ (And.intro de_ (And.intro ds_ bel_))))))))
        clear d was ka dc dn ev de bel H d_ was_ ka_ dc_ dn_ ev_ de_ ds_ bel_ bm
        have H := Lib.hid H2.out
        clear H2
        clear mm
        obtain ⟨d, was, ka, dc, dn, ev, de, ds, bel⟩ := H.out
        have C := written_any A s c (ws.take s) 101 ((hw.take hsn).below bel) (by omega)
        rw [wst_all (by rw [List.length_take, hw.len]; omega) (by omega), List.map_take, hps] at C
        have HC := Lib.hid C
        clear d was ka dc dn ev de ds bel C
        go_wp2_with fail
        refine HC.out.mono ?_
        rintro e w19 ⟨gb, rfl, mm, bm⟩
        clear HC
        obtain ⟨d, was, ka, dc, dn, ev, de, ds, bel⟩ := H.out
        have d_ := d.below bm
        have was_ := was.up bm
        have ka_ := ka.below bm
        have dc_ := dc.below bm
        have dn_ := dn.below bm
        have ev_ := ev.below bm
        have de_ := de.below bm
        have ds_ := ds.below bm
        have bel_ := below_on bel (Nat.le_refl _) bm
        have db_ := mm.mono (Nat.zero_le _)
        have H2 := Lib.hid (And.intro d_ (And.intro was_ (And.intro ka_ (And.intro dc_ (And.intro dn_ (And.intro ev_ (And.intro de_ (And.intro ds_ (And.intro db_ bel_)))))))))
        clear d was ka dc dn ev de ds bel H d_ was_ ka_ dc_ dn_ ev_ de_ ds_ db_ bel_ bm
        have H := Lib.hid H2.out
        clear H2
        clear mm
        clear hqi hqci hsci
        have hmk1 := make_bools n (by omega) w19
        have bA := below_alloc w19 (.cells ((List.replicate n false).map blv).toArray 4)
        have hA0 := World.alloc_heap_new w19 (.cells ((List.replicate n false).map blv).toArray 4)
        obtain ⟨Bb, hBb⟩ : ∃ B, w19.heap.size = B := ⟨_, rfl⟩
        obtain ⟨w20, hW⟩ : ∃ W, w19.alloc (.cells ((List.replicate n false).map blv).toArray 4) = W := ⟨_, rfl⟩
        rw [hW] at hmk1 bA hA0
        rw [hBb] at hmk1 hA0
        have hA : BlArr w20 Bb (List.replicate n false) := hA0
        have bB : w19.heap.size ≤ Bb := Nat.le_of_eq hBb
        have HA := Lib.hid (And.intro bA (And.intro hA bB))
        clear hW bA hA hA0 hBb bB
        go_wp2
        clear hmk1
        go_loopw [19] (fun i wr => ∃ j : Nat, j ≤ n ∧ i = .int .i64 (j : Int) ∧ Hid (BlArr wr Bb (List.replicate j true ++ List.replicate (n - j) false) ∧ Below w19.heap.size w19 wr)) (fun i _ => n - (intOf i).toNat)
        case atStart => exact ⟨0, Nat.zero_le _, rfl, Lib.hid ⟨by simpa using HA.out.2.1, HA.out.1⟩⟩
        case round =>
          obtain ⟨l, hjl, rfl, hrel⟩ := hrel
          by_cases hlt : l < n
          · have hji : (l : Int) < (n : Int) := by omega
            have hget : (List.replicate l true ++ List.replicate (n - l) false)[l]? = some false := by rw [List.getElem?_append_right (by simp), List.length_replicate, Nat.sub_self, List.getElem?_replicate, if_pos (by omega)]
            have cc := hrel.out.1.cell hget
            have ff := hrel.out.1.free l
            have hset := hrel.out.1.set l true
            rw [set_true l n hlt] at hset
            have HS := Lib.hid (And.intro hset (show Below w19.heap.size w19 (wr.setCell ⟨Bb, l, none⟩ (.bool true)) from hrel.out.2.setCell (show w19.heap.size ≤ Bb from HA.out.2.2) _))
            clear hset hget
            go_wp2
            go_roundw
            case rel => exact ⟨l + 1, by omega, by go_num, HS⟩
            case measure => simp [intOf]; omega
          · obtain rfl : n = l := by omega
            have hji : decide ((n : Int) < (n : Int)) = false := by simp
            obtain ⟨hKr, bLr⟩ := hrel.out
            rw [Nat.sub_self, List.replicate_zero, List.append_nil] at hKr
            obtain ⟨w21, rfl⟩ : ∃ W, W = wr := ⟨_, rfl⟩
            clear HA hrel hlt
            obtain ⟨d, was, ka, dc, dn, ev, de, ds, db, bel⟩ := H.out
            have d_ := d.below bLr
            have was_ := was.up bLr
            have ka_ := ka.below bLr
            have dc_ := dc.below bLr
            have dn_ := dn.below bLr
            have ev_ := ev.below bLr
            have de_ := de.below bLr
            have ds_ := ds.below bLr
            have db_ := db.below bLr
            have bel_ := below_on bel (Nat.le_refl _) bLr
            have kb_ := hKr
            have H2 := Lib.hid (And.intro d_ (And.intro was_ (And.intro ka_ (And.intro dc_ (And.intro dn_ (And.intro ev_ (And.intro de_ (And.intro ds_ (And.intro db_ (And.intro kb_ bel_))))))))))
            clear d was ka dc dn ev de ds db bel H d_ was_ ka_ dc_ dn_ ev_ de_ ds_ db_ kb_ bel_ bLr
            have H := Lib.hid H2.out
            clear H2
            clear hKr
            obtain ⟨d, was, ka, dc, dn, ev, de, ds, db, kb, bel⟩ := H.out
            obtain ⟨Fd, dd, _⟩ := d
            have C := left_any (some ⟨Bb, 0, none⟩) n n (List.replicate n true) (by have := kb.in_; rw [List.length_replicate] at this; exact this) dd
            have eR : settle (lst ps s).sure (kept (lst ps s).waits (List.replicate n true)) = settle (zeros 5) ps := by rw [kept_all (lst ps s).waits n (by show (ps.drop s).length ≤ n; rw [List.length_drop, hpl]; omega)]; exact lst_read ps s
            rw [eR] at C
            have HC := Lib.hid C
            clear was ka dc dn ev de ds db kb bel C dd eR
            go_wp2_with fail
            refine HC.out.mono ?_
            rintro e w22 ⟨gf, rfl, mm⟩
            clear HC
            have bm := mm.2
            obtain ⟨d, was, ka, dc, dn, ev, de, ds, db, kb, bel⟩ := H.out
            have d_ := d.below bm
            have was_ := was.up bm
            have ka_ := ka.below bm
            have dc_ := dc.below bm
            have dn_ := dn.below bm
            have ev_ := ev.below bm
            have de_ := de.below bm
            have ds_ := ds.below bm
            have db_ := db.below bm
            have kb_ := kb.below bm
            have bel_ := below_on bel (Nat.le_refl _) bm
            have df_ := mm.up
            have H2 := Lib.hid (And.intro d_ (And.intro was_ (And.intro ka_ (And.intro dc_ (And.intro dn_ (And.intro ev_ (And.intro de_ (And.intro ds_ (And.intro db_ (And.intro kb_ (And.intro df_ bel_)))))))))))
            clear d was ka dc dn ev de ds db kb bel H d_ was_ ka_ dc_ dn_ ev_ de_ ds_ db_ kb_ df_ bel_ bm
            have H := Lib.hid H2.out
            clear H2
            clear mm
            obtain ⟨d, was, ka, dc, dn, ev, de, ds, db, kb, df, bel⟩ := H.out
            have C := all_five df (fresh_five (settle_five _))
            rw [show (fresh _).read = _ from rfl] at C
            have HC := Lib.hid C
            clear d was ka dc dn ev de ds db kb df bel C
            go_wp2_with fail
            refine HC.out.mono ?_
            rintro e w23 ⟨A1, c1, rfl, r0, bx⟩
            clear HC
            obtain ⟨d, was, ka, dc, dn, ev, de, ds, db, kb, df, bel⟩ := H.out
            have d_ := d.below bx
            have was_ := was.up bx
            have ka_ := ka.below bx
            have dc_ := dc.below bx
            have dn_ := dn.below bx
            have ev_ := ev.below bx
            have de_ := de.below bx
            have ds_ := ds.below bx
            have db_ := db.below bx
            have kb_ := kb.below bx
            have df_ := df.below bx
            have bel_ := below_on bel (Nat.le_refl _) bx
            have r1_ := r0.now
            have H2 := Lib.hid (And.intro d_ (And.intro was_ (And.intro ka_ (And.intro dc_ (And.intro dn_ (And.intro ev_ (And.intro de_ (And.intro ds_ (And.intro db_ (And.intro kb_ (And.intro df_ (And.intro r1_ bel_))))))))))))
            clear d was ka dc dn ev de ds db kb df bel H d_ was_ ka_ dc_ dn_ ev_ de_ ds_ db_ kb_ df_ r1_ bel_ bx
            have H := Lib.hid H2.out
            clear H2
            clear r0
            obtain ⟨d, was, ka, dc, dn, ev, de, ds, db, kb, df, r1, bel⟩ := H.out
            have C := sameLists_yes A1 Aw 5 c1 cw (settle (zeros 5) ps) w23 r1 was (by decide)
            have HC := Lib.hid C
            clear d was ka dc dn ev de ds db kb df r1 bel C
            go_wp2_with fail
            refine HC.out.mono ?_
            rintro e w24 ⟨rfl, qx, hx⟩
            clear HC
            have bx : Below w23.heap.size w23 w24 := hx ▸ drewN_below w23 qx
            obtain ⟨d, was, ka, dc, dn, ev, de, ds, db, kb, df, r1, bel⟩ := H.out
            have d_ := d.below bx
            have was_ := was.up bx
            have ka_ := ka.below bx
            have dc_ := dc.below bx
            have dn_ := dn.below bx
            have ev_ := ev.below bx
            have de_ := de.below bx
            have ds_ := ds.below bx
            have db_ := db.below bx
            have kb_ := kb.below bx
            have df_ := df.below bx
            have r1_ := r1.up bx
            have bel_ := below_on bel (Nat.le_refl _) bx
            have H2 := Lib.hid (And.intro d_ (And.intro was_ (And.intro ka_ (And.intro dc_ (And.intro dn_ (And.intro ev_ (And.intro de_ (And.intro ds_ (And.intro db_ (And.intro kb_ (And.intro df_ (And.intro r1_ bel_))))))))))))
            clear d was ka dc dn ev de ds db kb df r1 bel H d_ was_ ka_ dc_ dn_ ev_ de_ ds_ db_ kb_ df_ r1_ bel_ bx
            have H := Lib.hid H2.out
            clear H2
            clear hx
            obtain ⟨d, was, ka, dc, dn, ev, de, ds, db, kb, df, r1, bel⟩ := H.out
            have C := all_five dc (fresh_five (settle_five _))
            rw [show (fresh _).read = _ from rfl] at C
            have HC := Lib.hid C
            clear d was ka dc dn ev de ds db kb df r1 bel C
            go_wp2_with fail
            refine HC.out.mono ?_
            rintro e w25 ⟨A2, c2, rfl, r0, bx⟩
            clear HC
            obtain ⟨d, was, ka, dc, dn, ev, de, ds, db, kb, df, r1, bel⟩ := H.out
            have d_ := d.below bx
            have was_ := was.up bx
            have ka_ := ka.below bx
            have dc_ := dc.below bx
            have dn_ := dn.below bx
            have ev_ := ev.below bx
            have de_ := de.below bx
            have ds_ := ds.below bx
            have db_ := db.below bx
            have kb_ := kb.below bx
            have df_ := df.below bx
            have r1_ := r1.up bx
            have bel_ := below_on bel (Nat.le_refl _) bx
            have r2_ := r0.now
            have H2 := Lib.hid (And.intro d_ (And.intro was_ (And.intro ka_ (And.intro dc_ (And.intro dn_ (And.intro ev_ (And.intro de_ (And.intro ds_ (And.intro db_ (And.intro kb_ (And.intro df_ (And.intro r1_ (And.intro r2_ bel_)))))))))))))
            clear d was ka dc dn ev de ds db kb df r1 bel H d_ was_ ka_ dc_ dn_ ev_ de_ ds_ db_ kb_ df_ r1_ r2_ bel_ bx
            have H := Lib.hid H2.out
            clear H2
            clear r0
            obtain ⟨d, was, ka, dc, dn, ev, de, ds, db, kb, df, r1, r2, bel⟩ := H.out
            have C := all_five ds (zeros_length 5)
            rw [show St.read ⟨zeros 5, ps.take q, -1, false⟩ = settle (zeros 5) (ps.take (s + k)) from by rw [hq]; rfl] at C
            have HC := Lib.hid C
            clear d was ka dc dn ev de ds db kb df r1 r2 bel C
            go_wp2_with fail
            refine HC.out.mono ?_
            rintro e w26 ⟨A3, c3, rfl, r0, bx⟩
            clear HC
            obtain ⟨d, was, ka, dc, dn, ev, de, ds, db, kb, df, r1, r2, bel⟩ := H.out
            have d_ := d.below bx
            have was_ := was.up bx
            have ka_ := ka.below bx
            have dc_ := dc.below bx
            have dn_ := dn.below bx
            have ev_ := ev.below bx
            have de_ := de.below bx
            have ds_ := ds.below bx
            have db_ := db.below bx
            have kb_ := kb.below bx
            have df_ := df.below bx
            have r1_ := r1.up bx
            have r2_ := r2.up bx
            have bel_ := below_on bel (Nat.le_refl _) bx
            have r3_ := r0.now
            have H2 := Lib.hid (And.intro d_ (And.intro was_ (And.intro ka_ (And.intro dc_ (And.intro dn_ (And.intro ev_ (And.intro de_ (And.intro ds_ (And.intro db_ (And.intro kb_ (And.intro df_ (And.intro r1_ (And.intro r2_ (And.intro r3_ bel_))))))))))))))
            clear d was ka dc dn ev de ds db kb df r1 r2 bel H d_ was_ ka_ dc_ dn_ ev_ de_ ds_ db_ kb_ df_ r1_ r2_ r3_ bel_ bx
            have H := Lib.hid H2.out
            clear H2
            clear r0
            obtain ⟨d, was, ka, dc, dn, ev, de, ds, db, kb, df, r1, r2, r3, bel⟩ := H.out
            have C := sameLists_yes A2 A3 5 c2 c3 (settle (zeros 5) (ps.take (s + k))) w26 r2 r3 (by decide)
            have HC := Lib.hid C
            clear d was ka dc dn ev de ds db kb df r1 r2 r3 bel C
            go_wp2_with fail
            refine HC.out.mono ?_
            rintro e w27 ⟨rfl, qx, hx⟩
            clear HC
            have bx : Below w26.heap.size w26 w27 := hx ▸ drewN_below w26 qx
            obtain ⟨d, was, ka, dc, dn, ev, de, ds, db, kb, df, r1, r2, r3, bel⟩ := H.out
            have d_ := d.below bx
            have was_ := was.up bx
            have ka_ := ka.below bx
            have dc_ := dc.below bx
            have dn_ := dn.below bx
            have ev_ := ev.below bx
            have de_ := de.below bx
            have ds_ := ds.below bx
            have db_ := db.below bx
            have kb_ := kb.below bx
            have df_ := df.below bx
            have r1_ := r1.up bx
            have r2_ := r2.up bx
            have r3_ := r3.up bx
            have bel_ := below_on bel (Nat.le_refl _) bx
            have H2 := Lib.hid (And.intro d_ (And.intro was_ (And.intro ka_ (And.intro dc_ (And.intro dn_ (And.intro ev_ (And.intro de_ (And.intro ds_ (And.intro db_ (And.intro kb_ (And.intro df_ (And.intro r1_ (And.intro r2_ (And.intro r3_ bel_))))))))))))))
            clear d was ka dc dn ev de ds db kb df r1 r2 r3 bel H d_ was_ ka_ dc_ dn_ ev_ de_ ds_ db_ kb_ df_ r1_ r2_ r3_ bel_ bx
            have H := Lib.hid H2.out
            clear H2
            clear hx
            obtain ⟨d, was, ka, dc, dn, ev, de, ds, db, kb, df, r1, r2, r3, bel⟩ := H.out
            have C := all_five de (fresh_five (settle_five _))
            rw [show (fresh _).read = _ from rfl] at C
            have HC := Lib.hid C
            clear d was ka dc dn ev de ds db kb df r1 r2 r3 bel C
            go_wp2_with fail
            refine HC.out.mono ?_
            rintro e w28 ⟨A4, c4, rfl, r0, bx⟩
            clear HC
            obtain ⟨d, was, ka, dc, dn, ev, de, ds, db, kb, df, r1, r2, r3, bel⟩ := H.out
            have d_ := d.below bx
            have was_ := was.up bx
            have ka_ := ka.below bx
            have dc_ := dc.below bx
            have dn_ := dn.below bx
            have ev_ := ev.below bx
            have de_ := de.below bx
            have ds_ := ds.below bx
            have db_ := db.below bx
            have kb_ := kb.below bx
            have df_ := df.below bx
            have r1_ := r1.up bx
            have r2_ := r2.up bx
            have r3_ := r3.up bx
            have bel_ := below_on bel (Nat.le_refl _) bx
            have r4_ := r0.now
            have H2 := Lib.hid (And.intro d_ (And.intro was_ (And.intro ka_ (And.intro dc_ (And.intro dn_ (And.intro ev_ (And.intro de_ (And.intro ds_ (And.intro db_ (And.intro kb_ (And.intro df_ (And.intro r1_ (And.intro r2_ (And.intro r3_ (And.intro r4_ bel_)))))))))))))))
            clear d was ka dc dn ev de ds db kb df r1 r2 r3 bel H d_ was_ ka_ dc_ dn_ ev_ de_ ds_ db_ kb_ df_ r1_ r2_ r3_ r4_ bel_ bx
            have H := Lib.hid H2.out
            clear H2
            clear r0
            obtain ⟨d, was, ka, dc, dn, ev, de, ds, db, kb, df, r1, r2, r3, r4, bel⟩ := H.out
            have C := all_five ds (zeros_length 5)
            rw [show St.read ⟨zeros 5, ps.take q, -1, false⟩ = settle (zeros 5) (ps.take (s + k)) from by rw [hq]; rfl] at C
            have HC := Lib.hid C
            clear d was ka dc dn ev de ds db kb df r1 r2 r3 r4 bel C
            go_wp2_with fail
            refine HC.out.mono ?_
            rintro e w29 ⟨A5, c5, rfl, r0, bx⟩
            clear HC
            obtain ⟨d, was, ka, dc, dn, ev, de, ds, db, kb, df, r1, r2, r3, r4, bel⟩ := H.out
            have d_ := d.below bx
            have was_ := was.up bx
            have ka_ := ka.below bx
            have dc_ := dc.below bx
            have dn_ := dn.below bx
            have ev_ := ev.below bx
            have de_ := de.below bx
            have ds_ := ds.below bx
            have db_ := db.below bx
            have kb_ := kb.below bx
            have df_ := df.below bx
            have r1_ := r1.up bx
            have r2_ := r2.up bx
            have r3_ := r3.up bx
            have r4_ := r4.up bx
            have bel_ := below_on bel (Nat.le_refl _) bx
            have r5_ := r0.now
            have H2 := Lib.hid (And.intro d_ (And.intro was_ (And.intro ka_ (And.intro dc_ (And.intro dn_ (And.intro ev_ (And.intro de_ (And.intro ds_ (And.intro db_ (And.intro kb_ (And.intro df_ (And.intro r1_ (And.intro r2_ (And.intro r3_ (And.intro r4_ (And.intro r5_ bel_))))))))))))))))
            clear d was ka dc dn ev de ds db kb df r1 r2 r3 r4 bel H d_ was_ ka_ dc_ dn_ ev_ de_ ds_ db_ kb_ df_ r1_ r2_ r3_ r4_ r5_ bel_ bx
            have H := Lib.hid H2.out
            clear H2
            clear r0
            obtain ⟨d, was, ka, dc, dn, ev, de, ds, db, kb, df, r1, r2, r3, r4, r5, bel⟩ := H.out
            have C := sameLists_yes A4 A5 5 c4 c5 (settle (zeros 5) (ps.take (s + k))) w29 r4 r5 (by decide)
            have HC := Lib.hid C
            clear d was ka dc dn ev de ds db kb df r1 r2 r3 r4 r5 bel C
            go_wp2_with fail
            refine HC.out.mono ?_
            rintro e w30 ⟨rfl, qx, hx⟩
            clear HC
            have bx : Below w29.heap.size w29 w30 := hx ▸ drewN_below w29 qx
            obtain ⟨d, was, ka, dc, dn, ev, de, ds, db, kb, df, r1, r2, r3, r4, r5, bel⟩ := H.out
            have d_ := d.below bx
            have was_ := was.up bx
            have ka_ := ka.below bx
            have dc_ := dc.below bx
            have dn_ := dn.below bx
            have ev_ := ev.below bx
            have de_ := de.below bx
            have ds_ := ds.below bx
            have db_ := db.below bx
            have kb_ := kb.below bx
            have df_ := df.below bx
            have r1_ := r1.up bx
            have r2_ := r2.up bx
            have r3_ := r3.up bx
            have r4_ := r4.up bx
            have r5_ := r5.up bx
            have bel_ := below_on bel (Nat.le_refl _) bx
            have H2 := Lib.hid (And.intro d_ (And.intro was_ (And.intro ka_ (And.intro dc_ (And.intro dn_ (And.intro ev_ (And.intro de_ (And.intro ds_ (And.intro db_ (And.intro kb_ (And.intro df_ (And.intro r1_ (And.intro r2_ (And.intro r3_ (And.intro r4_ (And.intro r5_ bel_))))))))))))))))
            clear d was ka dc dn ev de ds db kb df r1 r2 r3 r4 r5 bel H d_ was_ ka_ dc_ dn_ ev_ de_ ds_ db_ kb_ df_ r1_ r2_ r3_ r4_ r5_ bel_ bx
            have H := Lib.hid H2.out
            clear H2
            clear hx
            obtain ⟨d, was, ka, dc, dn, ev, de, ds, db, kb, df, r1, r2, r3, r4, r5, bel⟩ := H.out
            have C := all_five dn (fresh_five (settle_five _))
            rw [show (fresh _).read = _ from rfl] at C
            have HC := Lib.hid C
            clear d was ka dc dn ev de ds db kb df r1 r2 r3 r4 r5 bel C
            go_wp2_with fail
            refine HC.out.mono ?_
            rintro e w31 ⟨A6, c6, rfl, r0, bx⟩
            clear HC
            obtain ⟨d, was, ka, dc, dn, ev, de, ds, db, kb, df, r1, r2, r3, r4, r5, bel⟩ := H.out
            have d_ := d.below bx
            have was_ := was.up bx
            have ka_ := ka.below bx
            have dc_ := dc.below bx
            have dn_ := dn.below bx
            have ev_ := ev.below bx
            have de_ := de.below bx
            have ds_ := ds.below bx
            have db_ := db.below bx
            have kb_ := kb.below bx
            have df_ := df.below bx
            have r1_ := r1.up bx
            have r2_ := r2.up bx
            have r3_ := r3.up bx
            have r4_ := r4.up bx
            have r5_ := r5.up bx
            have bel_ := below_on bel (Nat.le_refl _) bx
            have r6_ := r0.now
            have H2 := Lib.hid (And.intro d_ (And.intro was_ (And.intro ka_ (And.intro dc_ (And.intro dn_ (And.intro ev_ (And.intro de_ (And.intro ds_ (And.intro db_ (And.intro kb_ (And.intro df_ (And.intro r1_ (And.intro r2_ (And.intro r3_ (And.intro r4_ (And.intro r5_ (And.intro r6_ bel_)))))))))))))))))
            clear d was ka dc dn ev de ds db kb df r1 r2 r3 r4 r5 bel H d_ was_ ka_ dc_ dn_ ev_ de_ ds_ db_ kb_ df_ r1_ r2_ r3_ r4_ r5_ r6_ bel_ bx
            have H := Lib.hid H2.out
            clear H2
            clear r0
            obtain ⟨d, was, ka, dc, dn, ev, de, ds, db, kb, df, r1, r2, r3, r4, r5, r6, bel⟩ := H.out
            have C := all_five db (zeros_length 5)
            rw [show St.read ⟨zeros 5, ps.take s, -1, false⟩ = settle (zeros 5) (ps.take s) from rfl] at C
            have HC := Lib.hid C
            clear d was ka dc dn ev de ds db kb df r1 r2 r3 r4 r5 r6 bel C
            go_wp2_with fail
            refine HC.out.mono ?_
            rintro e w32 ⟨A7, c7, rfl, r0, bx⟩
            clear HC
            obtain ⟨d, was, ka, dc, dn, ev, de, ds, db, kb, df, r1, r2, r3, r4, r5, r6, bel⟩ := H.out
            have d_ := d.below bx
            have was_ := was.up bx
            have ka_ := ka.below bx
            have dc_ := dc.below bx
            have dn_ := dn.below bx
            have ev_ := ev.below bx
            have de_ := de.below bx
            have ds_ := ds.below bx
            have db_ := db.below bx
            have kb_ := kb.below bx
            have df_ := df.below bx
            have r1_ := r1.up bx
            have r2_ := r2.up bx
            have r3_ := r3.up bx
            have r4_ := r4.up bx
            have r5_ := r5.up bx
            have r6_ := r6.up bx
            have bel_ := below_on bel (Nat.le_refl _) bx
            have r7_ := r0.now
            have H2 := Lib.hid (And.intro d_ (And.intro was_ (And.intro ka_ (And.intro dc_ (And.intro dn_ (And.intro ev_ (And.intro de_ (And.intro ds_ (And.intro db_ (And.intro kb_ (And.intro df_ (And.intro r1_ (And.intro r2_ (And.intro r3_ (And.intro r4_ (And.intro r5_ (And.intro r6_ (And.intro r7_ bel_))))))))))))))))))
            clear d was ka dc dn ev de ds db kb df r1 r2 r3 r4 r5 r6 bel H d_ was_ ka_ dc_ dn_ ev_ de_ ds_ db_ kb_ df_ r1_ r2_ r3_ r4_ r5_ r6_ r7_ bel_ bx
            have H := Lib.hid H2.out
            clear H2
            clear r0
            obtain ⟨d, was, ka, dc, dn, ev, de, ds, db, kb, df, r1, r2, r3, r4, r5, r6, r7, bel⟩ := H.out
            have C := sameLists_yes A6 A7 5 c6 c7 (settle (zeros 5) (ps.take s)) w32 r6 r7 (by decide)
            have HC := Lib.hid C
            clear d was ka dc dn ev de ds db kb df r1 r2 r3 r4 r5 r6 r7 bel C
            go_wp2_with fail
            refine HC.out.mono ?_
            rintro e w33 ⟨rfl, qx, hx⟩
            clear HC
            have bx : Below w32.heap.size w32 w33 := hx ▸ drewN_below w32 qx
            obtain ⟨d, was, ka, dc, dn, ev, de, ds, db, kb, df, r1, r2, r3, r4, r5, r6, r7, bel⟩ := H.out
            have d_ := d.below bx
            have was_ := was.up bx
            have ka_ := ka.below bx
            have dc_ := dc.below bx
            have dn_ := dn.below bx
            have ev_ := ev.below bx
            have de_ := de.below bx
            have ds_ := ds.below bx
            have db_ := db.below bx
            have kb_ := kb.below bx
            have df_ := df.below bx
            have r1_ := r1.up bx
            have r2_ := r2.up bx
            have r3_ := r3.up bx
            have r4_ := r4.up bx
            have r5_ := r5.up bx
            have r6_ := r6.up bx
            have r7_ := r7.up bx
            have bel_ := below_on bel (Nat.le_refl _) bx
            have H2 := Lib.hid (And.intro d_ (And.intro was_ (And.intro ka_ (And.intro dc_ (And.intro dn_ (And.intro ev_ (And.intro de_ (And.intro ds_ (And.intro db_ (And.intro kb_ (And.intro df_ (And.intro r1_ (And.intro r2_ (And.intro r3_ (And.intro r4_ (And.intro r5_ (And.intro r6_ (And.intro r7_ bel_))))))))))))))))))
            clear d was ka dc dn ev de ds db kb df r1 r2 r3 r4 r5 r6 r7 bel H d_ was_ ka_ dc_ dn_ ev_ de_ ds_ db_ kb_ df_ r1_ r2_ r3_ r4_ r5_ r6_ r7_ bel_ bx
            have H := Lib.hid H2.out
            clear H2
            clear hx
            obtain ⟨d, was, ka, dc, dn, ev, de, ds, db, kb, df, r1, r2, r3, r4, r5, r6, r7, bel⟩ := H.out
            have C := all_five d (settle_five _)
            rw [lst_read] at C
            have HC := Lib.hid C
            clear d was ka dc dn ev de ds db kb df r1 r2 r3 r4 r5 r6 r7 bel C
            go_wp2_with fail
            refine HC.out.mono ?_
            rintro e w34 ⟨A8, c8, rfl, r0, bx⟩
            clear HC
            obtain ⟨d, was, ka, dc, dn, ev, de, ds, db, kb, df, r1, r2, r3, r4, r5, r6, r7, bel⟩ := H.out
            have d_ := d.below bx
            have was_ := was.up bx
            have ka_ := ka.below bx
            have dc_ := dc.below bx
            have dn_ := dn.below bx
            have ev_ := ev.below bx
            have de_ := de.below bx
            have ds_ := ds.below bx
            have db_ := db.below bx
            have kb_ := kb.below bx
            have df_ := df.below bx
            have r1_ := r1.up bx
            have r2_ := r2.up bx
            have r3_ := r3.up bx
            have r4_ := r4.up bx
            have r5_ := r5.up bx
            have r6_ := r6.up bx
            have r7_ := r7.up bx
            have bel_ := below_on bel (Nat.le_refl _) bx
            have r8_ := r0.now
            have H2 := Lib.hid (And.intro d_ (And.intro was_ (And.intro ka_ (And.intro dc_ (And.intro dn_ (And.intro ev_ (And.intro de_ (And.intro ds_ (And.intro db_ (And.intro kb_ (And.intro df_ (And.intro r1_ (And.intro r2_ (And.intro r3_ (And.intro r4_ (And.intro r5_ (And.intro r6_ (And.intro r7_ (And.intro r8_ bel_)))))))))))))))))))
            clear d was ka dc dn ev de ds db kb df r1 r2 r3 r4 r5 r6 r7 bel H d_ was_ ka_ dc_ dn_ ev_ de_ ds_ db_ kb_ df_ r1_ r2_ r3_ r4_ r5_ r6_ r7_ r8_ bel_ bx
            have H := Lib.hid H2.out
            clear H2
            clear r0
            obtain ⟨d, was, ka, dc, dn, ev, de, ds, db, kb, df, r1, r2, r3, r4, r5, r6, r7, r8, bel⟩ := H.out
            have C := sameLists_yes A8 Aw 5 c8 cw (settle (zeros 5) ps) w34 r8 was (by decide)
            have HC := Lib.hid C
            clear d was ka dc dn ev de ds db kb df r1 r2 r3 r4 r5 r6 r7 r8 bel C
            go_wp2_with fail
            refine HC.out.mono ?_
            rintro e w35 ⟨rfl, qx, hx⟩
            clear HC
            have bx : Below w34.heap.size w34 w35 := hx ▸ drewN_below w34 qx
            obtain ⟨d, was, ka, dc, dn, ev, de, ds, db, kb, df, r1, r2, r3, r4, r5, r6, r7, r8, bel⟩ := H.out
            have d_ := d.below bx
            have was_ := was.up bx
            have ka_ := ka.below bx
            have dc_ := dc.below bx
            have dn_ := dn.below bx
            have ev_ := ev.below bx
            have de_ := de.below bx
            have ds_ := ds.below bx
            have db_ := db.below bx
            have kb_ := kb.below bx
            have df_ := df.below bx
            have r1_ := r1.up bx
            have r2_ := r2.up bx
            have r3_ := r3.up bx
            have r4_ := r4.up bx
            have r5_ := r5.up bx
            have r6_ := r6.up bx
            have r7_ := r7.up bx
            have r8_ := r8.up bx
            have bel_ := below_on bel (Nat.le_refl _) bx
            have H2 := Lib.hid (And.intro d_ (And.intro was_ (And.intro ka_ (And.intro dc_ (And.intro dn_ (And.intro ev_ (And.intro de_ (And.intro ds_ (And.intro db_ (And.intro kb_ (And.intro df_ (And.intro r1_ (And.intro r2_ (And.intro r3_ (And.intro r4_ (And.intro r5_ (And.intro r6_ (And.intro r7_ (And.intro r8_ bel_)))))))))))))))))))
            clear d was ka dc dn ev de ds db kb df r1 r2 r3 r4 r5 r6 r7 r8 bel H d_ was_ ka_ dc_ dn_ ev_ de_ ds_ db_ kb_ df_ r1_ r2_ r3_ r4_ r5_ r6_ r7_ r8_ bel_ bx
            have H := Lib.hid H2.out
            clear H2
            clear hx
            obtain ⟨d, was, ka, dc, dn, ev, de, ds, db, kb, df, r1, r2, r3, r4, r5, r6, r7, r8, bel⟩ := H.out
            obtain ⟨Fd, dd, _⟩ := d
            have C := waits_any dd
            rw [show ((lst ps s).waits.length : Int) = (n : Int) - (s : Int) from by show (((ps.drop s).length : Nat) : Int) = _; rw [List.length_drop, hpl]; omega] at C
            have HB := Lib.hid bel
            clear was ka dc dn ev de ds db kb df r1 r2 r3 r4 r5 r6 r7 r8 bel dd H
            go_wp2_with fail
            refine C.mono ?_
            rintro e w36 ⟨rfl, rfl⟩
            go_wp2
            go_ret
            exact ⟨rfl, HB.out⟩

end Go.Proofs.Ytolbchknjcipiaa
