/-
  The document's Of.
-/
import Derived.Test.YtnaebjdccngeoaaDoorRefTake
import Derived.Test.YtnaebjdccngeoaaDoorRefEnd
import Derived.Test.YtnaebjdccngeoaaDoorRefSum
import Derived.Test.YtnaebjdccngeoaaDoorShaSum
import Derived.Test.YtnaebjdccngeoaaDoorLQuietTail
namespace Go.Proofs.YtnaebjdccngeoaaDoor
open Go.RowKit

theorem own_below {w w' : World} {base : Nat} {e : TypeId} {size : Nat} {v : Value} {n : Nat} {xs : List Value} (h : w.ownsRow base e size v n xs) (hb : Below w.heap.size w w') : w'.ownsRow base e size v n xs := by
  refine ⟨h.1, ?_⟩
  rcases h.2 with ⟨e1, h0⟩ | ⟨g, cap, cur, e1, h1, hg, h2⟩
  · exact .inl ⟨e1, h0⟩
  · exact .inr ⟨g, cap, cur, e1, h1, (hb.block g (Array.getElem?_eq_some_iff.1 hg).1).trans hg, h2⟩

/-- 's[k:k+64]'. -/
theorem run_cut64 {ad : Addr} {n c k : Nat} (hk : k + 64 ≤ n) (hc : n ≤ c) (W : World) :
    (Instr.slice 23 (.slice (some ad) n c) (some (.int .i64 (k : Int))) (some (.int .i64 ((k : Int) + 64))) none).run Tryd.prog W = .ok (.slice (some (ad.add k)) 64 (c - k)) W := by
  obtain ⟨i0, hi, hz0, hz1, hz2⟩ := info_parts infoByte
  have he : Tryd.prog.elem 23 = 5 := by kernel_rfl
  rw [run_slice_lh W 23 (some ad) n c (by rw [he]; exact Tryd.underlying23) .i64 .i64 (k : Int) ((k : Int) + 64) (by omega) (by omega) (by omega), he]
  have e1 : ((k : Int) + 64).toNat = k + 64 := by omega
  have e2 : ¬ c = k := by omega
  simp [sizeOf, typeInfo, hi, hz1, sliced, e1, e2]
theorem Arr.range {w : World} {g : Nat} {T : TypeId} {xs : List Nat} (h : Arr w g T xs) : w.rangeAt g 0 (uvs xs) := fun j v hv => by
  rw [Nat.zero_add, cell_of_row _ g j _ T (0, 0) h, List.getElem?_toArray, hv]
theorem Arr.storable {w : World} {g : Nat} {T : TypeId} {xs : List Nat} (h : Arr w g T xs) : w.there g 0 xs.length := fun j hj => by
  rw [Nat.zero_add]
  exact ⟨by rw [h.cell hj]; rfl, h.free j⟩
theorem whole_mod (xs : List Nat) : (xs ++ endL xs.length).length % 64 = 0 := by
  rw [List.length_append, endL_length]
  have := noughts_zero xs.length
  omega

set_option maxRecDepth 100000 in
set_option maxHeartbeats 1000000 in
theorem refOf_any (A : Option Addr) (n c : Nat) (xs : List Nat) (w : World) (hin : In w A n xs) (hx : ∀ x ∈ xs, x < 256) (hnil : A = none → c = 0) (hn : n ≤ 900000000) :
    Calls Tryd.prog 49 #[.slice A n c] w fun e w' => e = .returned (sv (sha xs)) ∧ Below w.heap.size w w' := by
  have HX := Lib.hid hx
  have HZ32 := Lib.hid (show zero32.length = 32 from rfl)
  clear hx
  have f1 := BArr.new w 36 zero32
  have b1 := below_alloc w (.cells (bvs zero32).toArray 36)
  have s1 : (w.alloc (.cells (bvs zero32).toArray 36)).heap.size = w.heap.size + 1 := World.size_alloc _ _
  have F1 := Lib.hid f1
  have B1 := Lib.hid b1
  have S1 := Lib.hid s1
  clear f1 b1 s1
  have hown0 : ∀ W : World, W.ownsRow (w.heap.size + 1) 5 1 (.slice none 0 0) 0 (bvs []) := fun W => ⟨rfl, .inl ⟨rfl, rfl⟩⟩
  have HO := Lib.hid hown0
  clear hown0
  go_enter Tryd.func49, Tryd.ntmps49
  go_wp2_with (at_builtin; refine wpList_app _ rfl (.const (.slice none 0 0)) (.tmp 6) rfl (w.heap.size + 1) none 0 0 [] rfl (HO.out _) A n c xs rfl (hin.below B1.out) hnil (by omega) (by rw [← S1.out]; exact Nat.le_refl _) ?_; intro A2 c2 w2 ho2 hb2)
  simp only [Nat.zero_add, List.nil_append] at ho2
  obtain ⟨E, hE⟩ : ∃ E, endL n = E := ⟨_, rfl⟩
  have hEl : E.length ≤ 73 := by rw [← hE, endL_length]; have := noughts_lt n; omega
  have hElt : ∀ x ∈ E, x < 256 := hE ▸ endL_lt n
  have hsha : sha xs = toldL (eaten h0 (xs ++ E) ((xs ++ E).length / 64)) := by rw [sha, hin.len, hE]
  have hmod : (xs ++ E).length % 64 = 0 := by rw [← hE, ← hin.len]; exact whole_mod xs
  have hlen : (xs ++ E).length = n + E.length := by rw [List.length_append, hin.len]
  have bel2 : Below w.heap.size w w2 := B1.out.trans (hb2.mono (by omega))
  have f2 : BArr w2 w.heap.size 36 zero32 := (hb2.block _ (by omega)).trans F1.out
  have C1 := Lib.hid (refEnd_any n w2 (by omega))
  rw [hE] at C1
  refine C1.out.mono ?_
  rintro e w3 ⟨A3, c3, rfl, ho3, hb3⟩
  have ho2' := own_below ho2 hb3
  have i3 : In w3 A3 E.length E := In.of_own ho3
  have n3 := own_nil ho3
  have z3 := hb3.size
  have z2 := bel2.size
  obtain ⟨m, hm⟩ : ∃ m, E.length = m := ⟨_, rfl⟩
  rw [hm] at i3 hlen hEl ⊢
  have HSh := Lib.hid (And.intro hsha (And.intro hmod (And.intro hlen hElt)))
  have HB3 := Lib.hid (And.intro (below_on bel2 (Nat.le_refl _) hb3) (f2.below hb3))
  clear hsha hmod hlen hElt hE hm ho3 C1 hb2 F1 B1
  have zb : w.heap.size + 1 ≤ w3.heap.size := by have := HB3.out.2.lt; omega
  go_wp2_with (at_builtin; refine wpList_app _ rfl (.tmp 7) (.tmp 10) rfl (w.heap.size + 1) A2 n c2 xs rfl ho2' A3 m c3 E rfl i3 n3 (by omega) zb ?_; intro A4 c4 w4 ho4 hb4)
  have bel4 : Below w.heap.size w w4 := HB3.out.1.trans (hb4.mono (by omega))
  have f4 : BArr w4 w.heap.size 36 zero32 := (hb4.block _ (by omega)).trans HB3.out.2
  have i4 : In w4 A4 (n + m) (xs ++ E) := In.of_own ho4
  have l4 := own_cap ho4
  have C2 := Lib.hid (refBegin_any w4)
  have HB4 := Lib.hid (And.intro bel4 (And.intro f4 i4))
  clear bel4 f4 i4 ho4 hb4 ho2 ho2' i3 n3 HB3 f2 bel2
  refine C2.out.mono ?_
  rintro e w5 ⟨rfl, hb5⟩
  have n1 := Arr.new w5 103 zero8
  rw [zero8_lit] at n1
  have HZ8 := Lib.hid (show zero8.length = 8 from rfl)
  have H0 := Lib.hid h0_length
  have HB5 := Lib.hid (And.intro (below_on HB4.out.1 (Nat.le_refl _) hb5) (And.intro (HB4.out.2.1.below hb5) (HB4.out.2.2.below hb5)))
  clear hb5 HB4 C2
  go_wp2_with (with_reducible refine wpList_storeE rfl (.tmp 4) (.tmp 12) rfl w5.heap.size rfl zero8 h0 HZ8 H0 n1 rfl ?_)
  obtain ⟨D, hD⟩ : ∃ D, w5.heap.size = D := ⟨_, rfl⟩
  have hDl : w.heap.size < D := hD ▸ HB5.out.2.1.lt
  have hOff : Off A4 (n + m) D := by
    intro h0' ad he
    obtain ⟨ad', x, e', _, hcell⟩ := HB5.out.2.2.at_ h0'
    rw [he] at e'
    cases e'
    have := World.block_lt_of_cell? w5 _ hcell
    rw [block_add] at this
    omega
  have n2 := n1.setRow h0
  have bb : Below w5.heap.size w5 ((w5.alloc (.cells #[.int .u32 0, .int .u32 0, .int .u32 0, .int .u32 0, .int .u32 0, .int .u32 0, .int .u32 0, .int .u32 0] 103)).setRow w5.heap.size (uvs h0).toArray) := below_setRow (below_alloc _ _) (Nat.le_refl _) _
  rw [hD] at n2
  have HN := Lib.hid (And.intro n2 (And.intro (below_on HB5.out.1 (Nat.le_refl _) bb) (And.intro (HB5.out.2.1.below bb) (HB5.out.2.2.below bb))))
  rw [hD]
  have HD := Lib.hid hD
  rw [hD] at HN
  clear n2 bb n1 HB5 hD
  go_loopw [5] (fun i wr => ∃ (k : Nat), 64 * k ≤ n + m ∧ i = .int .i64 ((64 * k : Nat) : Int) ∧ Arr wr D 103 (eaten h0 (xs ++ E) k) ∧ Below w.heap.size w wr ∧ BArr wr w.heap.size 36 zero32 ∧ In wr A4 (n + m) (xs ++ E)) (fun i _ => n + m - (intOf i).toNat)
  case atStart => exact ⟨0, by omega, rfl, HN.out.1, HN.out.2.1, HN.out.2.2.1, HN.out.2.2.2⟩
  case round =>
    clear HN
    obtain ⟨k, hk, rfl, aS, bel, fb, i4⟩ := hrel
    obtain ⟨q, hq⟩ : ∃ q, 64 * k = q := ⟨_, rfl⟩
    rw [hq] at hk ⊢
    have hmod := HSh.out.2.1
    rw [HSh.out.2.2.1] at hmod
    by_cases hlt : q < n + m
    · have h64 : q + 64 ≤ n + m := by omega
      obtain ⟨ad, _, rfl, _⟩ := i4.at_ (show 0 < n + m by omega)
      have hcut := run_cut64 (ad := ad) h64 l4
      have hblk : In wr (some (ad.add q)) 64 (((xs ++ E).drop q).take 64) := i4.drop_take h64
      have hb8 := eaten_length h0 (xs ++ E) h0_length k
      obtain ⟨P, hP⟩ : ∃ P, eaten h0 (xs ++ E) k = P := ⟨_, rfl⟩
      obtain ⟨Z, hZ⟩ : ∃ Z, ((xs ++ E).drop q).take 64 = Z := ⟨_, rfl⟩
      have hPl : ∀ x ∈ P, x < 4294967296 := hP ▸ eaten_lt _ _ h0_lt _
      have hZl : ∀ x ∈ Z, x < 256 := by
        intro x hx
        rw [← hZ] at hx
        exact bytes_append HX.out HSh.out.2.2.2 x (List.mem_of_mem_drop (List.mem_of_mem_take hx))
      rw [hP] at aS hb8
      rw [hZ] at hblk
      have hnext : eaten h0 (xs ++ E) (k + 1) = take16 P (words Z) := by rw [eaten, hq, hP, hZ]
      have HNx := Lib.hid (And.intro hnext (And.intro hq hPl))
      have H8 := Lib.hid hb8
      have HAll := Lib.hid (And.intro aS (And.intro bel (And.intro fb (And.intro i4 (And.intro hblk hZl)))))
      clear hnext hP hZ hPl hb8 hq hZl aS bel fb i4 hblk hmod
      have hqi : (q : Int) < (n : Int) + (m : Int) := by omega
      have hw64 : IntKind.i64.wrap ((q : Int) + 64) = (q : Int) + 64 := IntWalk.i64_in _ (by omega)
      go_wp2
      refine wp_region_quiet_tail (C := fun w' => Below wr.heap.size wr w') 7 (by kernel_rfl) (by kernel_rfl) ((Below.refl _ _).drew) ?_
      simp only [List.take_succ_cons, List.take_zero, List.drop_succ_cons, List.drop_zero]
      refine wpQuiet_step (fun K hK => ?_)
      refine quiet_load_mid rfl 103 (.tmp 4) rfl D 0 rfl (uvs P) _ Tryd.underlying103 rfl (by rw [uvs_length, H8.out]; exact infoE) (fun W hC => (HAll.out.1.below hC).range) (hK _ ?_)
      clear hK K
      repeat (refine wpQuiet_step (fun K hK => ?_); go_simp; refine ⟨_, fun _ _ => rfl, hK _ ?_⟩; clear hK K)
      refine wpQuiet_step (fun K hK => ?_)
      go_simp
      refine ⟨.agg (uvs (take16 P (words Z))).toArray, fun W hC => ?_, hK _ ?_⟩
      · exact (refTake_any P Z _ _ W H8.out HNx.out.2.2 (HAll.out.2.2.2.2.1.below hC) HAll.out.2.2.2.2.2).mono fun e w'' ⟨he, hb⟩ => ⟨he, below_on hC (Nat.le_refl _) hb⟩
      clear hK K
      refine wpQuiet_nil ?_
      intro w6 hb6
      have hS8 := take16_length P (words Z) H8.out
      have HS8 := Lib.hid hS8
      have a6 := HAll.out.1.below hb6
      clear hS8
      have HA6 := Lib.hid a6
      refine wpList_storeE rfl (.tmp 4) (.tmp 25) rfl D rfl P (take16 P (words Z)) H8 HS8 a6 rfl ?_
      clear a6
      go_wp2
      go_roundw
      case rel =>
        refine ⟨k + 1, by have := HNx.out.2.1; omega, ?_, ?_, ?_, ?_, ?_⟩
        · have := HNx.out.2.1
          show Value.int .i64 ((q : Int) + 64) = _
          congr 1
          omega
        · rw [HNx.out.1]
          exact HA6.out.setRow _
        · exact below_setRow (below_on HAll.out.2.1 (Nat.le_refl _) hb6) (by omega) _
        · exact (HAll.out.2.2.1.below hb6).setRow_other _ (by omega) _
        · exact (HAll.out.2.2.2.1.below hb6).only ((Only.refl D w6).setRow _) hOff
      case measure => simp [intOf]; omega
    · have hk2 : (xs ++ E).length / 64 = k := by rw [HSh.out.2.2.1]; omega
      have hsha := HSh.out.1
      rw [hk2] at hsha
      obtain ⟨P, hP⟩ : ∃ P, eaten h0 (xs ++ E) k = P := ⟨_, rfl⟩
      have hP8 : P.length = 8 := hP ▸ eaten_length _ _ h0_length _
      have hPl : ∀ x ∈ P, x < 4294967296 := hP ▸ eaten_lt _ _ h0_lt _
      rw [hP] at aS hsha
      have H8 := Lib.hid hP8
      have HE := Lib.hid hsha
      have HPl := Lib.hid hPl
      have HF := Lib.hid (And.intro bel fb)
      have hl32 : (toldL P).length = 32 := by rw [toldL_length, hP8]
      clear hP hP8 hPl hk2 hsha hmod i4 bel fb hq
      have hqn : ¬ (q : Int) < (n : Int) + (m : Int) := by omega
      have hqd : decide ((q : Int) < (n : Int) + (m : Int)) = false := by simpa using hqn
      go_wp2_with (with_reducible refine wpList_loadE rfl (.tmp 4) rfl D rfl P H8 aS ?_)
      refine (refSum_any P wr H8.out HPl.out).mono ?_
      rintro e w6 ⟨rfl, hb6⟩
      have f6 := HF.out.2.below hb6
      go_wp2_with (with_reducible refine wpList_store_sum rfl (.tmp 2) (.tmp 27) rfl w.heap.size rfl zero32 (toldL P) HZ32 hl32 f6 rfl ?_)
      refine bodyPost_ret_by (results_cell_row (p := 2) (ty := 36) (by kernel_rfl) _ _ w.heap.size 36 (bvs (toldL P)).toArray (0, 0) _ rfl (f6.setRow _) Tryd.underlying36 rfl (by rw [List.size_toArray, bvs_length, hl32]; exact sizeSum)) rfl ?_
      exact ⟨by rw [HE.out]; rfl, below_setRow (below_on HF.out.1 (Nat.le_refl _) hb6) (Nat.le_refl _) _⟩

end Go.Proofs.YtnaebjdccngeoaaDoor
