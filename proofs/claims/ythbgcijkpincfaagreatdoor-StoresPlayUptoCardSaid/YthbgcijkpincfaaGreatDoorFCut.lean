/-
  frames.cut.
-/
import Derived.Test.YthbgcijkpincfaaGreatDoorFStage
import Derived.StillTailTactics
import Derived.Deep.QuietTactic
import Derived.BigQuiet
import Derived.Laws.EntriesVeiled
namespace Go.Proofs.YthbgcijkpincfaaGreatDoor
open Go.RowKit

/-- Two results, of which the first lies in memory. -/
theorem results_frame {P : Program} {fn : Func} {p q : Tmp} {ty : TypeId} (h : fn.results = #[.cell p ty, .tmp q]) (tmps : Array Value) (w : World) (ad : Addr) (v : Value)
    (hp : tmps.getD p undef = .pointer (some ad)) (hl : (loadVar ty ad).run P w = .ok v w) : (results fn tmps).run P w = .ok (.tuple #[v, tmps.getD q undef]) w := by
  have hp' : tmps[p]?.getD undef = .pointer (some ad) := by simpa using hp
  simp [results, h, hp', asAddr, hl]

theorem Fr.ne_err {w : World} {R g : Nat} {num cnt sum : Nat} {r : Value} {t : TypeId} {v : Value} (h : Fr w R num cnt sum r) (hg : Hid (w.cell? ⟨g, 0, none⟩ = some (.iface t v))) : g ≠ R := by
  rintro rfl
  have h1 := h.c0
  rw [hg.out] at h1
  injection h1 with h1
  cases h1
theorem Pts.drewn {W : World} {G B : Nat} (h : Pts W G B) : Pts W.drew G B := ⟨h.row, h.b0, h.b1, h.b2, h.b3⟩
theorem Pts.only {W W' : World} {G B F : Nat} (h : Pts W G B) (hb : OnlyF F W W') (hG : F < G) (hB : F < B) : Pts W' G B :=
  ⟨(hb.block G h.lt (by show ¬ G = F; omega)).trans h.row, (hb.block _ h.b0.lt (by show ¬ B = F; omega)).trans h.b0, (hb.block _ h.b1.lt (by show ¬ B + 1 = F; omega)).trans h.b1, (hb.block _ h.b2.lt (by show ¬ B + 2 = F; omega)).trans h.b2, (hb.block _ h.b3.lt (by show ¬ B + 3 = F; omega)).trans h.b3⟩
theorem plain_any {ty : TypeId} {d : TypeDesc} (hu : Tryz.prog.underlying ty = some d) (hd : (match d with | .struct _ | .array _ _ => true | _ => false) = false) (w : World) : (isAgg ty).run Tryz.prog w = .ok false w := by
  unfold isAgg
  rw [Sem.run_bind, run_underlying hu w]
  cases d <;> first | rfl | cases hd
/-- One cell is read, in every world of a class. -/
theorem quiet_load_at {ops : Array Oper} {o : Oper} {a : Act} {C : World → Prop} {K : Act → Prop} {E : Prop} (hw : Region.wanted o (yielded ops a.tmps) = true) (ty : TypeId) (hagg : ∀ w, (isAgg ty).run Tryz.prog w = .ok false w) (x : Operand) (ho : o.op = .load ty x)
    (ad : Addr) (hx : a.eval x = .pointer (some ad)) (v : Value) (hc : ∀ w, C w → w.cell? ad = some v) (h : K (a.put o.dst v)) :
    if Region.wanted o (yielded ops a.tmps) = true then o.quiet Tryz.prog a C K else E := by
  rw [if_pos hw]
  refine ⟨v, fun w hC => ?_, h⟩
  unfold Oper.quietAt execOp
  have hl : (loadVar ty ad).run Tryz.prog w = .ok v w := by simp [loadVar, Sem.run_bind, hagg, hc w hC]
  simp only [ho, hx, Instr.loadAt, Instr.sureAddr, Sem.run_bind, Sem.run_pure, Result.andThen_ok, hl]
  exact ⟨rfl, rfl⟩
theorem infoFrame : (Tryz.prog.info? 275).map (·.size) = some 4 := by kernel_rfl
theorem frame_one (num cnt sum : Nat) (Ar : Option Addr) (nr cr : Nat) : (#[Value.int .u64 (num : Int), .int .i64 (cnt : Int), .int .u64 (sum : Int), .slice Ar nr cr].all fun x => x.oneCell') = true := by simp [Value.oneCell']

structure Cutting (E : Errs) (xs : List Nat) (n : Nat) (w0 : World) (F R G B : Nat) (j : Nat) (b : Value) (W : World) : Prop where
  bel : Below w0.heap.size w0 W
  fr : ∃ P num cnt sum r, Fr W F num cnt sum r ∧ (∃ Ar nr cr, r = .slice Ar nr cr) ∧ Stage xs n w0 j P num cnt sum r ∧ ∃ A m d, b = .slice A m d ∧ m + P = n ∧ m ≤ d ∧ In w0 A m (xs.drop P) ∧ (A = none → m = 0)
  res : Fr W R 0 0 0 (.slice none 0 0)
  pts : Pts W G B

/-- What cut answers. -/
def CutPost (E : Errs) (xs : List Nat) (w : World) (e : Ending) (w' : World) : Prop :=
  Below w.heap.size w w' ∧ ((∃ b fv, (∃ (num cnt sum : Nat) (A : Option Addr) (n c : Nat), fv = .agg #[.int .u64 (num : Int), .int .i64 (cnt : Int), .int .u64 (sum : Int), .slice A n c]) ∧ cutL xs = some b ∧ e = .returned (.tuple #[fv, E.val b])) ∨
    (cutL xs = none ∧ ∃ R cR, e = .returned (.tuple #[.agg #[.int .u64 (numOf xs : Int), .int .i64 (cntOf xs : Int), .int .u64 (sumIn xs : Int), .slice R (cntOf xs) cR], .nilIface]) ∧ cntOf xs ≤ cR ∧ In w R (cntOf xs) (recOf xs)))

set_option maxRecDepth 100000 in
set_option maxHeartbeats 4000000 in
theorem cut_long (E : Errs) (A : Option Addr) (n c : Nat) (xs : List Nat) (w : World) (hE : Laid w E) (hin : In w A n xs) (hx : ∀ x ∈ xs, x < 256) (hA : A = none → n = 0) (hnc : n ≤ c) (hc : n ≤ 1000000000000) (h64 : ¬ n < 64) :
    Calls Tryz.prog 238 #[.slice A n c] w (CutPost E xs w) := by
  have HP := fun W => parts_any W
  have H0 := Lib.hid (And.intro hE (And.intro hin (And.intro hx hA)))
  clear hE hin hx hA
  go_enter Tryz.func238, Tryz.ntmps238
  go_wp2_with fail
  refine (HP _).mono ?_
  rintro e w1 ⟨rfl, hp1, hb1⟩
  rw [World.size_alloc, World.size_alloc] at hp1
  have k0 : Cutting E xs n w (w.heap.size + 1) w.heap.size (w.heap.size + 1 + 1 + 4) (w.heap.size + 1 + 1) 0 (.slice A n c) w1 := by
    have kb : Below w.heap.size w w1 := below_on (below_on (below_alloc w _) (Nat.le_refl _) (below_alloc _ _)) (Nat.le_refl _) hb1
    have f1 := Fr.new (w.alloc (.cells #[.int .u64 0, .int .i64 0, .int .u64 0, .slice none 0 0] 275))
    rw [World.size_alloc] at f1
    exact ⟨kb, ⟨0, 0, 0, 0, _, f1.below hb1, ⟨_, _, _, rfl⟩, .inl ⟨rfl, rfl⟩, A, n, c, rfl, rfl, hnc, H0.out.2.1, H0.out.2.2.2⟩, ((Fr.new w).below (below_alloc _ _)).below hb1, hp1⟩
  clear hp1 hb1 HP
  obtain ⟨F, hF⟩ : ∃ F, w.heap.size + 1 = F := ⟨_, rfl⟩
  obtain ⟨R, hR⟩ : ∃ R, w.heap.size = R := ⟨_, rfl⟩
  obtain ⟨G, hG⟩ : ∃ G, F + 1 + 4 = G := ⟨_, rfl⟩
  obtain ⟨B, hB⟩ : ∃ B, F + 1 = B := ⟨_, rfl⟩
  rw [hF, hR, hG, hB] at k0
  have HS := Lib.hid (And.intro hF (And.intro hR (And.intro hG hB)))
  clear hF hR hG hB
  go_wp2_with fail
  rw [HS.out.1, HS.out.2.1, HS.out.2.2.1]
  go_loopw [0, 16] (fun b i wr => ∃ j : Nat, j ≤ 6 ∧ i = .int .i64 (j : Int) ∧ Cutting E xs n w F R G B j b wr) (fun _ i _ => 6 - (intOf i).toNat)
  case atStart => exact ⟨0, Nat.zero_le _, rfl, k0⟩
  case round =>
    obtain ⟨j, hj, rfl, K⟩ := hrel
    obtain ⟨P, num, cnt, sum, r, fr, ⟨Ar, nr, cr, rfl⟩, st, A1, m, d, rfl, hmP, hmd, hb, hA1⟩ := K.fr
    by_cases hj6 : j < 6
    · obtain ⟨f1, f2, caps, args, k, pt⟩ := part_of E xs n F G B j P num cnt sum m _ A1 wr (H0.out.1.below K.bel) H0.out.2.2.1 H0.out.2.1.len h64 K.pts fr w K.bel st hj6 hmP hb hA1 ⟨_, _, _, rfl⟩
      have g0 := pt.c0
      have g1 := pt.c1
      have r1 := pt.r1
      have r2 := pt.r2
      have ar := pt.ar
      have hjl : (j : Int) < 6 := by omega
      have HK := Lib.hid (And.intro K (And.intro fr (And.intro hb (And.intro st pt))))
      have HM := Lib.hid (And.intro hmP (And.intro hmd hA1))
      clear K fr hb st pt hmP hmd hA1
      go_wp2_with fail
      have hsz := HK.out.2.2.2.2.size _ (below_alloc wr (.cells #[.func (.func f1) #[] caps, .func (.func f2) #[] #[]] 319))
      have hW0 : (wr.alloc (.cells #[.func (.func f1) #[] caps, .func (.func f2) #[] #[]] 319)).heap[wr.heap.size]? = some (.cells #[.func (.func f1) #[] caps, .func (.func f2) #[] #[]] 319 (0, 0)) := World.alloc_heap_new wr _
      have hW1 := below_alloc wr (.cells #[.func (.func f1) #[] caps, .func (.func f2) #[] #[]] 319)
      have hW3 := World.size_alloc wr (.cells #[.func (.func f1) #[] caps, .func (.func f2) #[] #[]] 319)
      obtain ⟨W2, hW2⟩ : ∃ W2, wr.alloc (.cells #[.func (.func f1) #[] caps, .func (.func f2) #[] #[]] 319) = W2 := ⟨_, rfl⟩
      rw [hW2] at hsz hW0 hW1 hW3 ⊢
      clear hW2
      obtain ⟨T, hT⟩ : ∃ T, wr.heap.size = T := ⟨_, rfl⟩
      rw [hT] at hW0 ⊢
      have p1 : W2.cell? ⟨T, 1, none⟩ = some (.func (.func f2) #[] #[]) := by rw [cell_of_row _ T 1 _ _ _ hW0]; rfl
      have HT := Lib.hid (And.intro hT (And.intro hW0 (And.intro hW1 hW3)))
      clear hT hW0 hW1 hW3
      refine hsz.mono ?_
      rintro e w2 ⟨rfl, rfl⟩
      clear hsz g0 g1
      have hfr := HK.out.2.1.below HT.out.2.2.1
      have hres := HK.out.1.res.below HT.out.2.2.1
      have q0 := hfr.c0
      have q1 := hfr.c1
      have q2 := hfr.c2
      have q3 := hfr.c3
      have hgs := ((H0.out.1.below HK.out.1.bel).below HT.out.2.2.1).gs
      have e0 := hres.c0
      have e1 := hres.c1
      have e2 := hres.c2
      have e3 := hres.c3
      have fz := hres.free
      have hRg : ∀ v0 v1 v2 v3, ((((W2.setCell ⟨R, 0, none⟩ v0).setCell ⟨R, 1, none⟩ v1).setCell ⟨R, 2, none⟩ v2).setCell ⟨R, 3, none⟩ v3).cell? ⟨2, 0, none⟩ = some (.iface 372 (.pointer (some E.s))) := fun v0 v1 v2 v3 => by
        rw [World.cell?_of_block (show _ = W2.heap[(2 : Nat)]? from ?_)]
        · exact hgs
        · have hne : (2 : Nat) ≠ R := hres.ne_err (Lib.hid hgs)
          rw [heap_setCell_other _ _ _ _ hne, heap_setCell_other _ _ _ _ hne, heap_setCell_other _ _ _ _ hne, heap_setCell_other _ _ _ _ hne]
      have hRw : w.heap.size ≤ R := Nat.le_of_eq HS.out.2.1
      have HB2 : Hid (Below w.heap.size w W2) := below_on HK.out.1.bel (Nat.le_refl _) HT.out.2.2.1
      by_cases hk : m < k
      · have hki : (m : Int) < (k : Int) := by omega
        go_wp2_with fail
        go_region
        go_wp2_with fail
        refine bodyPost_ret_by (results_frame (p := 2) (q := 3) (ty := 275) (by kernel_rfl) _ _ ⟨R, 0, none⟩ _ rfl (run_loadVar_row (P := Tryz.prog) _ R 275 275 _ (0, 0) _ ((((hres.set0 num).set1 cnt).set2 sum).set3 (.slice Ar nr cr)) Tryz.underlying275 rfl infoFrame)) rfl ?_
        exact ⟨((((HB2.out.setCell hRw _).setCell hRw _).setCell hRw _).setCell hRw _).drew, .inl ⟨.short, _, ⟨_, _, _, _, _, _, rfl⟩, HK.out.2.2.2.2.short hk, rfl⟩⟩
      · have hki : ¬ ((m : Int) < (k : Int)) := by omega
        have hkm : (k : Int) ≤ (m : Int) := by omega
        have hk' : k ≤ m := by omega
        have hkd : k ≤ d := Nat.le_trans hk' HM.out.2.1
        have hkdi : (k : Int) ≤ (d : Int) := by omega
        have C2 := Lib.hid (HK.out.2.2.2.2.take hk' W2.drew d (HT.out.2.2.1.drew) hkd)
        clear hRg e0 e1 e2 e3 q0 q1 q2 q3 fz hgs
        go_wp2_with fail
        go_still_tail 5, (by kernel_rfl)
        go_wp2_with fail
        refine C2.out.mono ?_
        rintro e w3 ⟨hbut, num', cnt', sum', r', fr', ⟨Ar', nr', cr', rfl⟩, hend⟩
        have hFR : ¬ R = F := by have := HS.out.1; have := HS.out.2.1; omega
        have hres3 : Fr w3 R 0 0 0 (.slice none 0 0) := (hbut.block R (by have := hres.lt; exact this) hFR).trans hres
        have HB3 : Hid (Below w.heap.size w w3) := (HB2.out.drew).trans (hbut.below (show w.heap.size ≤ W2.drew.heap.size from HB2.out.size) (fun b hb => by have := HS.out.1; show w.heap.size ≤ b; rw [hb]; omega))
        have HX := Lib.hid (And.intro hbut (And.intro fr' hres3))
        rcases hend with ⟨b, hcut, rfl⟩ | ⟨rfl, st'⟩
        · have q0 := fr'.c0
          have q1 := fr'.c1
          have q2 := fr'.c2
          have q3 := fr'.c3
          have e0 := hres3.c0
          have e1 := hres3.c1
          have e2 := hres3.c2
          have e3 := hres3.c3
          have fz := hres3.free
          have HC := Lib.hid hcut
          unfold Errs.val
          obtain ⟨ad, had⟩ : ∃ ad, E.at_ b = ad := ⟨_, rfl⟩
          rw [had]
          have HD := Lib.hid had
          clear hcut had hbut fr'
          go_wp2_with fail
          refine bodyPost_ret_by (results_frame (p := 2) (q := 3) (ty := 275) (by kernel_rfl) _ _ ⟨R, 0, none⟩ _ rfl (run_loadVar_row (P := Tryz.prog) _ R 275 275 _ (0, 0) _ ((((HX.out.2.2.set0 num').set1 cnt').set2 sum').set3 (.slice Ar' nr' cr')) Tryz.underlying275 rfl infoFrame)) rfl ?_
          exact ⟨(((HB3.out.setCell hRw _).setCell hRw _).setCell hRw _).setCell hRw _, .inl ⟨b, _, ⟨_, _, _, _, _, _, rfl⟩, HC.out, by rw [Errs.val, HD.out]; rfl⟩⟩
        · obtain ⟨B1, hcut, hB1⟩ := cut_name (A := A1) (n := m) (c := d) (k := k) hk'
          have HB1 := Lib.hid hB1
          have HST := Lib.hid st'
          clear hB1 st' hbut fr' hres hres3
          go_wp2_with fail
          go_roundw
          case rel =>
            refine ⟨j + 1, by omega, by go_num, HB3.out, ⟨P + k, num', cnt', sum', _, HX.out.2.1, ⟨_, _, _, rfl⟩, HST.out, B1, m - k, d - k, rfl, by have := HM.out.1; omega, by have := HM.out.2.1; omega, ?_, ?_⟩, HX.out.2.2, ?_⟩
            · have := (HK.out.2.2.1).cut hk' HM.out.2.1
              rw [List.drop_drop] at this
              rw [HB1.out]
              exact this
            · intro hn
              have : A1 = none := by
                rw [HB1.out] at hn
                split at hn
                · exact hn
                · cases A1 with
                  | none => rfl
                  | some a => cases hn
              have := HM.out.2.2 this
              omega
            · have hF1 := HS.out.2.2.1
              have hF2 := HS.out.2.2.2
              have hp2 : Pts W2.drew G B := (HK.out.1.pts.below HT.out.2.2.1).drewn
              exact hp2.only HX.out.1 (by omega) (by omega)
          case measure => simp [intOf]; omega
    · have hjl : ¬ ((j : Int) < 6) := by omega
      obtain ⟨hnum, hcnt, hc256, hsum, mk, ⟨A2, c2, hsl, hcc2, hin2, hA2⟩, hPn, hrest⟩ : num = numOf xs ∧ cnt = cntOf xs ∧ cntOf xs ≤ 256 ∧ sum = sumIn xs ∧ xs.take 4 = recMark ∧ (∃ A2 c2, Value.slice Ar nr cr = .slice A2 (cntOf xs) c2 ∧ cntOf xs ≤ c2 ∧ In w A2 (cntOf xs) (recOf xs) ∧ (A2 = none → cntOf xs = 0)) ∧ 64 * secs (cntOf xs) ≤ n ∧ restOf xs = List.replicate (noug (cntOf xs)) 0 := by
        rcases st with ⟨h, _⟩ | ⟨h, _⟩ | ⟨h, _⟩ | ⟨h, _⟩ | ⟨h, _⟩ | ⟨h, _⟩ | ⟨_, hP, mk, h1, h2, h3, h4, h5, h6, h7⟩
        · omega
        · omega
        · omega
        · omega
        · omega
        · omega
        · exact ⟨h1, h2, h3, h4, mk, h5, by have := secs_ge (cntOf xs); unfold noug at hP; omega, h7⟩
      cases hsl
      have hxl : xs.length = n := H0.out.2.1.len
      have h64' : ¬ xs.length < 64 := by omega
      have HKK := Lib.hid K
      have CS := Lib.hid (fun (W : World) (hb : Below wr.heap.size wr W) => sumOf_any (numOf xs) Ar (cntOf xs) cr (recOf xs) W ((hin2.below HKK.out.bel).below hb) (recOf_lt H0.out.2.2.1) hA2 hcc2 (by omega))
      have hq0 : Hid (∀ W : World, Below wr.heap.size wr W → W.cell? ⟨F, 0, none⟩ = some (.int .u64 (numOf xs : Int))) := fun W hb => by rw [← hnum]; exact (fr.below hb).c0
      have hq2 : Hid (∀ W : World, Below wr.heap.size wr W → W.cell? ⟨F, 2, none⟩ = some (.int .u64 (sumIn xs : Int))) := fun W hb => by rw [← hsum]; exact (fr.below hb).c2
      have hq3 : Hid (∀ W : World, Below wr.heap.size wr W → W.cell? ⟨F, 3, none⟩ = some (.slice Ar (cntOf xs) cr)) := fun W hb => (fr.below hb).c3
      have HF : Hid (Fr wr F (numOf xs) (cntOf xs) (sumIn xs) (.slice Ar (cntOf xs) cr)) := by rw [← hnum, ← hsum]; rw [hcnt] at fr; exact fr
      have HY := Lib.hid (And.intro mk (And.intro hc256 (And.intro hPn (And.intro hrest (And.intro hcc2 hin2)))))
      have HL := Lib.hid hxl
      have HL2 := Lib.hid h64'
      clear K fr hnum hcnt hsum mk hc256 hPn hrest hcc2 hin2 hA2 hxl h64' st hb
      go_wp2_with fail
      refine wp_region_quiet (C := fun w' => Below wr.heap.size wr w') (by kernel_rfl) (by kernel_rfl) ((Below.refl _ _).drew) ?_
      refine wpQuiet_step (fun K hK => ?_); go_simp; refine ⟨_, fun _ _ => rfl, hK _ ?_⟩; clear hK K
      refine wpQuiet_step (fun K hK => ?_)
      refine quiet_load_at (by rfl) 126 (plain_any Tryz.underlying126 rfl) (.tmp 43) rfl ⟨F, 2, none⟩ rfl (.int .u64 (sumIn xs : Int)) hq2.out (hK _ ?_)
      clear hK K
      refine wpQuiet_step (fun K hK => ?_); go_simp; refine ⟨_, fun _ _ => rfl, hK _ ?_⟩; clear hK K
      refine wpQuiet_step (fun K hK => ?_)
      refine quiet_load_at (by rfl) 126 (plain_any Tryz.underlying126 rfl) (.tmp 45) rfl ⟨F, 0, none⟩ rfl (.int .u64 (numOf xs : Int)) hq0.out (hK _ ?_)
      clear hK K
      refine wpQuiet_step (fun K hK => ?_); go_simp; refine ⟨_, fun _ _ => rfl, hK _ ?_⟩; clear hK K
      refine wpQuiet_step (fun K hK => ?_)
      refine quiet_load_at (by rfl) 50 (plain_any Tryz.underlying50 rfl) (.tmp 47) rfl ⟨F, 3, none⟩ rfl (.slice Ar (cntOf xs) cr) hq3.out (hK _ ?_)
      clear hK K
      refine wpQuiet_step (fun K hK => ?_)
      go_simp
      refine ⟨.int .u64 ((sumL (numOf xs) (recOf xs) : Nat) : Int), fun W hC => ?_, hK _ ?_⟩
      · exact (CS.out W hC).mono fun e w'' ⟨he, hb⟩ => ⟨he, below_on hC (Nat.le_refl _) hb⟩
      clear hK K
      refine wpQuiet_step (fun K hK => ?_); go_simp; refine ⟨_, fun _ _ => rfl, hK _ ?_⟩; clear hK K
      refine wpQuiet_nil ?_
      intro w6 hb6
      have hRw : w.heap.size ≤ R := Nat.le_of_eq HS.out.2.1
      have HB6 : Hid (Below w.heap.size w w6) := below_on HKK.out.bel (Nat.le_refl _) hb6
      have hfr := HF.out.below hb6
      have hres := HKK.out.res.below hb6
      have q0 := hfr.c0
      have q1 := hfr.c1
      have q2 := hfr.c2
      have q3 := hfr.c3
      have e0 := hres.c0
      have e1 := hres.c1
      have e2 := hres.c2
      have e3 := hres.c3
      have fz := hres.free
      have hgm := ((H0.out.1.below HKK.out.bel).below hb6).gm
      by_cases heq : sumIn xs = sumL (numOf xs) (recOf xs)
      · have dq : ((sumIn xs : Int) != ((sumL (numOf xs) (recOf xs) : Nat) : Int)) = false := by rw [← heq]; simp
        have HQ := Lib.hid heq
        clear heq hb6 hgm hfr
        go_wp2_with fail
        refine bodyPost_ret_by (results_frame (p := 2) (q := 3) (ty := 275) (by kernel_rfl) _ _ ⟨R, 0, none⟩ _ rfl (run_loadVar_row (P := Tryz.prog) _ R 275 275 _ (0, 0) _ ((((hres.set0 (numOf xs)).set1 (cntOf xs)).set2 (sumIn xs)).set3 (.slice Ar (cntOf xs) cr)) Tryz.underlying275 rfl infoFrame)) rfl ?_
        exact ⟨(((HB6.out.setCell hRw _).setCell hRw _).setCell hRw _).setCell hRw _, .inr ⟨cutL_none HL2.out HY.out.1 HY.out.2.1 (by rw [HL.out]; exact HY.out.2.2.1) HY.out.2.2.2.1 HQ.out, Ar, cr, rfl, HY.out.2.2.2.2.1, HY.out.2.2.2.2.2⟩⟩
      · have dq : ((sumIn xs : Int) != ((sumL (numOf xs) (recOf xs) : Nat) : Int)) = true := by simp; omega
        have HQ := Lib.hid heq
        have hRg : ∀ v0 v1 v2 v3, ((((w6.setCell ⟨R, 0, none⟩ v0).setCell ⟨R, 1, none⟩ v1).setCell ⟨R, 2, none⟩ v2).setCell ⟨R, 3, none⟩ v3).cell? ⟨3, 0, none⟩ = some (.iface 372 (.pointer (some E.m))) := fun v0 v1 v2 v3 => by
          rw [World.cell?_of_block (show _ = w6.heap[(3 : Nat)]? from ?_)]
          · exact hgm
          · have hne : (3 : Nat) ≠ R := hres.ne_err (Lib.hid hgm)
            rw [heap_setCell_other _ _ _ _ hne, heap_setCell_other _ _ _ _ hne, heap_setCell_other _ _ _ _ hne, heap_setCell_other _ _ _ _ hne]
        clear heq hb6 hfr
        go_wp2_with fail
        go_region
        go_wp2_with fail
        refine bodyPost_ret_by (results_frame (p := 2) (q := 3) (ty := 275) (by kernel_rfl) _ _ ⟨R, 0, none⟩ _ rfl (run_loadVar_row (P := Tryz.prog) _ R 275 275 _ (0, 0) _ ((((hres.set0 (numOf xs)).set1 (cntOf xs)).set2 (sumIn xs)).set3 (.slice Ar (cntOf xs) cr)) Tryz.underlying275 rfl infoFrame)) rfl ?_
        exact ⟨((((HB6.out.setCell hRw _).setCell hRw _).setCell hRw _).setCell hRw _).drew, .inl ⟨.sum, _, ⟨_, _, _, _, _, _, rfl⟩, cutL_sum HL2.out HY.out.1 HY.out.2.1 (by rw [HL.out]; exact HY.out.2.2.1) HY.out.2.2.2.1 HQ.out, rfl⟩⟩

end Go.Proofs.YthbgcijkpincfaaGreatDoor
