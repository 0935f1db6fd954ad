/-
  frames.Get.
-/
import Derived.Test.YthbgcijkpincfaaGreatDoorFCutAny
import Derived.Test.YthbgcijkpincfaaGreatDoorFBack
import Derived.Deep.QuietTactic
import Derived.BigQuiet
namespace Go.Proofs.YthbgcijkpincfaaGreatDoor
open Go.RowKit

theorem results_four {fn : Func} {t u v x : Tmp} (h : fn.results = #[.tmp t, .tmp u, .tmp v, .tmp x]) (tmps : Array Value) (P : Program) (w : World) :
    (results fn tmps).run P w = .ok (.tuple #[tmps.getD t undef, tmps.getD u undef, tmps.getD v undef, tmps.getD x undef]) w := by
  simp [results, h]

/-- What Get answers. -/
def GetPost (xs : List Nat) (w : World) (e : Ending) (w' : World) : Prop :=
  Below w.heap.size w w' ∧ ((∃ b : Bad, cutL xs = some b ∧ e = .returned (.tuple #[.int .u64 0, .slice none 0 0, .int .i64 0, .int .i64 (b.no : Int)])) ∨
    (cutL xs = none ∧ ∃ A c, e = .returned (.tuple #[.int .u64 (numOf xs : Int), .slice A (cntOf xs) c, .int .i64 ((secs (cntOf xs) : Nat) : Int), .int .i64 0]) ∧
      w'.ownsRow w.heap.size 5 1 (.slice A (cntOf xs) c) (cntOf xs) (bvs (recOf xs))))

set_option maxRecDepth 100000 in
set_option maxHeartbeats 4000000 in
theorem get_frame (E : Errs) (A : Option Addr) (n c : Nat) (xs : List Nat) (w : World) (hE : Laid w E) (hin : In w A n xs) (hx : ∀ x ∈ xs, x < 256) (hA : A = none → n = 0) (hnc : n ≤ c) (hc : n ≤ 1000000000000) :
    Calls Tryz.prog 171 #[.slice A n c] w (GetPost xs w) := by
  have C1 := Lib.hid (cut_any E A n c xs w hE hin hx hA hnc hc)
  have HE := Lib.hid hE
  have HX := Lib.hid (And.intro hx hin)
  clear hE hin hx hA hnc hc
  go_enter Tryz.func171, Tryz.ntmps171
  go_wp2_with fail
  refine C1.out.mono ?_
  rintro e w1 ⟨hb1, ⟨b, fv, ⟨num, cnt, sum, Af, nf, cf, rfl⟩, hcut, rfl⟩ | ⟨hcut, R, cR, rfl, hcR, hin2⟩⟩
  · have HC := Lib.hid hcut
    have HB1 := Lib.hid hb1
    have C2 := Lib.hid (fun W h => told_bad E b W h)
    have hnz : ((b.no : Int) != 0) = true := by cases b <;> rfl
    unfold Errs.val at C2 ⊢
    obtain ⟨ad, had⟩ : ∃ ad, E.at_ b = ad := ⟨_, rfl⟩
    rw [had] at C2 ⊢
    obtain ⟨nb, hnb⟩ : ∃ nb, b.no = nb := ⟨_, rfl⟩
    rw [hnb] at C2 hnz
    have HN := Lib.hid hnb
    clear hcut had hnb hb1
    go_wp2_with fail
    refine (C2.out _ ((HE.out.below HB1.out).below (below_alloc _ _))).mono ?_
    rintro e w2 ⟨rfl, rfl⟩
    go_wp2_with fail
    refine bodyPost_ret_by (results_four (t := 2) (u := 3) (v := 4) (x := 5) (by kernel_rfl) _ _ _) rfl ?_
    exact ⟨below_on HB1.out (Nat.le_refl _) (below_alloc _ _), .inl ⟨b, HC.out, by rw [HN.out]; rfl⟩⟩
  · have HC := Lib.hid hcut
    have HB1 := Lib.hid hb1
    obtain ⟨hag, hc256, hl64, hrl⟩ := cutL_again xs HX.out.1 hcut
    have hin3 := hin2.below hb1
    have HI := Lib.hid (And.intro hcR (And.intro hin3 (And.intro hc256 (recOf_lt HX.out.1))))
    obtain ⟨m, hm⟩ : ∃ m, cntOf xs = m := ⟨_, rfl⟩
    rw [hm] at HI ⊢
    have hm256 : m ≤ 256 := by omega
    have HM := Lib.hid hm
    have HRL := Lib.hid (hrl.trans hm)
    clear hm hcut hb1 hin2 hcR hin3 hag hc256 hl64 hrl
    have CT := Lib.hid (fun W h => told_nil E W h)
    have hmk := make_bytes m m (Nat.le_refl _) (by omega)
    obtain ⟨M, hM⟩ : ∃ M : List Value, (madeCells #[.int .u8 0] m).toList = M := ⟨_, rfl⟩
    have hMl : M.length = m := by rw [← hM, Array.length_toList, size_madeCells]
    have hM' : madeCells #[.int .u8 0] m = M.toArray := by rw [← hM]
    rw [hM'] at hmk
    have HML := Lib.hid hMl
    clear hM hM' hMl
    have CF := Lib.hid (fun W => sectors_any m (by omega) W)
    obtain ⟨nu, hnu⟩ : ∃ nu, numOf xs = nu := ⟨_, rfl⟩
    obtain ⟨su, hsu⟩ : ∃ su, sumIn xs = su := ⟨_, rfl⟩
    rw [hnu, hsu]
    have HNS := Lib.hid (And.intro hnu hsu)
    clear hnu hsu
    go_wp2_with fail
    have hW1 := below_alloc w1 (.cells #[.int .u64 (nu : Int), .int .i64 (m : Int), .int .u64 (su : Int), .slice R m cR] 275)
    have hF := World.alloc_heap_new w1 (.cells #[.int .u64 (nu : Int), .int .i64 (m : Int), .int .u64 (su : Int), .slice R m cR] 275)
    have hS := World.size_alloc w1 (.cells #[.int .u64 (nu : Int), .int .i64 (m : Int), .int .u64 (su : Int), .slice R m cR] 275)
    obtain ⟨w2, hw2⟩ : ∃ w2, w1.alloc (.cells #[.int .u64 (nu : Int), .int .i64 (m : Int), .int .u64 (su : Int), .slice R m cR] 275) = w2 := ⟨_, rfl⟩
    rw [hw2] at hW1 hF hS ⊢
    clear hw2
    obtain ⟨T, hT⟩ : ∃ T, w1.heap.size = T := ⟨_, rfl⟩
    rw [hT] at hF hS ⊢
    have HB2 : Hid (Below w.heap.size w w2) := below_on HB1.out (Nat.le_refl _) hW1
    have hFr : Fr w2 T nu m su (.slice R m cR) := hF
    have HT := Lib.hid (And.intro hT hS)
    clear hT hF hS
    refine (CT.out _ (HE.out.below HB2.out)).mono ?_
    rintro e w2' ⟨rfl, rfl⟩
    have q0 := hFr.c0
    have q1 := hFr.c1
    have q3 := hFr.c3
    have hin4 := HI.out.2.1.below hW1
    have hg : Hid ((w2.alloc (.cells M.toArray 5)).heap[w2.heap.size]? = some (.cells M.toArray 5 (0, 0))) := World.alloc_heap_new w2 _
    have hba : Below w2.heap.size w2 (w2.alloc (.cells M.toArray 5)) := (Below.refl _ w2).alloc (Nat.le_refl _) _
    have hr' := (hin4.below hba).rd
    have hn : Hid ((bvs (recOf xs)).length = Nat.min m m) := by
      show _ = _
      rw [bvs_length, HRL.out]
      exact (Nat.min_self m).symm
    have hpos : 0 < (bvs (recOf xs)).length → ∃ ad, R = some ad ∧ ∀ j v, (bvs (recOf xs))[j]? = some v → (w2.alloc (.cells M.toArray 5)).cell? (ad.add j) = some v := by
      intro h0
      rw [bvs_length] at h0
      obtain ⟨ad, rfl, _⟩ := hr'.at_ h0
      refine ⟨ad, rfl, fun j v hv => ?_⟩
      rw [bvs_get] at hv
      obtain ⟨x, hx, rfl⟩ := Option.map_eq_some_iff.1 hv
      obtain ⟨ad', e, hc⟩ := hr' j x hx
      cases e
      exact hc
    have HP := Lib.hid hpos
    have hfit : Hid (0 + (bvs (recOf xs)).length ≤ M.length) := by
      show _ ≤ _
      rw [bvs_length, HRL.out, HML.out]
      omega
    have q3' := (hFr.below hba).c3
    have HBA := Lib.hid hba
    have HFr := Lib.hid hFr
    clear hpos hr' hin4 hba hFr hW1
    go_wp2_with (with_reducible refine wpList_copy_splice rfl (.tmp 21) (.tmp 23) 50 50 rfl 5 Tryz.underlying50 sizeByte (some ⟨w2.heap.size, 0, none⟩) R m m m cR rfl rfl w2.heap.size 0 M 5 hg.out (bvs (recOf xs)) hn.out (fun h => ⟨rfl, HP.out h⟩) hfit.out (bvs_oneCell (recOf xs)) w2.heap.size w2 HBA.out (Nat.le_refl _) ?_; intro w3 hw3 hb3)
    have HF3 := Lib.hid (HFr.out.below hb3)
    have p0 := HF3.out.c0
    have p1 := HF3.out.c1
    have HB3 : Hid (Below w.heap.size w w3) := below_on HB2.out (Nat.le_refl _) hb3
    clear q0 q1 q3 q3' hb3
    go_quiet ((go_at_call 178; exact Calls.quiet_of_same ((CF.out _).mono fun _ _ ⟨h1, h2⟩ => ⟨h1, h2.symm⟩)))
    go_wp2_with fail
    refine bodyPost_ret_by (results_four (t := 2) (u := 3) (v := 4) (x := 5) (by kernel_rfl) _ _ _) rfl ?_
    refine ⟨HB3.out.trans ⟨rfl, rfl, rfl, Nat.le_refl _, fun _ _ => rfl⟩, .inr ⟨HC.out, some ⟨w2.heap.size, 0, none⟩, m, ?_, ?_⟩⟩
    · rw [HNS.out.1, HM.out]; rfl
    · rw [HM.out]
      have ho : w3.ownsRow w.heap.size 5 1 (.slice (some ⟨w2.heap.size, 0, none⟩) m m) m (bvs (recOf xs)) := by
        refine ⟨by rw [bvs_length, HRL.out]; simp, .inr ⟨w2.heap.size, m, _, rfl, HB2.out.size, hw3.out, Nat.le_refl _, by unfold maxLen; omega, ?_, ?_⟩⟩
        · rw [List.size_toArray, length_splice _ _ _ hfit.out, HML.out]; simp
        · simp [splice, bvs_length, HRL.out]
      exact ho

end Go.Proofs.YthbgcijkpincfaaGreatDoor
