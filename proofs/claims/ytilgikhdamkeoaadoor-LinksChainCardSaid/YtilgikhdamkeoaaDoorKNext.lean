/-
  links.ends' closure that takes the next sum out of a variable: it answers an error where there is none.
-/
import Derived.Test.YtilgikhdamkeoaaDoorVTools
import Derived.Test.YtilgikhdamkeoaaDoorLStoreSum
import Derived.Test.YtilgikhdamkeoaaDoorLVar
import Derived.Test.YtilgikhdamkeoaaDoorKPure
import Derived.Test.YtilgikhdamkeoaaDoorKMiss
import Derived.Test.YtilgikhdamkeoaaDoorKPair
namespace Go.Proofs.YtilgikhdamkeoaaDoor
open Go.RowKit

/-- The closure that takes the next one, and the one that leads. -/
def takesK (lb : Nat) : Value := .func (.func 26) #[] #[.pointer (some ⟨lb, 0, none⟩)]
def leadsK (ab nb gb : Nat) : Value := .func (.func 27) #[] #[.pointer (some ⟨ab, 0, none⟩), .pointer (some ⟨nb, 0, none⟩), .pointer (some ⟨gb, 0, none⟩)]

/-- The link stands in variable lb, from number j on; the first sum in ab, both closures in nb and gb; everything else is as it was when the call began (B). -/
structure KIn (B w : World) (ab lb nb gb n j : Nat) (A : Option Addr) (c : Nat) (ys a : List Nat) : Prop where
  var : VarAt w lb 22 (.slice A (n - j) c)
  in_ : InS B A (n - j) (ys.drop (32 * j))
  cap : n - j ≤ c
  le : j ≤ n
  sum : BArr w ab 24 a
  nxt : VarAt w nb 60 (takesK lb)
  led : VarAt w gb 61 (leadsK ab nb gb)
  below : Below B.heap.size B w
  pos : B.heap.size ≤ lb
  ne : ab ≠ lb ∧ nb ≠ lb ∧ gb ≠ lb
section
variable {B w w' : World} {ab lb nb gb n j c : Nat} {A : Option Addr} {ys a : List Nat}
theorem KIn.below_ (h : KIn B w ab lb nb gb n j A c ys a) (hb : Below w.heap.size w w') : KIn B w' ab lb nb gb n j A c ys a :=
  ⟨h.var.below hb, h.in_, h.cap, h.le, h.sum.below hb, h.nxt.below hb, h.led.below hb, below_on h.below (Nat.le_refl _) hb, h.pos, h.ne⟩
theorem KIn.lt (h : KIn B w ab lb nb gb n j A c ys a) : lb < w.heap.size ∧ ab < w.heap.size ∧ nb < w.heap.size ∧ gb < w.heap.size := ⟨h.var.lt, (Array.getElem?_eq_some_iff.1 h.sum).1, h.nxt.lt, h.led.lt⟩
/-- A row that was laid later is written into. -/
theorem KIn.setRow (h : KIn B w ab lb nb gb n j A c ys a) {k : Nat} (hk : B.heap.size ≤ k) (hne : lb ≠ k ∧ ab ≠ k ∧ nb ≠ k ∧ gb ≠ k) (cs : Array Value) : KIn B (w.setRow k cs) ab lb nb gb n j A c ys a :=
  ⟨h.var.setRow_other k hne.1 cs, h.in_, h.cap, h.le, (Go.setRow_other _ _ _ _ hne.2.1).trans h.sum, h.nxt.setRow_other k hne.2.2.1 cs, h.led.setRow_other k hne.2.2.2 cs, below_setRow h.below hk cs, h.pos, h.ne⟩
end

/-- What the closure answers, and how many are taken then. -/
def nxS (ys : List Nat) (n j : Nat) : List Nat := if j < n then nth ys j else zero32
def nxV (E : Addr) (n j : Nat) : Value := if j < n then .nilIface else missV E
def nxJ (n j : Nat) : Nat := if j < n then j + 1 else j
theorem nxS_length {ys : List Nat} {n : Nat} (hlen : ys.length = 32 * n) (j : Nat) : (nxS ys n j).length = 32 := by
  unfold nxS
  split
  · rename_i h; exact nth_length hlen h
  · rfl
theorem nxS_lt {ys : List Nat} (hy : ∀ x ∈ ys, x < 256) (n j : Nat) : ∀ x ∈ nxS ys n j, x < 256 := by
  unfold nxS
  split
  · exact nth_lt hy j
  · decide

section
variable {B w : World} {ab lb nb gb n j c : Nat} {A : Option Addr} {ys a : List Nat} {E : Addr}

set_option maxRecDepth 100000 in
set_option maxHeartbeats 2000000 in
theorem knext_none (h : KIn B w ab lb nb gb n j A c ys a) (hj : j = n) (hm : Miss B E) :
    Calls Tryd.prog 26 #[.pointer (some ⟨lb, 0, none⟩)] w fun e w' => e = .returned (.tuple #[sv zero32, missV E]) ∧ Below w.heap.size w w' := by
  subst hj
  have hc := h.var.cell
  rw [Nat.sub_self] at hc
  have e0 : (bvs zero32).toArray = #[.int .u8 0, .int .u8 0, .int .u8 0, .int .u8 0, .int .u8 0, .int .u8 0, .int .u8 0, .int .u8 0, .int .u8 0, .int .u8 0, .int .u8 0, .int .u8 0, .int .u8 0, .int .u8 0, .int .u8 0, .int .u8 0, .int .u8 0, .int .u8 0, .int .u8 0, .int .u8 0, .int .u8 0, .int .u8 0, .int .u8 0, .int .u8 0, .int .u8 0, .int .u8 0, .int .u8 0, .int .u8 0, .int .u8 0, .int .u8 0, .int .u8 0, .int .u8 0] := rfl
  have b1 := below_alloc w (.cells (bvs zero32).toArray 24)
  have f1 := BArr.new w 24 zero32
  rw [e0] at b1 f1
  clear e0
  have hc1 := (b1.cell h.var.lt).trans hc
  have m1 := (hm.below h.below).below b1
  have HM := Lib.hid m1
  have HB := Lib.hid (And.intro b1 f1)
  have HL := Lib.hid (show 0 ≠ w.heap.size from Nat.ne_of_lt (hm.below h.below).lt)
  clear b1 f1 h hm m1
  go_enter Tryd.func26, Tryd.ntmps26
  go_upto_region 1 with fail
  obtain ⟨w1, hw1⟩ : ∃ w1, w1 = w.alloc (.cells #[.int .u8 0, .int .u8 0, .int .u8 0, .int .u8 0, .int .u8 0, .int .u8 0, .int .u8 0, .int .u8 0, .int .u8 0, .int .u8 0, .int .u8 0, .int .u8 0, .int .u8 0, .int .u8 0, .int .u8 0, .int .u8 0, .int .u8 0, .int .u8 0, .int .u8 0, .int .u8 0, .int .u8 0, .int .u8 0, .int .u8 0, .int .u8 0, .int .u8 0, .int .u8 0, .int .u8 0, .int .u8 0, .int .u8 0, .int .u8 0, .int .u8 0, .int .u8 0] 24) := ⟨_, rfl⟩
  rw [← hw1] at HB HM hc1 ⊢
  clear hw1
  go_upto_region 2 with fail
  have hS : Miss w1.drew E := HM.out
  refine wp_region_held (S := fun W => Miss W E) (by kernel_rfl) ?_
  change wpAnyH _ _ _ _ _ _ _ _ w1.drew
  refine' wpAnyH_take (i := 0) (oi := _) (v := sv zero32) ?hi0 (by kernel_rfl) ?hf0 ?hr0 ?hQ0 ?hy0 hS ?rest0
  case hi0 => (simp only [List.getElem?_toArray, List.getElem?_cons_zero]; rfl)
  case hf0 => kernel_rfl
  case hr0 => kernel_rfl
  case hQ0 => exact fun _ _ _ h => h
  case hy0 =>
    refine Or.inl ⟨by rfl, ?_⟩
    intro W hSw
    go_simp
    rfl
  simp only [Act.put, List.setIfInBounds_toArray, List.set_cons_zero, List.set_cons_succ]
  refine' wpAnyH_take (i := 1) (oi := _) (v := missV E) ?hi1 (by kernel_rfl) ?hf1 ?hr1 ?hQ1 ?hy1 hS ?rest1
  case hi1 => (simp only [List.getElem?_toArray, List.getElem?_cons_zero, List.getElem?_cons_succ]; rfl)
  case hf1 => kernel_rfl
  case hr1 => kernel_rfl
  case hQ1 => exact fun _ _ _ h => h
  case hy1 =>
    refine Or.inl ⟨by rfl, ?_⟩
    intro W hSw
    unfold Miss at hSw
    go_simp
    try with_reducible rfl
  simp only [Act.put, List.setIfInBounds_toArray, List.set_cons_zero, List.set_cons_succ]
  refine wpAnyH_ready (rs := [2]) (by kernel_rfl) (by simp) ?_
  refine' AllReadyH.cons (o := _) ?hin (fun K1 hK1 => ?_) AllReadyH.nil
  case hin => (simp only [List.getElem?_toArray, List.getElem?_cons_zero, List.getElem?_cons_succ]; rfl)
  rw [if_pos (by rfl)]
  refine step_store_sum (.tmp 1) (.tmp 7) rfl w.heap.size rfl zero32 zero32 rfl rfl HB.out.2 rfl ?_
  have r1 : BArr (w1.drew.setRow w.heap.size (bvs zero32).toArray) w.heap.size 24 zero32 := (show BArr w1.drew w.heap.size 24 zero32 from HB.out.2).setRow zero32
  have b1 : Below w.heap.size w (w1.drew.setRow w.heap.size (bvs zero32).toArray) := below_setRow HB.out.1.drew (Nat.le_refl _) _
  have hS1 : Miss (w1.drew.setRow w.heap.size (bvs zero32).toArray) E := by
    have e := HL.out
    unfold Miss World.cell? at hS ⊢
    rw [Go.setRow_other _ _ _ _ e]
    exact hS
  obtain ⟨w2, hw2⟩ : ∃ w2, w2 = w1.drew.setRow w.heap.size (bvs zero32).toArray := ⟨_, rfl⟩
  rw [← hw2] at r1 b1 hS1 ⊢
  clear hw2
  refine hK1.out _ _ hS1 (fun _ => ?_)
  clear hK1 K1
  refine' wpAnyH_take (i := 3) (oi := _) (v := _) ?hi3 (by kernel_rfl) ?hf3 ?hr3 ?hQ3 ?hy3 hS1 ?rest3
  case hi3 => (simp only [List.getElem?_toArray, List.getElem?_cons_zero, List.getElem?_cons_succ]; rfl)
  case hf3 => kernel_rfl
  case hr3 => kernel_rfl
  case hQ3 => exact fun _ _ _ h => h
  case hy3 =>
    refine Or.inl ⟨by rfl, ?_⟩
    intro W hSw
    go_simp
    try with_reducible rfl
  simp only [Act.put, List.setIfInBounds_toArray, List.set_cons_zero, List.set_cons_succ]
  refine wpAnyH_done (by kernel_rfl) ?_ _
  go_wp2
  refine bodyPost_ret_by (results_cell_tmp (p := 1) (q := 2) (ty := 24) (by kernel_rfl) _ _ ⟨w.heap.size, 0, none⟩ (sv zero32) rfl (run_load_sum w2 _ zero32 rfl r1.at_)) rfl ?_
  exact ⟨rfl, b1⟩

set_option maxRecDepth 100000 in
set_option maxHeartbeats 2000000 in
theorem knext_some (h : KIn B w ab lb nb gb n j A c ys a) (hj : j < n) (hn : n ≤ 1000000) :
    Calls Tryd.prog 26 #[.pointer (some ⟨lb, 0, none⟩)] w fun e w' => e = .returned (.tuple #[sv (nth ys j), .nilIface]) ∧ (∃ A' c', KIn B w' ab lb nb gb n (j + 1) A' c' ys a) ∧ But (· = lb) w w' := by
  obtain ⟨p, hp⟩ : ∃ p, n - j = p := ⟨_, rfl⟩
  have hp0 : 0 < p := by omega
  have hin := h.in_
  rw [hp] at hin
  obtain ⟨ad, hA, hl, hat⟩ := hin.at_ hp0
  subst hA
  rw [Nat.zero_mul, add_zero', nth_drop, Nat.add_zero] at hat
  rw [nth_drop, Nat.add_zero] at hl
  obtain ⟨s, hs⟩ : ∃ s, nth ys j = s := ⟨_, rfl⟩
  rw [hs] at hat hl ⊢
  have hcap := h.cap
  rw [hp] at hcap
  obtain ⟨A', hcut, hA'⟩ := cut_nameS (A := some ad) (n := p) (c := c) (k := 1) (by omega)
  have hcut1 : ∀ W : World, (Instr.slice 22 (.slice (some ad) p c) (some (.int .i64 1)) none none).run Tryd.prog W = .ok (.slice A' (p - 1) (c - 1)) W := hcut
  have hin' : InS B A' (p - 1) (ys.drop (32 * (j + 1))) := by
    rw [hA', show 32 * (j + 1) = 32 * j + 32 * 1 by omega, ← List.drop_drop]
    split
    · rename_i e
      obtain rfl : p = 1 := by omega
      have := hin.drop_ 1 (Nat.le_refl _)
      rw [Nat.sub_self] at this ⊢
      exact ⟨this.len, by rw [List.eq_nil_of_length_eq_zero (l := List.drop (32 * 1) (ys.drop (32 * j))) (by rw [this.len])]; exact Rd.nil _ _⟩
    · exact hin.drop_ 1 (by omega)
  have hc := h.var.cell
  rw [hp] at hc
  have e0 : (bvs zero32).toArray = #[.int .u8 0, .int .u8 0, .int .u8 0, .int .u8 0, .int .u8 0, .int .u8 0, .int .u8 0, .int .u8 0, .int .u8 0, .int .u8 0, .int .u8 0, .int .u8 0, .int .u8 0, .int .u8 0, .int .u8 0, .int .u8 0, .int .u8 0, .int .u8 0, .int .u8 0, .int .u8 0, .int .u8 0, .int .u8 0, .int .u8 0, .int .u8 0, .int .u8 0, .int .u8 0, .int .u8 0, .int .u8 0, .int .u8 0, .int .u8 0, .int .u8 0, .int .u8 0] := rfl
  have f1 := BArr.new w 24 zero32
  have b1 := below_alloc w (.cells (bvs zero32).toArray 24)
  have s1 : (w.alloc (.cells (bvs zero32).toArray 24)).heap.size = w.heap.size + 1 := by simp
  rw [e0] at f1 b1 s1
  clear e0
  have hc1 := (b1.cell h.var.lt).trans hc
  have hp1 : ((p : Int) == 0) = false := by simp; omega
  have hp2 : (0 : Int) < (p : Int) := by omega
  have HAt := Lib.hid ((hat.below h.below).below b1)
  have HF := Lib.hid (And.intro f1 (And.intro b1 s1))
  have HV := Lib.hid (h.var.below b1)
  have HH := Lib.hid (And.intro h (And.intro hin' hs))
  have HN := Lib.hid (And.intro hp (And.intro hj (And.intro hcap hn)))
  clear f1 b1 s1 hat hcut hA' hin' hin h hs hp hj hcap hn hc
  go_enter Tryd.func26, Tryd.ntmps26
  go_upto_region 1 with fail
  obtain ⟨w1, hw1⟩ : ∃ w1, w1 = w.alloc (.cells #[.int .u8 0, .int .u8 0, .int .u8 0, .int .u8 0, .int .u8 0, .int .u8 0, .int .u8 0, .int .u8 0, .int .u8 0, .int .u8 0, .int .u8 0, .int .u8 0, .int .u8 0, .int .u8 0, .int .u8 0, .int .u8 0, .int .u8 0, .int .u8 0, .int .u8 0, .int .u8 0, .int .u8 0, .int .u8 0, .int .u8 0, .int .u8 0, .int .u8 0, .int .u8 0, .int .u8 0, .int .u8 0, .int .u8 0, .int .u8 0, .int .u8 0, .int .u8 0] 24) := ⟨_, rfl⟩
  rw [← hw1] at HF HAt HV hc1 ⊢
  clear hw1
  have HZ32 := Lib.hid (show zero32.length = 32 from rfl)
  go_upto_region 4 with (first | with_reducible refine wpList_load_sum rfl (.tmp 10) rfl ad rfl s hl HAt.out ?_ | with_reducible refine wpList_store_new w1 _ rfl rfl (.tmp 3) (.tmp 11) rfl rfl s hl rfl ?_)
  have b2 := below_alloc w1 (.cells (bvs s).toArray 24)
  have g2 := BArr.new w1 24 s
  have V2 := HV.out.below b2
  have F2 := HF.out.1.below b2
  have s2 : (w1.alloc (.cells (bvs s).toArray 24)).heap.size = w1.heap.size + 1 := by simp
  have hc2 := (b2.cell HV.out.lt).trans hc1
  have hf2 := V2.free
  obtain ⟨w2, hw2⟩ : ∃ w2, w2 = w1.alloc (.cells (bvs s).toArray 24) := ⟨_, rfl⟩
  rw [← hw2] at b2 g2 V2 F2 s2 hc2 hf2 ⊢
  clear hw2
  have HG := Lib.hid (And.intro b2 (And.intro g2 (And.intro V2 (And.intro F2 s2))))
  clear b2 g2 V2 F2 s2
  go_upto_region 5 with fail
  obtain ⟨w3, hw3⟩ : ∃ w3, w3 = w2.setCell ⟨lb, 0, none⟩ (.slice A' (p - 1) (c - 1)) := ⟨_, rfl⟩
  rw [← hw3]
  have hpb : lb < w.heap.size := HH.out.1.var.lt
  have g3 : BArr w3 w1.heap.size 24 s := by rw [hw3]; exact HG.out.2.1.other _ _ (by have := HF.out.2.2; simp only; omega)
  have f3 : BArr w3 w.heap.size 24 zero32 := by rw [hw3]; exact HG.out.2.2.2.1.other _ _ (by simp only; omega)
  have v3 : VarAt w3 lb 22 (.slice A' (p - 1) (c - 1)) := by rw [hw3]; exact HG.out.2.2.1.set _
  have HK := Lib.hid (And.intro v3 hw3)
  have g3' := Lib.hid g3.at_
  clear v3 hw3 g3
  go_wp2_with (first | with_reducible refine wpList_load_sum rfl (.tmp 3) rfl ⟨w1.heap.size, 0, none⟩ rfl s hl g3'.out ?_ | with_reducible refine wpList_store_sum rfl (.tmp 1) (.tmp 14) rfl w.heap.size rfl zero32 s HZ32 hl f3 rfl ?_)
  have r4 : BArr (w3.setRow w.heap.size (bvs s).toArray) w.heap.size 24 s := f3.setRow s
  refine bodyPost_ret_by (results_cell_tmp (p := 1) (q := 2) (ty := 24) (by kernel_rfl) _ _ ⟨w.heap.size, 0, none⟩ (sv s) rfl (run_load_sum _ _ s hl r4.at_)) rfl ?_
  have bu : But (· = lb) w w3 := by rw [HK.out.2]; exact ((But.of_below HF.out.2.1).trans (But.of_below HG.out.1)).set 0 _ (fun _ => rfl)
  have HB := HH.out.1
  have hlts := HB.lt
  have hne := HB.ne
  have bu4 : But (· = lb) w (w3.setRow w.heap.size (bvs s).toArray) := ⟨bu.os, bu.tape, bu.output, by rw [setRow_size]; exact bu.size, fun b hb hne => (Go.setRow_other _ _ _ _ (by omega)).trans (bu.block b hb hne)⟩
  refine ⟨rfl, ⟨A', c - 1, ?_⟩, bu4⟩
  · have hpos := HB.pos
    have hnn := HN.out
    refine ⟨?_, ?_, ?_, by omega, ?_, ?_, ?_, ?_, hpos, hne⟩
    · rw [show n - (j + 1) = p - 1 by omega]
      exact HK.out.1.setRow_other _ (by omega) _
    · rw [show n - (j + 1) = p - 1 by omega]; exact HH.out.2.1
    · omega
    · exact (bu4.block _ hlts.2.1 hne.1).trans HB.sum
    · exact HB.nxt.but bu4 hne.2.1
    · exact HB.led.but bu4 hne.2.2
    · exact below_setRow (HB.below.trans (bu.below HB.below.size (fun b e => by rw [e]; exact hpos))) (by have := HB.below.size; omega) _

/-- Both ways in one. -/
theorem knext_any (h : KIn B w ab lb nb gb n j A c ys a) (hn : n ≤ 1000000) (hm : Miss B E) :
    Calls Tryd.prog 26 #[.pointer (some ⟨lb, 0, none⟩)] w fun e w' => e = .returned (.tuple #[sv (nxS ys n j), nxV E n j]) ∧ (∃ A' c', KIn B w' ab lb nb gb n (nxJ n j) A' c' ys a) ∧ But (· = lb) w w' := by
  unfold nxS nxV nxJ
  by_cases hj : j < n
  · rw [if_pos hj, if_pos hj, if_pos hj]
    exact knext_some h hj hn
  · rw [if_neg hj, if_neg hj, if_neg hj]
    exact (knext_none h (by have := h.le; omega) hm).mono fun e w' ⟨he, hb⟩ => ⟨he, ⟨A, c, h.below_ hb⟩, But.of_below hb⟩

end

end Go.Proofs.YtilgikhdamkeoaaDoor
