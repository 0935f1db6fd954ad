/-
  paths.end's closures: the one that takes the next sum of a path out of a variable, and the one that is deferred.
-/
import Derived.Test.YtppfdpnplemfkaaDoorVTools
import Derived.Test.YtppfdpnplemfkaaDoorLBut
import Derived.Test.YtppfdpnplemfkaaDoorWPure
import Derived.Recover
namespace Go.Proofs.YtppfdpnplemfkaaDoor
open Go.RowKit

/-- Block g is a variable of one cell. -/
def VarAt (w : World) (g : Nat) (T : TypeId) (v : Value) : Prop := w.heap[g]? = some (.cells #[v] T (0, 0))
section
variable {w w' : World} {g : Nat} {T : TypeId} {v : Value}
theorem VarAt.cell (h : VarAt w g T v) : w.cell? ⟨g, 0, none⟩ = some v := by rw [cell_of_row _ g 0 _ T (0, 0) h]; rfl
theorem VarAt.free (h : VarAt w g T v) : w.frozen? ⟨g, 0, none⟩ = false := frozen_of_row w g 0 _ T h
theorem VarAt.below (h : VarAt w g T v) (hb : Below w.heap.size w w') : VarAt w' g T v := (hb.block g (Array.getElem?_eq_some_iff.1 h).1).trans h
theorem VarAt.lt (h : VarAt w g T v) : g < w.heap.size := (Array.getElem?_eq_some_iff.1 h).1
theorem VarAt.new (w : World) (T : TypeId) (v : Value) : VarAt (w.alloc (.cells #[v] T)) w.heap.size T v := World.alloc_heap_new w _
theorem VarAt.set (h : VarAt w g T v) (u : Value) : VarAt (w.setCell ⟨g, 0, none⟩ u) g T u := by
  unfold VarAt
  rw [heap_setCell_same w g 0 _ T _ h]
  rfl
theorem VarAt.setRow_other (h : VarAt w g T v) (k : Nat) (hne : g ≠ k) (cs : Array Value) : VarAt (w.setRow k cs) g T v := by
  unfold VarAt
  rw [Go.setRow_other _ _ _ _ hne]
  exact h
end

/-- The path stands in variable pb, from number j on; everything else is as it was when the call began (B). -/
structure PIn (B w : World) (pb n j : Nat) (A : Option Addr) (c : Nat) (ys : List Nat) : Prop where
  var : VarAt w pb 22 (.slice A (n - j) c)
  in_ : InS B A (n - j) (ys.drop (32 * j))
  cap : n - j ≤ c
  le : j ≤ n
  below : Below B.heap.size B w
  pos : B.heap.size ≤ pb
theorem PIn.below_ {B w w' : World} {pb n j c : Nat} {A : Option Addr} {ys : List Nat} (h : PIn B w pb n j A c ys) (hb : Below w.heap.size w w') : PIn B w' pb n j A c ys :=
  ⟨h.var.below hb, h.in_, h.cap, h.le, below_on h.below (Nat.le_refl _) hb, h.pos⟩
theorem PIn.setRow {B w : World} {pb n j c : Nat} {A : Option Addr} {ys : List Nat} (h : PIn B w pb n j A c ys) {k : Nat} (hk : B.heap.size ≤ k) (hne : pb ≠ k) (cs : Array Value) : PIn B (w.setRow k cs) pb n j A c ys :=
  ⟨h.var.setRow_other k hne cs, h.in_, h.cap, h.le, below_setRow h.below hk cs, h.pos⟩

/-- What the closure panics with. -/
def fell : List PanicEntry := [{ v := .iface 9 (.string { data := #[97, 32, 112, 97, 116, 104, 32, 111, 102, 32, 116, 111, 111, 32, 102, 101, 119, 32, 115, 117, 109, 115] }), recovered := false }]

section
variable {B w : World} {pb n j c : Nat} {A : Option Addr} {ys : List Nat}

set_option maxRecDepth 100000 in
set_option maxHeartbeats 2000000 in
theorem next_none (h : PIn B w pb n j A c ys) (hj : j = n) :
    Calls Tryd.prog 25 #[.pointer (some ⟨pb, 0, none⟩)] w fun e w' => e = .panicked fell ∧ Below w.heap.size w w' := by
  subst hj
  have hc := h.var.cell
  rw [Nat.sub_self] at hc
  have e0 : (bvs zero32).toArray = #[.int .u8 0, .int .u8 0, .int .u8 0, .int .u8 0, .int .u8 0, .int .u8 0, .int .u8 0, .int .u8 0, .int .u8 0, .int .u8 0, .int .u8 0, .int .u8 0, .int .u8 0, .int .u8 0, .int .u8 0, .int .u8 0, .int .u8 0, .int .u8 0, .int .u8 0, .int .u8 0, .int .u8 0, .int .u8 0, .int .u8 0, .int .u8 0, .int .u8 0, .int .u8 0, .int .u8 0, .int .u8 0, .int .u8 0, .int .u8 0, .int .u8 0, .int .u8 0] := rfl
  have b1 := below_alloc w (.cells (bvs zero32).toArray 24)
  rw [e0] at b1
  clear e0
  have hc1 := (b1.cell h.var.lt).trans hc
  have HB := Lib.hid b1
  clear b1 h
  go_enter Tryd.func25, Tryd.ntmps25
  go_upto_region 1 with fail
  obtain ⟨w1, hw1⟩ : ∃ w1, w1 = w.alloc (.cells #[.int .u8 0, .int .u8 0, .int .u8 0, .int .u8 0, .int .u8 0, .int .u8 0, .int .u8 0, .int .u8 0, .int .u8 0, .int .u8 0, .int .u8 0, .int .u8 0, .int .u8 0, .int .u8 0, .int .u8 0, .int .u8 0, .int .u8 0, .int .u8 0, .int .u8 0, .int .u8 0, .int .u8 0, .int .u8 0, .int .u8 0, .int .u8 0, .int .u8 0, .int .u8 0, .int .u8 0, .int .u8 0, .int .u8 0, .int .u8 0, .int .u8 0, .int .u8 0] 24) := ⟨_, rfl⟩
  rw [← hw1] at HB hc1 ⊢
  clear hw1
  go_wp2_with fail
  exact ⟨rfl, rfl, HB.out⟩

set_option maxRecDepth 100000 in
set_option maxHeartbeats 2000000 in
theorem next_some (h : PIn B w pb n j A c ys) (hj : j < n) (hn : n ≤ 1000000) :
    Calls Tryd.prog 25 #[.pointer (some ⟨pb, 0, none⟩)] w fun e w' => e = .returned (sv (nth ys j)) ∧ (∃ A' c', PIn B w' pb n (j + 1) A' c' ys) ∧ But (· = pb) w w' := by
  obtain ⟨p, hp⟩ : ∃ p, n - j = p := ⟨_, rfl⟩
  have hp0 : 0 < p := by omega
  have hin := h.in_
  rw [hp] at hin
  obtain ⟨ad, hA, hl, hat⟩ := hin.at_ hp0
  subst hA
  rw [Nat.zero_mul, add_zero', nth_drop, Nat.add_zero] at hat
  rw [nth_drop, Nat.add_zero] at hl
  obtain ⟨s, hs⟩ : ∃ s, nth ys j = s := ⟨_, rfl⟩
  rw [hs] at hat hl ⊢
  have hcap := h.cap
  rw [hp] at hcap
  obtain ⟨A', hcut, hA'⟩ := cut_nameS (A := some ad) (n := p) (c := c) (k := 1) (by omega)
  have hcut1 : ∀ W : World, (Instr.slice 22 (.slice (some ad) p c) (some (.int .i64 1)) none none).run Tryd.prog W = .ok (.slice A' (p - 1) (c - 1)) W := hcut
  have hin' : InS B A' (p - 1) (ys.drop (32 * (j + 1))) := by
    rw [hA', show 32 * (j + 1) = 32 * j + 32 * 1 by omega, ← List.drop_drop]
    split
    · rename_i e
      obtain rfl : p = 1 := by omega
      have := hin.drop_ 1 (Nat.le_refl _)
      rw [Nat.sub_self] at this ⊢
      exact ⟨this.len, by rw [List.eq_nil_of_length_eq_zero (l := List.drop (32 * 1) (ys.drop (32 * j))) (by rw [this.len])]; exact Rd.nil _ _⟩
    · exact hin.drop_ 1 (by omega)
  have hc := h.var.cell
  rw [hp] at hc
  have e0 : (bvs zero32).toArray = #[.int .u8 0, .int .u8 0, .int .u8 0, .int .u8 0, .int .u8 0, .int .u8 0, .int .u8 0, .int .u8 0, .int .u8 0, .int .u8 0, .int .u8 0, .int .u8 0, .int .u8 0, .int .u8 0, .int .u8 0, .int .u8 0, .int .u8 0, .int .u8 0, .int .u8 0, .int .u8 0, .int .u8 0, .int .u8 0, .int .u8 0, .int .u8 0, .int .u8 0, .int .u8 0, .int .u8 0, .int .u8 0, .int .u8 0, .int .u8 0, .int .u8 0, .int .u8 0] := rfl
  have f1 := BArr.new w 24 zero32
  have b1 := below_alloc w (.cells (bvs zero32).toArray 24)
  have s1 : (w.alloc (.cells (bvs zero32).toArray 24)).heap.size = w.heap.size + 1 := by simp
  rw [e0] at f1 b1 s1
  clear e0
  have hc1 := (b1.cell h.var.lt).trans hc
  have hp1 : ((p : Int) == 0) = false := by simp; omega
  have hp2 : (0 : Int) < (p : Int) := by omega
  have HAt := Lib.hid ((hat.below h.below).below b1)
  have HF := Lib.hid (And.intro f1 (And.intro b1 s1))
  have HV := Lib.hid (h.var.below b1)
  have HH := Lib.hid (And.intro h (And.intro hin' hs))
  have HN := Lib.hid (And.intro hp (And.intro hj (And.intro hcap hn)))
  clear f1 b1 s1 hat hcut hA' hin' hin h hs hp hj hcap hn hc
  go_enter Tryd.func25, Tryd.ntmps25
  go_upto_region 1 with fail
  obtain ⟨w1, hw1⟩ : ∃ w1, w1 = w.alloc (.cells #[.int .u8 0, .int .u8 0, .int .u8 0, .int .u8 0, .int .u8 0, .int .u8 0, .int .u8 0, .int .u8 0, .int .u8 0, .int .u8 0, .int .u8 0, .int .u8 0, .int .u8 0, .int .u8 0, .int .u8 0, .int .u8 0, .int .u8 0, .int .u8 0, .int .u8 0, .int .u8 0, .int .u8 0, .int .u8 0, .int .u8 0, .int .u8 0, .int .u8 0, .int .u8 0, .int .u8 0, .int .u8 0, .int .u8 0, .int .u8 0, .int .u8 0, .int .u8 0] 24) := ⟨_, rfl⟩
  rw [← hw1] at HF HAt HV hc1 ⊢
  clear hw1
  have HZ32 := Lib.hid (show zero32.length = 32 from rfl)
  go_upto_region 4 with (first | with_reducible refine wpList_load_sum rfl (.tmp 8) rfl ad rfl s hl HAt.out ?_ | with_reducible refine wpList_store_new w1 _ rfl rfl (.tmp 2) (.tmp 9) rfl rfl s hl rfl ?_)
  have b2 := below_alloc w1 (.cells (bvs s).toArray 24)
  have g2 := BArr.new w1 24 s
  have V2 := HV.out.below b2
  have F2 := HF.out.1.below b2
  have s2 : (w1.alloc (.cells (bvs s).toArray 24)).heap.size = w1.heap.size + 1 := by simp
  have hc2 := (b2.cell HV.out.lt).trans hc1
  have hf2 := V2.free
  obtain ⟨w2, hw2⟩ : ∃ w2, w2 = w1.alloc (.cells (bvs s).toArray 24) := ⟨_, rfl⟩
  rw [← hw2] at b2 g2 V2 F2 s2 hc2 hf2 ⊢
  clear hw2
  have HG := Lib.hid (And.intro b2 (And.intro g2 (And.intro V2 (And.intro F2 s2))))
  clear b2 g2 V2 F2 s2
  go_upto_region 5 with fail
  obtain ⟨w3, hw3⟩ : ∃ w3, w3 = w2.setCell ⟨pb, 0, none⟩ (.slice A' (p - 1) (c - 1)) := ⟨_, rfl⟩
  rw [← hw3]
  have hpb : pb < w.heap.size := HH.out.1.var.lt
  have g3 : BArr w3 w1.heap.size 24 s := by rw [hw3]; exact HG.out.2.1.other _ _ (by have := HF.out.2.2; simp only; omega)
  have f3 : BArr w3 w.heap.size 24 zero32 := by rw [hw3]; exact HG.out.2.2.2.1.other _ _ (by simp only; omega)
  have v3 : VarAt w3 pb 22 (.slice A' (p - 1) (c - 1)) := by rw [hw3]; exact HG.out.2.2.1.set _
  have HK := Lib.hid (And.intro v3 hw3)
  have g3' := Lib.hid g3.at_
  clear v3 hw3 g3
  go_wp2_with (first | with_reducible refine wpList_load_sum rfl (.tmp 2) rfl ⟨w1.heap.size, 0, none⟩ rfl s hl g3'.out ?_ | with_reducible refine wpList_store_sum rfl (.tmp 1) (.tmp 12) rfl w.heap.size rfl zero32 s HZ32 hl f3 rfl ?_)
  refine bodyPost_ret_by (results_cell_row (p := 1) (ty := 24) (by kernel_rfl) _ _ w.heap.size 24 (bvs s).toArray (0, 0) _ rfl (f3.setRow _) Tryd.underlying24 rfl (by rw [List.size_toArray, bvs_length, hl]; exact sizeSum)) rfl ?_
  have bu : But (· = pb) w w3 := by rw [HK.out.2]; exact ((But.of_below HF.out.2.1).trans (But.of_below HG.out.1)).set 0 _ (fun _ => rfl)
  have HB := HH.out.1
  refine ⟨rfl, ⟨A', c - 1, ?_⟩, ?_⟩
  · have hpos := HB.pos
    have hnn := HN.out
    refine ⟨?_, ?_, ?_, by omega, ?_, hpos⟩
    · rw [show n - (j + 1) = p - 1 by omega]
      exact HK.out.1.setRow_other _ (by omega) _
    · rw [show n - (j + 1) = p - 1 by omega]; exact HH.out.2.1
    · omega
    · exact below_setRow (HB.below.trans (bu.below HB.below.size (fun b e => by rw [e]; exact hpos))) (by have := HB.below.size; omega) _
  · exact ⟨bu.os, bu.tape, bu.output, by rw [setRow_size]; exact bu.size, fun b hb hne => (Go.setRow_other _ _ _ _ (by omega)).trans (bu.block b hb hne)⟩
end

end Go.Proofs.YtppfdpnplemfkaaDoor
