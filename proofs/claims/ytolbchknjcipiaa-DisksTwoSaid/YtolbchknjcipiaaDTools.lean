/-
  first, left, all: what the statements ask of a disk.
-/
import Derived.Test.YtolbchknjcipiaaDWrites
namespace Go.Proofs.Ytolbchknjcipiaa
open Go.RowKit

theorem Made.disk {w w' : World} {s : St} {g : Nat} (h : Made w s g w') : Disk w' g (fun x => w.heap.size ≤ x ∧ x < w'.heap.size) s := h.1
theorem Made.below {w w' : World} {s : St} {g : Nat} (h : Made w s g w') : Below w.heap.size w w' := h.2

set_option maxRecDepth 100000 in
set_option maxHeartbeats 1000000 in
theorem first_any {w : World} {g : Nat} {F : Nat → Prop} {s : St} {k : Nat} {xs : List Nat} (hx : s.read[k]? = some xs) (h : Disk w g F s) :
    Calls Try.prog 32 #[.pointer (some ⟨g, 0, none⟩), .int .i64 (k : Int)] w fun e w' => e = .returned (.int .u8 ((xs.getD 0 0 : Nat) : Int)) ∧ Below w.heap.size w w' := by
  have hl := (h.1.read xs (List.mem_of_getElem? hx)).1
  have C := read_any hx h
  obtain ⟨x, hx0⟩ : ∃ x, xs.getD 0 0 = x := ⟨_, rfl⟩
  rw [hx0]
  clear h hx
  go_enter Try.func32, Try.ntmps32
  go_wp2_with fail
  refine C.mono ?_
  rintro e w1 ⟨rfl, hB, hb⟩
  have hc := hB.cell (i := 0) (by omega)
  rw [hx0] at hc
  clear hx0
  go_wp2
  go_ret
  exact ⟨rfl, hb⟩

set_option maxRecDepth 100000 in
set_option maxHeartbeats 1000000 in
theorem left_any {w : World} {g : Nat} {F : Nat → Prop} {s : St} (A : Option Addr) (n c : Nat) (ks : List Bool) (hk : InB w A n ks) (h : Disk w g F s) :
    Calls Try.prog 21 #[.pointer (some ⟨g, 0, none⟩), .slice A n c] w fun e w' => ∃ g', e = .returned (.pointer (some ⟨g', 0, none⟩)) ∧ Made w (fresh (settle s.sure (kept s.waits ks))) g' w' := by
  have C := fail_any A n c ks hk h
  clear h
  go_enter Try.func21, Try.ntmps21
  go_wp2_with fail
  refine C.mono ?_
  rintro e w1 ⟨g', rfl, hM⟩
  go_wp2
  go_ret
  exact ⟨g', rfl, hM⟩

/-- P holds in each world whose blocks in G are as w's. -/
def Fixed (G : Nat → Prop) (w : World) (P : World → Prop) : Prop := ∀ w', (∀ x, G x → w'.heap[x]? = w.heap[x]?) → P w'
section
variable {G : Nat → Prop} {w w' : World} {P : World → Prop}
theorem Fixed.now (h : Fixed G w P) : P w := h w (fun _ _ => rfl)
theorem Fixed.but {S : Nat → Prop} (h : Fixed G w P) (hb : But S w w') (hd : ∀ x, G x → ¬ S x) (hl : ∀ x, G x → x < w.heap.size) : Fixed G w' P := fun w'' hs => h w'' (fun x hx => (hs x hx).trans (hb.block x (hl x hx) (hd x hx)))
theorem Fixed.below (h : Fixed G w P) (hb : Below w.heap.size w w') (hl : ∀ x, G x → x < w.heap.size) : Fixed G w' P := fun w'' hs => h w'' (fun x hx => (hs x hx).trans (hb.block x (hl x hx)))
end
/-- The blocks that were made between two worlds. -/
def Newly (w w' : World) (x : Nat) : Prop := w.heap.size ≤ x ∧ x < w'.heap.size

/-- Slices of the sectors R, each in a block of its own. -/
def Each (base : Nat) (w : World) (R : List (List Nat)) (vals : List Value) : Prop := vals.length ≤ R.length ∧ ∀ (i : Nat) (v : Value) (xs : List Nat), vals[i]? = some v → R[i]? = some xs → ∃ B : Nat, v = Value.slice (some ⟨B, 0, none⟩) 64 64 ∧ BArr w B 62 xs ∧ base ≤ B
theorem Each.block {base : Nat} {w w' : World} {R : List (List Nat)} {vals : List Value} (h : Each base w R vals) (hb : ∀ b xs, BArr w b 62 xs → w'.heap[b]? = w.heap[b]?) : Each base w' R vals :=
  ⟨h.1, fun i v xs hv hx => by
    obtain ⟨B, e, hB, hbs⟩ := h.2 i v xs hv hx
    exact ⟨B, e, (hb B xs hB).trans hB, hbs⟩⟩
theorem Each.snoc {base : Nat} {w : World} {R : List (List Nat)} {vals : List Value} {xs : List Nat} {B : Nat} (h : Each base w R vals) (hx : R[vals.length]? = some xs) (hB : BArr w B 62 xs) (hbs : base ≤ B) : Each base w R (vals ++ [Value.slice (some ⟨B, 0, none⟩) 64 64]) := by
  have hl := (List.getElem?_eq_some_iff.1 hx).1
  refine ⟨by rw [List.length_append]; exact hl, fun i v ys hv hy => ?_⟩
  rw [List.getElem?_append] at hv
  by_cases hi : i < vals.length
  · rw [if_pos hi] at hv
    exact h.2 i v ys hv hy
  · rw [if_neg hi] at hv
    have h0 : i = vals.length := by have := (List.getElem?_eq_some_iff.1 hv).1; simp at this; omega
    subst h0
    rw [Nat.sub_self] at hv
    simp at hv
    rw [hx] at hy
    cases hy
    exact ⟨B, hv.symm, hB, hbs⟩

theorem infoBs : (Try.prog.info? 22).map (fun i => (i.zero, i.size, i.bytes)) = some (some (.slice none 0 0), 1, 24) := by kernel_rfl
theorem type_ne4 : 62 ≠ 22 := by decide

/-- All sectors, each in memory of its own. -/
def Shown (w : World) (R : List (List Nat)) (e : Ending) (w' : World) : Prop := ∃ (A : Option Addr) (c : Nat), e = .returned (.slice A R.length c) ∧ Fixed (Newly w w') w' (fun w => CameRows w A R.length R) ∧ Below w.heap.size w w'

set_option maxRecDepth 100000 in
set_option maxHeartbeats 2000000 in
theorem all_any {w : World} {g : Nat} {F : Nat → Prop} {s : St} (h : Disk w g F s) :
    Calls Try.prog 20 #[.pointer (some ⟨g, 0, none⟩)] w (Shown w s.read) := by
  obtain ⟨i0, hi, hz0, hz1, hz2⟩ := info_parts infoBs
  obtain ⟨R, hR⟩ : ∃ R, s.read = R := ⟨_, rfl⟩
  have hn : s.sure.length = R.length := by rw [← hR, s.read_length]
  have hRs : ∀ x ∈ R, Sec x := hR ▸ h.1.read
  have hle : R.length ≤ 4096 := hn ▸ h.1.le
  rw [hR]
  have H := Lib.hid (And.intro h (And.intro hR (And.intro hn hRs)))
  clear h hR hn hRs
  go_enter Try.func20, Try.ntmps20
  go_wp2
  go_loopw [3, 4] (fun t i wr => ∃ (j : Nat) (vals : List Value), j ≤ R.length ∧ vals.length = j ∧ i = .int .i64 (j : Int) ∧ Hid (wr.ownsRow w.heap.size 22 1 t j vals ∧ Each w.heap.size wr R vals ∧ Below w.heap.size w wr)) (fun _ i _ => R.length - (intOf i).toNat)
  case atStart => exact ⟨0, [], Nat.zero_le _, rfl, rfl, Lib.hid ⟨⟨rfl, .inl ⟨rfl, rfl⟩⟩, ⟨Nat.zero_le _, fun i v xs h => by simp at h⟩, Below.refl _ w⟩⟩
  case round =>
    obtain ⟨j, vals, hj, hv, rfl, hrel⟩ := hrel
    have hd := H.out.1.below hrel.out.2.2
    have CL := len_any hd
    rw [H.out.2.2.1] at CL
    by_cases hlt : j < R.length
    · obtain ⟨xs, hxs⟩ : ∃ xs, R[j]? = some xs := ⟨_, List.getElem?_eq_getElem hlt⟩
      have CR := read_any (k := j) (xs := xs) (by rw [H.out.2.1]; exact hxs) hd
      have hji : (j : Int) < (R.length : Int) := by omega
      have HX := Lib.hid (And.intro hxs (And.intro hv hd))
      have HR := Lib.hid CR
      clear CR hd hxs hv
      go_wp2_with fail
      refine CL.mono ?_
      rintro e w1 ⟨rfl, rfl⟩
      go_wp2_with fail
      refine HR.out.mono ?_
      rintro e w1 ⟨rfl, hB1, hb1⟩
      have own1 := own_block (w' := w1) hrel.out.1 (fun b hb => hb1.block b (own_lt hrel.out.1 hb))
      have each1 := hrel.out.2.1.block (w' := w1) (fun b xs hb => hb1.block b hb.lt)
      have bel1 : Below w.heap.size w w1 := below_on hrel.out.2.2 (Nat.le_refl _) hb1
      obtain ⟨Bn, hBn⟩ : ∃ Bn, wr.heap.size = Bn := ⟨_, rfl⟩
      have hz2' := bel1.size
      have hBs : w.heap.size ≤ Bn := hBn ▸ hrel.out.2.2.size
      rw [hBn] at hB1 ⊢
      have H1 := Lib.hid (And.intro own1 (And.intro each1 (And.intro bel1 hB1)))
      clear own1 each1 bel1 hB1 hb1 CL HR hrel hBn
      go_wp2_with (at_builtin; refine wpList_append_lies _ rfl _ _ 44 rfl w.heap.size 22 i0 _ 1 24 Try.underlying44 hi hz0 hz1 hz2 (by rfl) (by decide) u3 j vals rfl (own_block H1.out.1 (fun b hb => heap_alloc_old w1 _ (own_lt H1.out.1 hb))) ⟨w1.heap.size, 0, none⟩ 1 1 [.slice (some ⟨Bn, 0, none⟩) 64 64] rfl rfl (World.news_of_block (cs := #[.slice (some ⟨Bn, 0, none⟩) 64 64]) (t := 22) (fr := (0, 0)) (World.alloc_heap_new w1 _)) (by simp [Value.oneCell']) (by decide) (by unfold maxLen; omega) (by omega) (by simp; omega) _ rfl ?_; intro gg cap w2 hown hgrow hat hlt2)
      have hown3 := hown
      have each3 : Each w.heap.size w2 R (vals ++ [Value.slice (some ⟨Bn, 0, none⟩) 64 64]) := by
        refine (H1.out.2.1.snoc (by rw [HX.out.2.1]; exact HX.out.1) H1.out.2.2.2 hBs).block (fun b ys hb => ?_)
        refine (hgrow.block b (by have := hb.lt; simp; omega) (fun e => ?_)).trans (heap_alloc_old w1 _ hb.lt)
        obtain ⟨cur, hc⟩ := own_type H1.out.1 e.symm
        exact block_ne hb hc type_ne4 rfl
      have bel3 : Below w.heap.size w w2 := (H1.out.2.2.1.alloc H1.out.2.2.1.size _).grown hgrow (by simp; omega) (fun b hb => by
        rcases H1.out.1.2 with ⟨e0, _⟩ | ⟨g0, cap0, cur0, e0, hb0, _⟩
        · rw [e0] at hb; cases hb
        · rw [e0] at hb; cases hb; exact hb0)
      have H3 := Lib.hid (And.intro hown3 (And.intro each3 bel3))
      have hvl := HX.out.2.1
      clear hown hown3 each3 bel3 hgrow hat hlt2 H1
      go_roundw
      case rel => exact ⟨j + 1, _, by omega, by rw [List.length_append, hvl]; rfl, by go_num, H3⟩
      case measure => simp [intOf]; omega
    · obtain rfl : j = R.length := by omega
      have hji : decide ((R.length : Int) < (R.length : Int)) = false := by simp
      have HR := Lib.hid (And.intro hv hd)
      clear hv hd
      go_wp2_with fail
      refine CL.mono ?_
      rintro e w1 ⟨rfl, rfl⟩
      go_wp2
      go_ret
      obtain ⟨A, c, rfl⟩ : ∃ A c, u3 = .slice A R.length c := by
        obtain ⟨A, c, e, _⟩ := row_form hrel.out.1
        exact ⟨A, c, e⟩
      refine ⟨A, c, rfl, fun W hW => ⟨rfl, fun r xs hx => ?_⟩, hrel.out.2.2⟩
      have hr := (List.getElem?_eq_some_iff.1 hx).1
      obtain ⟨v, hv⟩ : ∃ v, vals[r]? = some v := ⟨_, List.getElem?_eq_getElem (by rw [HR.out.1]; exact hr)⟩
      obtain ⟨B, rfl, hB, hBb⟩ := hrel.out.2.1.2 r v xs hv hx
      obtain ⟨g0, cap0, e0, hg0, hgl⟩ := hrel.out.1.form (by omega)
      cases e0
      have hs := H.out.2.2.2 xs (List.mem_of_getElem? hx)
      have hB' : BArr W B 62 xs := (hW B ⟨hBb, hB.lt⟩).trans hB
      refine ⟨⟨g0, 0, none⟩, some ⟨B, 0, none⟩, 64, 64, rfl, ?_, ⟨⟨hs.1, fun k x hk => ⟨_, rfl, ?_⟩⟩, hs.2, (fun h => by cases h), Nat.le_refl _⟩, by omega⟩
      · refine (World.cell?_of_block ?_).trans (hrel.out.1.cells rfl r _ hv)
        rw [block_add]
        exact hW g0 ⟨hg0, hgl⟩
      · exact hB'.at_ k x hk

end Go.Proofs.Ytolbchknjcipiaa
