/-
  Several texts in one: CLists, CPathNo, CAlive, LSameBytes, CSameB, LFlat, CSums, CGreat, CDPath.
-/
import Derived.Test.YtnaebjdccngeoaaDoorCLkB1
import Derived.Lib.SmallJoins
import Derived.Test.YtnaebjdccngeoaaDoorLMem
import Derived.Deep.QuietTactic
import Derived.BigQuiet
import Derived.Test.YtnaebjdccngeoaaDoorLSum
import Derived.Test.YtnaebjdccngeoaaDoorLTot
import Derived.Test.YtnaebjdccngeoaaDoorCVar
import Derived.Deep.RegionWith
import Derived.Test.YtnaebjdccngeoaaDoorWPure
/-
  clashes.Lists.
-/
namespace Go.Proofs.YtnaebjdccngeoaaDoor
open Go.RowKit

/-- What is told: a clash and true, or none and false. -/
def Tells (base : Nat) (b : Bool) (e : Ending) (w' : World) : Prop := ∃ v, e = .returned (.tuple #[v, .bool b]) ∧ (b = true → Shown base w' v) ∧ (b = false → v = clv none 0 0 none 0 0)
/-- Do lists tell one? -/
def listsB (R S : List (List Nat)) : Bool := decide (R.length = S.length) && (!decide (R = S) && decide (rtl R = rtl S))

theorem own_setRow_below {w : World} {base e size n g : Nat} {v : Value} {xs : List Value} (h : w.ownsRow base e size v n xs) (hg : g < base) (cs : Array Value) : (w.setRow g cs).ownsRow base e size v n xs :=
  ⟨h.1, h.2.elim Or.inl (fun ⟨k, cap, cur, hv, hk, hh, r⟩ => Or.inr ⟨k, cap, cur, hv, hk, (Go.setRow_other _ _ _ _ (by omega)).trans hh, r⟩)⟩
theorem two_setRow {base : Nat} {w : World} {A : Option Addr} {n c : Nat} {xs : List Nat} {B : Option Addr} {m d : Nat} {ys : List Nat} (h : Two base w A n c xs B m d ys) {g : Nat} (hg : g < base) (cs : Array Value) : Two base (w.setRow g cs) A n c xs B m d ys :=
  ⟨own_setRow_below h.a hg cs, own_setRow_below h.b hg cs, h.apart, h.lta, h.ltb, h.na, h.nb⟩

section
variable {w : World} {A B : Option Addr} {n m c d : Nat} {R S : List (List Nat)}

set_option maxRecDepth 100000 in
set_option maxHeartbeats 2000000 in
theorem lists1_any {g : Nat} (hR : VarAt w g 22 (.slice A n c)) (hS : VarAt w (g + 1) 22 (.slice B n d)) (E1 : Ent w A n c R) (E2 : Ent w B n d S) (hk : Knows w) (hks : Starts w) (hn : n ≤ 60000) (hne : R ≠ S) (hr : rtl R = rtl S) :
    Calls Tryd.prog 58 #[.pointer (some ⟨g, 0, none⟩), .pointer (some ⟨g + 1, 0, none⟩)] w fun e w' => (∃ u, e = .panicked (tells u) ∧ Shown w.heap.size w' u) ∧ Below w.heap.size w w' := by
  have h1 : 1 ≤ n := by
    cases n with
    | zero =>
      have a := List.eq_nil_of_length_eq_zero E1.len
      have b := List.eq_nil_of_length_eq_zero E2.len
      exact absurd (a.trans b.symm) hne
    | succ k => omega
  obtain ⟨adA, rfl⟩ := E1.some_ h1
  obtain ⟨adB, rfl⟩ := E2.some_ h1
  have C := Lib.hid (down_any n w adA adB c d R S E1 E2 hk hks h1 hn)
  have c0 := hR.cell
  have c1 := hS.cell
  have HN := Lib.hid (And.intro hne hr)
  clear hR hS E1 E2 hk hks hne hr h1 hn
  go_enter Tryd.func58, Tryd.ntmps58
  go_wp2_with fail
  refine C.out.mono ?_
  rintro e w' ⟨hT, hb⟩
  rcases hT with ⟨_, h⟩ | ⟨u, rfl, hu⟩
  · exact absurd (h HN.out.2) HN.out.1
  · have HU := Lib.hid (And.intro hu hb)
    clear hu hb
    go_wp2_with fail
    exact ⟨rfl, ⟨u, rfl, HU.out.1⟩, HU.out.2⟩

/-- The world in which Lists begins. -/
structure ListsIn (w w3 : World) (g : Nat) (x y : Value) : Prop where
  a : VarAt w3 g 22 x
  b : VarAt w3 (g + 1) 22 y
  res : Cells w3 (g + 2) 30 #[.slice none 0 0, .slice none 0 0]
  below : Below g w w3
  size : w3.heap.size = g + 3
theorem ListsIn.mk_ (w : World) (g : Nat) (x y : Value) (hg : w.heap.size = g) : ListsIn w (((w.alloc (.cells #[x] 22)).alloc (.cells #[y] 22)).alloc (.cells #[.slice none 0 0, .slice none 0 0] 30)) g x y := by
  have h0 := VarAt.new w 22 x
  have b0 := below_alloc w (.cells #[x] 22)
  obtain ⟨w0, e0⟩ : ∃ w0, w0 = w.alloc (.cells #[x] 22) := ⟨_, rfl⟩
  have s0 : w0.heap.size = g + 1 := by rw [e0]; simp [hg]
  rw [← e0] at h0 b0 ⊢
  have h1 := VarAt.new w0 22 y
  have b1 := below_alloc w0 (.cells #[y] 22)
  obtain ⟨w1, e1⟩ : ∃ w1, w1 = w0.alloc (.cells #[y] 22) := ⟨_, rfl⟩
  have s1 : w1.heap.size = g + 2 := by rw [e1]; simp [s0]
  rw [← e1] at h1 b1 ⊢
  have h2 := Cells.new w1 30 #[.slice none 0 0, .slice none 0 0]
  have b2 := below_alloc w1 (.cells #[.slice none 0 0, .slice none 0 0] 30)
  rw [hg] at h0 b0
  rw [s0] at h1
  rw [s1] at h2
  exact ⟨(h0.below b1).below b2, h1.below b2, h2, below_on (below_on b0 (by omega) b1) (by omega) b2, by simp [s1]⟩

set_option maxRecDepth 100000 in
set_option maxHeartbeats 8000000 in
theorem lists_any (E1 : Ent w A n c R) (E2 : Ent w B m d S) (hk : Knows w) (hks : Starts w) (hn : n ≤ 60000) (hm : m ≤ 60000) :
    Calls Tryd.prog 32 #[.slice A n c, .slice B m d] w fun e w' => Tells w.heap.size (listsB R S) e w' ∧ Below w.heap.size w w' := by
  obtain ⟨g, hg⟩ : ∃ g, w.heap.size = g := ⟨_, rfl⟩
  have h3 := ListsIn.mk_ w g (.slice A n c) (.slice B m d) hg
  obtain ⟨w3, hw3⟩ : ∃ w3, w3 = ((w.alloc (.cells #[.slice A n c] 22)).alloc (.cells #[.slice B m d] 22)).alloc (.cells #[.slice none 0 0, .slice none 0 0] 30) := ⟨_, rfl⟩
  rw [← hw3] at h3
  have HW := Lib.hid hw3
  have HG := Lib.hid hg
  have H3 := Lib.hid h3
  have HKn := Lib.hid (And.intro hk (And.intro hks (And.intro E1 E2)))
  have b03 : Below w.heap.size w w3 := by rw [hg]; exact h3.below
  have HC0 := Lib.hid (fun (W : World) (hW : Below w3.heap.size w3 W) => show W.cell? ⟨g, 0, none⟩ = some (.slice A n c) from (h3.a.below hW).cell)
  have HC1 := Lib.hid (fun (W : World) (hW : Below w3.heap.size w3 W) => show W.cell? ⟨g + 1, 0, none⟩ = some (.slice B m d) from (h3.b.below hW).cell)
  have CB := Lib.hid (fun (hnm : n ≤ m) (W : World) (hW : Below w3.heap.size w3 W) => show Calls Tryd.prog 35 #[.slice A n c, .slice B m d] W fun e w' => e = .returned (.bool (decide (R = S.take n))) ∧ Below W.heap.size W w' from
    (begins_any (E1.below (below_on b03 (Nat.le_refl _) hW)) (E2.below (below_on b03 (Nat.le_refl _) hW)) hnm (by omega)).mono fun e w' ⟨he, h⟩ => ⟨he, by rw [h]; exact Below.refl _ _⟩)
  obtain ⟨rr, hrr⟩ : ∃ r, rtl R = r := ⟨_, rfl⟩
  obtain ⟨rs, hrs⟩ : ∃ r, rtl S = r := ⟨_, rfl⟩
  have CR := Lib.hid (fun (W : World) (hW : Below w3.heap.size w3 W) => show Calls Tryd.prog 36 #[.slice A n c] W fun e w' => e = .returned (sv rr) ∧ Below W.heap.size W w' from by
    have hb := below_on b03 (Nat.le_refl _) hW
    rw [← hrr]; exact croot_any (E1.below hb) hn (hk.below hb) (hks.below hb))
  have CS := Lib.hid (fun (W : World) (hW : Below w3.heap.size w3 W) => show Calls Tryd.prog 36 #[.slice B m d] W fun e w' => e = .returned (sv rs) ∧ Below W.heap.size W w' from by
    have hb := below_on b03 (Nat.le_refl _) hW
    rw [← hrs]; exact croot_any (E2.below hb) hm (hk.below hb) (hks.below hb))
  have lr : rr.length = 32 := by rw [← hrr]; exact rtl_length _
  have ls : rs.length = 32 := by rw [← hrs]; exact rtl_length _
  have q1 := run_neq_sum rr rs lr ls
  have q2 := run_guard_neq
  have hB : listsB R S = (decide (n = m) && (!decide (R = S) && decide (rr = rs))) := by unfold listsB; rw [E1.len, E2.len, hrr, hrs]
  have HL := Lib.hid (And.intro E1.len (And.intro E2.len (And.intro hrr hrs)))
  rw [hg, hB]
  clear h3 hw3 hg hk hks hB hrr hrs
  go_enter Tryd.func32, Tryd.ntmps32
  go_upto_region 1 with fail
  rw [← HW.out]
  rw [HG.out]
  by_cases hnm0 : n = m
  · subst hnm0
    have hnm : n ≤ n := Nat.le_refl _
    have hnn : ((n : Int) != (n : Int)) = false := by simp
    have hst : S.take n = S := List.take_of_length_le (by rw [HL.out.2.1]; exact Nat.le_refl _)
    rw [hst] at CB
    clear hst
    by_cases hRS : R = S
    · rw [decide_eq_true hRS] at CB
      have hSa1 : Below w3.heap.size w3 w3.drew := (Below.refl _ _).drew
      refine wp_region_held_drew (S := fun W => Below w3.heap.size w3 W) (by kernel_rfl) (hSa1) (fun _ => ?_)
      change wpAnyH _ _ _ _ _ _ _ _ w3.drew
      generalize w3.drew = Wa2 at hSa1 ⊢
      refine' wpAnyH_take (i := 0) (oi := _) (v := _) ?hia3 (by kernel_rfl) ?hfa3 ?hra3 ?hQa3 ?hya3 (hSa1) ?resta3
      case hia3 => (simp only [List.getElem?_toArray, List.getElem?_cons_zero]; rfl)
      case hfa3 => kernel_rfl
      case hra3 => kernel_rfl
      case hQa3 => exact fun _ _ _ h => h
      case hya3 => refine Or.inl ⟨by rfl, ?_⟩; intro W hSw; have hcc := HC0.out W hSw; go_simp; try with_reducible rfl
      try simp only [Act.put, List.setIfInBounds_toArray, List.set_cons_zero, List.set_cons_succ]
      refine' wpAnyH_take (i := 1) (oi := _) (v := _) ?hia4 (by kernel_rfl) ?hfa4 ?hra4 ?hQa4 ?hya4 (hSa1) ?resta4
      case hia4 => (simp only [List.getElem?_toArray, List.getElem?_cons_zero, List.getElem?_cons_succ]; rfl)
      case hfa4 => kernel_rfl
      case hra4 => kernel_rfl
      case hQa4 => exact fun _ _ _ h => h
      case hya4 => refine Or.inl ⟨by rfl, ?_⟩; intro W hSw; go_simp; try with_reducible rfl
      try simp only [Act.put, List.setIfInBounds_toArray, List.set_cons_zero, List.set_cons_succ]
      refine' wpAnyH_take (i := 2) (oi := _) (v := _) ?hia5 (by kernel_rfl) ?hfa5 ?hra5 ?hQa5 ?hya5 (hSa1) ?resta5
      case hia5 => (simp only [List.getElem?_toArray, List.getElem?_cons_zero, List.getElem?_cons_succ]; rfl)
      case hfa5 => kernel_rfl
      case hra5 => kernel_rfl
      case hQa5 => exact fun _ _ _ h => h
      case hya5 => refine Or.inl ⟨by rfl, ?_⟩; intro W hSw; have hcc := HC1.out W hSw; go_simp; try with_reducible rfl
      try simp only [Act.put, List.setIfInBounds_toArray, List.set_cons_zero, List.set_cons_succ]
      refine' wpAnyH_take (i := 3) (oi := _) (v := _) ?hia6 (by kernel_rfl) ?hfa6 ?hra6 ?hQa6 ?hya6 (hSa1) ?resta6
      case hia6 => (simp only [List.getElem?_toArray, List.getElem?_cons_zero, List.getElem?_cons_succ]; rfl)
      case hfa6 => kernel_rfl
      case hra6 => kernel_rfl
      case hQa6 => exact fun _ _ _ h => h
      case hya6 => refine Or.inl ⟨by rfl, ?_⟩; intro W hSw; go_simp; try with_reducible rfl
      try simp only [Act.put, List.setIfInBounds_toArray, List.set_cons_zero, List.set_cons_succ]
      refine' wpAnyH_take (i := 4) (oi := _) (v := _) ?hia7 (by kernel_rfl) ?hfa7 ?hra7 ?hQa7 ?hya7 (hSa1) ?resta7
      case hia7 => (simp only [List.getElem?_toArray, List.getElem?_cons_zero, List.getElem?_cons_succ]; rfl)
      case hfa7 => kernel_rfl
      case hra7 => kernel_rfl
      case hQa7 => exact fun _ _ _ h => h
      case hya7 => refine Or.inl ⟨by rfl, ?_⟩; intro W hSw; go_simp; try with_reducible rfl
      try simp only [Act.put, List.setIfInBounds_toArray, List.set_cons_zero, List.set_cons_succ]
      refine' wpAnyH_take (i := 5) (oi := _) (v := _) ?hia8 (by kernel_rfl) ?hfa8 ?hra8 ?hQa8 ?hya8 (hSa1) ?resta8
      case hia8 => (simp only [List.getElem?_toArray, List.getElem?_cons_zero, List.getElem?_cons_succ]; rfl)
      case hfa8 => kernel_rfl
      case hra8 => kernel_rfl
      case hQa8 => exact fun _ _ _ h => h
      case hya8 => refine Or.inl ⟨by rfl, ?_⟩; intro W hSw; go_simp; try with_reducible rfl
      try simp only [Act.put, List.setIfInBounds_toArray, List.set_cons_zero, List.set_cons_succ]
      refine' wpAnyH_take (i := 6) (oi := _) (v := _) ?hia9 (by kernel_rfl) ?hfa9 ?hra9 ?hQa9 ?hya9 (hSa1) ?resta9
      case hia9 => (simp only [List.getElem?_toArray, List.getElem?_cons_zero, List.getElem?_cons_succ]; rfl)
      case hfa9 => kernel_rfl
      case hra9 => kernel_rfl
      case hQa9 => exact fun _ _ _ h => h
      case hya9 => refine Or.inl ⟨by rfl, ?_⟩; intro W hSw; have hcc := HC0.out W hSw; go_simp; try with_reducible rfl
      try simp only [Act.put, List.setIfInBounds_toArray, List.set_cons_zero, List.set_cons_succ]
      refine' wpAnyH_take (i := 7) (oi := _) (v := _) ?hia10 (by kernel_rfl) ?hfa10 ?hra10 ?hQa10 ?hya10 (hSa1) ?resta10
      case hia10 => (simp only [List.getElem?_toArray, List.getElem?_cons_zero, List.getElem?_cons_succ]; rfl)
      case hfa10 => kernel_rfl
      case hra10 => kernel_rfl
      case hQa10 => exact fun _ _ _ h => h
      case hya10 => refine Or.inl ⟨by rfl, ?_⟩; intro W hSw; have hcc := HC1.out W hSw; go_simp; try with_reducible rfl
      try simp only [Act.put, List.setIfInBounds_toArray, List.set_cons_zero, List.set_cons_succ]
      refine wpAnyH_ready (rs := [8]) (by kernel_rfl) (by simp) ?_
      refine' (AllReadyH.cons (o := _) ?hia11 (fun K hK => ?_) AllReadyH.nil)
      case hia11 => (simp only [List.getElem?_toArray, List.getElem?_cons_zero, List.getElem?_cons_succ]; rfl)
      go_simp
      go_at_call 35
      refine (CB.out hnm Wa2 hSa1).mono ?_
      rintro e Wa14 ⟨rfl, hba12⟩
      have hBa13 := below_on hSa1 (Nat.le_refl _) hba12
      refine hK.out _ _ (hBa13) (fun _ => ?_)
      clear hK K
      try simp only [Act.put, List.setIfInBounds_toArray, List.set_cons_zero, List.set_cons_succ]
      refine' wpAnyH_take (i := 9) (oi := _) (v := _) ?hia15 (by kernel_rfl) ?hfa15 ?hra15 ?hQa15 ?hya15 (hBa13) ?resta15
      case hia15 => (simp only [List.getElem?_toArray, List.getElem?_cons_zero, List.getElem?_cons_succ]; rfl)
      case hfa15 => kernel_rfl
      case hra15 => kernel_rfl
      case hQa15 => exact fun _ _ _ h => h
      case hya15 => refine Or.inl ⟨by rfl, ?_⟩; intro W hSw; go_simp; try with_reducible rfl
      try simp only [Act.put, List.setIfInBounds_toArray, List.set_cons_zero, List.set_cons_succ]
      refine' wpAnyH_take (i := 10) (oi := _) (v := _) ?hia16 (by kernel_rfl) ?hfa16 ?hra16 ?hQa16 ?hya16 (hBa13) ?resta16
      case hia16 => (simp only [List.getElem?_toArray, List.getElem?_cons_zero, List.getElem?_cons_succ]; rfl)
      case hfa16 => kernel_rfl
      case hra16 => kernel_rfl
      case hQa16 => exact fun _ _ _ h => h
      case hya16 => refine Or.inl ⟨by rfl, ?_⟩; intro W hSw; go_simp; try with_reducible rfl
      try simp only [Act.put, List.setIfInBounds_toArray, List.set_cons_zero, List.set_cons_succ]
      refine' wpAnyH_take (i := 11) (oi := _) (v := undef) ?hia17 (by kernel_rfl) ?hfa17 ?hra17 ?hQa17 ?hya17 (hBa13) ?resta17
      case hia17 => (simp only [List.getElem?_toArray, List.getElem?_cons_zero, List.getElem?_cons_succ]; rfl)
      case hfa17 => kernel_rfl
      case hra17 => kernel_rfl
      case hQa17 => exact fun _ _ _ h => h
      case hya17 => exact Or.inr ⟨by rfl, rfl⟩
      try simp only [Act.put, List.setIfInBounds_toArray, List.set_cons_zero, List.set_cons_succ]
      refine' wpAnyH_take (i := 12) (oi := _) (v := undef) ?hia18 (by kernel_rfl) ?hfa18 ?hra18 ?hQa18 ?hya18 (hBa13) ?resta18
      case hia18 => (simp only [List.getElem?_toArray, List.getElem?_cons_zero, List.getElem?_cons_succ]; rfl)
      case hfa18 => kernel_rfl
      case hra18 => kernel_rfl
      case hQa18 => exact fun _ _ _ h => h
      case hya18 => exact Or.inr ⟨by rfl, rfl⟩
      try simp only [Act.put, List.setIfInBounds_toArray, List.set_cons_zero, List.set_cons_succ]
      refine' wpAnyH_take (i := 13) (oi := _) (v := undef) ?hia19 (by kernel_rfl) ?hfa19 ?hra19 ?hQa19 ?hya19 (hBa13) ?resta19
      case hia19 => (simp only [List.getElem?_toArray, List.getElem?_cons_zero, List.getElem?_cons_succ]; rfl)
      case hfa19 => kernel_rfl
      case hra19 => kernel_rfl
      case hQa19 => exact fun _ _ _ h => h
      case hya19 => exact Or.inr ⟨by rfl, rfl⟩
      try simp only [Act.put, List.setIfInBounds_toArray, List.set_cons_zero, List.set_cons_succ]
      refine' wpAnyH_take (i := 14) (oi := _) (v := undef) ?hia20 (by kernel_rfl) ?hfa20 ?hra20 ?hQa20 ?hya20 (hBa13) ?resta20
      case hia20 => (simp only [List.getElem?_toArray, List.getElem?_cons_zero, List.getElem?_cons_succ]; rfl)
      case hfa20 => kernel_rfl
      case hra20 => kernel_rfl
      case hQa20 => exact fun _ _ _ h => h
      case hya20 => exact Or.inr ⟨by rfl, rfl⟩
      try simp only [Act.put, List.setIfInBounds_toArray, List.set_cons_zero, List.set_cons_succ]
      refine' wpAnyH_take (i := 15) (oi := _) (v := undef) ?hia21 (by kernel_rfl) ?hfa21 ?hra21 ?hQa21 ?hya21 (hBa13) ?resta21
      case hia21 => (simp only [List.getElem?_toArray, List.getElem?_cons_zero, List.getElem?_cons_succ]; rfl)
      case hfa21 => kernel_rfl
      case hra21 => kernel_rfl
      case hQa21 => exact fun _ _ _ h => h
      case hya21 => exact Or.inr ⟨by rfl, rfl⟩
      try simp only [Act.put, List.setIfInBounds_toArray, List.set_cons_zero, List.set_cons_succ]
      refine' wpAnyH_take (i := 16) (oi := _) (v := _) ?hia22 (by kernel_rfl) ?hfa22 ?hra22 ?hQa22 ?hya22 (hBa13) ?resta22
      case hia22 => (simp only [List.getElem?_toArray, List.getElem?_cons_zero, List.getElem?_cons_succ]; rfl)
      case hfa22 => kernel_rfl
      case hra22 => kernel_rfl
      case hQa22 => exact fun _ _ _ h => h
      case hya22 => refine Or.inl ⟨by rfl, ?_⟩; intro W hSw; go_simp; try with_reducible rfl
      try simp only [Act.put, List.setIfInBounds_toArray, List.set_cons_zero, List.set_cons_succ]
      refine wpAnyH_done (by kernel_rfl) ?_ _
      have hres := H3.out.res.below hBa13
      have hz := below_setRow (below_on H3.out.below (Nat.le_of_eq HG.out.symm) hBa13) (show g ≤ g + 2 by omega) #[.slice none 0 0, .slice none 0 0]
      go_wp2_with (with_reducible refine wpList_store_clash rfl (.tmp 4) (.tmp 23) rfl (g + 2) rfl hres none 0 0 none 0 0 rfl ?_)
      refine bodyPost_ret_by (results_cell_tmp (p := 4) (q := 5) (ty := 30) (by kernel_rfl) _ _ ⟨g + 2, 0, none⟩ (clv none 0 0 none 0 0) rfl (run_load_clash ((hres.setRow _).cell 0 rfl) ((hres.setRow _).cell 1 rfl))) rfl ?_
      exact ⟨⟨_, rfl, (fun e => by cases e), fun _ => rfl⟩, hz⟩
    · rw [decide_eq_false hRS] at CB
      by_cases hrs2 : rr = rs
      · have q3 : ∀ W : World, (binOp .neq 36 (sv rr) (sv rs)).run Tryd.prog W = .ok (.bool false) W := fun W => by rw [q1 W, decide_eq_true hrs2]; rfl
        clear q1
        have HRS := Lib.hid (And.intro hRS hrs2)
        clear hRS hrs2
        have hSb1 : Below w3.heap.size w3 w3.drew := (Below.refl _ _).drew
        refine wp_region_held_drew (S := fun W => Below w3.heap.size w3 W) (by kernel_rfl) (hSb1) (fun _ => ?_)
        change wpAnyH _ _ _ _ _ _ _ _ w3.drew
        generalize w3.drew = Wb2 at hSb1 ⊢
        refine' wpAnyH_take (i := 0) (oi := _) (v := _) ?hib3 (by kernel_rfl) ?hfb3 ?hrb3 ?hQb3 ?hyb3 (hSb1) ?restb3
        case hib3 => (simp only [List.getElem?_toArray, List.getElem?_cons_zero]; rfl)
        case hfb3 => kernel_rfl
        case hrb3 => kernel_rfl
        case hQb3 => exact fun _ _ _ h => h
        case hyb3 => refine Or.inl ⟨by rfl, ?_⟩; intro W hSw; have hcc := HC0.out W hSw; go_simp; try with_reducible rfl
        try simp only [Act.put, List.setIfInBounds_toArray, List.set_cons_zero, List.set_cons_succ]
        refine' wpAnyH_take (i := 1) (oi := _) (v := _) ?hib4 (by kernel_rfl) ?hfb4 ?hrb4 ?hQb4 ?hyb4 (hSb1) ?restb4
        case hib4 => (simp only [List.getElem?_toArray, List.getElem?_cons_zero, List.getElem?_cons_succ]; rfl)
        case hfb4 => kernel_rfl
        case hrb4 => kernel_rfl
        case hQb4 => exact fun _ _ _ h => h
        case hyb4 => refine Or.inl ⟨by rfl, ?_⟩; intro W hSw; go_simp; try with_reducible rfl
        try simp only [Act.put, List.setIfInBounds_toArray, List.set_cons_zero, List.set_cons_succ]
        refine' wpAnyH_take (i := 2) (oi := _) (v := _) ?hib5 (by kernel_rfl) ?hfb5 ?hrb5 ?hQb5 ?hyb5 (hSb1) ?restb5
        case hib5 => (simp only [List.getElem?_toArray, List.getElem?_cons_zero, List.getElem?_cons_succ]; rfl)
        case hfb5 => kernel_rfl
        case hrb5 => kernel_rfl
        case hQb5 => exact fun _ _ _ h => h
        case hyb5 => refine Or.inl ⟨by rfl, ?_⟩; intro W hSw; have hcc := HC1.out W hSw; go_simp; try with_reducible rfl
        try simp only [Act.put, List.setIfInBounds_toArray, List.set_cons_zero, List.set_cons_succ]
        refine' wpAnyH_take (i := 3) (oi := _) (v := _) ?hib6 (by kernel_rfl) ?hfb6 ?hrb6 ?hQb6 ?hyb6 (hSb1) ?restb6
        case hib6 => (simp only [List.getElem?_toArray, List.getElem?_cons_zero, List.getElem?_cons_succ]; rfl)
        case hfb6 => kernel_rfl
        case hrb6 => kernel_rfl
        case hQb6 => exact fun _ _ _ h => h
        case hyb6 => refine Or.inl ⟨by rfl, ?_⟩; intro W hSw; go_simp; try with_reducible rfl
        try simp only [Act.put, List.setIfInBounds_toArray, List.set_cons_zero, List.set_cons_succ]
        refine' wpAnyH_take (i := 4) (oi := _) (v := _) ?hib7 (by kernel_rfl) ?hfb7 ?hrb7 ?hQb7 ?hyb7 (hSb1) ?restb7
        case hib7 => (simp only [List.getElem?_toArray, List.getElem?_cons_zero, List.getElem?_cons_succ]; rfl)
        case hfb7 => kernel_rfl
        case hrb7 => kernel_rfl
        case hQb7 => exact fun _ _ _ h => h
        case hyb7 => refine Or.inl ⟨by rfl, ?_⟩; intro W hSw; go_simp; try with_reducible rfl
        try simp only [Act.put, List.setIfInBounds_toArray, List.set_cons_zero, List.set_cons_succ]
        refine' wpAnyH_take (i := 5) (oi := _) (v := _) ?hib8 (by kernel_rfl) ?hfb8 ?hrb8 ?hQb8 ?hyb8 (hSb1) ?restb8
        case hib8 => (simp only [List.getElem?_toArray, List.getElem?_cons_zero, List.getElem?_cons_succ]; rfl)
        case hfb8 => kernel_rfl
        case hrb8 => kernel_rfl
        case hQb8 => exact fun _ _ _ h => h
        case hyb8 => refine Or.inl ⟨by rfl, ?_⟩; intro W hSw; go_simp; try with_reducible rfl
        try simp only [Act.put, List.setIfInBounds_toArray, List.set_cons_zero, List.set_cons_succ]
        refine' wpAnyH_take (i := 6) (oi := _) (v := _) ?hib9 (by kernel_rfl) ?hfb9 ?hrb9 ?hQb9 ?hyb9 (hSb1) ?restb9
        case hib9 => (simp only [List.getElem?_toArray, List.getElem?_cons_zero, List.getElem?_cons_succ]; rfl)
        case hfb9 => kernel_rfl
        case hrb9 => kernel_rfl
        case hQb9 => exact fun _ _ _ h => h
        case hyb9 => refine Or.inl ⟨by rfl, ?_⟩; intro W hSw; have hcc := HC0.out W hSw; go_simp; try with_reducible rfl
        try simp only [Act.put, List.setIfInBounds_toArray, List.set_cons_zero, List.set_cons_succ]
        refine' wpAnyH_take (i := 7) (oi := _) (v := _) ?hib10 (by kernel_rfl) ?hfb10 ?hrb10 ?hQb10 ?hyb10 (hSb1) ?restb10
        case hib10 => (simp only [List.getElem?_toArray, List.getElem?_cons_zero, List.getElem?_cons_succ]; rfl)
        case hfb10 => kernel_rfl
        case hrb10 => kernel_rfl
        case hQb10 => exact fun _ _ _ h => h
        case hyb10 => refine Or.inl ⟨by rfl, ?_⟩; intro W hSw; have hcc := HC1.out W hSw; go_simp; try with_reducible rfl
        try simp only [Act.put, List.setIfInBounds_toArray, List.set_cons_zero, List.set_cons_succ]
        refine wpAnyH_ready (rs := [8]) (by kernel_rfl) (by simp) ?_
        refine' (AllReadyH.cons (o := _) ?hib11 (fun K hK => ?_) AllReadyH.nil)
        case hib11 => (simp only [List.getElem?_toArray, List.getElem?_cons_zero, List.getElem?_cons_succ]; rfl)
        go_simp
        go_at_call 35
        refine (CB.out hnm Wb2 hSb1).mono ?_
        rintro e Wb14 ⟨rfl, hbb12⟩
        have hBb13 := below_on hSb1 (Nat.le_refl _) hbb12
        refine hK.out _ _ (hBb13) (fun _ => ?_)
        clear hK K
        try simp only [Act.put, List.setIfInBounds_toArray, List.set_cons_zero, List.set_cons_succ]
        refine' wpAnyH_take (i := 9) (oi := _) (v := _) ?hib15 (by kernel_rfl) ?hfb15 ?hrb15 ?hQb15 ?hyb15 (hBb13) ?restb15
        case hib15 => (simp only [List.getElem?_toArray, List.getElem?_cons_zero, List.getElem?_cons_succ]; rfl)
        case hfb15 => kernel_rfl
        case hrb15 => kernel_rfl
        case hQb15 => exact fun _ _ _ h => h
        case hyb15 => refine Or.inl ⟨by rfl, ?_⟩; intro W hSw; go_simp; try with_reducible rfl
        try simp only [Act.put, List.setIfInBounds_toArray, List.set_cons_zero, List.set_cons_succ]
        refine' wpAnyH_take (i := 10) (oi := _) (v := _) ?hib16 (by kernel_rfl) ?hfb16 ?hrb16 ?hQb16 ?hyb16 (hBb13) ?restb16
        case hib16 => (simp only [List.getElem?_toArray, List.getElem?_cons_zero, List.getElem?_cons_succ]; rfl)
        case hfb16 => kernel_rfl
        case hrb16 => kernel_rfl
        case hQb16 => exact fun _ _ _ h => h
        case hyb16 => refine Or.inl ⟨by rfl, ?_⟩; intro W hSw; go_simp; try with_reducible rfl
        try simp only [Act.put, List.setIfInBounds_toArray, List.set_cons_zero, List.set_cons_succ]
        refine' wpAnyH_take (i := 11) (oi := _) (v := _) ?hib17 (by kernel_rfl) ?hfb17 ?hrb17 ?hQb17 ?hyb17 (hBb13) ?restb17
        case hib17 => (simp only [List.getElem?_toArray, List.getElem?_cons_zero, List.getElem?_cons_succ]; rfl)
        case hfb17 => kernel_rfl
        case hrb17 => kernel_rfl
        case hQb17 => exact fun _ _ _ h => h
        case hyb17 => refine Or.inl ⟨by rfl, ?_⟩; intro W hSw; have hcc := HC0.out W hSw; go_simp; try with_reducible rfl
        try simp only [Act.put, List.setIfInBounds_toArray, List.set_cons_zero, List.set_cons_succ]
        refine' wpAnyH_take (i := 13) (oi := _) (v := _) ?hib18 (by kernel_rfl) ?hfb18 ?hrb18 ?hQb18 ?hyb18 (hBb13) ?restb18
        case hib18 => (simp only [List.getElem?_toArray, List.getElem?_cons_zero, List.getElem?_cons_succ]; rfl)
        case hfb18 => kernel_rfl
        case hrb18 => kernel_rfl
        case hQb18 => exact fun _ _ _ h => h
        case hyb18 => refine Or.inl ⟨by rfl, ?_⟩; intro W hSw; have hcc := HC1.out W hSw; go_simp; try with_reducible rfl
        try simp only [Act.put, List.setIfInBounds_toArray, List.set_cons_zero, List.set_cons_succ]
        refine wpAnyH_ready (rs := [12]) (by kernel_rfl) (by simp) ?_
        refine' (AllReadyH.cons (o := _) ?hib19 (fun K hK => ?_) AllReadyH.nil)
        case hib19 => (simp only [List.getElem?_toArray, List.getElem?_cons_zero, List.getElem?_cons_succ]; rfl)
        go_simp
        go_at_call 36
        refine (CR.out Wb14 hBb13).mono ?_
        rintro e Wb22 ⟨rfl, hbb20⟩
        have hBb21 := below_on hBb13 (Nat.le_refl _) hbb20
        refine hK.out _ _ (hBb21) (fun _ => ?_)
        clear hK K
        try simp only [Act.put, List.setIfInBounds_toArray, List.set_cons_zero, List.set_cons_succ]
        refine wpAnyH_ready (rs := [14]) (by kernel_rfl) (by simp) ?_
        refine' (AllReadyH.cons (o := _) ?hib23 (fun K hK => ?_) AllReadyH.nil)
        case hib23 => (simp only [List.getElem?_toArray, List.getElem?_cons_zero, List.getElem?_cons_succ]; rfl)
        go_simp
        go_at_call 36
        refine (CS.out Wb22 hBb21).mono ?_
        rintro e Wb26 ⟨rfl, hbb24⟩
        have hBb25 := below_on hBb21 (Nat.le_refl _) hbb24
        refine hK.out _ _ (hBb25) (fun _ => ?_)
        clear hK K
        try simp only [Act.put, List.setIfInBounds_toArray, List.set_cons_zero, List.set_cons_succ]
        refine' wpAnyH_take (i := 15) (oi := _) (v := _) ?hib27 (by kernel_rfl) ?hfb27 ?hrb27 ?hQb27 ?hyb27 (hBb25) ?restb27
        case hib27 => (simp only [List.getElem?_toArray, List.getElem?_cons_zero, List.getElem?_cons_succ]; rfl)
        case hfb27 => kernel_rfl
        case hrb27 => kernel_rfl
        case hQb27 => exact fun _ _ _ h => h
        case hyb27 => refine Or.inl ⟨by rfl, ?_⟩; intro W hSw; go_simp; try with_reducible rfl
        try simp only [Act.put, List.setIfInBounds_toArray, List.set_cons_zero, List.set_cons_succ]
        refine' wpAnyH_take (i := 16) (oi := _) (v := _) ?hib28 (by kernel_rfl) ?hfb28 ?hrb28 ?hQb28 ?hyb28 (hBb25) ?restb28
        case hib28 => (simp only [List.getElem?_toArray, List.getElem?_cons_zero, List.getElem?_cons_succ]; rfl)
        case hfb28 => kernel_rfl
        case hrb28 => kernel_rfl
        case hQb28 => exact fun _ _ _ h => h
        case hyb28 => refine Or.inl ⟨by rfl, ?_⟩; intro W hSw; go_simp; try with_reducible rfl
        try simp only [Act.put, List.setIfInBounds_toArray, List.set_cons_zero, List.set_cons_succ]
        refine wpAnyH_done (by kernel_rfl) ?_ _
        have CF := Lib.hid (found_any (w := Wb26) (fid := 58) (caps := #[.pointer (some ⟨g, 0, none⟩), .pointer (some ⟨g + 1, 0, none⟩)]) (fun _ => rfl) (fun W hW => by
          have hb3 := below_on hBb25 (Nat.le_refl _) hW
          have hb0 := below_on H3.out.below (Nat.le_of_eq HG.out.symm) hb3
          rw [← HG.out] at hb0
          exact lists1_any (H3.out.a.below hb3) (H3.out.b.below hb3) (HKn.out.2.2.1.below hb0) (HKn.out.2.2.2.below hb0) (HKn.out.1.below hb0) (HKn.out.2.1.below hb0) hn HRS.out.1 (by rw [HL.out.2.2.1, HL.out.2.2.2]; exact HRS.out.2)))
        have hmf : ∀ (fn : Fn) (first cap : Array Value) (w : World), (Instr.makeFunc fn first cap).run Tryd.prog w = .ok (.func fn first cap) w := fun _ _ _ _ => rfl
        clear q3 q2
        go_wp2_with fail
        refine CF.out.mono ?_
        rintro e w5 ⟨u, rfl, hu, hb5⟩
        obtain ⟨A5, n5, c5, xs5, B5, m5, d5, ys5, rfl, hT, hC⟩ := hu
        have hres := (H3.out.res.below hBb25).below hb5
        have hz := below_setRow (below_on (below_on H3.out.below (Nat.le_of_eq HG.out.symm) hBb25) (Nat.le_of_eq HG.out.symm) hb5) (show g ≤ g + 2 by omega) #[.slice A5 n5 c5, .slice B5 m5 d5]
        have hT2 := (two_setRow hT (show g + 2 < Wb26.heap.size by have := Below.size hBb25; have := H3.out.size; omega) #[.slice A5 n5 c5, .slice B5 m5 d5]).low (base' := g) (by have := Below.size hBb25; have := H3.out.size; omega)
        have HE := Lib.hid (And.intro hz (And.intro hT2 hC))
        clear hz hT2 hC hT hb5
        go_wp2_with (with_reducible refine wpList_store_clash rfl (.tmp 4) (.tmp 26) rfl (g + 2) rfl hres A5 n5 c5 B5 m5 d5 rfl ?_)
        refine bodyPost_ret_by (results_cell_tmp (p := 4) (q := 5) (ty := 30) (by kernel_rfl) _ _ ⟨g + 2, 0, none⟩ (clv A5 n5 c5 B5 m5 d5) rfl (run_load_clash ((hres.setRow _).cell 0 rfl) ((hres.setRow _).cell 1 rfl))) rfl ?_
        have hbf : (!decide (R = S) && decide (rr = rs)) = true := by simp [HRS.out.1, HRS.out.2]
        rw [hbf]
        exact ⟨⟨_, rfl, (fun _ => ⟨_, _, _, _, _, _, _, _, rfl, HE.out.2.1, HE.out.2.2⟩), fun e => by cases e⟩, HE.out.1⟩
      · have q3 : ∀ W : World, (binOp .neq 36 (sv rr) (sv rs)).run Tryd.prog W = .ok (.bool true) W := fun W => by rw [q1 W, decide_eq_false hrs2]; rfl
        clear q1
        have hSc1 : Below w3.heap.size w3 w3.drew := (Below.refl _ _).drew
        refine wp_region_held_drew (S := fun W => Below w3.heap.size w3 W) (by kernel_rfl) (hSc1) (fun _ => ?_)
        change wpAnyH _ _ _ _ _ _ _ _ w3.drew
        generalize w3.drew = Wc2 at hSc1 ⊢
        refine' wpAnyH_take (i := 0) (oi := _) (v := _) ?hic3 (by kernel_rfl) ?hfc3 ?hrc3 ?hQc3 ?hyc3 (hSc1) ?restc3
        case hic3 => (simp only [List.getElem?_toArray, List.getElem?_cons_zero]; rfl)
        case hfc3 => kernel_rfl
        case hrc3 => kernel_rfl
        case hQc3 => exact fun _ _ _ h => h
        case hyc3 => refine Or.inl ⟨by rfl, ?_⟩; intro W hSw; have hcc := HC0.out W hSw; go_simp; try with_reducible rfl
        try simp only [Act.put, List.setIfInBounds_toArray, List.set_cons_zero, List.set_cons_succ]
        refine' wpAnyH_take (i := 1) (oi := _) (v := _) ?hic4 (by kernel_rfl) ?hfc4 ?hrc4 ?hQc4 ?hyc4 (hSc1) ?restc4
        case hic4 => (simp only [List.getElem?_toArray, List.getElem?_cons_zero, List.getElem?_cons_succ]; rfl)
        case hfc4 => kernel_rfl
        case hrc4 => kernel_rfl
        case hQc4 => exact fun _ _ _ h => h
        case hyc4 => refine Or.inl ⟨by rfl, ?_⟩; intro W hSw; go_simp; try with_reducible rfl
        try simp only [Act.put, List.setIfInBounds_toArray, List.set_cons_zero, List.set_cons_succ]
        refine' wpAnyH_take (i := 2) (oi := _) (v := _) ?hic5 (by kernel_rfl) ?hfc5 ?hrc5 ?hQc5 ?hyc5 (hSc1) ?restc5
        case hic5 => (simp only [List.getElem?_toArray, List.getElem?_cons_zero, List.getElem?_cons_succ]; rfl)
        case hfc5 => kernel_rfl
        case hrc5 => kernel_rfl
        case hQc5 => exact fun _ _ _ h => h
        case hyc5 => refine Or.inl ⟨by rfl, ?_⟩; intro W hSw; have hcc := HC1.out W hSw; go_simp; try with_reducible rfl
        try simp only [Act.put, List.setIfInBounds_toArray, List.set_cons_zero, List.set_cons_succ]
        refine' wpAnyH_take (i := 3) (oi := _) (v := _) ?hic6 (by kernel_rfl) ?hfc6 ?hrc6 ?hQc6 ?hyc6 (hSc1) ?restc6
        case hic6 => (simp only [List.getElem?_toArray, List.getElem?_cons_zero, List.getElem?_cons_succ]; rfl)
        case hfc6 => kernel_rfl
        case hrc6 => kernel_rfl
        case hQc6 => exact fun _ _ _ h => h
        case hyc6 => refine Or.inl ⟨by rfl, ?_⟩; intro W hSw; go_simp; try with_reducible rfl
        try simp only [Act.put, List.setIfInBounds_toArray, List.set_cons_zero, List.set_cons_succ]
        refine' wpAnyH_take (i := 4) (oi := _) (v := _) ?hic7 (by kernel_rfl) ?hfc7 ?hrc7 ?hQc7 ?hyc7 (hSc1) ?restc7
        case hic7 => (simp only [List.getElem?_toArray, List.getElem?_cons_zero, List.getElem?_cons_succ]; rfl)
        case hfc7 => kernel_rfl
        case hrc7 => kernel_rfl
        case hQc7 => exact fun _ _ _ h => h
        case hyc7 => refine Or.inl ⟨by rfl, ?_⟩; intro W hSw; go_simp; try with_reducible rfl
        try simp only [Act.put, List.setIfInBounds_toArray, List.set_cons_zero, List.set_cons_succ]
        refine' wpAnyH_take (i := 5) (oi := _) (v := _) ?hic8 (by kernel_rfl) ?hfc8 ?hrc8 ?hQc8 ?hyc8 (hSc1) ?restc8
        case hic8 => (simp only [List.getElem?_toArray, List.getElem?_cons_zero, List.getElem?_cons_succ]; rfl)
        case hfc8 => kernel_rfl
        case hrc8 => kernel_rfl
        case hQc8 => exact fun _ _ _ h => h
        case hyc8 => refine Or.inl ⟨by rfl, ?_⟩; intro W hSw; go_simp; try with_reducible rfl
        try simp only [Act.put, List.setIfInBounds_toArray, List.set_cons_zero, List.set_cons_succ]
        refine' wpAnyH_take (i := 6) (oi := _) (v := _) ?hic9 (by kernel_rfl) ?hfc9 ?hrc9 ?hQc9 ?hyc9 (hSc1) ?restc9
        case hic9 => (simp only [List.getElem?_toArray, List.getElem?_cons_zero, List.getElem?_cons_succ]; rfl)
        case hfc9 => kernel_rfl
        case hrc9 => kernel_rfl
        case hQc9 => exact fun _ _ _ h => h
        case hyc9 => refine Or.inl ⟨by rfl, ?_⟩; intro W hSw; have hcc := HC0.out W hSw; go_simp; try with_reducible rfl
        try simp only [Act.put, List.setIfInBounds_toArray, List.set_cons_zero, List.set_cons_succ]
        refine' wpAnyH_take (i := 7) (oi := _) (v := _) ?hic10 (by kernel_rfl) ?hfc10 ?hrc10 ?hQc10 ?hyc10 (hSc1) ?restc10
        case hic10 => (simp only [List.getElem?_toArray, List.getElem?_cons_zero, List.getElem?_cons_succ]; rfl)
        case hfc10 => kernel_rfl
        case hrc10 => kernel_rfl
        case hQc10 => exact fun _ _ _ h => h
        case hyc10 => refine Or.inl ⟨by rfl, ?_⟩; intro W hSw; have hcc := HC1.out W hSw; go_simp; try with_reducible rfl
        try simp only [Act.put, List.setIfInBounds_toArray, List.set_cons_zero, List.set_cons_succ]
        refine wpAnyH_ready (rs := [8]) (by kernel_rfl) (by simp) ?_
        refine' (AllReadyH.cons (o := _) ?hic11 (fun K hK => ?_) AllReadyH.nil)
        case hic11 => (simp only [List.getElem?_toArray, List.getElem?_cons_zero, List.getElem?_cons_succ]; rfl)
        go_simp
        go_at_call 35
        refine (CB.out hnm Wc2 hSc1).mono ?_
        rintro e Wc14 ⟨rfl, hbc12⟩
        have hBc13 := below_on hSc1 (Nat.le_refl _) hbc12
        refine hK.out _ _ (hBc13) (fun _ => ?_)
        clear hK K
        try simp only [Act.put, List.setIfInBounds_toArray, List.set_cons_zero, List.set_cons_succ]
        refine' wpAnyH_take (i := 9) (oi := _) (v := _) ?hic15 (by kernel_rfl) ?hfc15 ?hrc15 ?hQc15 ?hyc15 (hBc13) ?restc15
        case hic15 => (simp only [List.getElem?_toArray, List.getElem?_cons_zero, List.getElem?_cons_succ]; rfl)
        case hfc15 => kernel_rfl
        case hrc15 => kernel_rfl
        case hQc15 => exact fun _ _ _ h => h
        case hyc15 => refine Or.inl ⟨by rfl, ?_⟩; intro W hSw; go_simp; try with_reducible rfl
        try simp only [Act.put, List.setIfInBounds_toArray, List.set_cons_zero, List.set_cons_succ]
        refine' wpAnyH_take (i := 10) (oi := _) (v := _) ?hic16 (by kernel_rfl) ?hfc16 ?hrc16 ?hQc16 ?hyc16 (hBc13) ?restc16
        case hic16 => (simp only [List.getElem?_toArray, List.getElem?_cons_zero, List.getElem?_cons_succ]; rfl)
        case hfc16 => kernel_rfl
        case hrc16 => kernel_rfl
        case hQc16 => exact fun _ _ _ h => h
        case hyc16 => refine Or.inl ⟨by rfl, ?_⟩; intro W hSw; go_simp; try with_reducible rfl
        try simp only [Act.put, List.setIfInBounds_toArray, List.set_cons_zero, List.set_cons_succ]
        refine' wpAnyH_take (i := 11) (oi := _) (v := _) ?hic17 (by kernel_rfl) ?hfc17 ?hrc17 ?hQc17 ?hyc17 (hBc13) ?restc17
        case hic17 => (simp only [List.getElem?_toArray, List.getElem?_cons_zero, List.getElem?_cons_succ]; rfl)
        case hfc17 => kernel_rfl
        case hrc17 => kernel_rfl
        case hQc17 => exact fun _ _ _ h => h
        case hyc17 => refine Or.inl ⟨by rfl, ?_⟩; intro W hSw; have hcc := HC0.out W hSw; go_simp; try with_reducible rfl
        try simp only [Act.put, List.setIfInBounds_toArray, List.set_cons_zero, List.set_cons_succ]
        refine' wpAnyH_take (i := 13) (oi := _) (v := _) ?hic18 (by kernel_rfl) ?hfc18 ?hrc18 ?hQc18 ?hyc18 (hBc13) ?restc18
        case hic18 => (simp only [List.getElem?_toArray, List.getElem?_cons_zero, List.getElem?_cons_succ]; rfl)
        case hfc18 => kernel_rfl
        case hrc18 => kernel_rfl
        case hQc18 => exact fun _ _ _ h => h
        case hyc18 => refine Or.inl ⟨by rfl, ?_⟩; intro W hSw; have hcc := HC1.out W hSw; go_simp; try with_reducible rfl
        try simp only [Act.put, List.setIfInBounds_toArray, List.set_cons_zero, List.set_cons_succ]
        refine wpAnyH_ready (rs := [12]) (by kernel_rfl) (by simp) ?_
        refine' (AllReadyH.cons (o := _) ?hic19 (fun K hK => ?_) AllReadyH.nil)
        case hic19 => (simp only [List.getElem?_toArray, List.getElem?_cons_zero, List.getElem?_cons_succ]; rfl)
        go_simp
        go_at_call 36
        refine (CR.out Wc14 hBc13).mono ?_
        rintro e Wc22 ⟨rfl, hbc20⟩
        have hBc21 := below_on hBc13 (Nat.le_refl _) hbc20
        refine hK.out _ _ (hBc21) (fun _ => ?_)
        clear hK K
        try simp only [Act.put, List.setIfInBounds_toArray, List.set_cons_zero, List.set_cons_succ]
        refine wpAnyH_ready (rs := [14]) (by kernel_rfl) (by simp) ?_
        refine' (AllReadyH.cons (o := _) ?hic23 (fun K hK => ?_) AllReadyH.nil)
        case hic23 => (simp only [List.getElem?_toArray, List.getElem?_cons_zero, List.getElem?_cons_succ]; rfl)
        go_simp
        go_at_call 36
        refine (CS.out Wc22 hBc21).mono ?_
        rintro e Wc26 ⟨rfl, hbc24⟩
        have hBc25 := below_on hBc21 (Nat.le_refl _) hbc24
        refine hK.out _ _ (hBc25) (fun _ => ?_)
        clear hK K
        try simp only [Act.put, List.setIfInBounds_toArray, List.set_cons_zero, List.set_cons_succ]
        refine' wpAnyH_take (i := 15) (oi := _) (v := _) ?hic27 (by kernel_rfl) ?hfc27 ?hrc27 ?hQc27 ?hyc27 (hBc25) ?restc27
        case hic27 => (simp only [List.getElem?_toArray, List.getElem?_cons_zero, List.getElem?_cons_succ]; rfl)
        case hfc27 => kernel_rfl
        case hrc27 => kernel_rfl
        case hQc27 => exact fun _ _ _ h => h
        case hyc27 => refine Or.inl ⟨by rfl, ?_⟩; intro W hSw; go_simp; try with_reducible rfl
        try simp only [Act.put, List.setIfInBounds_toArray, List.set_cons_zero, List.set_cons_succ]
        refine' wpAnyH_take (i := 16) (oi := _) (v := _) ?hic28 (by kernel_rfl) ?hfc28 ?hrc28 ?hQc28 ?hyc28 (hBc25) ?restc28
        case hic28 => (simp only [List.getElem?_toArray, List.getElem?_cons_zero, List.getElem?_cons_succ]; rfl)
        case hfc28 => kernel_rfl
        case hrc28 => kernel_rfl
        case hQc28 => exact fun _ _ _ h => h
        case hyc28 => refine Or.inl ⟨by rfl, ?_⟩; intro W hSw; go_simp; try with_reducible rfl
        try simp only [Act.put, List.setIfInBounds_toArray, List.set_cons_zero, List.set_cons_succ]
        refine wpAnyH_done (by kernel_rfl) ?_ _
        have hres := H3.out.res.below hBc25
        have hz := below_setRow (below_on H3.out.below (Nat.le_of_eq HG.out.symm) hBc25) (show g ≤ g + 2 by omega) #[.slice none 0 0, .slice none 0 0]
        go_wp2_with (with_reducible refine wpList_store_clash rfl (.tmp 4) (.tmp 23) rfl (g + 2) rfl hres none 0 0 none 0 0 rfl ?_)
        refine bodyPost_ret_by (results_cell_tmp (p := 4) (q := 5) (ty := 30) (by kernel_rfl) _ _ ⟨g + 2, 0, none⟩ (clv none 0 0 none 0 0) rfl (run_load_clash ((hres.setRow _).cell 0 rfl) ((hres.setRow _).cell 1 rfl))) rfl ?_
        exact ⟨⟨_, rfl, (fun e => by cases e), fun _ => rfl⟩, hz⟩
  · have hnn : ((n : Int) != (m : Int)) = true := by simp; omega
    have hSd1 : Below w3.heap.size w3 w3.drew := (Below.refl _ _).drew
    refine wp_region_held_drew (S := fun W => Below w3.heap.size w3 W) (by kernel_rfl) (hSd1) (fun _ => ?_)
    change wpAnyH _ _ _ _ _ _ _ _ w3.drew
    generalize w3.drew = Wd2 at hSd1 ⊢
    refine' wpAnyH_take (i := 0) (oi := _) (v := _) ?hid3 (by kernel_rfl) ?hfd3 ?hrd3 ?hQd3 ?hyd3 (hSd1) ?restd3
    case hid3 => (simp only [List.getElem?_toArray, List.getElem?_cons_zero]; rfl)
    case hfd3 => kernel_rfl
    case hrd3 => kernel_rfl
    case hQd3 => exact fun _ _ _ h => h
    case hyd3 => refine Or.inl ⟨by rfl, ?_⟩; intro W hSw; have hcc := HC0.out W hSw; go_simp; try with_reducible rfl
    try simp only [Act.put, List.setIfInBounds_toArray, List.set_cons_zero, List.set_cons_succ]
    refine' wpAnyH_take (i := 1) (oi := _) (v := _) ?hid4 (by kernel_rfl) ?hfd4 ?hrd4 ?hQd4 ?hyd4 (hSd1) ?restd4
    case hid4 => (simp only [List.getElem?_toArray, List.getElem?_cons_zero, List.getElem?_cons_succ]; rfl)
    case hfd4 => kernel_rfl
    case hrd4 => kernel_rfl
    case hQd4 => exact fun _ _ _ h => h
    case hyd4 => refine Or.inl ⟨by rfl, ?_⟩; intro W hSw; go_simp; try with_reducible rfl
    try simp only [Act.put, List.setIfInBounds_toArray, List.set_cons_zero, List.set_cons_succ]
    refine' wpAnyH_take (i := 2) (oi := _) (v := _) ?hid5 (by kernel_rfl) ?hfd5 ?hrd5 ?hQd5 ?hyd5 (hSd1) ?restd5
    case hid5 => (simp only [List.getElem?_toArray, List.getElem?_cons_zero, List.getElem?_cons_succ]; rfl)
    case hfd5 => kernel_rfl
    case hrd5 => kernel_rfl
    case hQd5 => exact fun _ _ _ h => h
    case hyd5 => refine Or.inl ⟨by rfl, ?_⟩; intro W hSw; have hcc := HC1.out W hSw; go_simp; try with_reducible rfl
    try simp only [Act.put, List.setIfInBounds_toArray, List.set_cons_zero, List.set_cons_succ]
    refine' wpAnyH_take (i := 3) (oi := _) (v := _) ?hid6 (by kernel_rfl) ?hfd6 ?hrd6 ?hQd6 ?hyd6 (hSd1) ?restd6
    case hid6 => (simp only [List.getElem?_toArray, List.getElem?_cons_zero, List.getElem?_cons_succ]; rfl)
    case hfd6 => kernel_rfl
    case hrd6 => kernel_rfl
    case hQd6 => exact fun _ _ _ h => h
    case hyd6 => refine Or.inl ⟨by rfl, ?_⟩; intro W hSw; go_simp; try with_reducible rfl
    try simp only [Act.put, List.setIfInBounds_toArray, List.set_cons_zero, List.set_cons_succ]
    refine' wpAnyH_take (i := 4) (oi := _) (v := _) ?hid7 (by kernel_rfl) ?hfd7 ?hrd7 ?hQd7 ?hyd7 (hSd1) ?restd7
    case hid7 => (simp only [List.getElem?_toArray, List.getElem?_cons_zero, List.getElem?_cons_succ]; rfl)
    case hfd7 => kernel_rfl
    case hrd7 => kernel_rfl
    case hQd7 => exact fun _ _ _ h => h
    case hyd7 => refine Or.inl ⟨by rfl, ?_⟩; intro W hSw; go_simp; try with_reducible rfl
    try simp only [Act.put, List.setIfInBounds_toArray, List.set_cons_zero, List.set_cons_succ]
    refine' wpAnyH_take (i := 5) (oi := _) (v := _) ?hid8 (by kernel_rfl) ?hfd8 ?hrd8 ?hQd8 ?hyd8 (hSd1) ?restd8
    case hid8 => (simp only [List.getElem?_toArray, List.getElem?_cons_zero, List.getElem?_cons_succ]; rfl)
    case hfd8 => kernel_rfl
    case hrd8 => kernel_rfl
    case hQd8 => exact fun _ _ _ h => h
    case hyd8 => refine Or.inl ⟨by rfl, ?_⟩; intro W hSw; go_simp; try with_reducible rfl
    try simp only [Act.put, List.setIfInBounds_toArray, List.set_cons_zero, List.set_cons_succ]
    refine' wpAnyH_take (i := 6) (oi := _) (v := undef) ?hid9 (by kernel_rfl) ?hfd9 ?hrd9 ?hQd9 ?hyd9 (hSd1) ?restd9
    case hid9 => (simp only [List.getElem?_toArray, List.getElem?_cons_zero, List.getElem?_cons_succ]; rfl)
    case hfd9 => kernel_rfl
    case hrd9 => kernel_rfl
    case hQd9 => exact fun _ _ _ h => h
    case hyd9 => exact Or.inr ⟨by rfl, rfl⟩
    try simp only [Act.put, List.setIfInBounds_toArray, List.set_cons_zero, List.set_cons_succ]
    refine' wpAnyH_take (i := 7) (oi := _) (v := undef) ?hid10 (by kernel_rfl) ?hfd10 ?hrd10 ?hQd10 ?hyd10 (hSd1) ?restd10
    case hid10 => (simp only [List.getElem?_toArray, List.getElem?_cons_zero, List.getElem?_cons_succ]; rfl)
    case hfd10 => kernel_rfl
    case hrd10 => kernel_rfl
    case hQd10 => exact fun _ _ _ h => h
    case hyd10 => exact Or.inr ⟨by rfl, rfl⟩
    try simp only [Act.put, List.setIfInBounds_toArray, List.set_cons_zero, List.set_cons_succ]
    refine' wpAnyH_take (i := 8) (oi := _) (v := undef) ?hid11 (by kernel_rfl) ?hfd11 ?hrd11 ?hQd11 ?hyd11 (hSd1) ?restd11
    case hid11 => (simp only [List.getElem?_toArray, List.getElem?_cons_zero, List.getElem?_cons_succ]; rfl)
    case hfd11 => kernel_rfl
    case hrd11 => kernel_rfl
    case hQd11 => exact fun _ _ _ h => h
    case hyd11 => exact Or.inr ⟨by rfl, rfl⟩
    try simp only [Act.put, List.setIfInBounds_toArray, List.set_cons_zero, List.set_cons_succ]
    refine' wpAnyH_take (i := 9) (oi := _) (v := _) ?hid12 (by kernel_rfl) ?hfd12 ?hrd12 ?hQd12 ?hyd12 (hSd1) ?restd12
    case hid12 => (simp only [List.getElem?_toArray, List.getElem?_cons_zero, List.getElem?_cons_succ]; rfl)
    case hfd12 => kernel_rfl
    case hrd12 => kernel_rfl
    case hQd12 => exact fun _ _ _ h => h
    case hyd12 => refine Or.inl ⟨by rfl, ?_⟩; intro W hSw; go_simp; try with_reducible rfl
    try simp only [Act.put, List.setIfInBounds_toArray, List.set_cons_zero, List.set_cons_succ]
    refine' wpAnyH_take (i := 10) (oi := _) (v := _) ?hid13 (by kernel_rfl) ?hfd13 ?hrd13 ?hQd13 ?hyd13 (hSd1) ?restd13
    case hid13 => (simp only [List.getElem?_toArray, List.getElem?_cons_zero, List.getElem?_cons_succ]; rfl)
    case hfd13 => kernel_rfl
    case hrd13 => kernel_rfl
    case hQd13 => exact fun _ _ _ h => h
    case hyd13 => refine Or.inl ⟨by rfl, ?_⟩; intro W hSw; go_simp; try with_reducible rfl
    try simp only [Act.put, List.setIfInBounds_toArray, List.set_cons_zero, List.set_cons_succ]
    refine' wpAnyH_take (i := 11) (oi := _) (v := undef) ?hid14 (by kernel_rfl) ?hfd14 ?hrd14 ?hQd14 ?hyd14 (hSd1) ?restd14
    case hid14 => (simp only [List.getElem?_toArray, List.getElem?_cons_zero, List.getElem?_cons_succ]; rfl)
    case hfd14 => kernel_rfl
    case hrd14 => kernel_rfl
    case hQd14 => exact fun _ _ _ h => h
    case hyd14 => exact Or.inr ⟨by rfl, rfl⟩
    try simp only [Act.put, List.setIfInBounds_toArray, List.set_cons_zero, List.set_cons_succ]
    refine' wpAnyH_take (i := 12) (oi := _) (v := undef) ?hid15 (by kernel_rfl) ?hfd15 ?hrd15 ?hQd15 ?hyd15 (hSd1) ?restd15
    case hid15 => (simp only [List.getElem?_toArray, List.getElem?_cons_zero, List.getElem?_cons_succ]; rfl)
    case hfd15 => kernel_rfl
    case hrd15 => kernel_rfl
    case hQd15 => exact fun _ _ _ h => h
    case hyd15 => exact Or.inr ⟨by rfl, rfl⟩
    try simp only [Act.put, List.setIfInBounds_toArray, List.set_cons_zero, List.set_cons_succ]
    refine' wpAnyH_take (i := 13) (oi := _) (v := undef) ?hid16 (by kernel_rfl) ?hfd16 ?hrd16 ?hQd16 ?hyd16 (hSd1) ?restd16
    case hid16 => (simp only [List.getElem?_toArray, List.getElem?_cons_zero, List.getElem?_cons_succ]; rfl)
    case hfd16 => kernel_rfl
    case hrd16 => kernel_rfl
    case hQd16 => exact fun _ _ _ h => h
    case hyd16 => exact Or.inr ⟨by rfl, rfl⟩
    try simp only [Act.put, List.setIfInBounds_toArray, List.set_cons_zero, List.set_cons_succ]
    refine' wpAnyH_take (i := 14) (oi := _) (v := undef) ?hid17 (by kernel_rfl) ?hfd17 ?hrd17 ?hQd17 ?hyd17 (hSd1) ?restd17
    case hid17 => (simp only [List.getElem?_toArray, List.getElem?_cons_zero, List.getElem?_cons_succ]; rfl)
    case hfd17 => kernel_rfl
    case hrd17 => kernel_rfl
    case hQd17 => exact fun _ _ _ h => h
    case hyd17 => exact Or.inr ⟨by rfl, rfl⟩
    try simp only [Act.put, List.setIfInBounds_toArray, List.set_cons_zero, List.set_cons_succ]
    refine' wpAnyH_take (i := 15) (oi := _) (v := undef) ?hid18 (by kernel_rfl) ?hfd18 ?hrd18 ?hQd18 ?hyd18 (hSd1) ?restd18
    case hid18 => (simp only [List.getElem?_toArray, List.getElem?_cons_zero, List.getElem?_cons_succ]; rfl)
    case hfd18 => kernel_rfl
    case hrd18 => kernel_rfl
    case hQd18 => exact fun _ _ _ h => h
    case hyd18 => exact Or.inr ⟨by rfl, rfl⟩
    try simp only [Act.put, List.setIfInBounds_toArray, List.set_cons_zero, List.set_cons_succ]
    refine' wpAnyH_take (i := 16) (oi := _) (v := _) ?hid19 (by kernel_rfl) ?hfd19 ?hrd19 ?hQd19 ?hyd19 (hSd1) ?restd19
    case hid19 => (simp only [List.getElem?_toArray, List.getElem?_cons_zero, List.getElem?_cons_succ]; rfl)
    case hfd19 => kernel_rfl
    case hrd19 => kernel_rfl
    case hQd19 => exact fun _ _ _ h => h
    case hyd19 => refine Or.inl ⟨by rfl, ?_⟩; intro W hSw; go_simp; try with_reducible rfl
    try simp only [Act.put, List.setIfInBounds_toArray, List.set_cons_zero, List.set_cons_succ]
    refine wpAnyH_done (by kernel_rfl) ?_ _
    have hres := H3.out.res.below hSd1
    have hz := below_setRow (below_on H3.out.below (Nat.le_of_eq HG.out.symm) hSd1) (show g ≤ g + 2 by omega) #[.slice none 0 0, .slice none 0 0]
    go_wp2_with (with_reducible refine wpList_store_clash rfl (.tmp 4) (.tmp 23) rfl (g + 2) rfl hres none 0 0 none 0 0 rfl ?_)
    refine bodyPost_ret_by (results_cell_tmp (p := 4) (q := 5) (ty := 30) (by kernel_rfl) _ _ ⟨g + 2, 0, none⟩ (clv none 0 0 none 0 0) rfl (run_load_clash ((hres.setRow _).cell 0 rfl) ((hres.setRow _).cell 1 rfl))) rfl ?_
    have hbf : (decide (n = m) && (!decide (R = S) && decide (rr = rs))) = false := by simp [hnm0]
    rw [hbf]
    exact ⟨⟨_, rfl, (fun e => by cases e), fun _ => rfl⟩, hz⟩
end

end Go.Proofs.YtnaebjdccngeoaaDoor

/-
  clashes.Path, clashes.Link: the ways on which none is told at once.
-/
namespace Go.Proofs.YtnaebjdccngeoaaDoor
open Go.RowKit

/-- The world in which Path begins. -/
structure PathIn (w wz : World) (g : Nat) (v0 v1 v2 v3 : Value) : Prop where
  l : VarAt wz g 22 v0
  at_ : VarAt wz (g + 1) 3 v1
  b : VarAt wz (g + 2) 23 v2
  path : VarAt wz (g + 3) 24 v3
  res : Cells wz (g + 4) 30 #[.slice none 0 0, .slice none 0 0]
  below : Below g w wz
  size : wz.heap.size = g + 5
theorem PathIn.mk_ (w : World) (g : Nat) (v0 v1 v2 v3 : Value) (hg : w.heap.size = g) : PathIn w (((((w.alloc (.cells #[v0] 22)).alloc (.cells #[v1] 3)).alloc (.cells #[v2] 23)).alloc (.cells #[v3] 24)).alloc (.cells #[.slice none 0 0, .slice none 0 0] 30)) g v0 v1 v2 v3 := by
  have sw : w.heap.size = g + 0 := hg
  have h0 := VarAt.new w 22 v0
  have b0 := below_alloc w (.cells #[v0] 22)
  obtain ⟨w0, e0⟩ : ∃ x, x = w.alloc (.cells #[v0] 22) := ⟨_, rfl⟩
  have s0 : w0.heap.size = g + 1 := by rw [e0]; simp [sw]
  rw [← e0] at h0 b0 ⊢
  rw [sw] at h0 b0
  have h1 := VarAt.new w0 3 v1
  have b1 := below_alloc w0 (.cells #[v1] 3)
  obtain ⟨w1, e1⟩ : ∃ x, x = w0.alloc (.cells #[v1] 3) := ⟨_, rfl⟩
  have s1 : w1.heap.size = g + 2 := by rw [e1]; simp [s0]
  rw [← e1] at h1 b1 ⊢
  rw [s0] at h1 b1
  have h2 := VarAt.new w1 23 v2
  have b2 := below_alloc w1 (.cells #[v2] 23)
  obtain ⟨w2, e2⟩ : ∃ x, x = w1.alloc (.cells #[v2] 23) := ⟨_, rfl⟩
  have s2 : w2.heap.size = g + 3 := by rw [e2]; simp [s1]
  rw [← e2] at h2 b2 ⊢
  rw [s1] at h2 b2
  have h3 := VarAt.new w2 24 v3
  have b3 := below_alloc w2 (.cells #[v3] 24)
  obtain ⟨w3, e3⟩ : ∃ x, x = w2.alloc (.cells #[v3] 24) := ⟨_, rfl⟩
  have s3 : w3.heap.size = g + 4 := by rw [e3]; simp [s2]
  rw [← e3] at h3 b3 ⊢
  rw [s2] at h3 b3
  have hc := Cells.new w3 30 #[.slice none 0 0, .slice none 0 0]
  have bc := below_alloc w3 (.cells #[.slice none 0 0, .slice none 0 0] 30)
  obtain ⟨wc, ec⟩ : ∃ x, x = w3.alloc (.cells #[.slice none 0 0, .slice none 0 0] 30) := ⟨_, rfl⟩
  have sc : wc.heap.size = g + 5 := by rw [ec]; simp [s3]
  rw [← ec] at hc bc ⊢
  rw [s3] at hc bc
  exact ⟨(((h0.below (by rw [s0]; exact b1)).below (by rw [s1]; exact b2)).below (by rw [s2]; exact b3)).below (by rw [s3]; exact bc), ((h1.below (by rw [s1]; exact b2)).below (by rw [s2]; exact b3)).below (by rw [s3]; exact bc), (h2.below (by rw [s2]; exact b3)).below (by rw [s3]; exact bc), h3.below (by rw [s3]; exact bc), hc, below_on (below_on (below_on (below_on b0 (by omega) (by rw [s0]; exact b1)) (by omega) (by rw [s1]; exact b2)) (by omega) (by rw [s2]; exact b3)) (by omega) (by rw [s3]; exact bc), sc⟩
/-- The world in which Link begins. -/
structure LinkIn (w wz : World) (g : Nat) (v0 v1 v2 : Value) : Prop where
  a : VarAt wz g 22 v0
  b : VarAt wz (g + 1) 22 v1
  link : VarAt wz (g + 2) 24 v2
  res : Cells wz (g + 3) 30 #[.slice none 0 0, .slice none 0 0]
  below : Below g w wz
  size : wz.heap.size = g + 4
theorem LinkIn.mk_ (w : World) (g : Nat) (v0 v1 v2 : Value) (hg : w.heap.size = g) : LinkIn w ((((w.alloc (.cells #[v0] 22)).alloc (.cells #[v1] 22)).alloc (.cells #[v2] 24)).alloc (.cells #[.slice none 0 0, .slice none 0 0] 30)) g v0 v1 v2 := by
  have sw : w.heap.size = g + 0 := hg
  have h0 := VarAt.new w 22 v0
  have b0 := below_alloc w (.cells #[v0] 22)
  obtain ⟨w0, e0⟩ : ∃ x, x = w.alloc (.cells #[v0] 22) := ⟨_, rfl⟩
  have s0 : w0.heap.size = g + 1 := by rw [e0]; simp [sw]
  rw [← e0] at h0 b0 ⊢
  rw [sw] at h0 b0
  have h1 := VarAt.new w0 22 v1
  have b1 := below_alloc w0 (.cells #[v1] 22)
  obtain ⟨w1, e1⟩ : ∃ x, x = w0.alloc (.cells #[v1] 22) := ⟨_, rfl⟩
  have s1 : w1.heap.size = g + 2 := by rw [e1]; simp [s0]
  rw [← e1] at h1 b1 ⊢
  rw [s0] at h1 b1
  have h2 := VarAt.new w1 24 v2
  have b2 := below_alloc w1 (.cells #[v2] 24)
  obtain ⟨w2, e2⟩ : ∃ x, x = w1.alloc (.cells #[v2] 24) := ⟨_, rfl⟩
  have s2 : w2.heap.size = g + 3 := by rw [e2]; simp [s1]
  rw [← e2] at h2 b2 ⊢
  rw [s1] at h2 b2
  have hc := Cells.new w2 30 #[.slice none 0 0, .slice none 0 0]
  have bc := below_alloc w2 (.cells #[.slice none 0 0, .slice none 0 0] 30)
  obtain ⟨wc, ec⟩ : ∃ x, x = w2.alloc (.cells #[.slice none 0 0, .slice none 0 0] 30) := ⟨_, rfl⟩
  have sc : wc.heap.size = g + 4 := by rw [ec]; simp [s2]
  rw [← ec] at hc bc ⊢
  rw [s2] at hc bc
  exact ⟨((h0.below (by rw [s0]; exact b1)).below (by rw [s1]; exact b2)).below (by rw [s2]; exact bc), (h1.below (by rw [s1]; exact b2)).below (by rw [s2]; exact bc), h2.below (by rw [s2]; exact bc), hc, below_on (below_on (below_on b0 (by omega) (by rw [s0]; exact b1)) (by omega) (by rw [s1]; exact b2)) (by omega) (by rw [s2]; exact bc), sc⟩

section
variable {w : World} {A B P : Option Addr} {n m q c d r : Nat} {R S : List (List Nat)}

set_option maxRecDepth 100000 in
set_option maxHeartbeats 8000000 in
theorem path_neg {z : Int} (hz : z < 0) :
    Calls Tryd.prog 33 #[.slice A n c, .int .i64 z, .slice B m d, .slice P q r] w fun e w' => Tells w.heap.size false e w' ∧ Below w.heap.size w w' := by
  obtain ⟨g, hg⟩ : ∃ g, w.heap.size = g := ⟨_, rfl⟩
  have hz0 := PathIn.mk_ w g (.slice A n c) (.int .i64 z) (.slice B m d) (.slice P q r) hg
  obtain ⟨wz, hwz⟩ : ∃ x, x = (((((w.alloc (.cells #[.slice A n c] 22)).alloc (.cells #[.int .i64 z] 3)).alloc (.cells #[.slice B m d] 23)).alloc (.cells #[.slice P q r] 24)).alloc (.cells #[.slice none 0 0, .slice none 0 0] 30)) := ⟨_, rfl⟩
  rw [← hwz] at hz0
  have HW := Lib.hid hwz
  have HG := Lib.hid hg
  have HZ := Lib.hid hz0
  have b0z : Below w.heap.size w wz := by rw [hg]; exact hz0.below
  have HC1 := Lib.hid (fun (W : World) (hW : Below wz.heap.size wz W) => show W.cell? ⟨g + 1, 0, none⟩ = some (.int .i64 z) from (hz0.at_.below hW).cell)
  have hzi : z < 0 := hz
  rw [hg]
  clear hz0 hwz hg b0z
  go_enter Tryd.func33, Tryd.ntmps33
  go_upto_region 1 with fail
  rw [← HW.out]
  rw [HG.out]
  have hSg1 : Below wz.heap.size wz wz.drew := (Below.refl _ _).drew
  refine wp_region_held_drew (S := fun W => Below wz.heap.size wz W) (by kernel_rfl) (hSg1) (fun _ => ?_)
  change wpAnyH _ _ _ _ _ _ _ _ wz.drew
  generalize wz.drew = Wg2 at hSg1 ⊢
  refine' wpAnyH_take (i := 0) (oi := _) (v := _) ?hig3 (by kernel_rfl) ?hfg3 ?hrg3 ?hQg3 ?hyg3 (hSg1) ?restg3
  case hig3 => (simp only [List.getElem?_toArray, List.getElem?_cons_zero]; rfl)
  case hfg3 => kernel_rfl
  case hrg3 => kernel_rfl
  case hQg3 => exact fun _ _ _ h => h
  case hyg3 => refine Or.inl ⟨by rfl, ?_⟩; intro W hSw; have hcc := HC1.out W hSw; go_simp; try with_reducible rfl
  try simp only [Act.put, List.setIfInBounds_toArray, List.set_cons_zero, List.set_cons_succ]
  refine' wpAnyH_take (i := 1) (oi := _) (v := _) ?hig4 (by kernel_rfl) ?hfg4 ?hrg4 ?hQg4 ?hyg4 (hSg1) ?restg4
  case hig4 => (simp only [List.getElem?_toArray, List.getElem?_cons_zero, List.getElem?_cons_succ]; rfl)
  case hfg4 => kernel_rfl
  case hrg4 => kernel_rfl
  case hQg4 => exact fun _ _ _ h => h
  case hyg4 => refine Or.inl ⟨by rfl, ?_⟩; intro W hSw; go_simp; try with_reducible rfl
  try simp only [Act.put, List.setIfInBounds_toArray, List.set_cons_zero, List.set_cons_succ]
  refine' wpAnyH_take (i := 2) (oi := _) (v := _) ?hig5 (by kernel_rfl) ?hfg5 ?hrg5 ?hQg5 ?hyg5 (hSg1) ?restg5
  case hig5 => (simp only [List.getElem?_toArray, List.getElem?_cons_zero, List.getElem?_cons_succ]; rfl)
  case hfg5 => kernel_rfl
  case hrg5 => kernel_rfl
  case hQg5 => exact fun _ _ _ h => h
  case hyg5 => refine Or.inl ⟨by rfl, ?_⟩; intro W hSw; go_simp; try with_reducible rfl
  try simp only [Act.put, List.setIfInBounds_toArray, List.set_cons_zero, List.set_cons_succ]
  refine' wpAnyH_take (i := 3) (oi := _) (v := undef) ?hig6 (by kernel_rfl) ?hfg6 ?hrg6 ?hQg6 ?hyg6 (hSg1) ?restg6
  case hig6 => (simp only [List.getElem?_toArray, List.getElem?_cons_zero, List.getElem?_cons_succ]; rfl)
  case hfg6 => kernel_rfl
  case hrg6 => kernel_rfl
  case hQg6 => exact fun _ _ _ h => h
  case hyg6 => exact Or.inr ⟨by rfl, rfl⟩
  try simp only [Act.put, List.setIfInBounds_toArray, List.set_cons_zero, List.set_cons_succ]
  refine' wpAnyH_take (i := 4) (oi := _) (v := undef) ?hig7 (by kernel_rfl) ?hfg7 ?hrg7 ?hQg7 ?hyg7 (hSg1) ?restg7
  case hig7 => (simp only [List.getElem?_toArray, List.getElem?_cons_zero, List.getElem?_cons_succ]; rfl)
  case hfg7 => kernel_rfl
  case hrg7 => kernel_rfl
  case hQg7 => exact fun _ _ _ h => h
  case hyg7 => exact Or.inr ⟨by rfl, rfl⟩
  try simp only [Act.put, List.setIfInBounds_toArray, List.set_cons_zero, List.set_cons_succ]
  refine' wpAnyH_take (i := 5) (oi := _) (v := undef) ?hig8 (by kernel_rfl) ?hfg8 ?hrg8 ?hQg8 ?hyg8 (hSg1) ?restg8
  case hig8 => (simp only [List.getElem?_toArray, List.getElem?_cons_zero, List.getElem?_cons_succ]; rfl)
  case hfg8 => kernel_rfl
  case hrg8 => kernel_rfl
  case hQg8 => exact fun _ _ _ h => h
  case hyg8 => exact Or.inr ⟨by rfl, rfl⟩
  try simp only [Act.put, List.setIfInBounds_toArray, List.set_cons_zero, List.set_cons_succ]
  refine' wpAnyH_take (i := 6) (oi := _) (v := undef) ?hig9 (by kernel_rfl) ?hfg9 ?hrg9 ?hQg9 ?hyg9 (hSg1) ?restg9
  case hig9 => (simp only [List.getElem?_toArray, List.getElem?_cons_zero, List.getElem?_cons_succ]; rfl)
  case hfg9 => kernel_rfl
  case hrg9 => kernel_rfl
  case hQg9 => exact fun _ _ _ h => h
  case hyg9 => exact Or.inr ⟨by rfl, rfl⟩
  try simp only [Act.put, List.setIfInBounds_toArray, List.set_cons_zero, List.set_cons_succ]
  refine' wpAnyH_take (i := 7) (oi := _) (v := _) ?hig10 (by kernel_rfl) ?hfg10 ?hrg10 ?hQg10 ?hyg10 (hSg1) ?restg10
  case hig10 => (simp only [List.getElem?_toArray, List.getElem?_cons_zero, List.getElem?_cons_succ]; rfl)
  case hfg10 => kernel_rfl
  case hrg10 => kernel_rfl
  case hQg10 => exact fun _ _ _ h => h
  case hyg10 => refine Or.inl ⟨by rfl, ?_⟩; intro W hSw; go_simp; try with_reducible rfl
  try simp only [Act.put, List.setIfInBounds_toArray, List.set_cons_zero, List.set_cons_succ]
  refine' wpAnyH_take (i := 8) (oi := _) (v := _) ?hig11 (by kernel_rfl) ?hfg11 ?hrg11 ?hQg11 ?hyg11 (hSg1) ?restg11
  case hig11 => (simp only [List.getElem?_toArray, List.getElem?_cons_zero, List.getElem?_cons_succ]; rfl)
  case hfg11 => kernel_rfl
  case hrg11 => kernel_rfl
  case hQg11 => exact fun _ _ _ h => h
  case hyg11 => refine Or.inl ⟨by rfl, ?_⟩; intro W hSw; go_simp; try with_reducible rfl
  try simp only [Act.put, List.setIfInBounds_toArray, List.set_cons_zero, List.set_cons_succ]
  refine' wpAnyH_take (i := 9) (oi := _) (v := undef) ?hig12 (by kernel_rfl) ?hfg12 ?hrg12 ?hQg12 ?hyg12 (hSg1) ?restg12
  case hig12 => (simp only [List.getElem?_toArray, List.getElem?_cons_zero, List.getElem?_cons_succ]; rfl)
  case hfg12 => kernel_rfl
  case hrg12 => kernel_rfl
  case hQg12 => exact fun _ _ _ h => h
  case hyg12 => exact Or.inr ⟨by rfl, rfl⟩
  try simp only [Act.put, List.setIfInBounds_toArray, List.set_cons_zero, List.set_cons_succ]
  refine' wpAnyH_take (i := 10) (oi := _) (v := undef) ?hig13 (by kernel_rfl) ?hfg13 ?hrg13 ?hQg13 ?hyg13 (hSg1) ?restg13
  case hig13 => (simp only [List.getElem?_toArray, List.getElem?_cons_zero, List.getElem?_cons_succ]; rfl)
  case hfg13 => kernel_rfl
  case hrg13 => kernel_rfl
  case hQg13 => exact fun _ _ _ h => h
  case hyg13 => exact Or.inr ⟨by rfl, rfl⟩
  try simp only [Act.put, List.setIfInBounds_toArray, List.set_cons_zero, List.set_cons_succ]
  refine' wpAnyH_take (i := 11) (oi := _) (v := undef) ?hig14 (by kernel_rfl) ?hfg14 ?hrg14 ?hQg14 ?hyg14 (hSg1) ?restg14
  case hig14 => (simp only [List.getElem?_toArray, List.getElem?_cons_zero, List.getElem?_cons_succ]; rfl)
  case hfg14 => kernel_rfl
  case hrg14 => kernel_rfl
  case hQg14 => exact fun _ _ _ h => h
  case hyg14 => exact Or.inr ⟨by rfl, rfl⟩
  try simp only [Act.put, List.setIfInBounds_toArray, List.set_cons_zero, List.set_cons_succ]
  refine' wpAnyH_take (i := 12) (oi := _) (v := undef) ?hig15 (by kernel_rfl) ?hfg15 ?hrg15 ?hQg15 ?hyg15 (hSg1) ?restg15
  case hig15 => (simp only [List.getElem?_toArray, List.getElem?_cons_zero, List.getElem?_cons_succ]; rfl)
  case hfg15 => kernel_rfl
  case hrg15 => kernel_rfl
  case hQg15 => exact fun _ _ _ h => h
  case hyg15 => exact Or.inr ⟨by rfl, rfl⟩
  try simp only [Act.put, List.setIfInBounds_toArray, List.set_cons_zero, List.set_cons_succ]
  refine' wpAnyH_take (i := 13) (oi := _) (v := undef) ?hig16 (by kernel_rfl) ?hfg16 ?hrg16 ?hQg16 ?hyg16 (hSg1) ?restg16
  case hig16 => (simp only [List.getElem?_toArray, List.getElem?_cons_zero, List.getElem?_cons_succ]; rfl)
  case hfg16 => kernel_rfl
  case hrg16 => kernel_rfl
  case hQg16 => exact fun _ _ _ h => h
  case hyg16 => exact Or.inr ⟨by rfl, rfl⟩
  try simp only [Act.put, List.setIfInBounds_toArray, List.set_cons_zero, List.set_cons_succ]
  refine' wpAnyH_take (i := 14) (oi := _) (v := undef) ?hig17 (by kernel_rfl) ?hfg17 ?hrg17 ?hQg17 ?hyg17 (hSg1) ?restg17
  case hig17 => (simp only [List.getElem?_toArray, List.getElem?_cons_zero, List.getElem?_cons_succ]; rfl)
  case hfg17 => kernel_rfl
  case hrg17 => kernel_rfl
  case hQg17 => exact fun _ _ _ h => h
  case hyg17 => exact Or.inr ⟨by rfl, rfl⟩
  try simp only [Act.put, List.setIfInBounds_toArray, List.set_cons_zero, List.set_cons_succ]
  refine' wpAnyH_take (i := 15) (oi := _) (v := _) ?hig18 (by kernel_rfl) ?hfg18 ?hrg18 ?hQg18 ?hyg18 (hSg1) ?restg18
  case hig18 => (simp only [List.getElem?_toArray, List.getElem?_cons_zero, List.getElem?_cons_succ]; rfl)
  case hfg18 => kernel_rfl
  case hrg18 => kernel_rfl
  case hQg18 => exact fun _ _ _ h => h
  case hyg18 => refine Or.inl ⟨by rfl, ?_⟩; intro W hSw; go_simp; try with_reducible rfl
  try simp only [Act.put, List.setIfInBounds_toArray, List.set_cons_zero, List.set_cons_succ]
  refine wpAnyH_done (by kernel_rfl) ?_ _
  have hres := HZ.out.res.below hSg1
  have hz := below_setRow (below_on HZ.out.below (Nat.le_of_eq HG.out.symm) hSg1) (show g ≤ g + 4 by omega) #[.slice none 0 0, .slice none 0 0]
  go_wp2_with (with_reducible refine wpList_store_clash rfl (.tmp 8) (.tmp 26) rfl (g + 4) rfl hres none 0 0 none 0 0 rfl ?_)
  refine bodyPost_ret_by (results_cell_tmp (p := 8) (q := 9) (ty := 30) (by kernel_rfl) _ _ ⟨g + 4, 0, none⟩ (clv none 0 0 none 0 0) rfl (run_load_clash ((hres.setRow _).cell 0 rfl) ((hres.setRow _).cell 1 rfl))) rfl ?_
  exact ⟨⟨_, rfl, (fun e => by cases e), fun _ => rfl⟩, hz⟩

set_option maxRecDepth 100000 in
set_option maxHeartbeats 8000000 in
theorem path_far {k : Nat} (hk : n ≤ k) :
    Calls Tryd.prog 33 #[.slice A n c, .int .i64 (k : Int), .slice B m d, .slice P q r] w fun e w' => Tells w.heap.size false e w' ∧ Below w.heap.size w w' := by
  obtain ⟨g, hg⟩ : ∃ g, w.heap.size = g := ⟨_, rfl⟩
  have hz0 := PathIn.mk_ w g (.slice A n c) (.int .i64 (k : Int)) (.slice B m d) (.slice P q r) hg
  obtain ⟨wz, hwz⟩ : ∃ x, x = (((((w.alloc (.cells #[.slice A n c] 22)).alloc (.cells #[.int .i64 (k : Int)] 3)).alloc (.cells #[.slice B m d] 23)).alloc (.cells #[.slice P q r] 24)).alloc (.cells #[.slice none 0 0, .slice none 0 0] 30)) := ⟨_, rfl⟩
  rw [← hwz] at hz0
  have HW := Lib.hid hwz
  have HG := Lib.hid hg
  have HZ := Lib.hid hz0
  have b0z : Below w.heap.size w wz := by rw [hg]; exact hz0.below
  have HC1 := Lib.hid (fun (W : World) (hW : Below wz.heap.size wz W) => show W.cell? ⟨g + 1, 0, none⟩ = some (.int .i64 (k : Int)) from (hz0.at_.below hW).cell)
  have HC0 := Lib.hid (fun (W : World) (hW : Below wz.heap.size wz W) => show W.cell? ⟨g, 0, none⟩ = some (.slice A n c) from (hz0.l.below hW).cell)
  have hzi : ¬ ((k : Int) < 0) := by omega
  have hzj : (n : Int) ≤ (k : Int) := by omega
  rw [hg]
  clear hz0 hwz hg b0z
  go_enter Tryd.func33, Tryd.ntmps33
  go_upto_region 1 with fail
  rw [← HW.out]
  rw [HG.out]
  have hSr1 : Below wz.heap.size wz wz.drew := (Below.refl _ _).drew
  refine wp_region_held_drew (S := fun W => Below wz.heap.size wz W) (by kernel_rfl) (hSr1) (fun _ => ?_)
  change wpAnyH _ _ _ _ _ _ _ _ wz.drew
  generalize wz.drew = Wr2 at hSr1 ⊢
  refine' wpAnyH_take (i := 0) (oi := _) (v := _) ?hir3 (by kernel_rfl) ?hfr3 ?hrr3 ?hQr3 ?hyr3 (hSr1) ?restr3
  case hir3 => (simp only [List.getElem?_toArray, List.getElem?_cons_zero]; rfl)
  case hfr3 => kernel_rfl
  case hrr3 => kernel_rfl
  case hQr3 => exact fun _ _ _ h => h
  case hyr3 => refine Or.inl ⟨by rfl, ?_⟩; intro W hSw; have hcc := HC1.out W hSw; go_simp; try with_reducible rfl
  try simp only [Act.put, List.setIfInBounds_toArray, List.set_cons_zero, List.set_cons_succ]
  refine' wpAnyH_take (i := 1) (oi := _) (v := _) ?hir4 (by kernel_rfl) ?hfr4 ?hrr4 ?hQr4 ?hyr4 (hSr1) ?restr4
  case hir4 => (simp only [List.getElem?_toArray, List.getElem?_cons_zero, List.getElem?_cons_succ]; rfl)
  case hfr4 => kernel_rfl
  case hrr4 => kernel_rfl
  case hQr4 => exact fun _ _ _ h => h
  case hyr4 => refine Or.inl ⟨by rfl, ?_⟩; intro W hSw; go_simp; try with_reducible rfl
  try simp only [Act.put, List.setIfInBounds_toArray, List.set_cons_zero, List.set_cons_succ]
  refine' wpAnyH_take (i := 2) (oi := _) (v := _) ?hir5 (by kernel_rfl) ?hfr5 ?hrr5 ?hQr5 ?hyr5 (hSr1) ?restr5
  case hir5 => (simp only [List.getElem?_toArray, List.getElem?_cons_zero, List.getElem?_cons_succ]; rfl)
  case hfr5 => kernel_rfl
  case hrr5 => kernel_rfl
  case hQr5 => exact fun _ _ _ h => h
  case hyr5 => refine Or.inl ⟨by rfl, ?_⟩; intro W hSw; go_simp; try with_reducible rfl
  try simp only [Act.put, List.setIfInBounds_toArray, List.set_cons_zero, List.set_cons_succ]
  refine' wpAnyH_take (i := 3) (oi := _) (v := _) ?hir6 (by kernel_rfl) ?hfr6 ?hrr6 ?hQr6 ?hyr6 (hSr1) ?restr6
  case hir6 => (simp only [List.getElem?_toArray, List.getElem?_cons_zero, List.getElem?_cons_succ]; rfl)
  case hfr6 => kernel_rfl
  case hrr6 => kernel_rfl
  case hQr6 => exact fun _ _ _ h => h
  case hyr6 => refine Or.inl ⟨by rfl, ?_⟩; intro W hSw; have hcc := HC1.out W hSw; go_simp; try with_reducible rfl
  try simp only [Act.put, List.setIfInBounds_toArray, List.set_cons_zero, List.set_cons_succ]
  refine' wpAnyH_take (i := 4) (oi := _) (v := _) ?hir7 (by kernel_rfl) ?hfr7 ?hrr7 ?hQr7 ?hyr7 (hSr1) ?restr7
  case hir7 => (simp only [List.getElem?_toArray, List.getElem?_cons_zero, List.getElem?_cons_succ]; rfl)
  case hfr7 => kernel_rfl
  case hrr7 => kernel_rfl
  case hQr7 => exact fun _ _ _ h => h
  case hyr7 => refine Or.inl ⟨by rfl, ?_⟩; intro W hSw; have hcc := HC0.out W hSw; go_simp; try with_reducible rfl
  try simp only [Act.put, List.setIfInBounds_toArray, List.set_cons_zero, List.set_cons_succ]
  refine' wpAnyH_take (i := 5) (oi := _) (v := _) ?hir8 (by kernel_rfl) ?hfr8 ?hrr8 ?hQr8 ?hyr8 (hSr1) ?restr8
  case hir8 => (simp only [List.getElem?_toArray, List.getElem?_cons_zero, List.getElem?_cons_succ]; rfl)
  case hfr8 => kernel_rfl
  case hrr8 => kernel_rfl
  case hQr8 => exact fun _ _ _ h => h
  case hyr8 => refine Or.inl ⟨by rfl, ?_⟩; intro W hSw; go_simp; try with_reducible rfl
  try simp only [Act.put, List.setIfInBounds_toArray, List.set_cons_zero, List.set_cons_succ]
  refine' wpAnyH_take (i := 6) (oi := _) (v := _) ?hir9 (by kernel_rfl) ?hfr9 ?hrr9 ?hQr9 ?hyr9 (hSr1) ?restr9
  case hir9 => (simp only [List.getElem?_toArray, List.getElem?_cons_zero, List.getElem?_cons_succ]; rfl)
  case hfr9 => kernel_rfl
  case hrr9 => kernel_rfl
  case hQr9 => exact fun _ _ _ h => h
  case hyr9 => refine Or.inl ⟨by rfl, ?_⟩; intro W hSw; go_simp; try with_reducible rfl
  try simp only [Act.put, List.setIfInBounds_toArray, List.set_cons_zero, List.set_cons_succ]
  refine' wpAnyH_take (i := 7) (oi := _) (v := _) ?hir10 (by kernel_rfl) ?hfr10 ?hrr10 ?hQr10 ?hyr10 (hSr1) ?restr10
  case hir10 => (simp only [List.getElem?_toArray, List.getElem?_cons_zero, List.getElem?_cons_succ]; rfl)
  case hfr10 => kernel_rfl
  case hrr10 => kernel_rfl
  case hQr10 => exact fun _ _ _ h => h
  case hyr10 => refine Or.inl ⟨by rfl, ?_⟩; intro W hSw; go_simp; try with_reducible rfl
  try simp only [Act.put, List.setIfInBounds_toArray, List.set_cons_zero, List.set_cons_succ]
  refine' wpAnyH_take (i := 8) (oi := _) (v := _) ?hir11 (by kernel_rfl) ?hfr11 ?hrr11 ?hQr11 ?hyr11 (hSr1) ?restr11
  case hir11 => (simp only [List.getElem?_toArray, List.getElem?_cons_zero, List.getElem?_cons_succ]; rfl)
  case hfr11 => kernel_rfl
  case hrr11 => kernel_rfl
  case hQr11 => exact fun _ _ _ h => h
  case hyr11 => refine Or.inl ⟨by rfl, ?_⟩; intro W hSw; go_simp; try with_reducible rfl
  try simp only [Act.put, List.setIfInBounds_toArray, List.set_cons_zero, List.set_cons_succ]
  refine' wpAnyH_take (i := 9) (oi := _) (v := undef) ?hir12 (by kernel_rfl) ?hfr12 ?hrr12 ?hQr12 ?hyr12 (hSr1) ?restr12
  case hir12 => (simp only [List.getElem?_toArray, List.getElem?_cons_zero, List.getElem?_cons_succ]; rfl)
  case hfr12 => kernel_rfl
  case hrr12 => kernel_rfl
  case hQr12 => exact fun _ _ _ h => h
  case hyr12 => exact Or.inr ⟨by rfl, rfl⟩
  try simp only [Act.put, List.setIfInBounds_toArray, List.set_cons_zero, List.set_cons_succ]
  refine' wpAnyH_take (i := 10) (oi := _) (v := undef) ?hir13 (by kernel_rfl) ?hfr13 ?hrr13 ?hQr13 ?hyr13 (hSr1) ?restr13
  case hir13 => (simp only [List.getElem?_toArray, List.getElem?_cons_zero, List.getElem?_cons_succ]; rfl)
  case hfr13 => kernel_rfl
  case hrr13 => kernel_rfl
  case hQr13 => exact fun _ _ _ h => h
  case hyr13 => exact Or.inr ⟨by rfl, rfl⟩
  try simp only [Act.put, List.setIfInBounds_toArray, List.set_cons_zero, List.set_cons_succ]
  refine' wpAnyH_take (i := 11) (oi := _) (v := undef) ?hir14 (by kernel_rfl) ?hfr14 ?hrr14 ?hQr14 ?hyr14 (hSr1) ?restr14
  case hir14 => (simp only [List.getElem?_toArray, List.getElem?_cons_zero, List.getElem?_cons_succ]; rfl)
  case hfr14 => kernel_rfl
  case hrr14 => kernel_rfl
  case hQr14 => exact fun _ _ _ h => h
  case hyr14 => exact Or.inr ⟨by rfl, rfl⟩
  try simp only [Act.put, List.setIfInBounds_toArray, List.set_cons_zero, List.set_cons_succ]
  refine' wpAnyH_take (i := 12) (oi := _) (v := undef) ?hir15 (by kernel_rfl) ?hfr15 ?hrr15 ?hQr15 ?hyr15 (hSr1) ?restr15
  case hir15 => (simp only [List.getElem?_toArray, List.getElem?_cons_zero, List.getElem?_cons_succ]; rfl)
  case hfr15 => kernel_rfl
  case hrr15 => kernel_rfl
  case hQr15 => exact fun _ _ _ h => h
  case hyr15 => exact Or.inr ⟨by rfl, rfl⟩
  try simp only [Act.put, List.setIfInBounds_toArray, List.set_cons_zero, List.set_cons_succ]
  refine' wpAnyH_take (i := 13) (oi := _) (v := undef) ?hir16 (by kernel_rfl) ?hfr16 ?hrr16 ?hQr16 ?hyr16 (hSr1) ?restr16
  case hir16 => (simp only [List.getElem?_toArray, List.getElem?_cons_zero, List.getElem?_cons_succ]; rfl)
  case hfr16 => kernel_rfl
  case hrr16 => kernel_rfl
  case hQr16 => exact fun _ _ _ h => h
  case hyr16 => exact Or.inr ⟨by rfl, rfl⟩
  try simp only [Act.put, List.setIfInBounds_toArray, List.set_cons_zero, List.set_cons_succ]
  refine' wpAnyH_take (i := 14) (oi := _) (v := undef) ?hir17 (by kernel_rfl) ?hfr17 ?hrr17 ?hQr17 ?hyr17 (hSr1) ?restr17
  case hir17 => (simp only [List.getElem?_toArray, List.getElem?_cons_zero, List.getElem?_cons_succ]; rfl)
  case hfr17 => kernel_rfl
  case hrr17 => kernel_rfl
  case hQr17 => exact fun _ _ _ h => h
  case hyr17 => exact Or.inr ⟨by rfl, rfl⟩
  try simp only [Act.put, List.setIfInBounds_toArray, List.set_cons_zero, List.set_cons_succ]
  refine' wpAnyH_take (i := 15) (oi := _) (v := _) ?hir18 (by kernel_rfl) ?hfr18 ?hrr18 ?hQr18 ?hyr18 (hSr1) ?restr18
  case hir18 => (simp only [List.getElem?_toArray, List.getElem?_cons_zero, List.getElem?_cons_succ]; rfl)
  case hfr18 => kernel_rfl
  case hrr18 => kernel_rfl
  case hQr18 => exact fun _ _ _ h => h
  case hyr18 => refine Or.inl ⟨by rfl, ?_⟩; intro W hSw; go_simp; try with_reducible rfl
  try simp only [Act.put, List.setIfInBounds_toArray, List.set_cons_zero, List.set_cons_succ]
  refine wpAnyH_done (by kernel_rfl) ?_ _
  have hres := HZ.out.res.below hSr1
  have hz := below_setRow (below_on HZ.out.below (Nat.le_of_eq HG.out.symm) hSr1) (show g ≤ g + 4 by omega) #[.slice none 0 0, .slice none 0 0]
  go_wp2_with (with_reducible refine wpList_store_clash rfl (.tmp 8) (.tmp 26) rfl (g + 4) rfl hres none 0 0 none 0 0 rfl ?_)
  refine bodyPost_ret_by (results_cell_tmp (p := 8) (q := 9) (ty := 30) (by kernel_rfl) _ _ ⟨g + 4, 0, none⟩ (clv none 0 0 none 0 0) rfl (run_load_clash ((hres.setRow _).cell 0 rfl) ((hres.setRow _).cell 1 rfl))) rfl ?_
  exact ⟨⟨_, rfl, (fun e => by cases e), fun _ => rfl⟩, hz⟩

set_option maxRecDepth 100000 in
set_option maxHeartbeats 8000000 in
theorem path_same {k : Nat} {b : List Nat} (E1 : Ent w A n c R) (hk : k < n) (hB : Came w B m d b) (hb : R[k]? = some b) :
    Calls Tryd.prog 33 #[.slice A n c, .int .i64 (k : Int), .slice B m d, .slice P q r] w fun e w' => Tells w.heap.size false e w' ∧ Below w.heap.size w w' := by
  obtain ⟨g, hg⟩ : ∃ g, w.heap.size = g := ⟨_, rfl⟩
  have hz0 := PathIn.mk_ w g (.slice A n c) (.int .i64 (k : Int)) (.slice B m d) (.slice P q r) hg
  obtain ⟨wz, hwz⟩ : ∃ x, x = (((((w.alloc (.cells #[.slice A n c] 22)).alloc (.cells #[.int .i64 (k : Int)] 3)).alloc (.cells #[.slice B m d] 23)).alloc (.cells #[.slice P q r] 24)).alloc (.cells #[.slice none 0 0, .slice none 0 0] 30)) := ⟨_, rfl⟩
  rw [← hwz] at hz0
  have HW := Lib.hid hwz
  have HG := Lib.hid hg
  have HZ := Lib.hid hz0
  have b0z : Below w.heap.size w wz := by rw [hg]; exact hz0.below
  obtain ⟨ad, X, kx, qx, xs, rfl, hxs, hcx, hX, kxl⟩ := E1.at_ hk
  have hlt := World.block_lt_of_cell? w _ hcx
  have HCE := Lib.hid (fun (W : World) (hW : Below wz.heap.size wz W) => show W.cell? (ad.add k) = some (.slice X kx qx) from ((below_on b0z (Nat.le_refl _) hW).cell hlt).trans hcx)
  have CE := Lib.hid (fun (W : World) (hW : Below wz.heap.size wz W) => show Calls Tryd.prog 47 #[.slice X kx qx, .slice B m d] W fun e w' => e = .returned (.bool true) ∧ Below W.heap.size W w' from
    (equal_any (hX.below (below_on b0z (Nat.le_refl _) hW)) (hB.below (below_on b0z (Nat.le_refl _) hW))).mono fun e w' ⟨he, h⟩ => ⟨by rw [he]; rw [decide_eq_true (show xs = b from by rw [hxs] at hb; cases hb; rfl)], by rw [h]; exact Below.refl _ _⟩)
  have hzi : ¬ ((k : Int) < 0) := by omega
  have hzj : ¬ ((n : Int) ≤ (k : Int)) := by omega
  have hzk : (k : Int) < (n : Int) := by omega
  have HC0 := Lib.hid (fun (W : World) (hW : Below wz.heap.size wz W) => show W.cell? ⟨g, 0, none⟩ = some (.slice (some ad) n c) from (hz0.l.below hW).cell)
  clear hxs hcx hX hlt kxl E1 hB hb
  have HC1 := Lib.hid (fun (W : World) (hW : Below wz.heap.size wz W) => show W.cell? ⟨g + 1, 0, none⟩ = some (.int .i64 (k : Int)) from (hz0.at_.below hW).cell)
  have HC2 := Lib.hid (fun (W : World) (hW : Below wz.heap.size wz W) => show W.cell? ⟨g + 2, 0, none⟩ = some (.slice B m d) from (hz0.b.below hW).cell)
  rw [hg]
  clear hz0 hwz hg b0z
  go_enter Tryd.func33, Tryd.ntmps33
  go_upto_region 1 with fail
  rw [← HW.out]
  rw [HG.out]
  have hSe1 : Below wz.heap.size wz wz.drew := (Below.refl _ _).drew
  refine wp_region_held_drew (S := fun W => Below wz.heap.size wz W) (by kernel_rfl) (hSe1) (fun _ => ?_)
  change wpAnyH _ _ _ _ _ _ _ _ wz.drew
  generalize wz.drew = We2 at hSe1 ⊢
  refine' wpAnyH_take (i := 0) (oi := _) (v := _) ?hie3 (by kernel_rfl) ?hfe3 ?hre3 ?hQe3 ?hye3 (hSe1) ?reste3
  case hie3 => (simp only [List.getElem?_toArray, List.getElem?_cons_zero]; rfl)
  case hfe3 => kernel_rfl
  case hre3 => kernel_rfl
  case hQe3 => exact fun _ _ _ h => h
  case hye3 => refine Or.inl ⟨by rfl, ?_⟩; intro W hSw; have hcc := HC1.out W hSw; go_simp; try with_reducible rfl
  try simp only [Act.put, List.setIfInBounds_toArray, List.set_cons_zero, List.set_cons_succ]
  refine' wpAnyH_take (i := 1) (oi := _) (v := _) ?hie4 (by kernel_rfl) ?hfe4 ?hre4 ?hQe4 ?hye4 (hSe1) ?reste4
  case hie4 => (simp only [List.getElem?_toArray, List.getElem?_cons_zero, List.getElem?_cons_succ]; rfl)
  case hfe4 => kernel_rfl
  case hre4 => kernel_rfl
  case hQe4 => exact fun _ _ _ h => h
  case hye4 => refine Or.inl ⟨by rfl, ?_⟩; intro W hSw; go_simp; try with_reducible rfl
  try simp only [Act.put, List.setIfInBounds_toArray, List.set_cons_zero, List.set_cons_succ]
  refine' wpAnyH_take (i := 2) (oi := _) (v := _) ?hie5 (by kernel_rfl) ?hfe5 ?hre5 ?hQe5 ?hye5 (hSe1) ?reste5
  case hie5 => (simp only [List.getElem?_toArray, List.getElem?_cons_zero, List.getElem?_cons_succ]; rfl)
  case hfe5 => kernel_rfl
  case hre5 => kernel_rfl
  case hQe5 => exact fun _ _ _ h => h
  case hye5 => refine Or.inl ⟨by rfl, ?_⟩; intro W hSw; go_simp; try with_reducible rfl
  try simp only [Act.put, List.setIfInBounds_toArray, List.set_cons_zero, List.set_cons_succ]
  refine' wpAnyH_take (i := 3) (oi := _) (v := _) ?hie6 (by kernel_rfl) ?hfe6 ?hre6 ?hQe6 ?hye6 (hSe1) ?reste6
  case hie6 => (simp only [List.getElem?_toArray, List.getElem?_cons_zero, List.getElem?_cons_succ]; rfl)
  case hfe6 => kernel_rfl
  case hre6 => kernel_rfl
  case hQe6 => exact fun _ _ _ h => h
  case hye6 => refine Or.inl ⟨by rfl, ?_⟩; intro W hSw; have hcc := HC1.out W hSw; go_simp; try with_reducible rfl
  try simp only [Act.put, List.setIfInBounds_toArray, List.set_cons_zero, List.set_cons_succ]
  refine' wpAnyH_take (i := 4) (oi := _) (v := _) ?hie7 (by kernel_rfl) ?hfe7 ?hre7 ?hQe7 ?hye7 (hSe1) ?reste7
  case hie7 => (simp only [List.getElem?_toArray, List.getElem?_cons_zero, List.getElem?_cons_succ]; rfl)
  case hfe7 => kernel_rfl
  case hre7 => kernel_rfl
  case hQe7 => exact fun _ _ _ h => h
  case hye7 => refine Or.inl ⟨by rfl, ?_⟩; intro W hSw; have hcc := HC0.out W hSw; go_simp; try with_reducible rfl
  try simp only [Act.put, List.setIfInBounds_toArray, List.set_cons_zero, List.set_cons_succ]
  refine' wpAnyH_take (i := 5) (oi := _) (v := _) ?hie8 (by kernel_rfl) ?hfe8 ?hre8 ?hQe8 ?hye8 (hSe1) ?reste8
  case hie8 => (simp only [List.getElem?_toArray, List.getElem?_cons_zero, List.getElem?_cons_succ]; rfl)
  case hfe8 => kernel_rfl
  case hre8 => kernel_rfl
  case hQe8 => exact fun _ _ _ h => h
  case hye8 => refine Or.inl ⟨by rfl, ?_⟩; intro W hSw; go_simp; try with_reducible rfl
  try simp only [Act.put, List.setIfInBounds_toArray, List.set_cons_zero, List.set_cons_succ]
  refine' wpAnyH_take (i := 6) (oi := _) (v := _) ?hie9 (by kernel_rfl) ?hfe9 ?hre9 ?hQe9 ?hye9 (hSe1) ?reste9
  case hie9 => (simp only [List.getElem?_toArray, List.getElem?_cons_zero, List.getElem?_cons_succ]; rfl)
  case hfe9 => kernel_rfl
  case hre9 => kernel_rfl
  case hQe9 => exact fun _ _ _ h => h
  case hye9 => refine Or.inl ⟨by rfl, ?_⟩; intro W hSw; go_simp; try with_reducible rfl
  try simp only [Act.put, List.setIfInBounds_toArray, List.set_cons_zero, List.set_cons_succ]
  refine' wpAnyH_take (i := 7) (oi := _) (v := _) ?hie10 (by kernel_rfl) ?hfe10 ?hre10 ?hQe10 ?hye10 (hSe1) ?reste10
  case hie10 => (simp only [List.getElem?_toArray, List.getElem?_cons_zero, List.getElem?_cons_succ]; rfl)
  case hfe10 => kernel_rfl
  case hre10 => kernel_rfl
  case hQe10 => exact fun _ _ _ h => h
  case hye10 => refine Or.inl ⟨by rfl, ?_⟩; intro W hSw; go_simp; try with_reducible rfl
  try simp only [Act.put, List.setIfInBounds_toArray, List.set_cons_zero, List.set_cons_succ]
  refine' wpAnyH_take (i := 8) (oi := _) (v := _) ?hie11 (by kernel_rfl) ?hfe11 ?hre11 ?hQe11 ?hye11 (hSe1) ?reste11
  case hie11 => (simp only [List.getElem?_toArray, List.getElem?_cons_zero, List.getElem?_cons_succ]; rfl)
  case hfe11 => kernel_rfl
  case hre11 => kernel_rfl
  case hQe11 => exact fun _ _ _ h => h
  case hye11 => refine Or.inl ⟨by rfl, ?_⟩; intro W hSw; go_simp; try with_reducible rfl
  try simp only [Act.put, List.setIfInBounds_toArray, List.set_cons_zero, List.set_cons_succ]
  refine' wpAnyH_take (i := 9) (oi := _) (v := _) ?hie12 (by kernel_rfl) ?hfe12 ?hre12 ?hQe12 ?hye12 (hSe1) ?reste12
  case hie12 => (simp only [List.getElem?_toArray, List.getElem?_cons_zero, List.getElem?_cons_succ]; rfl)
  case hfe12 => kernel_rfl
  case hre12 => kernel_rfl
  case hQe12 => exact fun _ _ _ h => h
  case hye12 => refine Or.inl ⟨by rfl, ?_⟩; intro W hSw; have hcc := HC0.out W hSw; go_simp; try with_reducible rfl
  try simp only [Act.put, List.setIfInBounds_toArray, List.set_cons_zero, List.set_cons_succ]
  refine' wpAnyH_take (i := 10) (oi := _) (v := _) ?hie13 (by kernel_rfl) ?hfe13 ?hre13 ?hQe13 ?hye13 (hSe1) ?reste13
  case hie13 => (simp only [List.getElem?_toArray, List.getElem?_cons_zero, List.getElem?_cons_succ]; rfl)
  case hfe13 => kernel_rfl
  case hre13 => kernel_rfl
  case hQe13 => exact fun _ _ _ h => h
  case hye13 => refine Or.inl ⟨by rfl, ?_⟩; intro W hSw; have hcc := HC1.out W hSw; go_simp; try with_reducible rfl
  try simp only [Act.put, List.setIfInBounds_toArray, List.set_cons_zero, List.set_cons_succ]
  refine' wpAnyH_take (i := 11) (oi := _) (v := _) ?hie14 (by kernel_rfl) ?hfe14 ?hre14 ?hQe14 ?hye14 (hSe1) ?reste14
  case hie14 => (simp only [List.getElem?_toArray, List.getElem?_cons_zero, List.getElem?_cons_succ]; rfl)
  case hfe14 => kernel_rfl
  case hre14 => kernel_rfl
  case hQe14 => exact fun _ _ _ h => h
  case hye14 => refine Or.inl ⟨by rfl, ?_⟩; intro W hSw; go_simp; try with_reducible rfl
  try simp only [Act.put, List.setIfInBounds_toArray, List.set_cons_zero, List.set_cons_succ]
  refine' wpAnyH_take (i := 12) (oi := _) (v := _) ?hie15 (by kernel_rfl) ?hfe15 ?hre15 ?hQe15 ?hye15 (hSe1) ?reste15
  case hie15 => (simp only [List.getElem?_toArray, List.getElem?_cons_zero, List.getElem?_cons_succ]; rfl)
  case hfe15 => kernel_rfl
  case hre15 => kernel_rfl
  case hQe15 => exact fun _ _ _ h => h
  case hye15 => refine Or.inl ⟨by rfl, ?_⟩; intro W hSw; have hcc := HCE.out W hSw; go_simp; try with_reducible rfl
  try simp only [Act.put, List.setIfInBounds_toArray, List.set_cons_zero, List.set_cons_succ]
  refine' wpAnyH_take (i := 13) (oi := _) (v := _) ?hie16 (by kernel_rfl) ?hfe16 ?hre16 ?hQe16 ?hye16 (hSe1) ?reste16
  case hie16 => (simp only [List.getElem?_toArray, List.getElem?_cons_zero, List.getElem?_cons_succ]; rfl)
  case hfe16 => kernel_rfl
  case hre16 => kernel_rfl
  case hQe16 => exact fun _ _ _ h => h
  case hye16 => refine Or.inl ⟨by rfl, ?_⟩; intro W hSw; have hcc := HC2.out W hSw; go_simp; try with_reducible rfl
  try simp only [Act.put, List.setIfInBounds_toArray, List.set_cons_zero, List.set_cons_succ]
  refine wpAnyH_ready (rs := [14]) (by kernel_rfl) (by simp) ?_
  refine' (AllReadyH.cons (o := _) ?hie17 (fun K hK => ?_) AllReadyH.nil)
  case hie17 => (simp only [List.getElem?_toArray, List.getElem?_cons_zero, List.getElem?_cons_succ]; rfl)
  go_simp
  go_at_call 47
  refine (CE.out We2 hSe1).mono ?_
  rintro e We20 ⟨rfl, hbe18⟩
  have hBe19 := below_on hSe1 (Nat.le_refl _) hbe18
  refine hK.out _ _ (hBe19) (fun _ => ?_)
  clear hK K
  try simp only [Act.put, List.setIfInBounds_toArray, List.set_cons_zero, List.set_cons_succ]
  refine' wpAnyH_take (i := 15) (oi := _) (v := _) ?hie21 (by kernel_rfl) ?hfe21 ?hre21 ?hQe21 ?hye21 (hBe19) ?reste21
  case hie21 => (simp only [List.getElem?_toArray, List.getElem?_cons_zero, List.getElem?_cons_succ]; rfl)
  case hfe21 => kernel_rfl
  case hre21 => kernel_rfl
  case hQe21 => exact fun _ _ _ h => h
  case hye21 => refine Or.inl ⟨by rfl, ?_⟩; intro W hSw; go_simp; try with_reducible rfl
  try simp only [Act.put, List.setIfInBounds_toArray, List.set_cons_zero, List.set_cons_succ]
  refine wpAnyH_done (by kernel_rfl) ?_ _
  have hres := HZ.out.res.below hBe19
  have hz := below_setRow (below_on HZ.out.below (Nat.le_of_eq HG.out.symm) hBe19) (show g ≤ g + 4 by omega) #[.slice none 0 0, .slice none 0 0]
  go_wp2_with (with_reducible refine wpList_store_clash rfl (.tmp 8) (.tmp 26) rfl (g + 4) rfl hres none 0 0 none 0 0 rfl ?_)
  refine bodyPost_ret_by (results_cell_tmp (p := 8) (q := 9) (ty := 30) (by kernel_rfl) _ _ ⟨g + 4, 0, none⟩ (clv none 0 0 none 0 0) rfl (run_load_clash ((hres.setRow _).cell 0 rfl) ((hres.setRow _).cell 1 rfl))) rfl ?_
  exact ⟨⟨_, rfl, (fun e => by cases e), fun _ => rfl⟩, hz⟩

set_option maxRecDepth 100000 in
set_option maxHeartbeats 8000000 in
theorem link_far (hnm : m < n) :
    Calls Tryd.prog 10 #[.slice A n c, .slice B m d, .slice P q r] w fun e w' => Tells w.heap.size false e w' ∧ Below w.heap.size w w' := by
  obtain ⟨g, hg⟩ : ∃ g, w.heap.size = g := ⟨_, rfl⟩
  have hz0 := LinkIn.mk_ w g (.slice A n c) (.slice B m d) (.slice P q r) hg
  obtain ⟨wz, hwz⟩ : ∃ x, x = ((((w.alloc (.cells #[.slice A n c] 22)).alloc (.cells #[.slice B m d] 22)).alloc (.cells #[.slice P q r] 24)).alloc (.cells #[.slice none 0 0, .slice none 0 0] 30)) := ⟨_, rfl⟩
  rw [← hwz] at hz0
  have HW := Lib.hid hwz
  have HG := Lib.hid hg
  have HZ := Lib.hid hz0
  have b0z : Below w.heap.size w wz := by rw [hg]; exact hz0.below
  have x0 : wz.cell? ⟨g, 0, none⟩ = some (.slice A n c) := hz0.a.cell
  have x1 : wz.cell? ⟨g + 1, 0, none⟩ = some (.slice B m d) := hz0.b.cell
  rw [hg]
  clear hz0 hwz hg b0z
  go_enter Tryd.func10, Tryd.ntmps10
  go_upto_region 1 with fail
  rw [← HW.out]
  rw [HG.out]
  have hi : (m : Int) < (n : Int) := by omega
  have hres := HZ.out.res
  have hz := below_setRow HZ.out.below (show g ≤ g + 3 by omega) #[.slice none 0 0, .slice none 0 0]
  go_wp2_with (with_reducible refine wpList_store_clash rfl (.tmp 6) (.tmp 18) rfl (g + 3) rfl hres none 0 0 none 0 0 rfl ?_)
  refine bodyPost_ret_by (results_cell_tmp (p := 6) (q := 7) (ty := 30) (by kernel_rfl) _ _ ⟨g + 3, 0, none⟩ (clv none 0 0 none 0 0) rfl (run_load_clash ((hres.setRow _).cell 0 rfl) ((hres.setRow _).cell 1 rfl))) rfl ?_
  exact ⟨⟨_, rfl, (fun e => by cases e), fun _ => rfl⟩, hz⟩

set_option maxRecDepth 100000 in
set_option maxHeartbeats 8000000 in
theorem link_begins (E1 : Ent w A n c R) (E2 : Ent w B m d S) (hnm : n ≤ m) (hn : n ≤ 60000) (hRS : R = S.take n) :
    Calls Tryd.prog 10 #[.slice A n c, .slice B m d, .slice P q r] w fun e w' => Tells w.heap.size false e w' ∧ Below w.heap.size w w' := by
  obtain ⟨g, hg⟩ : ∃ g, w.heap.size = g := ⟨_, rfl⟩
  have hz0 := LinkIn.mk_ w g (.slice A n c) (.slice B m d) (.slice P q r) hg
  obtain ⟨wz, hwz⟩ : ∃ x, x = ((((w.alloc (.cells #[.slice A n c] 22)).alloc (.cells #[.slice B m d] 22)).alloc (.cells #[.slice P q r] 24)).alloc (.cells #[.slice none 0 0, .slice none 0 0] 30)) := ⟨_, rfl⟩
  rw [← hwz] at hz0
  have HW := Lib.hid hwz
  have HG := Lib.hid hg
  have HZ := Lib.hid hz0
  have b0z : Below w.heap.size w wz := by rw [hg]; exact hz0.below
  have x0 : wz.cell? ⟨g, 0, none⟩ = some (.slice A n c) := hz0.a.cell
  have x1 : wz.cell? ⟨g + 1, 0, none⟩ = some (.slice B m d) := hz0.b.cell
  have CB0 := begins_any (E1.below b0z) (E2.below b0z) hnm (by omega)
  rw [decide_eq_true hRS] at CB0
  have CB := Lib.hid CB0
  clear CB0 hRS E1 E2
  rw [hg]
  clear hz0 hwz hg b0z
  go_enter Tryd.func10, Tryd.ntmps10
  go_upto_region 1 with fail
  rw [← HW.out]
  rw [HG.out]
  have hi : ¬ ((m : Int) < (n : Int)) := by omega
  go_wp2_with fail
  refine CB.out.mono ?_
  rintro e w' ⟨rfl, e1⟩
  obtain rfl := e1.symm
  clear e1
  have hres := HZ.out.res
  have hz := below_setRow HZ.out.below (show g ≤ g + 3 by omega) #[.slice none 0 0, .slice none 0 0]
  go_wp2_with (with_reducible refine wpList_store_clash rfl (.tmp 6) (.tmp 18) rfl (g + 3) rfl hres none 0 0 none 0 0 rfl ?_)
  refine bodyPost_ret_by (results_cell_tmp (p := 6) (q := 7) (ty := 30) (by kernel_rfl) _ _ ⟨g + 3, 0, none⟩ (clv none 0 0 none 0 0) rfl (run_load_clash ((hres.setRow _).cell 0 rfl) ((hres.setRow _).cell 1 rfl))) rfl ?_
  exact ⟨⟨_, rfl, (fun e => by cases e), fun _ => rfl⟩, hz⟩
end

end Go.Proofs.YtnaebjdccngeoaaDoor

/-
  almonerlaw13.alive.
-/
namespace Go.Proofs.YtnaebjdccngeoaaDoor
open Go.RowKit

theorem lit_const (x : Nat) (hx : x < 256) (W : World) : Came (W.alloc (.cells #[.int .u8 (x : Int)] 5 (1, 2))) (some ⟨W.heap.size, 0, none⟩) 1 1 [x] :=
  ⟨⟨rfl, fun j y hy => ⟨_, rfl, by
    have hj := (List.getElem?_eq_some_iff.1 hy).1
    obtain rfl : j = 0 := by simp at hj; omega
    cases hy
    exact cell_of_row _ _ 0 _ _ (1, 2) (World.alloc_heap_new W _)⟩⟩, (by intro y hy; simp at hy; omega), (fun h => by cases h), Nat.le_refl _⟩
theorem lit_conv (z : Int) (W : World) : (convert 23 23 (.slice (some ⟨W.heap.size, 0, none⟩) 1 1)).run Tryd.prog (W.alloc (.cells #[.int .u8 z] 5)) = .ok (.slice (some ⟨W.heap.size, 0, none⟩) 1 1) (W.alloc (.cells #[.int .u8 z] 5 (1, 2))) :=
  Joins.run_convert_bytes_const_at W _ _ _ 1 1 _ rfl Tryd.underlying23 Tryd.underlying5
theorem ent_one {W : World} {A : Option Addr} {n c : Nat} {xs : List Nat} (h1 : Came W A n c xs) (hn : n ≤ 20000) :
    Ent (W.alloc (.cells #[.slice A n c] 23)) (some ⟨W.heap.size, 0, none⟩) 1 1 [xs] :=
  ⟨⟨rfl, fun r zs hz => by
    match r with
    | 0 => cases hz; exact ⟨_, A, n, c, rfl, by rw [add_zero', cell_of_row _ _ 0 _ _ (0, 0) (World.alloc_heap_new W _)]; rfl, h1.below (below_alloc W _), by omega⟩⟩,
    Nat.le_refl _, (fun e => by cases e), fun b hb => by
      simp at hb
      subst hb
      rw [h1.in_.len]; exact hn⟩

theorem ab_sums : sha [97] ≠ sha [98] := by decide +kernel
theorem ab_roots : rtl [[97], [98]] ≠ rtl [[97], [97]] := by
  have c2 : cutN 2 = 1 := by decide
  rw [rtl_cut (n := 2) rfl (by omega), rtl_cut (l := [[97], [97]]) (n := 2) rfl (by omega), c2]
  show nodeL (rtl [[97]]) (rtl [[98]]) ≠ nodeL (rtl [[97]]) (rtl [[97]])
  rw [rtl_one, rtl_one]
  decide +kernel
theorem ab_same : listsB [[97], [98]] [[97], [98]] = false := by simp [listsB]
theorem ab_part : listsB [[97], [98]] [[97], [97]] = false := by simp [listsB, ab_roots]
theorem ab_is : isC [97] [98] = false := by simp [isC, ab_sums]
theorem aa_is : isC [97] [97] = false := by simp [isC]

/-- Where both texts lie. -/
structure AB (w W : World) (ga : Nat) : Prop where
  a : Came W (some ⟨ga, 0, none⟩) 1 1 [97]
  b : Came W (some ⟨ga + 1, 0, none⟩) 1 1 [98]
  below : Below ga w W
theorem AB.on {w W W' : World} {ga : Nat} (h : AB w W ga) (hs : w.heap.size = ga) (hb : Below W.heap.size W W') : AB w W' ga := ⟨h.a.below hb, h.b.below hb, below_on h.below (Nat.le_of_eq hs.symm) hb⟩

set_option maxRecDepth 100000 in
set_option maxHeartbeats 8000000 in
theorem calive_any (w : World) (hk : Knows w) (hks : Starts w) :
    Calls Tryd.prog 9 #[] w fun e w' => e = .returned (.bool true) ∧ Below w.heap.size w w' := by
  obtain ⟨ga, hga⟩ : ∃ g, w.heap.size = g := ⟨_, rfl⟩
  have HG := Lib.hid hga
  have HK := Lib.hid (And.intro hk hks)
  have KB := Lib.hid (fun (W : World) (hW : AB w W ga) => show Knows W ∧ Starts W from by have hb := hW.below; rw [← hga] at hb; exact ⟨hk.below hb, hks.below hb⟩)
  have k1 := lit_conv 97 w
  have a0 := lit_const 97 (by omega) w
  have ba := below_alloc w (.cells #[.int .u8 97] 5 (1, 2))
  rw [hga] at a0 ba
  obtain ⟨wa, ea⟩ : ∃ x, x = w.alloc (.cells #[.int .u8 97] 5 (1, 2)) := ⟨_, rfl⟩
  have sa : wa.heap.size = ga + 1 := by rw [ea]; simp [hga]
  have k2 := lit_conv 98 wa
  have b0 := lit_const 98 (by omega) wa
  have bb := below_alloc wa (.cells #[.int .u8 98] 5 (1, 2))
  rw [sa] at b0 bb
  obtain ⟨wb, eb⟩ : ∃ x, x = wa.alloc (.cells #[.int .u8 98] 5 (1, 2)) := ⟨_, rfl⟩
  have ba' : Below ga w wa := by rw [ea]; exact ba
  have a0' : Came wa (some ⟨ga, 0, none⟩) 1 1 [97] := by rw [ea]; exact a0
  have bb' : Below wa.heap.size wa wb := by rw [sa, eb]; exact bb
  have b0' : Came wb (some ⟨ga + 1, 0, none⟩) 1 1 [98] := by rw [eb]; exact b0
  have HAB0 := Lib.hid (show AB w wb ga from ⟨a0'.below bb', b0', below_on ba' (Nat.le_of_eq hga.symm) bb'⟩)
  clear ba' a0' bb' b0'
  have HE := Lib.hid (And.intro ea (And.intro eb sa))
  rw [hga]
  clear hk hks hga a0 ba ea b0 bb eb sa
  go_enter Tryd.func9, Tryd.ntmps9
  go_upto_region 2 with fail
  rw [HG.out, ← HE.out.1]
  go_upto_region 3 with fail
  rw [HE.out.2.2, ← HE.out.2.1]
  clear k1 k2
  obtain ⟨p1, hp1⟩ : ∃ p, wb.heap.size = p := ⟨_, rfl⟩
  have E1 := ent_two HAB0.out.a HAB0.out.b (by omega) (by omega)
  have b1 := below_alloc wb (.cells #[.slice (some ⟨ga, 0, none⟩) 1 1, .slice (some ⟨ga + 1, 0, none⟩) 1 1] 23)
  obtain ⟨x1, hx1⟩ : ∃ x, x = wb.alloc (.cells #[.slice (some ⟨ga, 0, none⟩) 1 1, .slice (some ⟨ga + 1, 0, none⟩) 1 1] 23) := ⟨_, rfl⟩
  have sx1 : x1.heap.size = p1 + 1 := by rw [hx1]; simp [hp1]
  rw [← hx1] at E1 b1
  have A1 := HAB0.out.on HG.out b1
  have E2 := ent_two A1.a A1.b (by omega) (by omega)
  have b2 := below_alloc x1 (.cells #[.slice (some ⟨ga, 0, none⟩) 1 1, .slice (some ⟨ga + 1, 0, none⟩) 1 1] 23)
  obtain ⟨x2, hx2⟩ : ∃ x, x = x1.alloc (.cells #[.slice (some ⟨ga, 0, none⟩) 1 1, .slice (some ⟨ga + 1, 0, none⟩) 1 1] 23) := ⟨_, rfl⟩
  rw [← hx2] at E2 b2
  have A2 := A1.on HG.out b2
  have CT := lists_any (E1.below b2) E2 (KB.out _ A2).1 (KB.out _ A2).2 (by omega) (by omega)
  rw [ab_same, hp1, sx1] at CT
  have C1 := Lib.hid CT
  have HX := Lib.hid (show x2 = (wb.alloc (.cells #[.slice (some ⟨ga, 0, none⟩) 1 1, .slice (some ⟨ga + 1, 0, none⟩) 1 1] 23)).alloc (.cells #[.slice (some ⟨ga, 0, none⟩) 1 1, .slice (some ⟨ga + 1, 0, none⟩) 1 1] 23) by rw [hx2, hx1])
  have HA2 := Lib.hid A2
  have HP := Lib.hid hp1
  clear CT E1 E2 b1 b2 hx1 hx2 sx1 A1 A2 hp1
  go_wp2_with fail
  rw [HP.out, ← HX.out]
  refine C1.out.mono ?_
  rintro e y1 ⟨⟨v, rfl, _, hv⟩, hb⟩
  have hv' := hv rfl
  unfold clv at hv'
  subst hv'
  have A3 := HA2.out.on HG.out hb
  have HAB1 := Lib.hid (A3.on HG.out (below_alloc y1 (.cells #[.slice none 0 0, .slice none 0 0] 30)))
  clear hv hb C1 HX HP HA2 A3
  go_upto_region 4 with fail
  obtain ⟨wn1, hwn⟩ : ∃ x, x = y1.alloc (.cells #[.slice none 0 0, .slice none 0 0] 30) := ⟨_, rfl⟩
  rw [← hwn] at HAB1 ⊢
  clear hwn
  obtain ⟨p2, hp2⟩ : ∃ p, wn1.heap.size = p := ⟨_, rfl⟩
  have E1 := ent_two HAB1.out.a HAB1.out.b (by omega) (by omega)
  have b1 := below_alloc wn1 (.cells #[.slice (some ⟨ga, 0, none⟩) 1 1, .slice (some ⟨ga + 1, 0, none⟩) 1 1] 23)
  obtain ⟨x1, hx1⟩ : ∃ x, x = wn1.alloc (.cells #[.slice (some ⟨ga, 0, none⟩) 1 1, .slice (some ⟨ga + 1, 0, none⟩) 1 1] 23) := ⟨_, rfl⟩
  have sx1 : x1.heap.size = p2 + 1 := by rw [hx1]; simp [hp2]
  rw [← hx1] at E1 b1
  have A1 := HAB1.out.on HG.out b1
  have E2 := ent_two A1.a A1.a (by omega) (by omega)
  have b2 := below_alloc x1 (.cells #[.slice (some ⟨ga, 0, none⟩) 1 1, .slice (some ⟨ga, 0, none⟩) 1 1] 23)
  obtain ⟨x2, hx2⟩ : ∃ x, x = x1.alloc (.cells #[.slice (some ⟨ga, 0, none⟩) 1 1, .slice (some ⟨ga, 0, none⟩) 1 1] 23) := ⟨_, rfl⟩
  rw [← hx2] at E2 b2
  have A2 := A1.on HG.out b2
  have CT := lists_any (E1.below b2) E2 (KB.out _ A2).1 (KB.out _ A2).2 (by omega) (by omega)
  rw [ab_part, hp2, sx1] at CT
  have C1 := Lib.hid CT
  have HX := Lib.hid (show x2 = (wn1.alloc (.cells #[.slice (some ⟨ga, 0, none⟩) 1 1, .slice (some ⟨ga + 1, 0, none⟩) 1 1] 23)).alloc (.cells #[.slice (some ⟨ga, 0, none⟩) 1 1, .slice (some ⟨ga, 0, none⟩) 1 1] 23) by rw [hx2, hx1])
  have HA2 := Lib.hid A2
  have HP := Lib.hid hp2
  clear CT E1 E2 b1 b2 hx1 hx2 sx1 A1 A2 hp2
  go_wp2_with fail
  rw [HP.out, ← HX.out]
  refine C1.out.mono ?_
  rintro e y2 ⟨⟨v, rfl, _, hv⟩, hb⟩
  have hv' := hv rfl
  unfold clv at hv'
  subst hv'
  have A3 := HA2.out.on HG.out hb
  have HAB2 := Lib.hid (A3.on HG.out (below_alloc y2 (.cells #[.slice none 0 0, .slice none 0 0] 30)))
  clear hv hb C1 HX HP HA2 A3
  go_upto_region 5 with fail
  obtain ⟨wn2, hwn⟩ : ∃ x, x = y2.alloc (.cells #[.slice none 0 0, .slice none 0 0] 30) := ⟨_, rfl⟩
  rw [← hwn] at HAB2 ⊢
  clear hwn
  obtain ⟨lb, hlb⟩ : ∃ x, leafL [98] = x := ⟨_, rfl⟩
  have lbl : lb.length = 32 := by rw [← hlb]; exact leafL_length _
  obtain ⟨p3, hp3⟩ : ∃ p, wn2.heap.size = p := ⟨_, rfl⟩
  have E1 := ent_two HAB2.out.a HAB2.out.b (by omega) (by omega)
  have b1 := below_alloc wn2 (.cells #[.slice (some ⟨ga, 0, none⟩) 1 1, .slice (some ⟨ga + 1, 0, none⟩) 1 1] 23)
  obtain ⟨x1, hx1⟩ : ∃ x, x = wn2.alloc (.cells #[.slice (some ⟨ga, 0, none⟩) 1 1, .slice (some ⟨ga + 1, 0, none⟩) 1 1] 23) := ⟨_, rfl⟩
  rw [← hx1] at E1 b1
  have A1 := HAB2.out.on HG.out b1
  have CL0 := leaf_any _ 1 1 [98] x1 A1.b (KB.out _ A1).1 (KB.out _ A1).2 (by omega)
  rw [hlb] at CL0
  have CL := Lib.hid CL0
  rw [hp3] at E1
  have HX := Lib.hid (And.intro hx1 (And.intro hp3 (And.intro E1 A1)))
  clear CL0 E1 b1 hx1 A1 hp3
  go_wp2_with fail
  rw [HX.out.2.1, ← HX.out.1]
  refine CL.out.mono ?_
  rintro e x2 ⟨rfl, hb2⟩
  have A2 := HX.out.2.2.2.on HG.out hb2
  have b3 := below_alloc x2 (.cells (bvs lb).toArray 36)
  obtain ⟨x3, hx3⟩ : ∃ x, x = x2.alloc (.cells (bvs lb).toArray 36) := ⟨_, rfl⟩
  rw [← hx3] at b3
  have A3 := A2.on HG.out b3
  have C0 := path_same (w := x3) (P := some ⟨x2.heap.size, 0, none⟩) (q := 1) (r := 1) (k := 0) ((HX.out.2.2.1.below hb2).below b3) (by omega) A3.a rfl
  have C1 := Lib.hid C0
  have HA2 := Lib.hid A3
  have HX3 := Lib.hid hx3
  clear C0 b3 hx3 A2 A3 hb2 CL HX
  go_wp2_with (refine wpList_one_sum rfl _ lb rfl (by simp <;> rfl) lbl ?_; rw [← HX3.out])
  refine C1.out.mono ?_
  rintro e y3 ⟨⟨v, rfl, _, hv⟩, hb⟩
  have hv' := hv rfl
  unfold clv at hv'
  subst hv'
  have A3 := HA2.out.on HG.out hb
  have HAB3 := Lib.hid (A3.on HG.out (below_alloc y3 (.cells #[.slice none 0 0, .slice none 0 0] 30)))
  clear hv hb C1 HX3 HA2 A3
  go_upto_region 6 with fail
  obtain ⟨wn3, hwn⟩ : ∃ x, x = y3.alloc (.cells #[.slice none 0 0, .slice none 0 0] 30) := ⟨_, rfl⟩
  rw [← hwn] at HAB3 ⊢
  clear hwn
  obtain ⟨p4, hp4⟩ : ∃ p, wn3.heap.size = p := ⟨_, rfl⟩
  have E1 := ent_one HAB3.out.a (by omega)
  have b1 := below_alloc wn3 (.cells #[.slice (some ⟨ga, 0, none⟩) 1 1] 23)
  obtain ⟨x0, hx0⟩ : ∃ x, x = wn3.alloc (.cells #[.slice (some ⟨ga, 0, none⟩) 1 1] 23) := ⟨_, rfl⟩
  have sx0 : x0.heap.size = p4 + 1 := by rw [hx0]; simp [hp4]
  rw [← hx0, hp4] at E1
  rw [← hx0] at b1
  have A0 := HAB3.out.on HG.out b1
  have E2 := ent_two A0.a A0.b (by omega) (by omega)
  have b2 := below_alloc x0 (.cells #[.slice (some ⟨ga, 0, none⟩) 1 1, .slice (some ⟨ga + 1, 0, none⟩) 1 1] 23)
  obtain ⟨x1, hx1⟩ : ∃ x, x = x0.alloc (.cells #[.slice (some ⟨ga, 0, none⟩) 1 1, .slice (some ⟨ga + 1, 0, none⟩) 1 1] 23) := ⟨_, rfl⟩
  rw [← hx1, sx0] at E2
  rw [← hx1] at b2
  have A1 := A0.on HG.out b2
  have E1b := E1.below b2
  have CL0 := leaf_any _ 1 1 [98] x1 A1.b (KB.out _ A1).1 (KB.out _ A1).2 (by omega)
  rw [hlb] at CL0
  have CL := Lib.hid CL0
  have HX := Lib.hid (And.intro (show x1 = (wn3.alloc (.cells #[.slice (some ⟨ga, 0, none⟩) 1 1] 23)).alloc (.cells #[.slice (some ⟨ga, 0, none⟩) 1 1, .slice (some ⟨ga + 1, 0, none⟩) 1 1] 23) by rw [hx1, hx0]) (And.intro hp4 (And.intro E1b (And.intro E2 A1))))
  clear CL0 E1 E1b E2 b1 b2 hx1 hx0 sx0 A1 A0 hp4
  go_wp2_with fail
  rw [HX.out.2.1, ← HX.out.1]
  refine CL.out.mono ?_
  rintro e x2 ⟨rfl, hb2⟩
  have A2 := HX.out.2.2.2.2.on HG.out hb2
  have b3 := below_alloc x2 (.cells (bvs lb).toArray 36)
  obtain ⟨x3, hx3⟩ : ∃ x, x = x2.alloc (.cells (bvs lb).toArray 36) := ⟨_, rfl⟩
  rw [← hx3] at b3
  have A3 := A2.on HG.out b3
  have C0 := link_begins (w := x3) (P := some ⟨x2.heap.size, 0, none⟩) (q := 1) (r := 1) ((HX.out.2.2.1.below hb2).below b3) ((HX.out.2.2.2.1.below hb2).below b3) (by omega) (by omega) rfl
  have C1 := Lib.hid C0
  have HA2 := Lib.hid A3
  have HX3 := Lib.hid hx3
  clear C0 b3 hx3 A2 A3 hb2 CL HX
  go_wp2_with (refine wpList_one_sum rfl _ lb rfl (by simp <;> rfl) lbl ?_; rw [← HX3.out])
  refine C1.out.mono ?_
  rintro e y4 ⟨⟨v, rfl, _, hv⟩, hb⟩
  have hv' := hv rfl
  unfold clv at hv'
  subst hv'
  have A3 := HA2.out.on HG.out hb
  have HAB4 := Lib.hid (A3.on HG.out (below_alloc y4 (.cells #[.slice none 0 0, .slice none 0 0] 30)))
  clear hv hb C1 HX3 HA2 A3
  go_upto_region 7 with fail
  obtain ⟨wn4, hwn⟩ : ∃ x, x = y4.alloc (.cells #[.slice none 0 0, .slice none 0 0] 30) := ⟨_, rfl⟩
  rw [← hwn] at HAB4 ⊢
  clear hwn
  have CT := is_any HAB4.out.a HAB4.out.a (by omega) (by omega) (KB.out _ HAB4.out).1 (KB.out _ HAB4.out).2
  rw [aa_is] at CT
  have C1 := Lib.hid CT
  unfold clv at C1
  clear CT
  go_wp2_with fail
  refine C1.out.mono ?_
  rintro e z1 ⟨rfl, hb1⟩
  have HZ1 := Lib.hid (HAB4.out.on HG.out hb1)
  have CT := is_any HZ1.out.a HZ1.out.b (by omega) (by omega) (KB.out _ HZ1.out).1 (KB.out _ HZ1.out).2
  rw [ab_is] at CT
  have C2 := Lib.hid CT
  unfold clv at C2
  clear CT C1 hb1
  go_wp2_with fail
  refine C2.out.mono ?_
  rintro e z2 ⟨rfl, hb2⟩
  have HZ2 := Lib.hid (HZ1.out.on HG.out hb2)
  obtain ⟨s, hs⟩ : ∃ x, sha [97] = x := ⟨_, rfl⟩
  obtain ⟨t, ht⟩ : ∃ x, sha [98] = x := ⟨_, rfl⟩
  have sl : s.length = 32 := by rw [← hs]; exact sha_length _
  have tl : t.length = 32 := by rw [← ht]; exact sha_length _
  have hst : decide (s = t) = false := by rw [← hs, ← ht]; exact decide_eq_false ab_sums
  have q1 := run_neq_sum s t sl tl
  rw [hst] at q1
  have q2 := run_guard_neq
  have CT := of_any _ 1 1 [97] z2 HZ2.out.a.in_ HZ2.out.a.lt (Nat.le_refl _) (KB.out _ HZ2.out).1 (KB.out _ HZ2.out).2 (by omega)
  rw [hs] at CT
  have C3 := Lib.hid CT
  have HS := Lib.hid (And.intro hs ht)
  clear CT C2 hb2 hst hs ht
  go_wp2_with fail
  refine C3.out.mono ?_
  rintro e z3 ⟨rfl, hb3⟩
  have HZ3 := Lib.hid (HZ2.out.on HG.out hb3)
  have CT := of_any _ 1 1 [98] z3 HZ3.out.b.in_ HZ3.out.b.lt (Nat.le_refl _) (KB.out _ HZ3.out).1 (KB.out _ HZ3.out).2 (by omega)
  rw [HS.out.2] at CT
  have C4 := Lib.hid CT
  clear CT C3 hb3
  go_wp2_with fail
  refine C4.out.mono ?_
  rintro e z4 ⟨rfl, hb4⟩
  have HZ4 := Lib.hid (HZ3.out.on HG.out hb4)
  clear C4 hb4
  go_wp2_with fail
  go_ret
  exact ⟨rfl, HZ4.out.below⟩

/-- At any world behind. -/
theorem calive_on {w W : World} (hk : Knows w) (hks : Starts w) (hW : Below w.heap.size w W) : Calls Tryd.prog 9 #[] W fun e w' => e = .returned (.bool true) ∧ Below W.heap.size W w' :=
  calive_any W (hk.below hW) (hks.below hW)

end Go.Proofs.YtnaebjdccngeoaaDoor

/-
  SameBytes.
-/
namespace Go.Proofs.YtnaebjdccngeoaaDoor
open Go.RowKit

set_option maxRecDepth 100000 in
set_option maxHeartbeats 400000 in
theorem sameBytes_yes (A A2 : Option Addr) (n c c2 : Nat) (xs : List Nat) (w : World) (hin : In w A n xs) (hin2 : In w A2 n xs) (hn : n ≤ 200000000000000) :
    Calls Tryd.prog 46 #[.slice A n c, .slice A2 n c2] w fun e w' => e = .returned (.bool true) ∧ ∃ q, w' = w.drewN q := by
  have dn : ((n : Int) != (n : Int)) = false := by simp
  go_enter Tryd.func46, Tryd.ntmps46
  go_wp2
  go_loopw [5] (fun i wr => ∃ j : Nat, j ≤ n ∧ i = .int .i64 (j : Int) ∧ ∃ q, wr = w.drewN q) (fun i _ => n - (intOf i).toNat)
  case atStart => exact ⟨0, Nat.zero_le _, rfl, 0, rfl⟩
  case round =>
    obtain ⟨j, hj, rfl, q, rfl⟩ := hrel
    by_cases hlt : j < n
    · obtain ⟨ad, x, rfl, hx, hc1⟩ := hin.at_ hlt
      obtain ⟨ad2, x2, rfl, hx2, hc2⟩ := hin2.at_ hlt
      obtain rfl : x2 = x := by rw [hx] at hx2; injection hx2 with h; exact h.symm
      clear hx hx2
      have i1 : (j : Int) < (n : Int) := by omega
      go_wp2
      go_quiet (fail)
      rw [World.drewN_drewN]
      go_wp2
      go_roundw
      case rel => exact ⟨j + 1, by omega, by go_num, q + nq, rfl⟩
      case measure => simp [intOf]; omega
    · go_wp2
      go_ret
      exact ⟨rfl, q, rfl⟩

end Go.Proofs.YtnaebjdccngeoaaDoor

/-
  SameBytes, of any two lists of bytes.
-/
namespace Go.Proofs.YtnaebjdccngeoaaDoor
open Go.RowKit

set_option maxRecDepth 100000 in
set_option maxHeartbeats 800000 in
theorem sameBytes_any (A A2 : Option Addr) (n m c c2 : Nat) (xs ys : List Nat) (w : World) (hin : In w A n xs) (hin2 : In w A2 m ys) (hn : n ≤ 200000000000000) :
    Calls Tryd.prog 46 #[.slice A n c, .slice A2 m c2] w fun e w' => e = .returned (.bool (decide (xs = ys))) ∧ ∃ q, w' = w.drewN q := by
  by_cases hnm : n = m
  · subst hnm
    have dn : ((n : Int) != (n : Int)) = false := by simp
    go_enter Tryd.func46, Tryd.ntmps46
    go_wp2
    go_loopw [5] (fun i wr => ∃ j : Nat, j ≤ n ∧ i = .int .i64 (j : Int) ∧ Hid (xs.take j = ys.take j) ∧ ∃ q, wr = w.drewN q) (fun i _ => n - (intOf i).toNat)
    case atStart => exact ⟨0, Nat.zero_le _, rfl, Lib.hid rfl, 0, rfl⟩
    case round =>
      obtain ⟨j, hj, rfl, HT, q, rfl⟩ := hrel
      by_cases hlt : j < n
      · obtain ⟨ad, x, rfl, hx, hc1⟩ := hin.at_ hlt
        obtain ⟨ad2, x2, rfl, hx2, hc2⟩ := hin2.at_ hlt
        have i1 : (j : Int) < (n : Int) := by omega
        by_cases hxx : x2 = x
        · subst hxx
          have HN := Lib.hid (show xs.take (j + 1) = ys.take (j + 1) by rw [List.take_add_one, List.take_add_one, HT.out, hx, hx2])
          clear hx hx2 HT
          go_wp2
          go_quiet (fail)
          rw [World.drewN_drewN]
          go_wp2
          go_roundw
          case rel => exact ⟨j + 1, by omega, by go_num, HN, q + nq, rfl⟩
          case measure => simp [intOf]; omega
        · have HN := Lib.hid (show decide (xs = ys) = false from decide_eq_false fun e => by rw [e, hx2] at hx; injection hx with h; exact hxx h)
          have hne : ((x : Int) != (x2 : Int)) = true := by simp; omega
          clear hx hx2 HT hxx
          go_wp2
          go_quiet (fail)
          rw [World.drewN_drewN]
          go_wp2
          go_ret
          exact ⟨by rw [HN.out]; rfl, q + nq, rfl⟩
      · have hji : ¬ ((j : Int) < (n : Int)) := by omega
        have HN := Lib.hid (show decide (xs = ys) = true from decide_eq_true (by
          have := HT.out
          rw [List.take_of_length_le (by rw [hin.len]; omega), List.take_of_length_le (by rw [hin2.len]; omega)] at this
          exact this))
        clear HT
        go_wp2
        go_ret
        exact ⟨by rw [HN.out]; rfl, q, rfl⟩
  · have dn : ((n : Int) != (m : Int)) = true := by simp; omega
    have HN := Lib.hid (show decide (xs = ys) = false from decide_eq_false fun e => hnm (by rw [← hin.len, ← hin2.len, e]))
    go_enter Tryd.func46, Tryd.ntmps46
    go_wp2
    go_ret
    exact ⟨by rw [HN.out]; rfl, 0, rfl⟩

end Go.Proofs.YtnaebjdccngeoaaDoor

/-
  A slice of slices of bytes, one behind the other; how much it holds (almonerlaw01.ByteListsSize).
-/
namespace Go.Proofs.YtnaebjdccngeoaaDoor
open Go.RowKit

/-- How much lists hold, told if it is not more than 15000. -/
def Holds (n : Nat) (w : World) (e : Ending) (w' : World) : Prop := ∃ R : Nat, e = .returned (.int .i64 (R : Int)) ∧ (R ≤ 15000 → R = n) ∧ w = w'

set_option maxRecDepth 100000 in
set_option maxHeartbeats 1000000 in
theorem bytesSize_any (A : Option Addr) (n c : Nat) (w : World) :
    Calls Tryd.prog 57 #[.slice A n c] w fun e w' => e = .returned (.int .i64 (n : Int)) ∧ w = w' := by
  go_enter Tryd.func57, Tryd.ntmps57
  go_wp2
  go_ret
  exact ⟨rfl, rfl⟩

set_option maxRecDepth 100000 in
set_option maxHeartbeats 1000000 in
theorem listsSize_any (Ao : Option Addr) (no co : Nat) (rows : List (List Nat)) (w : World) (h : CameRows w Ao no rows) (hno : no ≤ 50) :
    Calls Tryd.prog 31 #[.slice Ao no co] w (Holds (no + tot rows) w) := by
  go_enter Tryd.func31, Tryd.ntmps31
  go_wp2
  go_loop [3, 4] (fun s i => ∃ j z : Nat, j ≤ no ∧ i = .int .i64 (j : Int) ∧ s = .int .i64 (z : Int) ∧ z = no + tot (rows.take j) ∧ z ≤ 140737489403904) (fun _ i => no - (intOf i).toNat)
  case atStart => exact ⟨0, no, by omega, rfl, rfl, rfl, by omega⟩
  case round =>
    obtain ⟨j, z, hj, rfl, rfl, hz, hzb⟩ := hrel
    have HZ := Lib.hid hz
    clear hz
    by_cases hlt : j < no
    · by_cases hs : z ≤ 1048576
      · obtain ⟨xs, hxs⟩ : ∃ xs, rows[j]? = some xs := ⟨_, List.getElem?_eq_getElem (by rw [h.len]; exact hlt)⟩
        obtain ⟨ad, A, n, c, rfl, hcell, hcame, hn⟩ := h.row j xs hxs
        have HX := Lib.hid (And.intro hxs hcame)
        have hji : (j : Int) < (no : Int) := by omega
        have hzi : (z : Int) ≤ 1048576 := by omega
        clear hxs hcame
        go_wp2_with (go_at_call 57; refine (bytesSize_any A n c _).mono ?_; rintro e w' ⟨rfl, rfl⟩)
        go_round
        case rel =>
          refine ⟨j + 1, z + n, by omega, by go_num, by go_num, ?_, by omega⟩
          rw [rows_snoc HX.out.1, tot_snoc, HX.out.2.in_.len, HZ.out]
          omega
        case measure => simp [intOf]; omega
      · have hji : (j : Int) < (no : Int) := by omega
        have hzi : decide ((z : Int) ≤ 1048576) = false := by simp; omega
        go_wp2
        go_ret
        exact ⟨z, rfl, fun hh => absurd hh (by omega), rfl⟩
    · have hji : decide ((j : Int) < (no : Int)) = false := by simp; omega
      obtain rfl : j = no := by omega
      rw [List.take_of_length_le (by rw [h.len]; omega)] at HZ
      go_wp2
      go_ret
      exact ⟨z, rfl, fun _ => HZ.out, rfl⟩

theorem rows_lt {w : World} {Ao : Option Addr} {no : Nat} {rows : List (List Nat)} (h : CameRows w Ao no rows) (j : Nat) : ∀ x ∈ (rows.take j).flatten, x < 256 := by
  intro x hx
  obtain ⟨l, hl, hxl⟩ := List.mem_flatten.1 hx
  obtain ⟨i, hi⟩ := List.mem_iff_getElem?.1 (List.mem_of_mem_take hl)
  obtain ⟨_, _, _, _, _, _, hc, _⟩ := h.row i l hi
  exact hc.lt x hxl

end Go.Proofs.YtnaebjdccngeoaaDoor

/-
  almonerlaw13.sums; SameByteLists of any two; how much lists hold.
-/
namespace Go.Proofs.YtnaebjdccngeoaaDoor
open Go.RowKit

set_option maxRecDepth 100000 in
set_option maxHeartbeats 2000000 in
theorem csums_any {w : World} {A : Option Addr} {n c : Nat} {R : List (List Nat)} (h : Ent w A n c R) (hn : n ≤ 60000) (hk : Knows w) (hs : Starts w) :
    Calls Tryd.prog 13 #[.slice A n c] w fun e w' => ∃ A' c', e = .returned (.slice A' n c') ∧ w'.ownsRow w.heap.size 36 32 (.slice A' n c') n (bvs (leavesL R)) ∧ Below w.heap.size w w' := by
  have HK := Lib.hid (And.intro h (And.intro hk hs))
  have HL := Lib.hid h.len
  clear h hk hs
  go_enter Tryd.func13, Tryd.ntmps13
  go_wp2_with fail
  go_loopw [3, 4] (fun s i wr => ∃ (j : Nat) (A' : Option Addr) (c' : Nat), j ≤ n ∧ i = .int .i64 (j : Int) ∧ s = .slice A' j c' ∧ Hid (wr.ownsRow w.heap.size 36 32 (.slice A' j c') j (bvs (leavesL (R.take j))) ∧ Below w.heap.size w wr)) (fun _ i _ => n - (intOf i).toNat)
  case atStart => exact ⟨0, none, 0, Nat.zero_le _, rfl, rfl, Lib.hid ⟨by rw [List.take_zero]; exact own_none _ _ _ _, Below.refl _ _⟩⟩
  case round =>
    obtain ⟨j, A1, c1, hj, rfl, rfl, HR⟩ := hrel
    by_cases hlt : j < n
    · have hji : (j : Int) < (n : Int) := by omega
      obtain ⟨ad, B, bl, d, b, rfl, hbj, hcell, hcame, hbl⟩ := HK.out.1.at_ hlt
      have hB := HR.out.2
      have hcc := (hB.cell (World.block_lt_of_cell? w _ hcell)).trans hcell
      obtain ⟨s, hs⟩ : ∃ s, leafL b = s := ⟨_, rfl⟩
      have hsl : s.length = 32 := by rw [← hs]; exact leafL_length _
      have htk : leavesL (R.take (j + 1)) = leavesL (R.take j) ++ s := by rw [rows_snoc hbj, leavesL_snoc, hs]
      have CT := leaf_any B bl d b wr (hcame.below hB) (HK.out.2.1.below hB) (HK.out.2.2.below hB) (by omega)
      rw [hs] at CT
      have C1 := Lib.hid CT
      have HT := Lib.hid htk
      clear CT hs htk hcame hcell hbj hB
      go_wp2_with fail
      refine C1.out.mono ?_
      rintro e w3 ⟨rfl, hb1⟩
      have HB := Lib.hid (below_on HR.out.2 (Nat.le_refl _) hb1)
      have HO := Lib.hid (own_on (own_on HR.out.1 hb1) (below_alloc w3 (.cells (bvs s).toArray 36)))
      have HB2 := Lib.hid (below_on HB.out (Nat.le_refl _) (below_alloc w3 (.cells (bvs s).toArray 36)))
      have HI := Lib.hid (show InS (w3.alloc (.cells (bvs s).toArray 36)) (some ⟨w3.heap.size, 0, none⟩) 1 s from ⟨hsl, (In.new' w3 s 36).rd⟩)
      clear hb1 C1 hcc
      go_wp2_with (first
        | (refine wpList_one_sum rfl _ s rfl (by simp <;> rfl) hsl ?_)
        | (refine wpList_step fun K hK => ?_; refine step_sapp (K := K) (by rfl) _ _ (by rfl) w.heap.size A1 j c1 (leavesL (R.take j)) (by rfl) HO.out (some ⟨w3.heap.size, 0, none⟩) 1 1 s (by rfl) HI.out (fun e => by cases e) (by omega) HB2.out.size ?_; intro A3 c3 w4 ow3 nx3; have HN := Lib.hid (And.intro ow3 nx3); clear ow3 nx3; refine hK _ _ ?_; clear hK K))
      go_roundw
      case rel =>
        have ho3 := HN.out.1
        rw [← HT.out] at ho3
        exact ⟨j + 1, A3, c3, by omega, by go_num, rfl, Lib.hid ⟨ho3, HN.out.2.below HO.out HB2.out (Nat.le_refl _) HB2.out.size⟩⟩
      case measure => simp [intOf]; omega
    · obtain rfl : j = n := by omega
      have ho := HR.out.1
      rw [List.take_of_length_le (by rw [HL.out]; exact Nat.le_refl _)] at ho
      have HO := Lib.hid (And.intro ho HR.out.2)
      clear ho
      go_wp2_with fail
      go_ret
      exact ⟨A1, c1, rfl, HO.out.1, HO.out.2⟩

theorem drewN_on (w : World) (q : Nat) : Below w.heap.size w (w.drewN q) := ⟨rfl, rfl, rfl, Nat.le_refl _, fun _ _ => rfl⟩

set_option maxRecDepth 100000 in
set_option maxHeartbeats 2000000 in
theorem sameLists_any {w : World} {A B : Option Addr} {n m c d : Nat} {R S : List (List Nat)} (h1 : Ent w A n c R) (h2 : Ent w B m d S) (hn : n ≤ 1000000) :
    Calls Tryd.prog 14 #[.slice A n c, .slice B m d] w fun e w' => e = .returned (.bool (decide (R = S))) ∧ ∃ q, w' = w.drewN q := by
  by_cases hnm : n = m
  · subst hnm
    have dn : ((n : Int) != (n : Int)) = false := by simp
    have HT := Lib.hid (And.intro h1 h2)
    clear h1 h2
    go_enter Tryd.func14, Tryd.ntmps14
    go_wp2
    go_loopw [5] (fun i wr => ∃ j : Nat, j ≤ n ∧ i = .int .i64 (j : Int) ∧ Hid (R.take j = S.take j ∧ ∃ q, wr = w.drewN q)) (fun i _ => n - (intOf i).toNat)
    case atStart => exact ⟨0, Nat.zero_le _, rfl, Lib.hid ⟨rfl, 0, rfl⟩⟩
    case round =>
      obtain ⟨j, hj, rfl, hq⟩ := hrel
      have bel : Below w.heap.size w wr := by obtain ⟨_, q, rfl⟩ := hq.out; exact drewN_on w q
      by_cases hlt : j < n
      · obtain ⟨ad, X, k, q1, xs, rfl, hxs, hcell, hcame, hm⟩ := HT.out.1.at_ hlt
        obtain ⟨ad2, Y, k2, q2, ys, rfl, hys, hcell2, hcame2, _⟩ := HT.out.2.at_ hlt
        have hc1 : wr.cell? (ad.add j) = some (.slice X k q1) := (bel.cell (World.block_lt_of_cell? w _ hcell)).trans hcell
        have hc2 : wr.cell? (ad2.add j) = some (.slice Y k2 q2) := (bel.cell (World.block_lt_of_cell? w _ hcell2)).trans hcell2
        have C0 := fun q => sameBytes_any X Y k k2 q1 q2 xs ys (wr.drewN q) ((hcame.in_.below bel).drewN q) ((hcame2.in_.below bel).drewN q) (by omega)
        have hji : (j : Int) < (n : Int) := by omega
        by_cases hxy : xs = ys
        · have C := Lib.hid (fun q => show Calls Tryd.prog 46 #[.slice X k q1, .slice Y k2 q2] (wr.drewN q) fun e w' => e = .returned (.bool true) ∧ ∃ p, w' = (wr.drewN q).drewN p from by have := C0 q; rw [decide_eq_true hxy] at this; exact this)
          have HN := Lib.hid (show R.take (j + 1) = S.take (j + 1) by rw [rows_snoc hxs, rows_snoc hys, hq.out.1, hxy])
          clear hxs hys hcell hcell2 hcame hcame2 bel hm dn C0 hxy
          go_wp2
          go_quiet ((go_at_call 46; exact Calls.quiet_of (C.out _)))
          go_wp2
          go_roundw
          case rel =>
            refine ⟨j + 1, by omega, by go_num, ?_⟩
            obtain ⟨_, q, hq'⟩ := hq.out
            exact Lib.hid ⟨HN.out, q + nq, by rw [hq', World.drewN_drewN]⟩
          case measure => simp [intOf]; omega
        · have C := Lib.hid (fun q => show Calls Tryd.prog 46 #[.slice X k q1, .slice Y k2 q2] (wr.drewN q) fun e w' => e = .returned (.bool false) ∧ ∃ p, w' = (wr.drewN q).drewN p from by have := C0 q; rw [decide_eq_false hxy] at this; exact this)
          have HN := Lib.hid (show decide (R = S) = false from decide_eq_false fun e => by rw [e, hys] at hxs; cases hxs; exact hxy rfl)
          clear hxs hys hcell hcell2 hcame hcame2 bel hm dn C0 hxy
          go_wp2
          go_quiet ((go_at_call 46; exact Calls.quiet_of (C.out _)))
          go_wp2
          go_ret
          obtain ⟨_, q, hq'⟩ := hq.out
          exact ⟨by rw [HN.out]; rfl, q + nq, by rw [hq', World.drewN_drewN]⟩
      · obtain rfl : j = n := by omega
        have hji : decide ((j : Int) < (j : Int)) = false := by simp
        have HN := Lib.hid (show decide (R = S) = true from decide_eq_true (by
          have := hq.out.1
          rw [List.take_of_length_le (by rw [HT.out.1.len]; omega), List.take_of_length_le (by rw [HT.out.2.len]; omega)] at this
          exact this))
        clear bel dn
        go_wp2
        go_ret
        exact ⟨by rw [HN.out]; rfl, hq.out.2⟩
  · have dn : ((n : Int) != (m : Int)) = true := by simp; omega
    have HN := Lib.hid (show decide (R = S) = false from decide_eq_false fun e => hnm (by rw [← h1.len, ← h2.len, e]))
    clear h1 h2
    go_enter Tryd.func14, Tryd.ntmps14
    go_wp2
    go_ret
    exact ⟨by rw [HN.out]; rfl, 0, rfl⟩

set_option maxRecDepth 100000 in
set_option maxHeartbeats 1000000 in
theorem csize_lists (Ao : Option Addr) (no co : Nat) (rows : List (List Nat)) (w : World) (h : CameRows w Ao no rows) (hno : no ≤ 50) :
    Calls Tryd.prog 31 #[.slice Ao no co] w fun e w' => ∃ R : Nat, e = .returned (.int .i64 (R : Int)) ∧ (R ≤ 1000000 → R = no + tot rows) ∧ R ≤ 140737489403904 ∧ w = w' := by
  go_enter Tryd.func31, Tryd.ntmps31
  go_wp2
  go_loop [3, 4] (fun s i => ∃ j z : Nat, j ≤ no ∧ i = .int .i64 (j : Int) ∧ s = .int .i64 (z : Int) ∧ z = no + tot (rows.take j) ∧ z ≤ 140737489403904) (fun _ i => no - (intOf i).toNat)
  case atStart => exact ⟨0, no, by omega, rfl, rfl, rfl, by omega⟩
  case round =>
    obtain ⟨j, z, hj, rfl, rfl, hz, hzb⟩ := hrel
    have HZ := Lib.hid hz
    clear hz
    by_cases hlt : j < no
    · by_cases hs : z ≤ 1048576
      · obtain ⟨xs, hxs⟩ : ∃ xs, rows[j]? = some xs := ⟨_, List.getElem?_eq_getElem (by rw [h.len]; exact hlt)⟩
        obtain ⟨ad, A, n, c, rfl, hcell, hcame, hn⟩ := h.row j xs hxs
        have HX := Lib.hid (And.intro hxs hcame)
        have hji : (j : Int) < (no : Int) := by omega
        have hzi : (z : Int) ≤ 1048576 := by omega
        clear hxs hcame
        go_wp2_with (go_at_call 57; refine (bytesSize_any A n c _).mono ?_; rintro e w' ⟨rfl, rfl⟩)
        go_round
        case rel =>
          refine ⟨j + 1, z + n, by omega, by go_num, by go_num, ?_, by omega⟩
          rw [rows_snoc HX.out.1, tot_snoc, HX.out.2.in_.len, HZ.out]
          omega
        case measure => simp [intOf]; omega
      · have hji : (j : Int) < (no : Int) := by omega
        have hzi : decide ((z : Int) ≤ 1048576) = false := by simp; omega
        go_wp2
        go_ret
        exact ⟨z, rfl, fun hh => absurd hh (by omega), hzb, rfl⟩
    · have hji : decide ((j : Int) < (no : Int)) = false := by simp; omega
      obtain rfl : j = no := by omega
      rw [List.take_of_length_le (by rw [h.len]; omega)] at HZ
      go_wp2
      go_ret
      exact ⟨z, rfl, fun _ => HZ.out, hzb, rfl⟩

theorem tot_mem {rows : List (List Nat)} {b : List Nat} (h : b ∈ rows) : b.length ≤ tot rows := by
  obtain ⟨i, hi, e⟩ := List.getElem_of_mem h
  have h1 := tot_take rows (i + 1)
  rw [rows_snoc (xs := b) (by rw [List.getElem?_eq_getElem hi, e]), tot_snoc] at h1
  omega

end Go.Proofs.YtnaebjdccngeoaaDoor

/-
  almonerlaw13.great: more than is gone through.
-/
namespace Go.Proofs.YtnaebjdccngeoaaDoor
open Go.RowKit

theorem add_op {o : Oper} {a : Act} {W : World} {x y : Int} {z : Int} (p q : Operand) (ho : o.op = .binOp .add 3 p q 3) (hp : a.eval p = .int .i64 x) (hq : a.eval q = .int .i64 y) (hz : IntKind.i64.wrap (x + y) = z) :
    (execOp a.eval o).run Tryd.prog W = .ok (.value (.int .i64 z)) W := by
  unfold execOp
  rw [ho]
  simp only [hp, hq]
  go_simp
  try rw [hz]
  try rfl
theorem gtr_op {o : Oper} {a : Act} {W : World} {x y : Int} (p q : Operand) (ho : o.op = .binOp .gtr 3 p q 3) (hp : a.eval p = .int .i64 x) (hq : a.eval q = .int .i64 y) :
    (execOp a.eval o).run Tryd.prog W = .ok (.value (.bool (decide (y < x)))) W := by
  unfold execOp
  rw [ho]
  simp only [hp, hq]
  go_simp

/-- Whether it is more; if not, so it is. -/
def Greats (C : Prop) (e : Ending) : Prop := ∃ b : Bool, e = .returned (.bool b) ∧ (b = false → C)

section
variable {w : World} {A B X P : Option Addr} {n m k s c d q r : Nat} {z : Int} {R S : List (List Nat)}

set_option maxRecDepth 100000 in
set_option maxHeartbeats 4000000 in
theorem cgreat_any (hR : CameRows w A n R) (hS : CameRows w B m S) (hk : k ≤ 140737488355328) :
    Calls Tryd.prog 8 #[.agg #[.slice A n c, .slice B m d, .int .i64 z, .slice X k q, .slice P s r]] w fun e w' => Greats (n ≤ 40 ∧ m ≤ 40 ∧ s ≤ 100 ∧ n + tot R + (m + tot S) + k ≤ 20000) e ∧ Below w.heap.size w w' := by
  obtain ⟨g, hg⟩ : ∃ g, w.heap.size = g := ⟨_, rfl⟩
  have c1 := Cells.new w 26 #[.slice A n c, .slice B m d, .int .i64 z, .slice X k q, .slice P s r]
  have b1 := below_alloc w (.cells #[.slice A n c, .slice B m d, .int .i64 z, .slice X k q, .slice P s r] 26)
  obtain ⟨w1, hw1⟩ : ∃ x, x = w.alloc (.cells #[.slice A n c, .slice B m d, .int .i64 z, .slice X k q, .slice P s r] 26) := ⟨_, rfl⟩
  rw [← hw1] at c1 b1
  rw [hg] at c1
  have HG := Lib.hid hg
  have HW := Lib.hid hw1
  have HB := Lib.hid b1
  have HC0 := Lib.hid (fun (W : World) (hW : Below w1.heap.size w1 W) => show W.cell? ⟨g, 0, none⟩ = some (.slice A n c) from (c1.below hW).cell 0 rfl)
  have HC1 := Lib.hid (fun (W : World) (hW : Below w1.heap.size w1 W) => show W.cell? ⟨g, 1, none⟩ = some (.slice B m d) from (c1.below hW).cell 1 rfl)
  have HC3 := Lib.hid (fun (W : World) (hW : Below w1.heap.size w1 W) => show W.cell? ⟨g, 3, none⟩ = some (.slice X k q) from (c1.below hW).cell 3 rfl)
  have HC4 := Lib.hid (fun (W : World) (hW : Below w1.heap.size w1 W) => show W.cell? ⟨g, 4, none⟩ = some (.slice P s r) from (c1.below hW).cell 4 rfl)
  have CR := Lib.hid (fun (hn : n ≤ 50) (W : World) (hW : Below w1.heap.size w1 W) => show Calls Tryd.prog 31 #[.slice A n c] W fun e w' => ∃ N : Nat, e = .returned (.int .i64 (N : Int)) ∧ ((N ≤ 1000000 → N = n + tot R) ∧ N ≤ 140737489403904) ∧ Below W.heap.size W w' from
    (csize_lists A n c R W ((hR.below b1).below hW) hn).mono fun e w' ⟨N, h1, h2, h3, h4⟩ => ⟨N, h1, ⟨h2, h3⟩, by rw [h4]; exact Below.refl _ _⟩)
  have CS := Lib.hid (fun (hm : m ≤ 50) (W : World) (hW : Below w1.heap.size w1 W) => show Calls Tryd.prog 31 #[.slice B m d] W fun e w' => ∃ N : Nat, e = .returned (.int .i64 (N : Int)) ∧ ((N ≤ 1000000 → N = m + tot S) ∧ N ≤ 140737489403904) ∧ Below W.heap.size W w' from
    (csize_lists B m d S W ((hS.below b1).below hW) hm).mono fun e w' ⟨N, h1, h2, h3, h4⟩ => ⟨N, h1, ⟨h2, h3⟩, by rw [h4]; exact Below.refl _ _⟩)
  rw [hg]
  clear hw1 b1 hg c1 hR hS
  go_enter Tryd.func8, Tryd.ntmps8
  go_upto_region 1 with fail
  rw [← HW.out]
  rw [HG.out]
  by_cases h1 : 40 < n
  · have i1 : (40 : Int) < (n : Int) := by omega
    have hSa1 : Below w1.heap.size w1 w1.drew := (Below.refl _ _).drew
    refine wp_region_held_drew (S := fun W => Below w1.heap.size w1 W) (by kernel_rfl) (hSa1) (fun _ => ?_)
    change wpAnyH _ _ _ _ _ _ _ _ w1.drew
    generalize w1.drew = Wa2 at hSa1 ⊢
    refine' wpAnyH_take (i := 0) (oi := _) (v := _) ?hia3 (by kernel_rfl) ?hfa3 ?hra3 ?hQa3 ?hya3 (hSa1) ?resta3
    case hia3 => (simp only [List.getElem?_toArray, List.getElem?_cons_zero]; rfl)
    case hfa3 => kernel_rfl
    case hra3 => kernel_rfl
    case hQa3 => exact fun _ _ _ h => h
    case hya3 => refine Or.inl ⟨by rfl, ?_⟩; intro W hSw; go_simp; try with_reducible rfl
    try simp only [Act.put, List.setIfInBounds_toArray, List.set_cons_zero, List.set_cons_succ]
    refine' wpAnyH_take (i := 1) (oi := _) (v := _) ?hia4 (by kernel_rfl) ?hfa4 ?hra4 ?hQa4 ?hya4 (hSa1) ?resta4
    case hia4 => (simp only [List.getElem?_toArray, List.getElem?_cons_zero, List.getElem?_cons_succ]; rfl)
    case hfa4 => kernel_rfl
    case hra4 => kernel_rfl
    case hQa4 => exact fun _ _ _ h => h
    case hya4 => refine Or.inl ⟨by rfl, ?_⟩; intro W hSw; have hcc := HC0.out W hSw; go_simp; try with_reducible rfl
    try simp only [Act.put, List.setIfInBounds_toArray, List.set_cons_zero, List.set_cons_succ]
    refine' wpAnyH_take (i := 2) (oi := _) (v := _) ?hia5 (by kernel_rfl) ?hfa5 ?hra5 ?hQa5 ?hya5 (hSa1) ?resta5
    case hia5 => (simp only [List.getElem?_toArray, List.getElem?_cons_zero, List.getElem?_cons_succ]; rfl)
    case hfa5 => kernel_rfl
    case hra5 => kernel_rfl
    case hQa5 => exact fun _ _ _ h => h
    case hya5 => refine Or.inl ⟨by rfl, ?_⟩; intro W hSw; go_simp; try with_reducible rfl
    try simp only [Act.put, List.setIfInBounds_toArray, List.set_cons_zero, List.set_cons_succ]
    refine' wpAnyH_take (i := 3) (oi := _) (v := _) ?hia6 (by kernel_rfl) ?hfa6 ?hra6 ?hQa6 ?hya6 (hSa1) ?resta6
    case hia6 => (simp only [List.getElem?_toArray, List.getElem?_cons_zero, List.getElem?_cons_succ]; rfl)
    case hfa6 => kernel_rfl
    case hra6 => kernel_rfl
    case hQa6 => exact fun _ _ _ h => h
    case hya6 => refine Or.inl ⟨by rfl, ?_⟩; intro W hSw; go_simp; try with_reducible rfl
    try simp only [Act.put, List.setIfInBounds_toArray, List.set_cons_zero, List.set_cons_succ]
    refine' wpAnyH_take (i := 4) (oi := _) (v := _) ?hia7 (by kernel_rfl) ?hfa7 ?hra7 ?hQa7 ?hya7 (hSa1) ?resta7
    case hia7 => (simp only [List.getElem?_toArray, List.getElem?_cons_zero, List.getElem?_cons_succ]; rfl)
    case hfa7 => kernel_rfl
    case hra7 => kernel_rfl
    case hQa7 => exact fun _ _ _ h => h
    case hya7 => refine Or.inl ⟨by rfl, ?_⟩; intro W hSw; go_simp; try with_reducible rfl
    try simp only [Act.put, List.setIfInBounds_toArray, List.set_cons_zero, List.set_cons_succ]
    refine' wpAnyH_take (i := 5) (oi := _) (v := undef) ?hia8 (by kernel_rfl) ?hfa8 ?hra8 ?hQa8 ?hya8 (hSa1) ?resta8
    case hia8 => (simp only [List.getElem?_toArray, List.getElem?_cons_zero, List.getElem?_cons_succ]; rfl)
    case hfa8 => kernel_rfl
    case hra8 => kernel_rfl
    case hQa8 => exact fun _ _ _ h => h
    case hya8 => exact Or.inr ⟨by rfl, rfl⟩
    try simp only [Act.put, List.setIfInBounds_toArray, List.set_cons_zero, List.set_cons_succ]
    refine' wpAnyH_take (i := 6) (oi := _) (v := undef) ?hia9 (by kernel_rfl) ?hfa9 ?hra9 ?hQa9 ?hya9 (hSa1) ?resta9
    case hia9 => (simp only [List.getElem?_toArray, List.getElem?_cons_zero, List.getElem?_cons_succ]; rfl)
    case hfa9 => kernel_rfl
    case hra9 => kernel_rfl
    case hQa9 => exact fun _ _ _ h => h
    case hya9 => exact Or.inr ⟨by rfl, rfl⟩
    try simp only [Act.put, List.setIfInBounds_toArray, List.set_cons_zero, List.set_cons_succ]
    refine' wpAnyH_take (i := 7) (oi := _) (v := undef) ?hia10 (by kernel_rfl) ?hfa10 ?hra10 ?hQa10 ?hya10 (hSa1) ?resta10
    case hia10 => (simp only [List.getElem?_toArray, List.getElem?_cons_zero, List.getElem?_cons_succ]; rfl)
    case hfa10 => kernel_rfl
    case hra10 => kernel_rfl
    case hQa10 => exact fun _ _ _ h => h
    case hya10 => exact Or.inr ⟨by rfl, rfl⟩
    try simp only [Act.put, List.setIfInBounds_toArray, List.set_cons_zero, List.set_cons_succ]
    refine' wpAnyH_take (i := 8) (oi := _) (v := undef) ?hia11 (by kernel_rfl) ?hfa11 ?hra11 ?hQa11 ?hya11 (hSa1) ?resta11
    case hia11 => (simp only [List.getElem?_toArray, List.getElem?_cons_zero, List.getElem?_cons_succ]; rfl)
    case hfa11 => kernel_rfl
    case hra11 => kernel_rfl
    case hQa11 => exact fun _ _ _ h => h
    case hya11 => exact Or.inr ⟨by rfl, rfl⟩
    try simp only [Act.put, List.setIfInBounds_toArray, List.set_cons_zero, List.set_cons_succ]
    refine' wpAnyH_take (i := 9) (oi := _) (v := _) ?hia12 (by kernel_rfl) ?hfa12 ?hra12 ?hQa12 ?hya12 (hSa1) ?resta12
    case hia12 => (simp only [List.getElem?_toArray, List.getElem?_cons_zero, List.getElem?_cons_succ]; rfl)
    case hfa12 => kernel_rfl
    case hra12 => kernel_rfl
    case hQa12 => exact fun _ _ _ h => h
    case hya12 => refine Or.inl ⟨by rfl, ?_⟩; intro W hSw; go_simp; try with_reducible rfl
    try simp only [Act.put, List.setIfInBounds_toArray, List.set_cons_zero, List.set_cons_succ]
    refine' wpAnyH_take (i := 10) (oi := _) (v := _) ?hia13 (by kernel_rfl) ?hfa13 ?hra13 ?hQa13 ?hya13 (hSa1) ?resta13
    case hia13 => (simp only [List.getElem?_toArray, List.getElem?_cons_zero, List.getElem?_cons_succ]; rfl)
    case hfa13 => kernel_rfl
    case hra13 => kernel_rfl
    case hQa13 => exact fun _ _ _ h => h
    case hya13 => refine Or.inl ⟨by rfl, ?_⟩; intro W hSw; go_simp; try with_reducible rfl
    try simp only [Act.put, List.setIfInBounds_toArray, List.set_cons_zero, List.set_cons_succ]
    refine' wpAnyH_take (i := 11) (oi := _) (v := undef) ?hia14 (by kernel_rfl) ?hfa14 ?hra14 ?hQa14 ?hya14 (hSa1) ?resta14
    case hia14 => (simp only [List.getElem?_toArray, List.getElem?_cons_zero, List.getElem?_cons_succ]; rfl)
    case hfa14 => kernel_rfl
    case hra14 => kernel_rfl
    case hQa14 => exact fun _ _ _ h => h
    case hya14 => exact Or.inr ⟨by rfl, rfl⟩
    try simp only [Act.put, List.setIfInBounds_toArray, List.set_cons_zero, List.set_cons_succ]
    refine' wpAnyH_take (i := 12) (oi := _) (v := undef) ?hia15 (by kernel_rfl) ?hfa15 ?hra15 ?hQa15 ?hya15 (hSa1) ?resta15
    case hia15 => (simp only [List.getElem?_toArray, List.getElem?_cons_zero, List.getElem?_cons_succ]; rfl)
    case hfa15 => kernel_rfl
    case hra15 => kernel_rfl
    case hQa15 => exact fun _ _ _ h => h
    case hya15 => exact Or.inr ⟨by rfl, rfl⟩
    try simp only [Act.put, List.setIfInBounds_toArray, List.set_cons_zero, List.set_cons_succ]
    refine' wpAnyH_take (i := 13) (oi := _) (v := undef) ?hia16 (by kernel_rfl) ?hfa16 ?hra16 ?hQa16 ?hya16 (hSa1) ?resta16
    case hia16 => (simp only [List.getElem?_toArray, List.getElem?_cons_zero, List.getElem?_cons_succ]; rfl)
    case hfa16 => kernel_rfl
    case hra16 => kernel_rfl
    case hQa16 => exact fun _ _ _ h => h
    case hya16 => exact Or.inr ⟨by rfl, rfl⟩
    try simp only [Act.put, List.setIfInBounds_toArray, List.set_cons_zero, List.set_cons_succ]
    refine' wpAnyH_take (i := 14) (oi := _) (v := undef) ?hia17 (by kernel_rfl) ?hfa17 ?hra17 ?hQa17 ?hya17 (hSa1) ?resta17
    case hia17 => (simp only [List.getElem?_toArray, List.getElem?_cons_zero, List.getElem?_cons_succ]; rfl)
    case hfa17 => kernel_rfl
    case hra17 => kernel_rfl
    case hQa17 => exact fun _ _ _ h => h
    case hya17 => exact Or.inr ⟨by rfl, rfl⟩
    try simp only [Act.put, List.setIfInBounds_toArray, List.set_cons_zero, List.set_cons_succ]
    refine' wpAnyH_take (i := 15) (oi := _) (v := _) ?hia18 (by kernel_rfl) ?hfa18 ?hra18 ?hQa18 ?hya18 (hSa1) ?resta18
    case hia18 => (simp only [List.getElem?_toArray, List.getElem?_cons_zero, List.getElem?_cons_succ]; rfl)
    case hfa18 => kernel_rfl
    case hra18 => kernel_rfl
    case hQa18 => exact fun _ _ _ h => h
    case hya18 => refine Or.inl ⟨by rfl, ?_⟩; intro W hSw; go_simp; try with_reducible rfl
    try simp only [Act.put, List.setIfInBounds_toArray, List.set_cons_zero, List.set_cons_succ]
    refine' wpAnyH_take (i := 16) (oi := _) (v := _) ?hia19 (by kernel_rfl) ?hfa19 ?hra19 ?hQa19 ?hya19 (hSa1) ?resta19
    case hia19 => (simp only [List.getElem?_toArray, List.getElem?_cons_zero, List.getElem?_cons_succ]; rfl)
    case hfa19 => kernel_rfl
    case hra19 => kernel_rfl
    case hQa19 => exact fun _ _ _ h => h
    case hya19 => refine Or.inl ⟨by rfl, ?_⟩; intro W hSw; go_simp; try with_reducible rfl
    try simp only [Act.put, List.setIfInBounds_toArray, List.set_cons_zero, List.set_cons_succ]
    refine' wpAnyH_take (i := 17) (oi := _) (v := undef) ?hia20 (by kernel_rfl) ?hfa20 ?hra20 ?hQa20 ?hya20 (hSa1) ?resta20
    case hia20 => (simp only [List.getElem?_toArray, List.getElem?_cons_zero, List.getElem?_cons_succ]; rfl)
    case hfa20 => kernel_rfl
    case hra20 => kernel_rfl
    case hQa20 => exact fun _ _ _ h => h
    case hya20 => exact Or.inr ⟨by rfl, rfl⟩
    try simp only [Act.put, List.setIfInBounds_toArray, List.set_cons_zero, List.set_cons_succ]
    refine' wpAnyH_take (i := 18) (oi := _) (v := undef) ?hia21 (by kernel_rfl) ?hfa21 ?hra21 ?hQa21 ?hya21 (hSa1) ?resta21
    case hia21 => (simp only [List.getElem?_toArray, List.getElem?_cons_zero, List.getElem?_cons_succ]; rfl)
    case hfa21 => kernel_rfl
    case hra21 => kernel_rfl
    case hQa21 => exact fun _ _ _ h => h
    case hya21 => exact Or.inr ⟨by rfl, rfl⟩
    try simp only [Act.put, List.setIfInBounds_toArray, List.set_cons_zero, List.set_cons_succ]
    refine' wpAnyH_take (i := 19) (oi := _) (v := undef) ?hia22 (by kernel_rfl) ?hfa22 ?hra22 ?hQa22 ?hya22 (hSa1) ?resta22
    case hia22 => (simp only [List.getElem?_toArray, List.getElem?_cons_zero, List.getElem?_cons_succ]; rfl)
    case hfa22 => kernel_rfl
    case hra22 => kernel_rfl
    case hQa22 => exact fun _ _ _ h => h
    case hya22 => exact Or.inr ⟨by rfl, rfl⟩
    try simp only [Act.put, List.setIfInBounds_toArray, List.set_cons_zero, List.set_cons_succ]
    refine' wpAnyH_take (i := 20) (oi := _) (v := undef) ?hia23 (by kernel_rfl) ?hfa23 ?hra23 ?hQa23 ?hya23 (hSa1) ?resta23
    case hia23 => (simp only [List.getElem?_toArray, List.getElem?_cons_zero, List.getElem?_cons_succ]; rfl)
    case hfa23 => kernel_rfl
    case hra23 => kernel_rfl
    case hQa23 => exact fun _ _ _ h => h
    case hya23 => exact Or.inr ⟨by rfl, rfl⟩
    try simp only [Act.put, List.setIfInBounds_toArray, List.set_cons_zero, List.set_cons_succ]
    refine' wpAnyH_take (i := 21) (oi := _) (v := undef) ?hia24 (by kernel_rfl) ?hfa24 ?hra24 ?hQa24 ?hya24 (hSa1) ?resta24
    case hia24 => (simp only [List.getElem?_toArray, List.getElem?_cons_zero, List.getElem?_cons_succ]; rfl)
    case hfa24 => kernel_rfl
    case hra24 => kernel_rfl
    case hQa24 => exact fun _ _ _ h => h
    case hya24 => exact Or.inr ⟨by rfl, rfl⟩
    try simp only [Act.put, List.setIfInBounds_toArray, List.set_cons_zero, List.set_cons_succ]
    refine' wpAnyH_take (i := 22) (oi := _) (v := undef) ?hia25 (by kernel_rfl) ?hfa25 ?hra25 ?hQa25 ?hya25 (hSa1) ?resta25
    case hia25 => (simp only [List.getElem?_toArray, List.getElem?_cons_zero, List.getElem?_cons_succ]; rfl)
    case hfa25 => kernel_rfl
    case hra25 => kernel_rfl
    case hQa25 => exact fun _ _ _ h => h
    case hya25 => exact Or.inr ⟨by rfl, rfl⟩
    try simp only [Act.put, List.setIfInBounds_toArray, List.set_cons_zero, List.set_cons_succ]
    refine' wpAnyH_take (i := 23) (oi := _) (v := undef) ?hia26 (by kernel_rfl) ?hfa26 ?hra26 ?hQa26 ?hya26 (hSa1) ?resta26
    case hia26 => (simp only [List.getElem?_toArray, List.getElem?_cons_zero, List.getElem?_cons_succ]; rfl)
    case hfa26 => kernel_rfl
    case hra26 => kernel_rfl
    case hQa26 => exact fun _ _ _ h => h
    case hya26 => exact Or.inr ⟨by rfl, rfl⟩
    try simp only [Act.put, List.setIfInBounds_toArray, List.set_cons_zero, List.set_cons_succ]
    refine' wpAnyH_take (i := 24) (oi := _) (v := undef) ?hia27 (by kernel_rfl) ?hfa27 ?hra27 ?hQa27 ?hya27 (hSa1) ?resta27
    case hia27 => (simp only [List.getElem?_toArray, List.getElem?_cons_zero, List.getElem?_cons_succ]; rfl)
    case hfa27 => kernel_rfl
    case hra27 => kernel_rfl
    case hQa27 => exact fun _ _ _ h => h
    case hya27 => exact Or.inr ⟨by rfl, rfl⟩
    try simp only [Act.put, List.setIfInBounds_toArray, List.set_cons_zero, List.set_cons_succ]
    refine' wpAnyH_take (i := 25) (oi := _) (v := undef) ?hia28 (by kernel_rfl) ?hfa28 ?hra28 ?hQa28 ?hya28 (hSa1) ?resta28
    case hia28 => (simp only [List.getElem?_toArray, List.getElem?_cons_zero, List.getElem?_cons_succ]; rfl)
    case hfa28 => kernel_rfl
    case hra28 => kernel_rfl
    case hQa28 => exact fun _ _ _ h => h
    case hya28 => exact Or.inr ⟨by rfl, rfl⟩
    try simp only [Act.put, List.setIfInBounds_toArray, List.set_cons_zero, List.set_cons_succ]
    refine' wpAnyH_take (i := 26) (oi := _) (v := undef) ?hia29 (by kernel_rfl) ?hfa29 ?hra29 ?hQa29 ?hya29 (hSa1) ?resta29
    case hia29 => (simp only [List.getElem?_toArray, List.getElem?_cons_zero, List.getElem?_cons_succ]; rfl)
    case hfa29 => kernel_rfl
    case hra29 => kernel_rfl
    case hQa29 => exact fun _ _ _ h => h
    case hya29 => exact Or.inr ⟨by rfl, rfl⟩
    try simp only [Act.put, List.setIfInBounds_toArray, List.set_cons_zero, List.set_cons_succ]
    refine' wpAnyH_take (i := 27) (oi := _) (v := undef) ?hia30 (by kernel_rfl) ?hfa30 ?hra30 ?hQa30 ?hya30 (hSa1) ?resta30
    case hia30 => (simp only [List.getElem?_toArray, List.getElem?_cons_zero, List.getElem?_cons_succ]; rfl)
    case hfa30 => kernel_rfl
    case hra30 => kernel_rfl
    case hQa30 => exact fun _ _ _ h => h
    case hya30 => exact Or.inr ⟨by rfl, rfl⟩
    try simp only [Act.put, List.setIfInBounds_toArray, List.set_cons_zero, List.set_cons_succ]
    refine' wpAnyH_take (i := 28) (oi := _) (v := undef) ?hia31 (by kernel_rfl) ?hfa31 ?hra31 ?hQa31 ?hya31 (hSa1) ?resta31
    case hia31 => (simp only [List.getElem?_toArray, List.getElem?_cons_zero, List.getElem?_cons_succ]; rfl)
    case hfa31 => kernel_rfl
    case hra31 => kernel_rfl
    case hQa31 => exact fun _ _ _ h => h
    case hya31 => exact Or.inr ⟨by rfl, rfl⟩
    try simp only [Act.put, List.setIfInBounds_toArray, List.set_cons_zero, List.set_cons_succ]
    refine' wpAnyH_take (i := 29) (oi := _) (v := _) ?hia32 (by kernel_rfl) ?hfa32 ?hra32 ?hQa32 ?hya32 (hSa1) ?resta32
    case hia32 => (simp only [List.getElem?_toArray, List.getElem?_cons_zero, List.getElem?_cons_succ]; rfl)
    case hfa32 => kernel_rfl
    case hra32 => kernel_rfl
    case hQa32 => exact fun _ _ _ h => h
    case hya32 => refine Or.inl ⟨by rfl, ?_⟩; intro W hSw; go_simp; try with_reducible rfl
    try simp only [Act.put, List.setIfInBounds_toArray, List.set_cons_zero, List.set_cons_succ]
    refine' wpAnyH_take (i := 30) (oi := _) (v := _) ?hia33 (by kernel_rfl) ?hfa33 ?hra33 ?hQa33 ?hya33 (hSa1) ?resta33
    case hia33 => (simp only [List.getElem?_toArray, List.getElem?_cons_zero, List.getElem?_cons_succ]; rfl)
    case hfa33 => kernel_rfl
    case hra33 => kernel_rfl
    case hQa33 => exact fun _ _ _ h => h
    case hya33 => refine Or.inl ⟨by rfl, ?_⟩; intro W hSw; go_simp; try with_reducible rfl
    try simp only [Act.put, List.setIfInBounds_toArray, List.set_cons_zero, List.set_cons_succ]
    refine wpAnyH_done (by kernel_rfl) ?_ _
    go_wp2_with fail
    go_ret
    exact ⟨⟨true, rfl, fun e => by cases e⟩, by rw [← HG.out]; exact below_on HB.out (Nat.le_refl _) hSa1⟩
  have i1 : ¬ ((40 : Int) < (n : Int)) := by omega
  by_cases h2 : 40 < m
  · have i2 : (40 : Int) < (m : Int) := by omega
    have hSb1 : Below w1.heap.size w1 w1.drew := (Below.refl _ _).drew
    refine wp_region_held_drew (S := fun W => Below w1.heap.size w1 W) (by kernel_rfl) (hSb1) (fun _ => ?_)
    change wpAnyH _ _ _ _ _ _ _ _ w1.drew
    generalize w1.drew = Wb2 at hSb1 ⊢
    refine' wpAnyH_take (i := 0) (oi := _) (v := _) ?hib3 (by kernel_rfl) ?hfb3 ?hrb3 ?hQb3 ?hyb3 (hSb1) ?restb3
    case hib3 => (simp only [List.getElem?_toArray, List.getElem?_cons_zero]; rfl)
    case hfb3 => kernel_rfl
    case hrb3 => kernel_rfl
    case hQb3 => exact fun _ _ _ h => h
    case hyb3 => refine Or.inl ⟨by rfl, ?_⟩; intro W hSw; go_simp; try with_reducible rfl
    try simp only [Act.put, List.setIfInBounds_toArray, List.set_cons_zero, List.set_cons_succ]
    refine' wpAnyH_take (i := 1) (oi := _) (v := _) ?hib4 (by kernel_rfl) ?hfb4 ?hrb4 ?hQb4 ?hyb4 (hSb1) ?restb4
    case hib4 => (simp only [List.getElem?_toArray, List.getElem?_cons_zero, List.getElem?_cons_succ]; rfl)
    case hfb4 => kernel_rfl
    case hrb4 => kernel_rfl
    case hQb4 => exact fun _ _ _ h => h
    case hyb4 => refine Or.inl ⟨by rfl, ?_⟩; intro W hSw; have hcc := HC0.out W hSw; go_simp; try with_reducible rfl
    try simp only [Act.put, List.setIfInBounds_toArray, List.set_cons_zero, List.set_cons_succ]
    refine' wpAnyH_take (i := 2) (oi := _) (v := _) ?hib5 (by kernel_rfl) ?hfb5 ?hrb5 ?hQb5 ?hyb5 (hSb1) ?restb5
    case hib5 => (simp only [List.getElem?_toArray, List.getElem?_cons_zero, List.getElem?_cons_succ]; rfl)
    case hfb5 => kernel_rfl
    case hrb5 => kernel_rfl
    case hQb5 => exact fun _ _ _ h => h
    case hyb5 => refine Or.inl ⟨by rfl, ?_⟩; intro W hSw; go_simp; try with_reducible rfl
    try simp only [Act.put, List.setIfInBounds_toArray, List.set_cons_zero, List.set_cons_succ]
    refine' wpAnyH_take (i := 3) (oi := _) (v := _) ?hib6 (by kernel_rfl) ?hfb6 ?hrb6 ?hQb6 ?hyb6 (hSb1) ?restb6
    case hib6 => (simp only [List.getElem?_toArray, List.getElem?_cons_zero, List.getElem?_cons_succ]; rfl)
    case hfb6 => kernel_rfl
    case hrb6 => kernel_rfl
    case hQb6 => exact fun _ _ _ h => h
    case hyb6 => refine Or.inl ⟨by rfl, ?_⟩; intro W hSw; go_simp; try with_reducible rfl
    try simp only [Act.put, List.setIfInBounds_toArray, List.set_cons_zero, List.set_cons_succ]
    refine' wpAnyH_take (i := 4) (oi := _) (v := _) ?hib7 (by kernel_rfl) ?hfb7 ?hrb7 ?hQb7 ?hyb7 (hSb1) ?restb7
    case hib7 => (simp only [List.getElem?_toArray, List.getElem?_cons_zero, List.getElem?_cons_succ]; rfl)
    case hfb7 => kernel_rfl
    case hrb7 => kernel_rfl
    case hQb7 => exact fun _ _ _ h => h
    case hyb7 => refine Or.inl ⟨by rfl, ?_⟩; intro W hSw; go_simp; try with_reducible rfl
    try simp only [Act.put, List.setIfInBounds_toArray, List.set_cons_zero, List.set_cons_succ]
    refine' wpAnyH_take (i := 5) (oi := _) (v := _) ?hib8 (by kernel_rfl) ?hfb8 ?hrb8 ?hQb8 ?hyb8 (hSb1) ?restb8
    case hib8 => (simp only [List.getElem?_toArray, List.getElem?_cons_zero, List.getElem?_cons_succ]; rfl)
    case hfb8 => kernel_rfl
    case hrb8 => kernel_rfl
    case hQb8 => exact fun _ _ _ h => h
    case hyb8 => refine Or.inl ⟨by rfl, ?_⟩; intro W hSw; go_simp; try with_reducible rfl
    try simp only [Act.put, List.setIfInBounds_toArray, List.set_cons_zero, List.set_cons_succ]
    refine' wpAnyH_take (i := 6) (oi := _) (v := _) ?hib9 (by kernel_rfl) ?hfb9 ?hrb9 ?hQb9 ?hyb9 (hSb1) ?restb9
    case hib9 => (simp only [List.getElem?_toArray, List.getElem?_cons_zero, List.getElem?_cons_succ]; rfl)
    case hfb9 => kernel_rfl
    case hrb9 => kernel_rfl
    case hQb9 => exact fun _ _ _ h => h
    case hyb9 => refine Or.inl ⟨by rfl, ?_⟩; intro W hSw; have hcc := HC1.out W hSw; go_simp; try with_reducible rfl
    try simp only [Act.put, List.setIfInBounds_toArray, List.set_cons_zero, List.set_cons_succ]
    refine' wpAnyH_take (i := 7) (oi := _) (v := _) ?hib10 (by kernel_rfl) ?hfb10 ?hrb10 ?hQb10 ?hyb10 (hSb1) ?restb10
    case hib10 => (simp only [List.getElem?_toArray, List.getElem?_cons_zero, List.getElem?_cons_succ]; rfl)
    case hfb10 => kernel_rfl
    case hrb10 => kernel_rfl
    case hQb10 => exact fun _ _ _ h => h
    case hyb10 => refine Or.inl ⟨by rfl, ?_⟩; intro W hSw; go_simp; try with_reducible rfl
    try simp only [Act.put, List.setIfInBounds_toArray, List.set_cons_zero, List.set_cons_succ]
    refine' wpAnyH_take (i := 8) (oi := _) (v := _) ?hib11 (by kernel_rfl) ?hfb11 ?hrb11 ?hQb11 ?hyb11 (hSb1) ?restb11
    case hib11 => (simp only [List.getElem?_toArray, List.getElem?_cons_zero, List.getElem?_cons_succ]; rfl)
    case hfb11 => kernel_rfl
    case hrb11 => kernel_rfl
    case hQb11 => exact fun _ _ _ h => h
    case hyb11 => refine Or.inl ⟨by rfl, ?_⟩; intro W hSw; go_simp; try with_reducible rfl
    try simp only [Act.put, List.setIfInBounds_toArray, List.set_cons_zero, List.set_cons_succ]
    refine' wpAnyH_take (i := 9) (oi := _) (v := _) ?hib12 (by kernel_rfl) ?hfb12 ?hrb12 ?hQb12 ?hyb12 (hSb1) ?restb12
    case hib12 => (simp only [List.getElem?_toArray, List.getElem?_cons_zero, List.getElem?_cons_succ]; rfl)
    case hfb12 => kernel_rfl
    case hrb12 => kernel_rfl
    case hQb12 => exact fun _ _ _ h => h
    case hyb12 => refine Or.inl ⟨by rfl, ?_⟩; intro W hSw; go_simp; try with_reducible rfl
    try simp only [Act.put, List.setIfInBounds_toArray, List.set_cons_zero, List.set_cons_succ]
    refine' wpAnyH_take (i := 10) (oi := _) (v := _) ?hib13 (by kernel_rfl) ?hfb13 ?hrb13 ?hQb13 ?hyb13 (hSb1) ?restb13
    case hib13 => (simp only [List.getElem?_toArray, List.getElem?_cons_zero, List.getElem?_cons_succ]; rfl)
    case hfb13 => kernel_rfl
    case hrb13 => kernel_rfl
    case hQb13 => exact fun _ _ _ h => h
    case hyb13 => refine Or.inl ⟨by rfl, ?_⟩; intro W hSw; go_simp; try with_reducible rfl
    try simp only [Act.put, List.setIfInBounds_toArray, List.set_cons_zero, List.set_cons_succ]
    refine' wpAnyH_take (i := 11) (oi := _) (v := undef) ?hib14 (by kernel_rfl) ?hfb14 ?hrb14 ?hQb14 ?hyb14 (hSb1) ?restb14
    case hib14 => (simp only [List.getElem?_toArray, List.getElem?_cons_zero, List.getElem?_cons_succ]; rfl)
    case hfb14 => kernel_rfl
    case hrb14 => kernel_rfl
    case hQb14 => exact fun _ _ _ h => h
    case hyb14 => exact Or.inr ⟨by rfl, rfl⟩
    try simp only [Act.put, List.setIfInBounds_toArray, List.set_cons_zero, List.set_cons_succ]
    refine' wpAnyH_take (i := 12) (oi := _) (v := undef) ?hib15 (by kernel_rfl) ?hfb15 ?hrb15 ?hQb15 ?hyb15 (hSb1) ?restb15
    case hib15 => (simp only [List.getElem?_toArray, List.getElem?_cons_zero, List.getElem?_cons_succ]; rfl)
    case hfb15 => kernel_rfl
    case hrb15 => kernel_rfl
    case hQb15 => exact fun _ _ _ h => h
    case hyb15 => exact Or.inr ⟨by rfl, rfl⟩
    try simp only [Act.put, List.setIfInBounds_toArray, List.set_cons_zero, List.set_cons_succ]
    refine' wpAnyH_take (i := 13) (oi := _) (v := undef) ?hib16 (by kernel_rfl) ?hfb16 ?hrb16 ?hQb16 ?hyb16 (hSb1) ?restb16
    case hib16 => (simp only [List.getElem?_toArray, List.getElem?_cons_zero, List.getElem?_cons_succ]; rfl)
    case hfb16 => kernel_rfl
    case hrb16 => kernel_rfl
    case hQb16 => exact fun _ _ _ h => h
    case hyb16 => exact Or.inr ⟨by rfl, rfl⟩
    try simp only [Act.put, List.setIfInBounds_toArray, List.set_cons_zero, List.set_cons_succ]
    refine' wpAnyH_take (i := 14) (oi := _) (v := undef) ?hib17 (by kernel_rfl) ?hfb17 ?hrb17 ?hQb17 ?hyb17 (hSb1) ?restb17
    case hib17 => (simp only [List.getElem?_toArray, List.getElem?_cons_zero, List.getElem?_cons_succ]; rfl)
    case hfb17 => kernel_rfl
    case hrb17 => kernel_rfl
    case hQb17 => exact fun _ _ _ h => h
    case hyb17 => exact Or.inr ⟨by rfl, rfl⟩
    try simp only [Act.put, List.setIfInBounds_toArray, List.set_cons_zero, List.set_cons_succ]
    refine' wpAnyH_take (i := 15) (oi := _) (v := _) ?hib18 (by kernel_rfl) ?hfb18 ?hrb18 ?hQb18 ?hyb18 (hSb1) ?restb18
    case hib18 => (simp only [List.getElem?_toArray, List.getElem?_cons_zero, List.getElem?_cons_succ]; rfl)
    case hfb18 => kernel_rfl
    case hrb18 => kernel_rfl
    case hQb18 => exact fun _ _ _ h => h
    case hyb18 => refine Or.inl ⟨by rfl, ?_⟩; intro W hSw; go_simp; try with_reducible rfl
    try simp only [Act.put, List.setIfInBounds_toArray, List.set_cons_zero, List.set_cons_succ]
    refine' wpAnyH_take (i := 16) (oi := _) (v := _) ?hib19 (by kernel_rfl) ?hfb19 ?hrb19 ?hQb19 ?hyb19 (hSb1) ?restb19
    case hib19 => (simp only [List.getElem?_toArray, List.getElem?_cons_zero, List.getElem?_cons_succ]; rfl)
    case hfb19 => kernel_rfl
    case hrb19 => kernel_rfl
    case hQb19 => exact fun _ _ _ h => h
    case hyb19 => refine Or.inl ⟨by rfl, ?_⟩; intro W hSw; go_simp; try with_reducible rfl
    try simp only [Act.put, List.setIfInBounds_toArray, List.set_cons_zero, List.set_cons_succ]
    refine' wpAnyH_take (i := 17) (oi := _) (v := undef) ?hib20 (by kernel_rfl) ?hfb20 ?hrb20 ?hQb20 ?hyb20 (hSb1) ?restb20
    case hib20 => (simp only [List.getElem?_toArray, List.getElem?_cons_zero, List.getElem?_cons_succ]; rfl)
    case hfb20 => kernel_rfl
    case hrb20 => kernel_rfl
    case hQb20 => exact fun _ _ _ h => h
    case hyb20 => exact Or.inr ⟨by rfl, rfl⟩
    try simp only [Act.put, List.setIfInBounds_toArray, List.set_cons_zero, List.set_cons_succ]
    refine' wpAnyH_take (i := 18) (oi := _) (v := undef) ?hib21 (by kernel_rfl) ?hfb21 ?hrb21 ?hQb21 ?hyb21 (hSb1) ?restb21
    case hib21 => (simp only [List.getElem?_toArray, List.getElem?_cons_zero, List.getElem?_cons_succ]; rfl)
    case hfb21 => kernel_rfl
    case hrb21 => kernel_rfl
    case hQb21 => exact fun _ _ _ h => h
    case hyb21 => exact Or.inr ⟨by rfl, rfl⟩
    try simp only [Act.put, List.setIfInBounds_toArray, List.set_cons_zero, List.set_cons_succ]
    refine' wpAnyH_take (i := 19) (oi := _) (v := undef) ?hib22 (by kernel_rfl) ?hfb22 ?hrb22 ?hQb22 ?hyb22 (hSb1) ?restb22
    case hib22 => (simp only [List.getElem?_toArray, List.getElem?_cons_zero, List.getElem?_cons_succ]; rfl)
    case hfb22 => kernel_rfl
    case hrb22 => kernel_rfl
    case hQb22 => exact fun _ _ _ h => h
    case hyb22 => exact Or.inr ⟨by rfl, rfl⟩
    try simp only [Act.put, List.setIfInBounds_toArray, List.set_cons_zero, List.set_cons_succ]
    refine' wpAnyH_take (i := 20) (oi := _) (v := undef) ?hib23 (by kernel_rfl) ?hfb23 ?hrb23 ?hQb23 ?hyb23 (hSb1) ?restb23
    case hib23 => (simp only [List.getElem?_toArray, List.getElem?_cons_zero, List.getElem?_cons_succ]; rfl)
    case hfb23 => kernel_rfl
    case hrb23 => kernel_rfl
    case hQb23 => exact fun _ _ _ h => h
    case hyb23 => exact Or.inr ⟨by rfl, rfl⟩
    try simp only [Act.put, List.setIfInBounds_toArray, List.set_cons_zero, List.set_cons_succ]
    refine' wpAnyH_take (i := 21) (oi := _) (v := undef) ?hib24 (by kernel_rfl) ?hfb24 ?hrb24 ?hQb24 ?hyb24 (hSb1) ?restb24
    case hib24 => (simp only [List.getElem?_toArray, List.getElem?_cons_zero, List.getElem?_cons_succ]; rfl)
    case hfb24 => kernel_rfl
    case hrb24 => kernel_rfl
    case hQb24 => exact fun _ _ _ h => h
    case hyb24 => exact Or.inr ⟨by rfl, rfl⟩
    try simp only [Act.put, List.setIfInBounds_toArray, List.set_cons_zero, List.set_cons_succ]
    refine' wpAnyH_take (i := 22) (oi := _) (v := undef) ?hib25 (by kernel_rfl) ?hfb25 ?hrb25 ?hQb25 ?hyb25 (hSb1) ?restb25
    case hib25 => (simp only [List.getElem?_toArray, List.getElem?_cons_zero, List.getElem?_cons_succ]; rfl)
    case hfb25 => kernel_rfl
    case hrb25 => kernel_rfl
    case hQb25 => exact fun _ _ _ h => h
    case hyb25 => exact Or.inr ⟨by rfl, rfl⟩
    try simp only [Act.put, List.setIfInBounds_toArray, List.set_cons_zero, List.set_cons_succ]
    refine' wpAnyH_take (i := 23) (oi := _) (v := undef) ?hib26 (by kernel_rfl) ?hfb26 ?hrb26 ?hQb26 ?hyb26 (hSb1) ?restb26
    case hib26 => (simp only [List.getElem?_toArray, List.getElem?_cons_zero, List.getElem?_cons_succ]; rfl)
    case hfb26 => kernel_rfl
    case hrb26 => kernel_rfl
    case hQb26 => exact fun _ _ _ h => h
    case hyb26 => exact Or.inr ⟨by rfl, rfl⟩
    try simp only [Act.put, List.setIfInBounds_toArray, List.set_cons_zero, List.set_cons_succ]
    refine' wpAnyH_take (i := 24) (oi := _) (v := undef) ?hib27 (by kernel_rfl) ?hfb27 ?hrb27 ?hQb27 ?hyb27 (hSb1) ?restb27
    case hib27 => (simp only [List.getElem?_toArray, List.getElem?_cons_zero, List.getElem?_cons_succ]; rfl)
    case hfb27 => kernel_rfl
    case hrb27 => kernel_rfl
    case hQb27 => exact fun _ _ _ h => h
    case hyb27 => exact Or.inr ⟨by rfl, rfl⟩
    try simp only [Act.put, List.setIfInBounds_toArray, List.set_cons_zero, List.set_cons_succ]
    refine' wpAnyH_take (i := 25) (oi := _) (v := undef) ?hib28 (by kernel_rfl) ?hfb28 ?hrb28 ?hQb28 ?hyb28 (hSb1) ?restb28
    case hib28 => (simp only [List.getElem?_toArray, List.getElem?_cons_zero, List.getElem?_cons_succ]; rfl)
    case hfb28 => kernel_rfl
    case hrb28 => kernel_rfl
    case hQb28 => exact fun _ _ _ h => h
    case hyb28 => exact Or.inr ⟨by rfl, rfl⟩
    try simp only [Act.put, List.setIfInBounds_toArray, List.set_cons_zero, List.set_cons_succ]
    refine' wpAnyH_take (i := 26) (oi := _) (v := undef) ?hib29 (by kernel_rfl) ?hfb29 ?hrb29 ?hQb29 ?hyb29 (hSb1) ?restb29
    case hib29 => (simp only [List.getElem?_toArray, List.getElem?_cons_zero, List.getElem?_cons_succ]; rfl)
    case hfb29 => kernel_rfl
    case hrb29 => kernel_rfl
    case hQb29 => exact fun _ _ _ h => h
    case hyb29 => exact Or.inr ⟨by rfl, rfl⟩
    try simp only [Act.put, List.setIfInBounds_toArray, List.set_cons_zero, List.set_cons_succ]
    refine' wpAnyH_take (i := 27) (oi := _) (v := undef) ?hib30 (by kernel_rfl) ?hfb30 ?hrb30 ?hQb30 ?hyb30 (hSb1) ?restb30
    case hib30 => (simp only [List.getElem?_toArray, List.getElem?_cons_zero, List.getElem?_cons_succ]; rfl)
    case hfb30 => kernel_rfl
    case hrb30 => kernel_rfl
    case hQb30 => exact fun _ _ _ h => h
    case hyb30 => exact Or.inr ⟨by rfl, rfl⟩
    try simp only [Act.put, List.setIfInBounds_toArray, List.set_cons_zero, List.set_cons_succ]
    refine' wpAnyH_take (i := 28) (oi := _) (v := undef) ?hib31 (by kernel_rfl) ?hfb31 ?hrb31 ?hQb31 ?hyb31 (hSb1) ?restb31
    case hib31 => (simp only [List.getElem?_toArray, List.getElem?_cons_zero, List.getElem?_cons_succ]; rfl)
    case hfb31 => kernel_rfl
    case hrb31 => kernel_rfl
    case hQb31 => exact fun _ _ _ h => h
    case hyb31 => exact Or.inr ⟨by rfl, rfl⟩
    try simp only [Act.put, List.setIfInBounds_toArray, List.set_cons_zero, List.set_cons_succ]
    refine' wpAnyH_take (i := 29) (oi := _) (v := _) ?hib32 (by kernel_rfl) ?hfb32 ?hrb32 ?hQb32 ?hyb32 (hSb1) ?restb32
    case hib32 => (simp only [List.getElem?_toArray, List.getElem?_cons_zero, List.getElem?_cons_succ]; rfl)
    case hfb32 => kernel_rfl
    case hrb32 => kernel_rfl
    case hQb32 => exact fun _ _ _ h => h
    case hyb32 => refine Or.inl ⟨by rfl, ?_⟩; intro W hSw; go_simp; try with_reducible rfl
    try simp only [Act.put, List.setIfInBounds_toArray, List.set_cons_zero, List.set_cons_succ]
    refine' wpAnyH_take (i := 30) (oi := _) (v := _) ?hib33 (by kernel_rfl) ?hfb33 ?hrb33 ?hQb33 ?hyb33 (hSb1) ?restb33
    case hib33 => (simp only [List.getElem?_toArray, List.getElem?_cons_zero, List.getElem?_cons_succ]; rfl)
    case hfb33 => kernel_rfl
    case hrb33 => kernel_rfl
    case hQb33 => exact fun _ _ _ h => h
    case hyb33 => refine Or.inl ⟨by rfl, ?_⟩; intro W hSw; go_simp; try with_reducible rfl
    try simp only [Act.put, List.setIfInBounds_toArray, List.set_cons_zero, List.set_cons_succ]
    refine wpAnyH_done (by kernel_rfl) ?_ _
    go_wp2_with fail
    go_ret
    exact ⟨⟨true, rfl, fun e => by cases e⟩, by rw [← HG.out]; exact below_on HB.out (Nat.le_refl _) hSb1⟩
  have i2 : ¬ ((40 : Int) < (m : Int)) := by omega
  by_cases h3 : 100 < s
  · have i3 : (100 : Int) < (s : Int) := by omega
    have hSc1 : Below w1.heap.size w1 w1.drew := (Below.refl _ _).drew
    refine wp_region_held_drew (S := fun W => Below w1.heap.size w1 W) (by kernel_rfl) (hSc1) (fun _ => ?_)
    change wpAnyH _ _ _ _ _ _ _ _ w1.drew
    generalize w1.drew = Wc2 at hSc1 ⊢
    refine' wpAnyH_take (i := 0) (oi := _) (v := _) ?hic3 (by kernel_rfl) ?hfc3 ?hrc3 ?hQc3 ?hyc3 (hSc1) ?restc3
    case hic3 => (simp only [List.getElem?_toArray, List.getElem?_cons_zero]; rfl)
    case hfc3 => kernel_rfl
    case hrc3 => kernel_rfl
    case hQc3 => exact fun _ _ _ h => h
    case hyc3 => refine Or.inl ⟨by rfl, ?_⟩; intro W hSw; go_simp; try with_reducible rfl
    try simp only [Act.put, List.setIfInBounds_toArray, List.set_cons_zero, List.set_cons_succ]
    refine' wpAnyH_take (i := 1) (oi := _) (v := _) ?hic4 (by kernel_rfl) ?hfc4 ?hrc4 ?hQc4 ?hyc4 (hSc1) ?restc4
    case hic4 => (simp only [List.getElem?_toArray, List.getElem?_cons_zero, List.getElem?_cons_succ]; rfl)
    case hfc4 => kernel_rfl
    case hrc4 => kernel_rfl
    case hQc4 => exact fun _ _ _ h => h
    case hyc4 => refine Or.inl ⟨by rfl, ?_⟩; intro W hSw; have hcc := HC0.out W hSw; go_simp; try with_reducible rfl
    try simp only [Act.put, List.setIfInBounds_toArray, List.set_cons_zero, List.set_cons_succ]
    refine' wpAnyH_take (i := 2) (oi := _) (v := _) ?hic5 (by kernel_rfl) ?hfc5 ?hrc5 ?hQc5 ?hyc5 (hSc1) ?restc5
    case hic5 => (simp only [List.getElem?_toArray, List.getElem?_cons_zero, List.getElem?_cons_succ]; rfl)
    case hfc5 => kernel_rfl
    case hrc5 => kernel_rfl
    case hQc5 => exact fun _ _ _ h => h
    case hyc5 => refine Or.inl ⟨by rfl, ?_⟩; intro W hSw; go_simp; try with_reducible rfl
    try simp only [Act.put, List.setIfInBounds_toArray, List.set_cons_zero, List.set_cons_succ]
    refine' wpAnyH_take (i := 3) (oi := _) (v := _) ?hic6 (by kernel_rfl) ?hfc6 ?hrc6 ?hQc6 ?hyc6 (hSc1) ?restc6
    case hic6 => (simp only [List.getElem?_toArray, List.getElem?_cons_zero, List.getElem?_cons_succ]; rfl)
    case hfc6 => kernel_rfl
    case hrc6 => kernel_rfl
    case hQc6 => exact fun _ _ _ h => h
    case hyc6 => refine Or.inl ⟨by rfl, ?_⟩; intro W hSw; go_simp; try with_reducible rfl
    try simp only [Act.put, List.setIfInBounds_toArray, List.set_cons_zero, List.set_cons_succ]
    refine' wpAnyH_take (i := 4) (oi := _) (v := _) ?hic7 (by kernel_rfl) ?hfc7 ?hrc7 ?hQc7 ?hyc7 (hSc1) ?restc7
    case hic7 => (simp only [List.getElem?_toArray, List.getElem?_cons_zero, List.getElem?_cons_succ]; rfl)
    case hfc7 => kernel_rfl
    case hrc7 => kernel_rfl
    case hQc7 => exact fun _ _ _ h => h
    case hyc7 => refine Or.inl ⟨by rfl, ?_⟩; intro W hSw; go_simp; try with_reducible rfl
    try simp only [Act.put, List.setIfInBounds_toArray, List.set_cons_zero, List.set_cons_succ]
    refine' wpAnyH_take (i := 5) (oi := _) (v := _) ?hic8 (by kernel_rfl) ?hfc8 ?hrc8 ?hQc8 ?hyc8 (hSc1) ?restc8
    case hic8 => (simp only [List.getElem?_toArray, List.getElem?_cons_zero, List.getElem?_cons_succ]; rfl)
    case hfc8 => kernel_rfl
    case hrc8 => kernel_rfl
    case hQc8 => exact fun _ _ _ h => h
    case hyc8 => refine Or.inl ⟨by rfl, ?_⟩; intro W hSw; go_simp; try with_reducible rfl
    try simp only [Act.put, List.setIfInBounds_toArray, List.set_cons_zero, List.set_cons_succ]
    refine' wpAnyH_take (i := 6) (oi := _) (v := _) ?hic9 (by kernel_rfl) ?hfc9 ?hrc9 ?hQc9 ?hyc9 (hSc1) ?restc9
    case hic9 => (simp only [List.getElem?_toArray, List.getElem?_cons_zero, List.getElem?_cons_succ]; rfl)
    case hfc9 => kernel_rfl
    case hrc9 => kernel_rfl
    case hQc9 => exact fun _ _ _ h => h
    case hyc9 => refine Or.inl ⟨by rfl, ?_⟩; intro W hSw; have hcc := HC1.out W hSw; go_simp; try with_reducible rfl
    try simp only [Act.put, List.setIfInBounds_toArray, List.set_cons_zero, List.set_cons_succ]
    refine' wpAnyH_take (i := 7) (oi := _) (v := _) ?hic10 (by kernel_rfl) ?hfc10 ?hrc10 ?hQc10 ?hyc10 (hSc1) ?restc10
    case hic10 => (simp only [List.getElem?_toArray, List.getElem?_cons_zero, List.getElem?_cons_succ]; rfl)
    case hfc10 => kernel_rfl
    case hrc10 => kernel_rfl
    case hQc10 => exact fun _ _ _ h => h
    case hyc10 => refine Or.inl ⟨by rfl, ?_⟩; intro W hSw; go_simp; try with_reducible rfl
    try simp only [Act.put, List.setIfInBounds_toArray, List.set_cons_zero, List.set_cons_succ]
    refine' wpAnyH_take (i := 8) (oi := _) (v := _) ?hic11 (by kernel_rfl) ?hfc11 ?hrc11 ?hQc11 ?hyc11 (hSc1) ?restc11
    case hic11 => (simp only [List.getElem?_toArray, List.getElem?_cons_zero, List.getElem?_cons_succ]; rfl)
    case hfc11 => kernel_rfl
    case hrc11 => kernel_rfl
    case hQc11 => exact fun _ _ _ h => h
    case hyc11 => refine Or.inl ⟨by rfl, ?_⟩; intro W hSw; go_simp; try with_reducible rfl
    try simp only [Act.put, List.setIfInBounds_toArray, List.set_cons_zero, List.set_cons_succ]
    refine' wpAnyH_take (i := 9) (oi := _) (v := _) ?hic12 (by kernel_rfl) ?hfc12 ?hrc12 ?hQc12 ?hyc12 (hSc1) ?restc12
    case hic12 => (simp only [List.getElem?_toArray, List.getElem?_cons_zero, List.getElem?_cons_succ]; rfl)
    case hfc12 => kernel_rfl
    case hrc12 => kernel_rfl
    case hQc12 => exact fun _ _ _ h => h
    case hyc12 => refine Or.inl ⟨by rfl, ?_⟩; intro W hSw; go_simp; try with_reducible rfl
    try simp only [Act.put, List.setIfInBounds_toArray, List.set_cons_zero, List.set_cons_succ]
    refine' wpAnyH_take (i := 10) (oi := _) (v := _) ?hic13 (by kernel_rfl) ?hfc13 ?hrc13 ?hQc13 ?hyc13 (hSc1) ?restc13
    case hic13 => (simp only [List.getElem?_toArray, List.getElem?_cons_zero, List.getElem?_cons_succ]; rfl)
    case hfc13 => kernel_rfl
    case hrc13 => kernel_rfl
    case hQc13 => exact fun _ _ _ h => h
    case hyc13 => refine Or.inl ⟨by rfl, ?_⟩; intro W hSw; go_simp; try with_reducible rfl
    try simp only [Act.put, List.setIfInBounds_toArray, List.set_cons_zero, List.set_cons_succ]
    refine' wpAnyH_take (i := 11) (oi := _) (v := _) ?hic14 (by kernel_rfl) ?hfc14 ?hrc14 ?hQc14 ?hyc14 (hSc1) ?restc14
    case hic14 => (simp only [List.getElem?_toArray, List.getElem?_cons_zero, List.getElem?_cons_succ]; rfl)
    case hfc14 => kernel_rfl
    case hrc14 => kernel_rfl
    case hQc14 => exact fun _ _ _ h => h
    case hyc14 => refine Or.inl ⟨by rfl, ?_⟩; intro W hSw; go_simp; try with_reducible rfl
    try simp only [Act.put, List.setIfInBounds_toArray, List.set_cons_zero, List.set_cons_succ]
    refine' wpAnyH_take (i := 12) (oi := _) (v := _) ?hic15 (by kernel_rfl) ?hfc15 ?hrc15 ?hQc15 ?hyc15 (hSc1) ?restc15
    case hic15 => (simp only [List.getElem?_toArray, List.getElem?_cons_zero, List.getElem?_cons_succ]; rfl)
    case hfc15 => kernel_rfl
    case hrc15 => kernel_rfl
    case hQc15 => exact fun _ _ _ h => h
    case hyc15 => refine Or.inl ⟨by rfl, ?_⟩; intro W hSw; have hcc := HC4.out W hSw; go_simp; try with_reducible rfl
    try simp only [Act.put, List.setIfInBounds_toArray, List.set_cons_zero, List.set_cons_succ]
    refine' wpAnyH_take (i := 13) (oi := _) (v := _) ?hic16 (by kernel_rfl) ?hfc16 ?hrc16 ?hQc16 ?hyc16 (hSc1) ?restc16
    case hic16 => (simp only [List.getElem?_toArray, List.getElem?_cons_zero, List.getElem?_cons_succ]; rfl)
    case hfc16 => kernel_rfl
    case hrc16 => kernel_rfl
    case hQc16 => exact fun _ _ _ h => h
    case hyc16 => refine Or.inl ⟨by rfl, ?_⟩; intro W hSw; go_simp; try with_reducible rfl
    try simp only [Act.put, List.setIfInBounds_toArray, List.set_cons_zero, List.set_cons_succ]
    refine' wpAnyH_take (i := 14) (oi := _) (v := _) ?hic17 (by kernel_rfl) ?hfc17 ?hrc17 ?hQc17 ?hyc17 (hSc1) ?restc17
    case hic17 => (simp only [List.getElem?_toArray, List.getElem?_cons_zero, List.getElem?_cons_succ]; rfl)
    case hfc17 => kernel_rfl
    case hrc17 => kernel_rfl
    case hQc17 => exact fun _ _ _ h => h
    case hyc17 => refine Or.inl ⟨by rfl, ?_⟩; intro W hSw; go_simp; try with_reducible rfl
    try simp only [Act.put, List.setIfInBounds_toArray, List.set_cons_zero, List.set_cons_succ]
    refine' wpAnyH_take (i := 15) (oi := _) (v := _) ?hic18 (by kernel_rfl) ?hfc18 ?hrc18 ?hQc18 ?hyc18 (hSc1) ?restc18
    case hic18 => (simp only [List.getElem?_toArray, List.getElem?_cons_zero, List.getElem?_cons_succ]; rfl)
    case hfc18 => kernel_rfl
    case hrc18 => kernel_rfl
    case hQc18 => exact fun _ _ _ h => h
    case hyc18 => refine Or.inl ⟨by rfl, ?_⟩; intro W hSw; go_simp; try with_reducible rfl
    try simp only [Act.put, List.setIfInBounds_toArray, List.set_cons_zero, List.set_cons_succ]
    refine' wpAnyH_take (i := 16) (oi := _) (v := _) ?hic19 (by kernel_rfl) ?hfc19 ?hrc19 ?hQc19 ?hyc19 (hSc1) ?restc19
    case hic19 => (simp only [List.getElem?_toArray, List.getElem?_cons_zero, List.getElem?_cons_succ]; rfl)
    case hfc19 => kernel_rfl
    case hrc19 => kernel_rfl
    case hQc19 => exact fun _ _ _ h => h
    case hyc19 => refine Or.inl ⟨by rfl, ?_⟩; intro W hSw; go_simp; try with_reducible rfl
    try simp only [Act.put, List.setIfInBounds_toArray, List.set_cons_zero, List.set_cons_succ]
    refine' wpAnyH_take (i := 17) (oi := _) (v := undef) ?hic20 (by kernel_rfl) ?hfc20 ?hrc20 ?hQc20 ?hyc20 (hSc1) ?restc20
    case hic20 => (simp only [List.getElem?_toArray, List.getElem?_cons_zero, List.getElem?_cons_succ]; rfl)
    case hfc20 => kernel_rfl
    case hrc20 => kernel_rfl
    case hQc20 => exact fun _ _ _ h => h
    case hyc20 => exact Or.inr ⟨by rfl, rfl⟩
    try simp only [Act.put, List.setIfInBounds_toArray, List.set_cons_zero, List.set_cons_succ]
    refine' wpAnyH_take (i := 18) (oi := _) (v := undef) ?hic21 (by kernel_rfl) ?hfc21 ?hrc21 ?hQc21 ?hyc21 (hSc1) ?restc21
    case hic21 => (simp only [List.getElem?_toArray, List.getElem?_cons_zero, List.getElem?_cons_succ]; rfl)
    case hfc21 => kernel_rfl
    case hrc21 => kernel_rfl
    case hQc21 => exact fun _ _ _ h => h
    case hyc21 => exact Or.inr ⟨by rfl, rfl⟩
    try simp only [Act.put, List.setIfInBounds_toArray, List.set_cons_zero, List.set_cons_succ]
    refine' wpAnyH_take (i := 19) (oi := _) (v := undef) ?hic22 (by kernel_rfl) ?hfc22 ?hrc22 ?hQc22 ?hyc22 (hSc1) ?restc22
    case hic22 => (simp only [List.getElem?_toArray, List.getElem?_cons_zero, List.getElem?_cons_succ]; rfl)
    case hfc22 => kernel_rfl
    case hrc22 => kernel_rfl
    case hQc22 => exact fun _ _ _ h => h
    case hyc22 => exact Or.inr ⟨by rfl, rfl⟩
    try simp only [Act.put, List.setIfInBounds_toArray, List.set_cons_zero, List.set_cons_succ]
    refine' wpAnyH_take (i := 20) (oi := _) (v := undef) ?hic23 (by kernel_rfl) ?hfc23 ?hrc23 ?hQc23 ?hyc23 (hSc1) ?restc23
    case hic23 => (simp only [List.getElem?_toArray, List.getElem?_cons_zero, List.getElem?_cons_succ]; rfl)
    case hfc23 => kernel_rfl
    case hrc23 => kernel_rfl
    case hQc23 => exact fun _ _ _ h => h
    case hyc23 => exact Or.inr ⟨by rfl, rfl⟩
    try simp only [Act.put, List.setIfInBounds_toArray, List.set_cons_zero, List.set_cons_succ]
    refine' wpAnyH_take (i := 21) (oi := _) (v := undef) ?hic24 (by kernel_rfl) ?hfc24 ?hrc24 ?hQc24 ?hyc24 (hSc1) ?restc24
    case hic24 => (simp only [List.getElem?_toArray, List.getElem?_cons_zero, List.getElem?_cons_succ]; rfl)
    case hfc24 => kernel_rfl
    case hrc24 => kernel_rfl
    case hQc24 => exact fun _ _ _ h => h
    case hyc24 => exact Or.inr ⟨by rfl, rfl⟩
    try simp only [Act.put, List.setIfInBounds_toArray, List.set_cons_zero, List.set_cons_succ]
    refine' wpAnyH_take (i := 22) (oi := _) (v := undef) ?hic25 (by kernel_rfl) ?hfc25 ?hrc25 ?hQc25 ?hyc25 (hSc1) ?restc25
    case hic25 => (simp only [List.getElem?_toArray, List.getElem?_cons_zero, List.getElem?_cons_succ]; rfl)
    case hfc25 => kernel_rfl
    case hrc25 => kernel_rfl
    case hQc25 => exact fun _ _ _ h => h
    case hyc25 => exact Or.inr ⟨by rfl, rfl⟩
    try simp only [Act.put, List.setIfInBounds_toArray, List.set_cons_zero, List.set_cons_succ]
    refine' wpAnyH_take (i := 23) (oi := _) (v := undef) ?hic26 (by kernel_rfl) ?hfc26 ?hrc26 ?hQc26 ?hyc26 (hSc1) ?restc26
    case hic26 => (simp only [List.getElem?_toArray, List.getElem?_cons_zero, List.getElem?_cons_succ]; rfl)
    case hfc26 => kernel_rfl
    case hrc26 => kernel_rfl
    case hQc26 => exact fun _ _ _ h => h
    case hyc26 => exact Or.inr ⟨by rfl, rfl⟩
    try simp only [Act.put, List.setIfInBounds_toArray, List.set_cons_zero, List.set_cons_succ]
    refine' wpAnyH_take (i := 24) (oi := _) (v := undef) ?hic27 (by kernel_rfl) ?hfc27 ?hrc27 ?hQc27 ?hyc27 (hSc1) ?restc27
    case hic27 => (simp only [List.getElem?_toArray, List.getElem?_cons_zero, List.getElem?_cons_succ]; rfl)
    case hfc27 => kernel_rfl
    case hrc27 => kernel_rfl
    case hQc27 => exact fun _ _ _ h => h
    case hyc27 => exact Or.inr ⟨by rfl, rfl⟩
    try simp only [Act.put, List.setIfInBounds_toArray, List.set_cons_zero, List.set_cons_succ]
    refine' wpAnyH_take (i := 25) (oi := _) (v := undef) ?hic28 (by kernel_rfl) ?hfc28 ?hrc28 ?hQc28 ?hyc28 (hSc1) ?restc28
    case hic28 => (simp only [List.getElem?_toArray, List.getElem?_cons_zero, List.getElem?_cons_succ]; rfl)
    case hfc28 => kernel_rfl
    case hrc28 => kernel_rfl
    case hQc28 => exact fun _ _ _ h => h
    case hyc28 => exact Or.inr ⟨by rfl, rfl⟩
    try simp only [Act.put, List.setIfInBounds_toArray, List.set_cons_zero, List.set_cons_succ]
    refine' wpAnyH_take (i := 26) (oi := _) (v := undef) ?hic29 (by kernel_rfl) ?hfc29 ?hrc29 ?hQc29 ?hyc29 (hSc1) ?restc29
    case hic29 => (simp only [List.getElem?_toArray, List.getElem?_cons_zero, List.getElem?_cons_succ]; rfl)
    case hfc29 => kernel_rfl
    case hrc29 => kernel_rfl
    case hQc29 => exact fun _ _ _ h => h
    case hyc29 => exact Or.inr ⟨by rfl, rfl⟩
    try simp only [Act.put, List.setIfInBounds_toArray, List.set_cons_zero, List.set_cons_succ]
    refine' wpAnyH_take (i := 27) (oi := _) (v := undef) ?hic30 (by kernel_rfl) ?hfc30 ?hrc30 ?hQc30 ?hyc30 (hSc1) ?restc30
    case hic30 => (simp only [List.getElem?_toArray, List.getElem?_cons_zero, List.getElem?_cons_succ]; rfl)
    case hfc30 => kernel_rfl
    case hrc30 => kernel_rfl
    case hQc30 => exact fun _ _ _ h => h
    case hyc30 => exact Or.inr ⟨by rfl, rfl⟩
    try simp only [Act.put, List.setIfInBounds_toArray, List.set_cons_zero, List.set_cons_succ]
    refine' wpAnyH_take (i := 28) (oi := _) (v := undef) ?hic31 (by kernel_rfl) ?hfc31 ?hrc31 ?hQc31 ?hyc31 (hSc1) ?restc31
    case hic31 => (simp only [List.getElem?_toArray, List.getElem?_cons_zero, List.getElem?_cons_succ]; rfl)
    case hfc31 => kernel_rfl
    case hrc31 => kernel_rfl
    case hQc31 => exact fun _ _ _ h => h
    case hyc31 => exact Or.inr ⟨by rfl, rfl⟩
    try simp only [Act.put, List.setIfInBounds_toArray, List.set_cons_zero, List.set_cons_succ]
    refine' wpAnyH_take (i := 29) (oi := _) (v := _) ?hic32 (by kernel_rfl) ?hfc32 ?hrc32 ?hQc32 ?hyc32 (hSc1) ?restc32
    case hic32 => (simp only [List.getElem?_toArray, List.getElem?_cons_zero, List.getElem?_cons_succ]; rfl)
    case hfc32 => kernel_rfl
    case hrc32 => kernel_rfl
    case hQc32 => exact fun _ _ _ h => h
    case hyc32 => refine Or.inl ⟨by rfl, ?_⟩; intro W hSw; go_simp; try with_reducible rfl
    try simp only [Act.put, List.setIfInBounds_toArray, List.set_cons_zero, List.set_cons_succ]
    refine' wpAnyH_take (i := 30) (oi := _) (v := _) ?hic33 (by kernel_rfl) ?hfc33 ?hrc33 ?hQc33 ?hyc33 (hSc1) ?restc33
    case hic33 => (simp only [List.getElem?_toArray, List.getElem?_cons_zero, List.getElem?_cons_succ]; rfl)
    case hfc33 => kernel_rfl
    case hrc33 => kernel_rfl
    case hQc33 => exact fun _ _ _ h => h
    case hyc33 => refine Or.inl ⟨by rfl, ?_⟩; intro W hSw; go_simp; try with_reducible rfl
    try simp only [Act.put, List.setIfInBounds_toArray, List.set_cons_zero, List.set_cons_succ]
    refine wpAnyH_done (by kernel_rfl) ?_ _
    go_wp2_with fail
    go_ret
    exact ⟨⟨true, rfl, fun e => by cases e⟩, by rw [← HG.out]; exact below_on HB.out (Nat.le_refl _) hSc1⟩
  have i3 : ¬ ((100 : Int) < (s : Int)) := by omega
  have hSd1 : Below w1.heap.size w1 w1.drew := (Below.refl _ _).drew
  refine wp_region_held_drew (S := fun W => Below w1.heap.size w1 W) (by kernel_rfl) (hSd1) (fun _ => ?_)
  change wpAnyH _ _ _ _ _ _ _ _ w1.drew
  generalize w1.drew = Wd2 at hSd1 ⊢
  refine' wpAnyH_take (i := 0) (oi := _) (v := _) ?hid3 (by kernel_rfl) ?hfd3 ?hrd3 ?hQd3 ?hyd3 (hSd1) ?restd3
  case hid3 => (simp only [List.getElem?_toArray, List.getElem?_cons_zero]; rfl)
  case hfd3 => kernel_rfl
  case hrd3 => kernel_rfl
  case hQd3 => exact fun _ _ _ h => h
  case hyd3 => refine Or.inl ⟨by rfl, ?_⟩; intro W hSw; go_simp; try with_reducible rfl
  try simp only [Act.put, List.setIfInBounds_toArray, List.set_cons_zero, List.set_cons_succ]
  refine' wpAnyH_take (i := 1) (oi := _) (v := _) ?hid4 (by kernel_rfl) ?hfd4 ?hrd4 ?hQd4 ?hyd4 (hSd1) ?restd4
  case hid4 => (simp only [List.getElem?_toArray, List.getElem?_cons_zero, List.getElem?_cons_succ]; rfl)
  case hfd4 => kernel_rfl
  case hrd4 => kernel_rfl
  case hQd4 => exact fun _ _ _ h => h
  case hyd4 => refine Or.inl ⟨by rfl, ?_⟩; intro W hSw; have hcc := HC0.out W hSw; go_simp; try with_reducible rfl
  try simp only [Act.put, List.setIfInBounds_toArray, List.set_cons_zero, List.set_cons_succ]
  refine' wpAnyH_take (i := 2) (oi := _) (v := _) ?hid5 (by kernel_rfl) ?hfd5 ?hrd5 ?hQd5 ?hyd5 (hSd1) ?restd5
  case hid5 => (simp only [List.getElem?_toArray, List.getElem?_cons_zero, List.getElem?_cons_succ]; rfl)
  case hfd5 => kernel_rfl
  case hrd5 => kernel_rfl
  case hQd5 => exact fun _ _ _ h => h
  case hyd5 => refine Or.inl ⟨by rfl, ?_⟩; intro W hSw; go_simp; try with_reducible rfl
  try simp only [Act.put, List.setIfInBounds_toArray, List.set_cons_zero, List.set_cons_succ]
  refine' wpAnyH_take (i := 3) (oi := _) (v := _) ?hid6 (by kernel_rfl) ?hfd6 ?hrd6 ?hQd6 ?hyd6 (hSd1) ?restd6
  case hid6 => (simp only [List.getElem?_toArray, List.getElem?_cons_zero, List.getElem?_cons_succ]; rfl)
  case hfd6 => kernel_rfl
  case hrd6 => kernel_rfl
  case hQd6 => exact fun _ _ _ h => h
  case hyd6 => refine Or.inl ⟨by rfl, ?_⟩; intro W hSw; go_simp; try with_reducible rfl
  try simp only [Act.put, List.setIfInBounds_toArray, List.set_cons_zero, List.set_cons_succ]
  refine' wpAnyH_take (i := 4) (oi := _) (v := _) ?hid7 (by kernel_rfl) ?hfd7 ?hrd7 ?hQd7 ?hyd7 (hSd1) ?restd7
  case hid7 => (simp only [List.getElem?_toArray, List.getElem?_cons_zero, List.getElem?_cons_succ]; rfl)
  case hfd7 => kernel_rfl
  case hrd7 => kernel_rfl
  case hQd7 => exact fun _ _ _ h => h
  case hyd7 => refine Or.inl ⟨by rfl, ?_⟩; intro W hSw; go_simp; try with_reducible rfl
  try simp only [Act.put, List.setIfInBounds_toArray, List.set_cons_zero, List.set_cons_succ]
  refine' wpAnyH_take (i := 5) (oi := _) (v := _) ?hid8 (by kernel_rfl) ?hfd8 ?hrd8 ?hQd8 ?hyd8 (hSd1) ?restd8
  case hid8 => (simp only [List.getElem?_toArray, List.getElem?_cons_zero, List.getElem?_cons_succ]; rfl)
  case hfd8 => kernel_rfl
  case hrd8 => kernel_rfl
  case hQd8 => exact fun _ _ _ h => h
  case hyd8 => refine Or.inl ⟨by rfl, ?_⟩; intro W hSw; go_simp; try with_reducible rfl
  try simp only [Act.put, List.setIfInBounds_toArray, List.set_cons_zero, List.set_cons_succ]
  refine' wpAnyH_take (i := 6) (oi := _) (v := _) ?hid9 (by kernel_rfl) ?hfd9 ?hrd9 ?hQd9 ?hyd9 (hSd1) ?restd9
  case hid9 => (simp only [List.getElem?_toArray, List.getElem?_cons_zero, List.getElem?_cons_succ]; rfl)
  case hfd9 => kernel_rfl
  case hrd9 => kernel_rfl
  case hQd9 => exact fun _ _ _ h => h
  case hyd9 => refine Or.inl ⟨by rfl, ?_⟩; intro W hSw; have hcc := HC1.out W hSw; go_simp; try with_reducible rfl
  try simp only [Act.put, List.setIfInBounds_toArray, List.set_cons_zero, List.set_cons_succ]
  refine' wpAnyH_take (i := 7) (oi := _) (v := _) ?hid10 (by kernel_rfl) ?hfd10 ?hrd10 ?hQd10 ?hyd10 (hSd1) ?restd10
  case hid10 => (simp only [List.getElem?_toArray, List.getElem?_cons_zero, List.getElem?_cons_succ]; rfl)
  case hfd10 => kernel_rfl
  case hrd10 => kernel_rfl
  case hQd10 => exact fun _ _ _ h => h
  case hyd10 => refine Or.inl ⟨by rfl, ?_⟩; intro W hSw; go_simp; try with_reducible rfl
  try simp only [Act.put, List.setIfInBounds_toArray, List.set_cons_zero, List.set_cons_succ]
  refine' wpAnyH_take (i := 8) (oi := _) (v := _) ?hid11 (by kernel_rfl) ?hfd11 ?hrd11 ?hQd11 ?hyd11 (hSd1) ?restd11
  case hid11 => (simp only [List.getElem?_toArray, List.getElem?_cons_zero, List.getElem?_cons_succ]; rfl)
  case hfd11 => kernel_rfl
  case hrd11 => kernel_rfl
  case hQd11 => exact fun _ _ _ h => h
  case hyd11 => refine Or.inl ⟨by rfl, ?_⟩; intro W hSw; go_simp; try with_reducible rfl
  try simp only [Act.put, List.setIfInBounds_toArray, List.set_cons_zero, List.set_cons_succ]
  refine' wpAnyH_take (i := 9) (oi := _) (v := _) ?hid12 (by kernel_rfl) ?hfd12 ?hrd12 ?hQd12 ?hyd12 (hSd1) ?restd12
  case hid12 => (simp only [List.getElem?_toArray, List.getElem?_cons_zero, List.getElem?_cons_succ]; rfl)
  case hfd12 => kernel_rfl
  case hrd12 => kernel_rfl
  case hQd12 => exact fun _ _ _ h => h
  case hyd12 => refine Or.inl ⟨by rfl, ?_⟩; intro W hSw; go_simp; try with_reducible rfl
  try simp only [Act.put, List.setIfInBounds_toArray, List.set_cons_zero, List.set_cons_succ]
  refine' wpAnyH_take (i := 10) (oi := _) (v := _) ?hid13 (by kernel_rfl) ?hfd13 ?hrd13 ?hQd13 ?hyd13 (hSd1) ?restd13
  case hid13 => (simp only [List.getElem?_toArray, List.getElem?_cons_zero, List.getElem?_cons_succ]; rfl)
  case hfd13 => kernel_rfl
  case hrd13 => kernel_rfl
  case hQd13 => exact fun _ _ _ h => h
  case hyd13 => refine Or.inl ⟨by rfl, ?_⟩; intro W hSw; go_simp; try with_reducible rfl
  try simp only [Act.put, List.setIfInBounds_toArray, List.set_cons_zero, List.set_cons_succ]
  refine' wpAnyH_take (i := 11) (oi := _) (v := _) ?hid14 (by kernel_rfl) ?hfd14 ?hrd14 ?hQd14 ?hyd14 (hSd1) ?restd14
  case hid14 => (simp only [List.getElem?_toArray, List.getElem?_cons_zero, List.getElem?_cons_succ]; rfl)
  case hfd14 => kernel_rfl
  case hrd14 => kernel_rfl
  case hQd14 => exact fun _ _ _ h => h
  case hyd14 => refine Or.inl ⟨by rfl, ?_⟩; intro W hSw; go_simp; try with_reducible rfl
  try simp only [Act.put, List.setIfInBounds_toArray, List.set_cons_zero, List.set_cons_succ]
  refine' wpAnyH_take (i := 12) (oi := _) (v := _) ?hid15 (by kernel_rfl) ?hfd15 ?hrd15 ?hQd15 ?hyd15 (hSd1) ?restd15
  case hid15 => (simp only [List.getElem?_toArray, List.getElem?_cons_zero, List.getElem?_cons_succ]; rfl)
  case hfd15 => kernel_rfl
  case hrd15 => kernel_rfl
  case hQd15 => exact fun _ _ _ h => h
  case hyd15 => refine Or.inl ⟨by rfl, ?_⟩; intro W hSw; have hcc := HC4.out W hSw; go_simp; try with_reducible rfl
  try simp only [Act.put, List.setIfInBounds_toArray, List.set_cons_zero, List.set_cons_succ]
  refine' wpAnyH_take (i := 13) (oi := _) (v := _) ?hid16 (by kernel_rfl) ?hfd16 ?hrd16 ?hQd16 ?hyd16 (hSd1) ?restd16
  case hid16 => (simp only [List.getElem?_toArray, List.getElem?_cons_zero, List.getElem?_cons_succ]; rfl)
  case hfd16 => kernel_rfl
  case hrd16 => kernel_rfl
  case hQd16 => exact fun _ _ _ h => h
  case hyd16 => refine Or.inl ⟨by rfl, ?_⟩; intro W hSw; go_simp; try with_reducible rfl
  try simp only [Act.put, List.setIfInBounds_toArray, List.set_cons_zero, List.set_cons_succ]
  refine' wpAnyH_take (i := 14) (oi := _) (v := _) ?hid17 (by kernel_rfl) ?hfd17 ?hrd17 ?hQd17 ?hyd17 (hSd1) ?restd17
  case hid17 => (simp only [List.getElem?_toArray, List.getElem?_cons_zero, List.getElem?_cons_succ]; rfl)
  case hfd17 => kernel_rfl
  case hrd17 => kernel_rfl
  case hQd17 => exact fun _ _ _ h => h
  case hyd17 => refine Or.inl ⟨by rfl, ?_⟩; intro W hSw; go_simp; try with_reducible rfl
  try simp only [Act.put, List.setIfInBounds_toArray, List.set_cons_zero, List.set_cons_succ]
  refine' wpAnyH_take (i := 15) (oi := _) (v := _) ?hid18 (by kernel_rfl) ?hfd18 ?hrd18 ?hQd18 ?hyd18 (hSd1) ?restd18
  case hid18 => (simp only [List.getElem?_toArray, List.getElem?_cons_zero, List.getElem?_cons_succ]; rfl)
  case hfd18 => kernel_rfl
  case hrd18 => kernel_rfl
  case hQd18 => exact fun _ _ _ h => h
  case hyd18 => refine Or.inl ⟨by rfl, ?_⟩; intro W hSw; go_simp; try with_reducible rfl
  try simp only [Act.put, List.setIfInBounds_toArray, List.set_cons_zero, List.set_cons_succ]
  refine' wpAnyH_take (i := 16) (oi := _) (v := _) ?hid19 (by kernel_rfl) ?hfd19 ?hrd19 ?hQd19 ?hyd19 (hSd1) ?restd19
  case hid19 => (simp only [List.getElem?_toArray, List.getElem?_cons_zero, List.getElem?_cons_succ]; rfl)
  case hfd19 => kernel_rfl
  case hrd19 => kernel_rfl
  case hQd19 => exact fun _ _ _ h => h
  case hyd19 => refine Or.inl ⟨by rfl, ?_⟩; intro W hSw; go_simp; try with_reducible rfl
  try simp only [Act.put, List.setIfInBounds_toArray, List.set_cons_zero, List.set_cons_succ]
  refine' wpAnyH_take (i := 17) (oi := _) (v := _) ?hid20 (by kernel_rfl) ?hfd20 ?hrd20 ?hQd20 ?hyd20 (hSd1) ?restd20
  case hid20 => (simp only [List.getElem?_toArray, List.getElem?_cons_zero, List.getElem?_cons_succ]; rfl)
  case hfd20 => kernel_rfl
  case hrd20 => kernel_rfl
  case hQd20 => exact fun _ _ _ h => h
  case hyd20 => refine Or.inl ⟨by rfl, ?_⟩; intro W hSw; go_simp; try with_reducible rfl
  try simp only [Act.put, List.setIfInBounds_toArray, List.set_cons_zero, List.set_cons_succ]
  refine' wpAnyH_take (i := 18) (oi := _) (v := _) ?hid21 (by kernel_rfl) ?hfd21 ?hrd21 ?hQd21 ?hyd21 (hSd1) ?restd21
  case hid21 => (simp only [List.getElem?_toArray, List.getElem?_cons_zero, List.getElem?_cons_succ]; rfl)
  case hfd21 => kernel_rfl
  case hrd21 => kernel_rfl
  case hQd21 => exact fun _ _ _ h => h
  case hyd21 => refine Or.inl ⟨by rfl, ?_⟩; intro W hSw; have hcc := HC0.out W hSw; go_simp; try with_reducible rfl
  try simp only [Act.put, List.setIfInBounds_toArray, List.set_cons_zero, List.set_cons_succ]
  refine' wpAnyH_take (i := 20) (oi := _) (v := _) ?hid22 (by kernel_rfl) ?hfd22 ?hrd22 ?hQd22 ?hyd22 (hSd1) ?restd22
  case hid22 => (simp only [List.getElem?_toArray, List.getElem?_cons_zero, List.getElem?_cons_succ]; rfl)
  case hfd22 => kernel_rfl
  case hrd22 => kernel_rfl
  case hQd22 => exact fun _ _ _ h => h
  case hyd22 => refine Or.inl ⟨by rfl, ?_⟩; intro W hSw; go_simp; try with_reducible rfl
  try simp only [Act.put, List.setIfInBounds_toArray, List.set_cons_zero, List.set_cons_succ]
  refine' wpAnyH_take (i := 21) (oi := _) (v := _) ?hid23 (by kernel_rfl) ?hfd23 ?hrd23 ?hQd23 ?hyd23 (hSd1) ?restd23
  case hid23 => (simp only [List.getElem?_toArray, List.getElem?_cons_zero, List.getElem?_cons_succ]; rfl)
  case hfd23 => kernel_rfl
  case hrd23 => kernel_rfl
  case hQd23 => exact fun _ _ _ h => h
  case hyd23 => refine Or.inl ⟨by rfl, ?_⟩; intro W hSw; have hcc := HC1.out W hSw; go_simp; try with_reducible rfl
  try simp only [Act.put, List.setIfInBounds_toArray, List.set_cons_zero, List.set_cons_succ]
  refine' wpAnyH_take (i := 24) (oi := _) (v := _) ?hid24 (by kernel_rfl) ?hfd24 ?hrd24 ?hQd24 ?hyd24 (hSd1) ?restd24
  case hid24 => (simp only [List.getElem?_toArray, List.getElem?_cons_zero, List.getElem?_cons_succ]; rfl)
  case hfd24 => kernel_rfl
  case hrd24 => kernel_rfl
  case hQd24 => exact fun _ _ _ h => h
  case hyd24 => refine Or.inl ⟨by rfl, ?_⟩; intro W hSw; go_simp; try with_reducible rfl
  try simp only [Act.put, List.setIfInBounds_toArray, List.set_cons_zero, List.set_cons_succ]
  refine' wpAnyH_take (i := 25) (oi := _) (v := _) ?hid25 (by kernel_rfl) ?hfd25 ?hrd25 ?hQd25 ?hyd25 (hSd1) ?restd25
  case hid25 => (simp only [List.getElem?_toArray, List.getElem?_cons_zero, List.getElem?_cons_succ]; rfl)
  case hfd25 => kernel_rfl
  case hrd25 => kernel_rfl
  case hQd25 => exact fun _ _ _ h => h
  case hyd25 => refine Or.inl ⟨by rfl, ?_⟩; intro W hSw; have hcc := HC3.out W hSw; go_simp; try with_reducible rfl
  try simp only [Act.put, List.setIfInBounds_toArray, List.set_cons_zero, List.set_cons_succ]
  refine' wpAnyH_take (i := 26) (oi := _) (v := _) ?hid26 (by kernel_rfl) ?hfd26 ?hrd26 ?hQd26 ?hyd26 (hSd1) ?restd26
  case hid26 => (simp only [List.getElem?_toArray, List.getElem?_cons_zero, List.getElem?_cons_succ]; rfl)
  case hfd26 => kernel_rfl
  case hrd26 => kernel_rfl
  case hQd26 => exact fun _ _ _ h => h
  case hyd26 => refine Or.inl ⟨by rfl, ?_⟩; intro W hSw; go_simp; try with_reducible rfl
  try simp only [Act.put, List.setIfInBounds_toArray, List.set_cons_zero, List.set_cons_succ]
  refine wpAnyH_ready (rs := [19]) (by kernel_rfl) (by simp) ?_
  refine' (AllReadyH.cons (o := _) ?hid27 (fun K hK => ?_) AllReadyH.nil)
  case hid27 => (simp only [List.getElem?_toArray, List.getElem?_cons_zero, List.getElem?_cons_succ]; rfl)
  go_simp
  go_at_call 31
  refine (CR.out (by omega) Wd2 hSd1).mono ?_
  rintro e Wd30 ⟨N1, rfl, hN1, hbd28⟩
  have hBd29 := below_on hSd1 (Nat.le_refl _) hbd28
  refine hK.out _ _ (hBd29) (fun _ => ?_)
  clear hK K
  try simp only [Act.put, List.setIfInBounds_toArray, List.set_cons_zero, List.set_cons_succ]
  refine wpAnyH_ready (rs := [22]) (by kernel_rfl) (by simp) ?_
  refine' (AllReadyH.cons (o := _) ?hid31 (fun K hK => ?_) AllReadyH.nil)
  case hid31 => (simp only [List.getElem?_toArray, List.getElem?_cons_zero, List.getElem?_cons_succ]; rfl)
  go_simp
  go_at_call 31
  refine (CS.out (by omega) Wd30 hBd29).mono ?_
  rintro e Wd34 ⟨N2, rfl, hN2, hbd32⟩
  have hBd33 := below_on hBd29 (Nat.le_refl _) hbd32
  refine hK.out _ _ (hBd33) (fun _ => ?_)
  clear hK K
  try simp only [Act.put, List.setIfInBounds_toArray, List.set_cons_zero, List.set_cons_succ]
  refine' wpAnyH_take (i := 23) (oi := _) (v := .int .i64 ((N1 + N2 : Nat) : Int)) ?hid35 (by kernel_rfl) ?hfd35 ?hrd35 ?hQd35 ?hyd35 (hBd33) ?restd35
  case hid35 => (simp only [List.getElem?_toArray, List.getElem?_cons_zero, List.getElem?_cons_succ]; rfl)
  case hfd35 => kernel_rfl
  case hrd35 => kernel_rfl
  case hQd35 => exact fun _ _ _ h => h
  case hyd35 => refine Or.inl ⟨by rfl, ?_⟩; intro W hSw; have hq : IntKind.i64.wrap ((N1 : Int) + (N2 : Int)) = ((N1 + N2 : Nat) : Int) := (by rw [IntKind.wrap_i64]; omega); exact add_op (.tmp 22) (.tmp 25) (by rfl) (by rfl) (by rfl) hq
  try simp only [Act.put, List.setIfInBounds_toArray, List.set_cons_zero, List.set_cons_succ]
  refine' wpAnyH_take (i := 27) (oi := _) (v := .int .i64 ((N1 + N2 + k : Nat) : Int)) ?hid36 (by kernel_rfl) ?hfd36 ?hrd36 ?hQd36 ?hyd36 (hBd33) ?restd36
  case hid36 => (simp only [List.getElem?_toArray, List.getElem?_cons_zero, List.getElem?_cons_succ]; rfl)
  case hfd36 => kernel_rfl
  case hrd36 => kernel_rfl
  case hQd36 => exact fun _ _ _ h => h
  case hyd36 => refine Or.inl ⟨by rfl, ?_⟩; intro W hSw; have hq : IntKind.i64.wrap (((N1 + N2 : Nat) : Int) + (k : Int)) = ((N1 + N2 + k : Nat) : Int) := (by rw [IntKind.wrap_i64]; omega); exact add_op (.tmp 26) (.tmp 29) (by rfl) (by rfl) (by rfl) hq
  try simp only [Act.put, List.setIfInBounds_toArray, List.set_cons_zero, List.set_cons_succ]
  refine' wpAnyH_take (i := 28) (oi := _) (v := .bool (decide ((20000 : Int) < ((N1 + N2 + k : Nat) : Int)))) ?hid37 (by kernel_rfl) ?hfd37 ?hrd37 ?hQd37 ?hyd37 (hBd33) ?restd37
  case hid37 => (simp only [List.getElem?_toArray, List.getElem?_cons_zero, List.getElem?_cons_succ]; rfl)
  case hfd37 => kernel_rfl
  case hrd37 => kernel_rfl
  case hQd37 => exact fun _ _ _ h => h
  case hyd37 => refine Or.inl ⟨by rfl, ?_⟩; intro W hSw; exact gtr_op (.tmp 30) (.const (.int .i64 20000)) (by rfl) (by rfl) (by rfl)
  try simp only [Act.put, List.setIfInBounds_toArray, List.set_cons_zero, List.set_cons_succ]
  refine' wpAnyH_take (i := 29) (oi := _) (v := _) ?hid38 (by kernel_rfl) ?hfd38 ?hrd38 ?hQd38 ?hyd38 (hBd33) ?restd38
  case hid38 => (simp only [List.getElem?_toArray, List.getElem?_cons_zero, List.getElem?_cons_succ]; rfl)
  case hfd38 => kernel_rfl
  case hrd38 => kernel_rfl
  case hQd38 => exact fun _ _ _ h => h
  case hyd38 => refine Or.inl ⟨by rfl, ?_⟩; intro W hSw; go_simp; try with_reducible rfl
  try simp only [Act.put, List.setIfInBounds_toArray, List.set_cons_zero, List.set_cons_succ]
  refine' wpAnyH_take (i := 30) (oi := _) (v := _) ?hid39 (by kernel_rfl) ?hfd39 ?hrd39 ?hQd39 ?hyd39 (hBd33) ?restd39
  case hid39 => (simp only [List.getElem?_toArray, List.getElem?_cons_zero, List.getElem?_cons_succ]; rfl)
  case hfd39 => kernel_rfl
  case hrd39 => kernel_rfl
  case hQd39 => exact fun _ _ _ h => h
  case hyd39 => refine Or.inl ⟨by rfl, ?_⟩; intro W hSw; go_simp; try with_reducible rfl
  try simp only [Act.put, List.setIfInBounds_toArray, List.set_cons_zero, List.set_cons_succ]
  refine wpAnyH_done (by kernel_rfl) ?_ _
  have hfin : decide ((20000 : Int) < (N1 : Int) + (N2 : Int) + (k : Int)) = false → n ≤ 40 ∧ m ≤ 40 ∧ s ≤ 100 ∧ n + tot R + (m + tot S) + k ≤ 20000 := fun e => by
    have e' := of_decide_eq_false e
    have a1 := hN1.1 (by omega)
    have a2 := hN2.1 (by omega)
    omega
  have HF := Lib.hid hfin
  clear hfin hN1 hN2
  go_wp2_with fail
  go_ret
  exact ⟨⟨_, rfl, HF.out⟩, by rw [← HG.out]; exact below_on HB.out (Nat.le_refl _) hBd33⟩
end

end Go.Proofs.YtnaebjdccngeoaaDoor

/-
  clashes.downPath: the root, and what a path leads to; or a clash.
-/
namespace Go.Proofs.YtnaebjdccngeoaaDoor
open Go.RowKit

theorem nth_of_len {ys : List Nat} {q j : Nat} (h : ys.length = 32 * q) (hj : j < q) : (nth ys j).length = 32 := nth_length h hj
theorem run_take_sumsN {ad : Addr} {n c k : Nat} (hk : k ≤ n) (hc : n ≤ c) (W : World) :
    (Instr.slice 24 (.slice (some ad) n c) none (some (.int .i64 (k : Int))) none).run Tryd.prog W = .ok (.slice (some ad) k c) W := run_take_sums hk hc W
/-- A pair that a variable holds, as a load. -/
theorem load_pair_op {o : Oper} {a : Act} {W : World} {g : Nat} {T : TypeId} {s : List Nat} (p : Operand) (ho : o.op = .load 63 p) (hp : a.eval p = .pointer (some ⟨g, 0, none⟩)) (hs : s.length = 64) (h : BArr W g T s) : (execOp a.eval o).run Tryd.prog W = .ok (.value (sv s)) W := by
  unfold execOp
  simp only [ho, hp, Instr.loadAt, Instr.sureAddr, Sem.run_bind, Sem.run_pure, Result.andThen_ok, run_load_pairC W ⟨g, 0, none⟩ s hs h.at_]
theorem load_sum_op {o : Oper} {a : Act} {W : World} {ad : Addr} {s : List Nat} (p : Operand) (ho : o.op = .load 36 p) (hp : a.eval p = .pointer (some ad)) (hs : s.length = 32) (h : At W ad s) : (execOp a.eval o).run Tryd.prog W = .ok (.value (sv s)) W := by
  unfold execOp
  simp only [ho, hp, Instr.loadAt, Instr.sureAddr, Sem.run_bind, Sem.run_pure, Result.andThen_ok, run_load_sum W ad s hs h]
theorem but_barr {S : Nat → Prop} {a w : World} (h : But S a w) {g : Nat} {T : TypeId} {xs : List Nat} (hc : BArr a g T xs) (hS : ¬ S g) : BArr w g T xs := (h.block g hc.lt hS).trans hc
theorem but_at {S : Nat → Prop} {a w : World} (h : But S a w) {ad : Addr} {xs : List Nat} (hc : At a ad xs) (hS : ¬ S ad.block) : At w ad xs := fun j x hx => but_cell h (hc j x hx) (by rw [block_add]; exact hS)

theorem sub_op {o : Oper} {a : Act} {W : World} {x y : Int} {z : Int} (p q : Operand) (ho : o.op = .binOp .sub 3 p q 3) (hp : a.eval p = .int .i64 x) (hq : a.eval q = .int .i64 y) (hz : IntKind.i64.wrap (x - y) = z) :
    (execOp a.eval o).run Tryd.prog W = .ok (.value (.int .i64 z)) W := by
  unfold execOp
  rw [ho]
  simp only [hp, hq]
  go_simp
  try rw [hz]
  try rfl

section
variable {w : World} {A : Addr} {B P : Option Addr} {n c m d q r at_ : Nat} {R : List (List Nat)} {b ys : List Nat}

set_option maxRecDepth 100000 in
set_option maxHeartbeats 8000000 in
theorem dpath_one (E1 : Ent w (some A) 1 c R) (hB : Came w B m d b) (hm : m ≤ 20000) (hI : InS w P q ys) (_ : ∀ x ∈ ys, x < 256) (_ : q ≤ r) (_ : q = dep at_ 1) (hat : at_ < 1) (hk : Knows w) (hks : Starts w) :
    Calls Tryd.prog 62 #[.slice (some A) 1 c, .int .i64 (at_ : Int), .slice B m d, .slice P q r] w fun e w' => Told w.heap.size (sv (rtl R ++ leadF (nth ys) (leafL b) at_ 1 0)) (rtl R = leadF (nth ys) (leafL b) at_ 1 0 → R[at_]? = some b) e w' ∧ Below w.heap.size w w' := by
  obtain ⟨g, hg⟩ : ∃ g, w.heap.size = g := ⟨_, rfl⟩
  have f1 := BArr.new w 63 zero64
  have b1 := below_alloc w (.cells (bvs zero64).toArray 63)
  have e0 : (bvs zero64).toArray = #[.int .u8 0, .int .u8 0, .int .u8 0, .int .u8 0, .int .u8 0, .int .u8 0, .int .u8 0, .int .u8 0, .int .u8 0, .int .u8 0, .int .u8 0, .int .u8 0, .int .u8 0, .int .u8 0, .int .u8 0, .int .u8 0, .int .u8 0, .int .u8 0, .int .u8 0, .int .u8 0, .int .u8 0, .int .u8 0, .int .u8 0, .int .u8 0, .int .u8 0, .int .u8 0, .int .u8 0, .int .u8 0, .int .u8 0, .int .u8 0, .int .u8 0, .int .u8 0, .int .u8 0, .int .u8 0, .int .u8 0, .int .u8 0, .int .u8 0, .int .u8 0, .int .u8 0, .int .u8 0, .int .u8 0, .int .u8 0, .int .u8 0, .int .u8 0, .int .u8 0, .int .u8 0, .int .u8 0, .int .u8 0, .int .u8 0, .int .u8 0, .int .u8 0, .int .u8 0, .int .u8 0, .int .u8 0, .int .u8 0, .int .u8 0, .int .u8 0, .int .u8 0, .int .u8 0, .int .u8 0, .int .u8 0, .int .u8 0, .int .u8 0, .int .u8 0] := rfl
  rw [e0] at f1 b1
  obtain ⟨w1, hw1⟩ : ∃ x, x = w.alloc (.cells #[.int .u8 0, .int .u8 0, .int .u8 0, .int .u8 0, .int .u8 0, .int .u8 0, .int .u8 0, .int .u8 0, .int .u8 0, .int .u8 0, .int .u8 0, .int .u8 0, .int .u8 0, .int .u8 0, .int .u8 0, .int .u8 0, .int .u8 0, .int .u8 0, .int .u8 0, .int .u8 0, .int .u8 0, .int .u8 0, .int .u8 0, .int .u8 0, .int .u8 0, .int .u8 0, .int .u8 0, .int .u8 0, .int .u8 0, .int .u8 0, .int .u8 0, .int .u8 0, .int .u8 0, .int .u8 0, .int .u8 0, .int .u8 0, .int .u8 0, .int .u8 0, .int .u8 0, .int .u8 0, .int .u8 0, .int .u8 0, .int .u8 0, .int .u8 0, .int .u8 0, .int .u8 0, .int .u8 0, .int .u8 0, .int .u8 0, .int .u8 0, .int .u8 0, .int .u8 0, .int .u8 0, .int .u8 0, .int .u8 0, .int .u8 0, .int .u8 0, .int .u8 0, .int .u8 0, .int .u8 0, .int .u8 0, .int .u8 0, .int .u8 0, .int .u8 0] 63) := ⟨_, rfl⟩
  rw [← hw1] at f1 b1
  have s1 : w1.heap.size = g + 1 := by rw [hw1]; simp [hg]
  have HW := Lib.hid hw1
  have HG := Lib.hid hg
  have HE0 := Lib.hid e0
  have b01 := b1
  rw [hg] at f1 b1
  have H2 := Lib.hid (And.intro b1 (And.intro f1 s1))
  obtain ⟨Q, hQ⟩ : ∃ Q, rtl R ++ leadF (nth ys) (leafL b) at_ 1 0 = Q := ⟨_, rfl⟩
  have hal := hI.len
  have Ql : Q.length = 64 := by
    rw [← hQ, List.length_append, rtl_length, leadF_length _ _ (leafL_length _)]
  obtain ⟨ad, X, kx, qx, xs, eA, hxs, hcx, hX, kxl⟩ := E1.at_ (j := 0) (by omega)
  cases eA
  have eR : R = [xs] := by
    have hl := E1.len
    match R, hl with
    | [r], _ => cases hxs; rfl
  have a0 : at_ = 0 := by omega
  have CL := Lib.hid (show Calls Tryd.prog 87 #[.slice X kx qx, .slice B m d] w1 fun e w' => Told g (sv Q) (rtl R = leadF (nth ys) (leafL b) at_ 1 0 → R[at_]? = some b) e w' ∧ Below w1.heap.size w1 w' from
    (cleaf_any (hX.below b01) (hB.below b01) kxl hm (hk.below b01) (hks.below b01)).mono fun e w' ⟨h, hb'⟩ => ⟨(h.low (by omega)).imp (by rw [← hQ, eR, rtl_one, leadF_one _ _ (by omega)]) (fun h => by rw [eR, rtl_one, leadF_one _ _ (by omega), a0]; intro e; rw [h e]; rfl), hb'⟩)
  rw [add_zero'] at hcx
  have hcc : w1.cell? A = some (.slice X kx qx) := (b01.cell (World.block_lt_of_cell? w _ hcx)).trans hcx
  rw [hg, hQ]
  clear e0 hw1 hg hQ hk hks E1 eR hxs hcx hX b01 kxl f1 b1 s1 hal hI hB
  go_enter Tryd.func62, Tryd.ntmps62
  go_upto_region 1 with fail
  rw [← HW.out]
  rw [HG.out]
  go_wp2_with fail
  refine CL.out.mono ?_
  rintro e w2 ⟨hT, hb2⟩
  have hf := H2.out.2.1.below hb2
  have hz := below_on H2.out.1 (Nat.le_of_eq HG.out.symm) hb2
  rcases hT with ⟨rfl, hsame⟩ | ⟨u, rfl, hu⟩
  · have HS := Lib.hid (And.intro hsame hz)
    have HZ64 : zero64.length = 64 := rfl
    clear hsame hb2 hz
    go_wp2_with (with_reducible refine wpList_store_pairC rfl (.tmp 8) (.tmp 20) rfl g rfl zero64 Q HZ64 Ql hf rfl ?_)
    refine bodyPost_ret_by (results_cell_row (p := 8) (ty := 63) (by kernel_rfl) _ _ g 63 (bvs Q).toArray (0, 0) _ rfl (hf.setRow _) Tryd.underlying63 rfl (by rw [List.size_toArray, bvs_length, Ql]; exact sizePairC)) rfl ?_
    exact ⟨.inl ⟨rfl, HS.out.1⟩, below_setRow HS.out.2 (Nat.le_refl _) _⟩
  · have HU := Lib.hid (And.intro hu hz)
    clear hu hb2 hz
    go_wp2_with fail
    exact ⟨rfl, .inr ⟨u, rfl, HU.out.1⟩, HU.out.2⟩

set_option maxRecDepth 100000 in
set_option maxHeartbeats 8000000 in
theorem dpath_low (E1 : Ent w (some A) n c R) (hB : Came w B m d b) (_ : m ≤ 20000) (hI : InS w P q ys) (hy : ∀ x ∈ ys, x < 256) (hqr : q ≤ r) (hq : q = dep at_ n) (hat : at_ < n) (hk : Knows w) (hks : Starts w) (h2n : 2 ≤ n) (hn6 : n ≤ 60000) (hside : at_ < cutN n)
    (ih : ∀ k, k < n → ∀ (w : World) (A : Addr) (P : Option Addr) (c q at_ : Nat) (R : List (List Nat)) (ys : List Nat), Ent w (some A) k c R → Came w B m d b → InS w P q ys → (∀ x ∈ ys, x < 256) → q ≤ r → q = dep at_ k → at_ < k → Knows w → Starts w →
      Calls Tryd.prog 62 #[.slice (some A) k c, .int .i64 (at_ : Int), .slice B m d, .slice P q r] w fun e w' => Told w.heap.size (sv (rtl R ++ leadF (nth ys) (leafL b) at_ k 0)) (rtl R = leadF (nth ys) (leafL b) at_ k 0 → R[at_]? = some b) e w' ∧ Below w.heap.size w w') :
    Calls Tryd.prog 62 #[.slice (some A) n c, .int .i64 (at_ : Int), .slice B m d, .slice P q r] w fun e w' => Told w.heap.size (sv (rtl R ++ leadF (nth ys) (leafL b) at_ n 0)) (rtl R = leadF (nth ys) (leafL b) at_ n 0 → R[at_]? = some b) e w' ∧ Below w.heap.size w w' := by
  obtain ⟨g, hg⟩ : ∃ g, w.heap.size = g := ⟨_, rfl⟩
  have f1 := BArr.new w 63 zero64
  have b1 := below_alloc w (.cells (bvs zero64).toArray 63)
  have e0 : (bvs zero64).toArray = #[.int .u8 0, .int .u8 0, .int .u8 0, .int .u8 0, .int .u8 0, .int .u8 0, .int .u8 0, .int .u8 0, .int .u8 0, .int .u8 0, .int .u8 0, .int .u8 0, .int .u8 0, .int .u8 0, .int .u8 0, .int .u8 0, .int .u8 0, .int .u8 0, .int .u8 0, .int .u8 0, .int .u8 0, .int .u8 0, .int .u8 0, .int .u8 0, .int .u8 0, .int .u8 0, .int .u8 0, .int .u8 0, .int .u8 0, .int .u8 0, .int .u8 0, .int .u8 0, .int .u8 0, .int .u8 0, .int .u8 0, .int .u8 0, .int .u8 0, .int .u8 0, .int .u8 0, .int .u8 0, .int .u8 0, .int .u8 0, .int .u8 0, .int .u8 0, .int .u8 0, .int .u8 0, .int .u8 0, .int .u8 0, .int .u8 0, .int .u8 0, .int .u8 0, .int .u8 0, .int .u8 0, .int .u8 0, .int .u8 0, .int .u8 0, .int .u8 0, .int .u8 0, .int .u8 0, .int .u8 0, .int .u8 0, .int .u8 0, .int .u8 0, .int .u8 0] := rfl
  rw [e0] at f1 b1
  obtain ⟨w1, hw1⟩ : ∃ x, x = w.alloc (.cells #[.int .u8 0, .int .u8 0, .int .u8 0, .int .u8 0, .int .u8 0, .int .u8 0, .int .u8 0, .int .u8 0, .int .u8 0, .int .u8 0, .int .u8 0, .int .u8 0, .int .u8 0, .int .u8 0, .int .u8 0, .int .u8 0, .int .u8 0, .int .u8 0, .int .u8 0, .int .u8 0, .int .u8 0, .int .u8 0, .int .u8 0, .int .u8 0, .int .u8 0, .int .u8 0, .int .u8 0, .int .u8 0, .int .u8 0, .int .u8 0, .int .u8 0, .int .u8 0, .int .u8 0, .int .u8 0, .int .u8 0, .int .u8 0, .int .u8 0, .int .u8 0, .int .u8 0, .int .u8 0, .int .u8 0, .int .u8 0, .int .u8 0, .int .u8 0, .int .u8 0, .int .u8 0, .int .u8 0, .int .u8 0, .int .u8 0, .int .u8 0, .int .u8 0, .int .u8 0, .int .u8 0, .int .u8 0, .int .u8 0, .int .u8 0, .int .u8 0, .int .u8 0, .int .u8 0, .int .u8 0, .int .u8 0, .int .u8 0, .int .u8 0, .int .u8 0] 63) := ⟨_, rfl⟩
  rw [← hw1] at f1 b1
  have s1 : w1.heap.size = g + 1 := by rw [hw1]; simp [hg]
  have HW := Lib.hid hw1
  have HG := Lib.hid hg
  have HE0 := Lib.hid e0
  have b01 := b1
  rw [hg] at f1 b1
  have H2 := Lib.hid (And.intro b1 (And.intro f1 s1))
  obtain ⟨Q, hQ⟩ : ∃ Q, rtl R ++ leadF (nth ys) (leafL b) at_ n 0 = Q := ⟨_, rfl⟩
  have hal := hI.len
  have Ql : Q.length = 64 := by
    rw [← hQ, List.length_append, rtl_length, leadF_length _ _ (leafL_length _)]
  have hcl := cutN_lt h2n
  have hcp := cutN_pos n
  have hcR := rtl_cut E1.len h2n
  have hdp := hq.trans (dep_low h2n hside)
  have hld := leadF_low (nth ys) (leafL b) h2n hside 0
  obtain ⟨k, hk0⟩ : ∃ k, cutN n = k := ⟨_, rfl⟩
  have CL := Lib.hid (show Calls Tryd.prog 66 #[.int .i64 (n : Int)] w1 fun e w' => e = .returned (.int .i64 (k : Int)) ∧ w' = w1 from (cleft_any n w1 h2n (by omega)).mono fun e w' ⟨h1, h2⟩ => ⟨by rw [h1, hk0], h2⟩)
  rw [hk0] at hcl hcp hcR hdp hld hside
  have hq1 : 1 ≤ q := by omega
  have hqb : q ≤ 64 := by rw [hq]; exact dep_64 hat (by omega)
  obtain ⟨pd, rfl⟩ := hI.some_ (by omega)
  obtain ⟨Z, hZ⟩ : ∃ Z, nth ys (q - 1) = Z := ⟨_, rfl⟩
  have Zl : Z.length = 32 := by rw [← hZ]; exact nth_length hI.len (by omega)
  have Zb : ∀ x ∈ Z, x < 256 := by rw [← hZ]; exact nth_lt hy _
  obtain ⟨pd', epd, _, hatZ⟩ := hI.at_ (k := q - 1) (by omega)
  cases epd
  rw [hZ] at hatZ
  obtain ⟨L, hL⟩ : ∃ L, leadF (nth ys) (leafL b) at_ k 0 = L := ⟨_, rfl⟩
  have Ll : L.length = 32 := by rw [← hL]; exact leadF_length _ _ (leafL_length _) _ _ _
  have Lb : ∀ x ∈ L, x < 256 := by rw [← hL]; exact leadF_lt _ _ (leafL_lt _) _ _ _
  obtain ⟨R1, hR1⟩ : ∃ x, R.take k = x := ⟨_, rfl⟩
  obtain ⟨R2, hR2⟩ : ∃ x, R.drop k = x := ⟨_, rfl⟩
  have hfin : R1[at_]? = some b → R[at_]? = some b := by rw [← hR1]; exact fun e => by have := e; rw [List.getElem?_take, if_pos (by omega)] at this; exact this
  have hnl : rtl R = nodeL (rtl R1) (rtl R2) := by rw [← hR1, ← hR2]; exact hcR
  have hnr : leadF (nth ys) (leafL b) at_ n 0 = nodeL L Z := by rw [hld, hL, Nat.zero_add, show dep at_ k = q - 1 by omega, hZ]
  have C1 := Lib.hid (fun (W : World) (hW : Below w.heap.size w W) => show Calls Tryd.prog 62 #[(.slice (some A) k c), .int .i64 (at_ : Int), .slice B m d, .slice (some pd) (q - 1) r] W fun e w' => Told g (sv (rtl R1 ++ L)) (rtl R1 = L → R1[at_]? = some b) e w' ∧ Below W.heap.size W w' from by
    have hcg : leadF (nth (ys.take (32 * (q - 1)))) (leafL b) at_ k 0 = L := by
      rw [← hL]
      exact leadF_congr _ _ _ _ _ _ fun j hj => nth_take (by omega)
    have := ih k (by omega) W _ (some pd) _ (q - 1) at_ _ (ys.take (32 * (q - 1))) ((E1.below hW).take (k := k) (by omega)) (hB.below hW) ((hI.below hW).take (by omega)) (fun x hx => hy x (List.mem_of_mem_take hx)) (by omega) (by omega) (by omega) (hk.below hW) (hks.below hW)
    rw [hR1, hcg] at this
    exact this.mono fun e w' ⟨h, hb'⟩ => ⟨h.low (by have := hW.size; omega), hb'⟩)
  have CRT := Lib.hid (fun (W : World) (hW : Below w.heap.size w W) => show Calls Tryd.prog 36 #[(.slice (some (A.add k)) (n - k) (c - k))] W fun e w' => e = .returned (sv (rtl R2)) ∧ Below W.heap.size W w' from by
    rw [← hR2]; exact croot_any ((E1.below hW).drop (k := k)) (by omega) (hk.below hW) (hks.below hW))
  have C3 := Lib.hid (fun (W : World) (hW : Below w.heap.size w W) (h1 : rtl R1 = L → R1[at_]? = some b) => show Calls Tryd.prog 67 #[sv (rtl R1 ++ L), sv (rtl R2 ++ Z)] W fun e w' => Told g (sv Q) (rtl R = leadF (nth ys) (leafL b) at_ n 0 → R[at_]? = some b) e w' ∧ Below W.heap.size W w' from
    (cnode_any (w := W) (rtl_length _) Ll (rtl_length _) Zl (rtl_lt _) Lb (rtl_lt _) Zb (hk.below hW) (hks.below hW)).mono fun e w' ⟨h, hb'⟩ => ⟨(h.low (by have := hW.size; omega)).imp (by rw [← hQ, hnl, hnr]) (fun h => by rw [hnl, hnr]; intro e; exact hfin (h1 (h e).1)), hb'⟩)
  have HAZ := Lib.hid (fun (W : World) (hW : Below w1.heap.size w1 W) => show At W (pd.add ((q - 1) * 32)) Z from (hatZ.below b01).below hW)
  have hpb : pd.block < g := by
    have := hatZ 0 (Z.getD 0 0) (by rw [List.getD_eq_getElem?_getD, List.getElem?_eq_getElem (by omega)]; rfl)
    have h1 := World.block_lt_of_cell? w _ this
    rw [block_add, block_add, hg] at h1
    exact h1
  have t1 := fun W => run_takeR (A := some A) (n := n) (c := c) (k := k) (by omega) E1.cap (fun e => by cases e) W
  have t2 := fun W => run_dropR (ad := A) (n := n) (c := c) (k := k) hcl E1.cap W
  have t3 := fun W => run_take_sums (ad := pd) (n := q) (c := r) (k := q - 1) (by omega) hqr W
  have hn1 : ((n : Int) == 1) = false := by simp; omega
  have hq0 : (q : Int) - 1 = ((q - 1 : Nat) : Int) := by omega
  have hq2 : ((q - 1 : Nat) : Int) < (q : Int) := by omega
  have hsd : (at_ : Int) < (k : Int) := by omega
  have B2 := Lib.hid b01
  have R1l : (rtl R1 ++ L).length = 64 := by rw [List.length_append, rtl_length, Ll]
  have rl2 := rtl_length R2
  have HR1 := Lib.hid (And.intro hR1 hR2)
  obtain ⟨T1, hT1⟩ : ∃ x, rtl R1 ++ L = x := ⟨_, rfl⟩
  obtain ⟨T2, hT2⟩ : ∃ x, rtl R2 = x := ⟨_, rfl⟩
  rw [hT1] at C1 C3 R1l
  rw [hT2] at CRT C3 rl2
  rw [hg, hQ]
  clear e0 hw1 hg hQ hk hks E1 b01 f1 b1 s1 hal hI hy hB hq ih hcR hdp hld hfin hnl hnr hR1 hR2 hL hZ hatZ hk0 hT1 hT2 h2n hn6 hside hqr
  go_enter Tryd.func62, Tryd.ntmps62
  go_upto_region 1 with fail
  rw [← HW.out]
  rw [HG.out]
  go_upto_region 3 with fail
  go_wp2_with fail
  refine CL.out.mono ?_
  rintro e w' ⟨rfl, e1⟩
  obtain rfl := e1.symm
  clear e1 CL
  go_upto_region 5 with fail
  clear hcl hcp hn1
  go_cut [11] from 30 to 38 (fun s1 wx => ∃ p, s1 = .pointer (some ⟨p, 0, none⟩) ∧ Hid (BArr wx p 63 T1 ∧ (rtl R1 = L → R1[at_]? = some b) ∧ w1.heap.size ≤ p ∧ Below w1.heap.size w1 wx))
  case first =>
    have hSa1 : Below w1.heap.size w1 w1.drew := (Below.refl _ _).drew
    refine wp_region_held_drew (S := fun W => Below w1.heap.size w1 W) (by kernel_rfl) (hSa1) (fun _ => ?_)
    change wpAnyH _ _ _ _ _ _ _ _ w1.drew
    generalize w1.drew = Wa2 at hSa1 ⊢
    refine' wpAnyH_take (i := 0) (oi := _) (v := _) ?hia3 (by kernel_rfl) ?hfa3 ?hra3 ?hQa3 ?hya3 (hSa1) ?resta3
    case hia3 => (simp only [List.getElem?_toArray, List.getElem?_cons_zero]; rfl)
    case hfa3 => kernel_rfl
    case hra3 => kernel_rfl
    case hQa3 => exact fun _ _ _ h => h
    case hya3 => refine Or.inl ⟨by rfl, ?_⟩; intro W hSw; go_simp; try with_reducible rfl
    try simp only [Act.put, List.setIfInBounds_toArray, List.set_cons_zero, List.set_cons_succ]
    refine' wpAnyH_take (i := 1) (oi := _) (v := _) ?hia4 (by kernel_rfl) ?hfa4 ?hra4 ?hQa4 ?hya4 (hSa1) ?resta4
    case hia4 => (simp only [List.getElem?_toArray, List.getElem?_cons_zero, List.getElem?_cons_succ]; rfl)
    case hfa4 => kernel_rfl
    case hra4 => kernel_rfl
    case hQa4 => exact fun _ _ _ h => h
    case hya4 => refine Or.inl ⟨by rfl, ?_⟩; intro W hSw; go_simp; try with_reducible rfl
    try simp only [Act.put, List.setIfInBounds_toArray, List.set_cons_zero, List.set_cons_succ]
    refine' wpAnyH_take (i := 2) (oi := _) (v := _) ?hia5 (by kernel_rfl) ?hfa5 ?hra5 ?hQa5 ?hya5 (hSa1) ?resta5
    case hia5 => (simp only [List.getElem?_toArray, List.getElem?_cons_zero, List.getElem?_cons_succ]; rfl)
    case hfa5 => kernel_rfl
    case hra5 => kernel_rfl
    case hQa5 => exact fun _ _ _ h => h
    case hya5 => refine Or.inl ⟨by rfl, ?_⟩; intro W hSw; go_simp; try with_reducible rfl
    try simp only [Act.put, List.setIfInBounds_toArray, List.set_cons_zero, List.set_cons_succ]
    refine' wpAnyH_take (i := 3) (oi := _) (v := _) ?hia6 (by kernel_rfl) ?hfa6 ?hra6 ?hQa6 ?hya6 (hSa1) ?resta6
    case hia6 => (simp only [List.getElem?_toArray, List.getElem?_cons_zero, List.getElem?_cons_succ]; rfl)
    case hfa6 => kernel_rfl
    case hra6 => kernel_rfl
    case hQa6 => exact fun _ _ _ h => h
    case hya6 => refine Or.inl ⟨by rfl, ?_⟩; intro W hSw; go_simp; try with_reducible rfl
    try simp only [Act.put, List.setIfInBounds_toArray, List.set_cons_zero, List.set_cons_succ]
    refine' wpAnyH_take (i := 4) (oi := _) (v := _) ?hia7 (by kernel_rfl) ?hfa7 ?hra7 ?hQa7 ?hya7 (hSa1) ?resta7
    case hia7 => (simp only [List.getElem?_toArray, List.getElem?_cons_zero, List.getElem?_cons_succ]; rfl)
    case hfa7 => kernel_rfl
    case hra7 => kernel_rfl
    case hQa7 => exact fun _ _ _ h => h
    case hya7 => refine Or.inl ⟨by rfl, ?_⟩; intro W hSw; go_simp; try with_reducible rfl
    try simp only [Act.put, List.setIfInBounds_toArray, List.set_cons_zero, List.set_cons_succ]
    refine' wpAnyH_take (i := 5) (oi := _) (v := _) ?hia8 (by kernel_rfl) ?hfa8 ?hra8 ?hQa8 ?hya8 (hSa1) ?resta8
    case hia8 => (simp only [List.getElem?_toArray, List.getElem?_cons_zero, List.getElem?_cons_succ]; rfl)
    case hfa8 => kernel_rfl
    case hra8 => kernel_rfl
    case hQa8 => exact fun _ _ _ h => h
    case hya8 => refine Or.inl ⟨by rfl, ?_⟩; intro W hSw; go_simp; try with_reducible rfl
    try simp only [Act.put, List.setIfInBounds_toArray, List.set_cons_zero, List.set_cons_succ]
    refine' wpAnyH_take (i := 6) (oi := _) (v := _) ?hia9 (by kernel_rfl) ?hfa9 ?hra9 ?hQa9 ?hya9 (hSa1) ?resta9
    case hia9 => (simp only [List.getElem?_toArray, List.getElem?_cons_zero, List.getElem?_cons_succ]; rfl)
    case hfa9 => kernel_rfl
    case hra9 => kernel_rfl
    case hQa9 => exact fun _ _ _ h => h
    case hya9 => refine Or.inl ⟨by rfl, ?_⟩; intro W hSw; go_simp; try with_reducible rfl
    try simp only [Act.put, List.setIfInBounds_toArray, List.set_cons_zero, List.set_cons_succ]
    refine' wpAnyH_take (i := 7) (oi := _) (v := _) ?hia10 (by kernel_rfl) ?hfa10 ?hra10 ?hQa10 ?hya10 (hSa1) ?resta10
    case hia10 => (simp only [List.getElem?_toArray, List.getElem?_cons_zero, List.getElem?_cons_succ]; rfl)
    case hfa10 => kernel_rfl
    case hra10 => kernel_rfl
    case hQa10 => exact fun _ _ _ h => h
    case hya10 => refine Or.inl ⟨by rfl, ?_⟩; intro W hSw; go_simp; try with_reducible rfl
    try simp only [Act.put, List.setIfInBounds_toArray, List.set_cons_zero, List.set_cons_succ]
    refine wpAnyH_ready (rs := [8, 9]) (by kernel_rfl) (by simp) ?_
    refine' (AllReadyH.cons (o := _) ?hia11 (fun K hK => ?_) (AllReadyH.cons (o := _) ?hia12 (fun K hK => ?_) AllReadyH.nil))
    case hia11 => (simp only [List.getElem?_toArray, List.getElem?_cons_zero, List.getElem?_cons_succ]; rfl)
    case hia12 => (simp only [List.getElem?_toArray, List.getElem?_cons_zero, List.getElem?_cons_succ]; rfl)
    · skip
      go_simp
      go_at_call 62
      refine (C1.out Wa2 (below_on B2.out (Nat.le_refl _) hSa1)).mono ?_
      rintro e Wa15 ⟨hTa16, hba13⟩
      have hBa14 := below_on hSa1 (Nat.le_refl _) hba13
      rcases hTa16 with ⟨rfl, hs1⟩ | ⟨u, rfl, hu⟩
      · skip
        refine hK.out _ _ (hBa14) (fun _ => ?_)
        clear hK K
        try simp only [Act.put, List.setIfInBounds_toArray, List.set_cons_zero, List.set_cons_succ]
        refine wpAnyH_ready (rs := [9]) (by kernel_rfl) (by simp) ?_
        refine' (AllReadyH.cons (o := _) ?hia17 (fun K hK => ?_) AllReadyH.nil)
        case hia17 => (simp only [List.getElem?_toArray, List.getElem?_cons_zero, List.getElem?_cons_succ]; rfl)
        go_simp
        have hBa18 := Below.alloc hBa14 (Below.size hBa14) (.cells #[.int .u8 0, .int .u8 0, .int .u8 0, .int .u8 0, .int .u8 0, .int .u8 0, .int .u8 0, .int .u8 0, .int .u8 0, .int .u8 0, .int .u8 0, .int .u8 0, .int .u8 0, .int .u8 0, .int .u8 0, .int .u8 0, .int .u8 0, .int .u8 0, .int .u8 0, .int .u8 0, .int .u8 0, .int .u8 0, .int .u8 0, .int .u8 0, .int .u8 0, .int .u8 0, .int .u8 0, .int .u8 0, .int .u8 0, .int .u8 0, .int .u8 0, .int .u8 0, .int .u8 0, .int .u8 0, .int .u8 0, .int .u8 0, .int .u8 0, .int .u8 0, .int .u8 0, .int .u8 0, .int .u8 0, .int .u8 0, .int .u8 0, .int .u8 0, .int .u8 0, .int .u8 0, .int .u8 0, .int .u8 0, .int .u8 0, .int .u8 0, .int .u8 0, .int .u8 0, .int .u8 0, .int .u8 0, .int .u8 0, .int .u8 0, .int .u8 0, .int .u8 0, .int .u8 0, .int .u8 0, .int .u8 0, .int .u8 0, .int .u8 0, .int .u8 0] 63)
        have hZa20 := (by have hh := BArr.new Wa15 63 zero64; rw [HE0.out] at hh; exact hh)
        have hgea21 := (show w1.heap.size ≤ Wa15.heap.size from Below.size hBa14)
        have hba22 := below_alloc Wa15 (.cells #[.int .u8 0, .int .u8 0, .int .u8 0, .int .u8 0, .int .u8 0, .int .u8 0, .int .u8 0, .int .u8 0, .int .u8 0, .int .u8 0, .int .u8 0, .int .u8 0, .int .u8 0, .int .u8 0, .int .u8 0, .int .u8 0, .int .u8 0, .int .u8 0, .int .u8 0, .int .u8 0, .int .u8 0, .int .u8 0, .int .u8 0, .int .u8 0, .int .u8 0, .int .u8 0, .int .u8 0, .int .u8 0, .int .u8 0, .int .u8 0, .int .u8 0, .int .u8 0, .int .u8 0, .int .u8 0, .int .u8 0, .int .u8 0, .int .u8 0, .int .u8 0, .int .u8 0, .int .u8 0, .int .u8 0, .int .u8 0, .int .u8 0, .int .u8 0, .int .u8 0, .int .u8 0, .int .u8 0, .int .u8 0, .int .u8 0, .int .u8 0, .int .u8 0, .int .u8 0, .int .u8 0, .int .u8 0, .int .u8 0, .int .u8 0, .int .u8 0, .int .u8 0, .int .u8 0, .int .u8 0, .int .u8 0, .int .u8 0, .int .u8 0, .int .u8 0] 63)
        clear hba22
        refine hK.out _ _ (hBa18) (fun _ => ?_)
        clear hK K
        try simp only [Act.put, List.setIfInBounds_toArray, List.set_cons_zero, List.set_cons_succ]
        generalize (Wa15.alloc (.cells #[.int .u8 0, .int .u8 0, .int .u8 0, .int .u8 0, .int .u8 0, .int .u8 0, .int .u8 0, .int .u8 0, .int .u8 0, .int .u8 0, .int .u8 0, .int .u8 0, .int .u8 0, .int .u8 0, .int .u8 0, .int .u8 0, .int .u8 0, .int .u8 0, .int .u8 0, .int .u8 0, .int .u8 0, .int .u8 0, .int .u8 0, .int .u8 0, .int .u8 0, .int .u8 0, .int .u8 0, .int .u8 0, .int .u8 0, .int .u8 0, .int .u8 0, .int .u8 0, .int .u8 0, .int .u8 0, .int .u8 0, .int .u8 0, .int .u8 0, .int .u8 0, .int .u8 0, .int .u8 0, .int .u8 0, .int .u8 0, .int .u8 0, .int .u8 0, .int .u8 0, .int .u8 0, .int .u8 0, .int .u8 0, .int .u8 0, .int .u8 0, .int .u8 0, .int .u8 0, .int .u8 0, .int .u8 0, .int .u8 0, .int .u8 0, .int .u8 0, .int .u8 0, .int .u8 0, .int .u8 0, .int .u8 0, .int .u8 0, .int .u8 0, .int .u8 0] 63)) = Wa19 at hBa18 hZa20 hgea21 ⊢
        refine wpAnyH_ready (rs := [10]) (by kernel_rfl) (by simp) ?_
        refine' (AllReadyH.cons (o := _) ?hia23 (fun K hK => ?_) AllReadyH.nil)
        case hia23 => (simp only [List.getElem?_toArray, List.getElem?_cons_zero, List.getElem?_cons_succ]; rfl)
        rw [if_pos (by rfl)]
        refine step_store_pairC (.tmp 11) (.tmp 38) rfl (Wa15.heap.size) rfl zero64 T1 (by rfl) R1l hZa20 rfl ?_
        have hZa24 := hZa20.setRow T1
        have hBa25 := below_setRow hBa18 hgea21 (bvs T1).toArray
        refine hK.out _ _ hBa25 (fun _ => ?_)
        clear hK K
        try simp only [Act.put]
        generalize (Wa19.setRow (Wa15.heap.size) (bvs T1).toArray) = Wa26 at hZa24 hBa25 ⊢
        refine wpAnyH_done (by kernel_rfl) ?_ _
        go_wp2_with fail
        go_meet
        case rel => exact ⟨_, rfl, Lib.hid ⟨hZa24, hs1, hgea21, hBa25⟩⟩
      · skip
        go_wp2
        exact ⟨rfl, .inr ⟨u, rfl, hu⟩, below_on H2.out.1 (Nat.le_of_eq HG.out.symm) (hBa14)⟩
    · skip
      go_simp
      have hBa27 := Below.alloc hSa1 (Below.size hSa1) (.cells #[.int .u8 0, .int .u8 0, .int .u8 0, .int .u8 0, .int .u8 0, .int .u8 0, .int .u8 0, .int .u8 0, .int .u8 0, .int .u8 0, .int .u8 0, .int .u8 0, .int .u8 0, .int .u8 0, .int .u8 0, .int .u8 0, .int .u8 0, .int .u8 0, .int .u8 0, .int .u8 0, .int .u8 0, .int .u8 0, .int .u8 0, .int .u8 0, .int .u8 0, .int .u8 0, .int .u8 0, .int .u8 0, .int .u8 0, .int .u8 0, .int .u8 0, .int .u8 0, .int .u8 0, .int .u8 0, .int .u8 0, .int .u8 0, .int .u8 0, .int .u8 0, .int .u8 0, .int .u8 0, .int .u8 0, .int .u8 0, .int .u8 0, .int .u8 0, .int .u8 0, .int .u8 0, .int .u8 0, .int .u8 0, .int .u8 0, .int .u8 0, .int .u8 0, .int .u8 0, .int .u8 0, .int .u8 0, .int .u8 0, .int .u8 0, .int .u8 0, .int .u8 0, .int .u8 0, .int .u8 0, .int .u8 0, .int .u8 0, .int .u8 0, .int .u8 0] 63)
      have hZa29 := (by have hh := BArr.new Wa2 63 zero64; rw [HE0.out] at hh; exact hh)
      have hgea30 := (show w1.heap.size ≤ Wa2.heap.size from Below.size hSa1)
      have hba31 := below_alloc Wa2 (.cells #[.int .u8 0, .int .u8 0, .int .u8 0, .int .u8 0, .int .u8 0, .int .u8 0, .int .u8 0, .int .u8 0, .int .u8 0, .int .u8 0, .int .u8 0, .int .u8 0, .int .u8 0, .int .u8 0, .int .u8 0, .int .u8 0, .int .u8 0, .int .u8 0, .int .u8 0, .int .u8 0, .int .u8 0, .int .u8 0, .int .u8 0, .int .u8 0, .int .u8 0, .int .u8 0, .int .u8 0, .int .u8 0, .int .u8 0, .int .u8 0, .int .u8 0, .int .u8 0, .int .u8 0, .int .u8 0, .int .u8 0, .int .u8 0, .int .u8 0, .int .u8 0, .int .u8 0, .int .u8 0, .int .u8 0, .int .u8 0, .int .u8 0, .int .u8 0, .int .u8 0, .int .u8 0, .int .u8 0, .int .u8 0, .int .u8 0, .int .u8 0, .int .u8 0, .int .u8 0, .int .u8 0, .int .u8 0, .int .u8 0, .int .u8 0, .int .u8 0, .int .u8 0, .int .u8 0, .int .u8 0, .int .u8 0, .int .u8 0, .int .u8 0, .int .u8 0] 63)
      clear hba31
      refine hK.out _ _ (hBa27) (fun _ => ?_)
      clear hK K
      try simp only [Act.put, List.setIfInBounds_toArray, List.set_cons_zero, List.set_cons_succ]
      generalize (Wa2.alloc (.cells #[.int .u8 0, .int .u8 0, .int .u8 0, .int .u8 0, .int .u8 0, .int .u8 0, .int .u8 0, .int .u8 0, .int .u8 0, .int .u8 0, .int .u8 0, .int .u8 0, .int .u8 0, .int .u8 0, .int .u8 0, .int .u8 0, .int .u8 0, .int .u8 0, .int .u8 0, .int .u8 0, .int .u8 0, .int .u8 0, .int .u8 0, .int .u8 0, .int .u8 0, .int .u8 0, .int .u8 0, .int .u8 0, .int .u8 0, .int .u8 0, .int .u8 0, .int .u8 0, .int .u8 0, .int .u8 0, .int .u8 0, .int .u8 0, .int .u8 0, .int .u8 0, .int .u8 0, .int .u8 0, .int .u8 0, .int .u8 0, .int .u8 0, .int .u8 0, .int .u8 0, .int .u8 0, .int .u8 0, .int .u8 0, .int .u8 0, .int .u8 0, .int .u8 0, .int .u8 0, .int .u8 0, .int .u8 0, .int .u8 0, .int .u8 0, .int .u8 0, .int .u8 0, .int .u8 0, .int .u8 0, .int .u8 0, .int .u8 0, .int .u8 0, .int .u8 0] 63)) = Wa28 at hBa27 hZa29 hgea30 ⊢
      refine wpAnyH_ready (rs := [8]) (by kernel_rfl) (by simp) ?_
      refine' (AllReadyH.cons (o := _) ?hia32 (fun K hK => ?_) AllReadyH.nil)
      case hia32 => (simp only [List.getElem?_toArray, List.getElem?_cons_zero, List.getElem?_cons_succ]; rfl)
      go_simp
      go_at_call 62
      refine (C1.out Wa28 (below_on B2.out (Nat.le_refl _) hBa27)).mono ?_
      rintro e Wa35 ⟨hTa36, hba33⟩
      have hBa34 := below_on hBa27 (Nat.le_refl _) hba33
      rcases hTa36 with ⟨rfl, hs1⟩ | ⟨u, rfl, hu⟩
      · skip
        have hZa37 := hZa29.below hba33
        have hgea38 := hgea30
        refine hK.out _ _ (hBa34) (fun _ => ?_)
        clear hK K
        try simp only [Act.put, List.setIfInBounds_toArray, List.set_cons_zero, List.set_cons_succ]
        refine wpAnyH_ready (rs := [10]) (by kernel_rfl) (by simp) ?_
        refine' (AllReadyH.cons (o := _) ?hia39 (fun K hK => ?_) AllReadyH.nil)
        case hia39 => (simp only [List.getElem?_toArray, List.getElem?_cons_zero, List.getElem?_cons_succ]; rfl)
        rw [if_pos (by rfl)]
        refine step_store_pairC (.tmp 11) (.tmp 38) rfl (Wa2.heap.size) rfl zero64 T1 (by rfl) R1l hZa37 rfl ?_
        have hZa40 := hZa37.setRow T1
        have hBa41 := below_setRow hBa34 hgea38 (bvs T1).toArray
        refine hK.out _ _ hBa41 (fun _ => ?_)
        clear hK K
        try simp only [Act.put]
        generalize (Wa35.setRow (Wa2.heap.size) (bvs T1).toArray) = Wa42 at hZa40 hBa41 ⊢
        refine wpAnyH_done (by kernel_rfl) ?_ _
        go_wp2_with fail
        go_meet
        case rel => exact ⟨_, rfl, Lib.hid ⟨hZa40, hs1, hgea38, hBa41⟩⟩
      · skip
        go_wp2
        exact ⟨rfl, .inr ⟨u, rfl, hu⟩, below_on H2.out.1 (Nat.le_of_eq HG.out.symm) (hBa34)⟩
  case rest =>
    obtain ⟨p, rfl, HR⟩ := hcut
    have hs1 := HR.out.2.1
    have B4 := Lib.hid (below_on B2.out (Nat.le_refl _) HR.out.2.2.2)
    have pg : ¬ (p = g) := by have h1 := HR.out.2.2.1; have h2 := H2.out.2.2; omega
    have HP := Lib.hid (fun (W : World) (hW : But (· = g) wc W) => show BArr W p 63 T1 from but_barr hW HR.out.1 pg)
    have HZA := Lib.hid (fun (W : World) (hW : But (· = g) wc W) => show At W (pd.add ((q - 1) * 32)) Z from but_at hW (HAZ.out wc HR.out.2.2.2) (by intro e; rw [block_add] at e; have e' : pd.block = g := e; omega))
    have HS1 := Lib.hid hs1
    clear pg hs1
    go_upto_region 6 with fail
    have hSb1 : Below wc.heap.size wc wc.drew := (Below.refl _ _).drew
    have hresb3 := (H2.out.2.1.below HR.out.2.2.2).below hSb1
    refine wp_region_held_drew (S := fun W => But (· = g) wc W) (by kernel_rfl) (But.of_below hSb1) (fun _ => ?_)
    change wpAnyH _ _ _ _ _ _ _ _ wc.drew
    generalize wc.drew = Wb2 at hSb1 hresb3 ⊢
    refine' wpAnyH_take (i := 0) (oi := _) (v := sv T1) ?hib4 (by kernel_rfl) ?hfb4 ?hrb4 ?hQb4 ?hyb4 (But.of_below hSb1) ?restb4
    case hib4 => (simp only [List.getElem?_toArray, List.getElem?_cons_zero]; rfl)
    case hfb4 => kernel_rfl
    case hrb4 => kernel_rfl
    case hQb4 => exact fun _ _ _ h => h
    case hyb4 => refine Or.inl ⟨by rfl, ?_⟩; intro W hSw; exact load_pair_op (.tmp 11) (by rfl) (by rfl) R1l (HP.out W hSw)
    try simp only [Act.put, List.setIfInBounds_toArray, List.set_cons_zero, List.set_cons_succ]
    refine' wpAnyH_take (i := 1) (oi := _) (v := _) ?hib5 (by kernel_rfl) ?hfb5 ?hrb5 ?hQb5 ?hyb5 (But.of_below hSb1) ?restb5
    case hib5 => (simp only [List.getElem?_toArray, List.getElem?_cons_zero, List.getElem?_cons_succ]; rfl)
    case hfb5 => kernel_rfl
    case hrb5 => kernel_rfl
    case hQb5 => exact fun _ _ _ h => h
    case hyb5 => refine Or.inl ⟨by rfl, ?_⟩; intro W hSw; go_simp; try with_reducible rfl
    try simp only [Act.put, List.setIfInBounds_toArray, List.set_cons_zero, List.set_cons_succ]
    refine' wpAnyH_take (i := 2) (oi := _) (v := _) ?hib6 (by kernel_rfl) ?hfb6 ?hrb6 ?hQb6 ?hyb6 (But.of_below hSb1) ?restb6
    case hib6 => (simp only [List.getElem?_toArray, List.getElem?_cons_zero, List.getElem?_cons_succ]; rfl)
    case hfb6 => kernel_rfl
    case hrb6 => kernel_rfl
    case hQb6 => exact fun _ _ _ h => h
    case hyb6 => refine Or.inl ⟨by rfl, ?_⟩; intro W hSw; go_simp; try with_reducible rfl
    try simp only [Act.put, List.setIfInBounds_toArray, List.set_cons_zero, List.set_cons_succ]
    refine' wpAnyH_take (i := 3) (oi := _) (v := _) ?hib7 (by kernel_rfl) ?hfb7 ?hrb7 ?hQb7 ?hyb7 (But.of_below hSb1) ?restb7
    case hib7 => (simp only [List.getElem?_toArray, List.getElem?_cons_zero, List.getElem?_cons_succ]; rfl)
    case hfb7 => kernel_rfl
    case hrb7 => kernel_rfl
    case hQb7 => exact fun _ _ _ h => h
    case hyb7 => refine Or.inl ⟨by rfl, ?_⟩; intro W hSw; go_simp; try with_reducible rfl
    try simp only [Act.put, List.setIfInBounds_toArray, List.set_cons_zero, List.set_cons_succ]
    refine' wpAnyH_take (i := 5) (oi := _) (v := _) ?hib8 (by kernel_rfl) ?hfb8 ?hrb8 ?hQb8 ?hyb8 (But.of_below hSb1) ?restb8
    case hib8 => (simp only [List.getElem?_toArray, List.getElem?_cons_zero, List.getElem?_cons_succ]; rfl)
    case hfb8 => kernel_rfl
    case hrb8 => kernel_rfl
    case hQb8 => exact fun _ _ _ h => h
    case hyb8 => refine Or.inl ⟨by rfl, ?_⟩; intro W hSw; go_simp; try with_reducible rfl
    try simp only [Act.put, List.setIfInBounds_toArray, List.set_cons_zero, List.set_cons_succ]
    refine' wpAnyH_take (i := 6) (oi := _) (v := _) ?hib9 (by kernel_rfl) ?hfb9 ?hrb9 ?hQb9 ?hyb9 (But.of_below hSb1) ?restb9
    case hib9 => (simp only [List.getElem?_toArray, List.getElem?_cons_zero, List.getElem?_cons_succ]; rfl)
    case hfb9 => kernel_rfl
    case hrb9 => kernel_rfl
    case hQb9 => exact fun _ _ _ h => h
    case hyb9 => refine Or.inl ⟨by rfl, ?_⟩; intro W hSw; go_simp; try with_reducible rfl
    try simp only [Act.put, List.setIfInBounds_toArray, List.set_cons_zero, List.set_cons_succ]
    refine' wpAnyH_take (i := 7) (oi := _) (v := _) ?hib10 (by kernel_rfl) ?hfb10 ?hrb10 ?hQb10 ?hyb10 (But.of_below hSb1) ?restb10
    case hib10 => (simp only [List.getElem?_toArray, List.getElem?_cons_zero, List.getElem?_cons_succ]; rfl)
    case hfb10 => kernel_rfl
    case hrb10 => kernel_rfl
    case hQb10 => exact fun _ _ _ h => h
    case hyb10 => refine Or.inl ⟨by rfl, ?_⟩; intro W hSw; go_simp; try with_reducible rfl
    try simp only [Act.put, List.setIfInBounds_toArray, List.set_cons_zero, List.set_cons_succ]
    refine' wpAnyH_take (i := 8) (oi := _) (v := sv Z) ?hib11 (by kernel_rfl) ?hfb11 ?hrb11 ?hQb11 ?hyb11 (But.of_below hSb1) ?restb11
    case hib11 => (simp only [List.getElem?_toArray, List.getElem?_cons_zero, List.getElem?_cons_succ]; rfl)
    case hfb11 => kernel_rfl
    case hrb11 => kernel_rfl
    case hQb11 => exact fun _ _ _ h => h
    case hyb11 => refine Or.inl ⟨by rfl, ?_⟩; intro W hSw; exact load_sum_op (.tmp 46) (by rfl) (by rfl) Zl (HZA.out W hSw)
    try simp only [Act.put, List.setIfInBounds_toArray, List.set_cons_zero, List.set_cons_succ]
    refine wpAnyH_ready (rs := [4]) (by kernel_rfl) (by simp) ?_
    refine' (AllReadyH.cons (o := _) ?hib12 (fun K hK => ?_) AllReadyH.nil)
    case hib12 => (simp only [List.getElem?_toArray, List.getElem?_cons_zero, List.getElem?_cons_succ]; rfl)
    go_simp
    go_at_call 36
    refine (CRT.out Wb2 (below_on B4.out (Nat.le_refl _) hSb1)).mono ?_
    rintro e Wb15 ⟨rfl, hbb13⟩
    have hBb14 := below_on hSb1 (Nat.le_refl _) hbb13
    have hresb16 := hresb3.below hbb13
    refine hK.out _ _ (But.of_below hBb14) (fun _ => ?_)
    clear hK K
    try simp only [Act.put, List.setIfInBounds_toArray, List.set_cons_zero, List.set_cons_succ]
    refine' wpAnyH_take (i := 9) (oi := _) (v := sv (T2 ++ Z)) ?hib17 (by kernel_rfl) ?hfb17 ?hrb17 ?hQb17 ?hyb17 (But.of_below hBb14) ?restb17
    case hib17 => (simp only [List.getElem?_toArray, List.getElem?_cons_zero, List.getElem?_cons_succ]; rfl)
    case hfb17 => kernel_rfl
    case hrb17 => kernel_rfl
    case hQb17 => exact fun _ _ _ h => h
    case hyb17 => exact yields_build_pairC (by rfl) (.tmp 43) (.tmp 47) (by rfl) T2 Z (by rfl) (by rfl) rl2 Zl
    try simp only [Act.put, List.setIfInBounds_toArray, List.set_cons_zero, List.set_cons_succ]
    refine wpAnyH_ready (rs := [10]) (by kernel_rfl) (by simp) ?_
    refine' (AllReadyH.cons (o := _) ?hib18 (fun K hK => ?_) AllReadyH.nil)
    case hib18 => (simp only [List.getElem?_toArray, List.getElem?_cons_zero, List.getElem?_cons_succ]; rfl)
    go_simp
    go_at_call 67
    refine (C3.out Wb15 (below_on B4.out (Nat.le_refl _) hBb14) HS1.out).mono ?_
    rintro e Wb21 ⟨hTb22, hbb19⟩
    have hBb20 := below_on hBb14 (Nat.le_refl _) hbb19
    rcases hTb22 with ⟨rfl, hs3⟩ | ⟨u, rfl, hu⟩
    · skip
      have hresb23 := hresb16.below hbb19
      refine hK.out _ _ (But.of_below hBb20) (fun _ => ?_)
      clear hK K
      try simp only [Act.put, List.setIfInBounds_toArray, List.set_cons_zero, List.set_cons_succ]
      refine wpAnyH_ready (rs := [11]) (by kernel_rfl) (by simp) ?_
      refine' (AllReadyH.cons (o := _) ?hib24 (fun K hK => ?_) AllReadyH.nil)
      case hib24 => (simp only [List.getElem?_toArray, List.getElem?_cons_zero, List.getElem?_cons_succ]; rfl)
      rw [if_pos (by rfl)]
      have hf := hresb23
      refine step_store_pairC (.tmp 8) (.tmp 49) rfl g rfl zero64 Q (by rfl) Ql hf rfl ?_
      have hz : Below g w (Wb21.setRow g (bvs Q).toArray) := below_setRow (by rw [← HG.out]; exact below_on B4.out (Nat.le_refl _) hBb20) (Nat.le_refl _) _
      refine hK.out _ _ (but_setRow (S := (· = g)) (But.of_below hBb20) rfl _) (fun _ => ?_)
      clear hK K
      try simp only [Act.put]
      have hf2 := hf.setRow Q
      generalize (Wb21.setRow g (bvs Q).toArray) = Wz at hz hf2 ⊢
      refine wpAnyH_done (by kernel_rfl) ?_ _
      go_wp2_with fail
      refine bodyPost_ret_by (results_cell_row (p := 8) (ty := 63) (by kernel_rfl) _ _ g 63 (bvs Q).toArray (0, 0) _ rfl hf2 Tryd.underlying63 rfl (by rw [List.size_toArray, bvs_length, Ql]; exact sizePairC)) rfl ?_
      exact ⟨.inl ⟨rfl, hs3⟩, hz⟩
    · skip
      go_wp2
      exact ⟨rfl, .inr ⟨u, rfl, hu⟩, by rw [← HG.out]; exact below_on B4.out (Nat.le_refl _) hBb20⟩

set_option maxRecDepth 100000 in
set_option maxHeartbeats 8000000 in
theorem dpath_high (E1 : Ent w (some A) n c R) (hB : Came w B m d b) (_ : m ≤ 20000) (hI : InS w P q ys) (hy : ∀ x ∈ ys, x < 256) (hqr : q ≤ r) (hq : q = dep at_ n) (hat : at_ < n) (hk : Knows w) (hks : Starts w) (h2n : 2 ≤ n) (hn6 : n ≤ 60000) (hside : ¬ at_ < cutN n)
    (ih : ∀ k, k < n → ∀ (w : World) (A : Addr) (P : Option Addr) (c q at_ : Nat) (R : List (List Nat)) (ys : List Nat), Ent w (some A) k c R → Came w B m d b → InS w P q ys → (∀ x ∈ ys, x < 256) → q ≤ r → q = dep at_ k → at_ < k → Knows w → Starts w →
      Calls Tryd.prog 62 #[.slice (some A) k c, .int .i64 (at_ : Int), .slice B m d, .slice P q r] w fun e w' => Told w.heap.size (sv (rtl R ++ leadF (nth ys) (leafL b) at_ k 0)) (rtl R = leadF (nth ys) (leafL b) at_ k 0 → R[at_]? = some b) e w' ∧ Below w.heap.size w w') :
    Calls Tryd.prog 62 #[.slice (some A) n c, .int .i64 (at_ : Int), .slice B m d, .slice P q r] w fun e w' => Told w.heap.size (sv (rtl R ++ leadF (nth ys) (leafL b) at_ n 0)) (rtl R = leadF (nth ys) (leafL b) at_ n 0 → R[at_]? = some b) e w' ∧ Below w.heap.size w w' := by
  obtain ⟨g, hg⟩ : ∃ g, w.heap.size = g := ⟨_, rfl⟩
  have f1 := BArr.new w 63 zero64
  have b1 := below_alloc w (.cells (bvs zero64).toArray 63)
  have e0 : (bvs zero64).toArray = #[.int .u8 0, .int .u8 0, .int .u8 0, .int .u8 0, .int .u8 0, .int .u8 0, .int .u8 0, .int .u8 0, .int .u8 0, .int .u8 0, .int .u8 0, .int .u8 0, .int .u8 0, .int .u8 0, .int .u8 0, .int .u8 0, .int .u8 0, .int .u8 0, .int .u8 0, .int .u8 0, .int .u8 0, .int .u8 0, .int .u8 0, .int .u8 0, .int .u8 0, .int .u8 0, .int .u8 0, .int .u8 0, .int .u8 0, .int .u8 0, .int .u8 0, .int .u8 0, .int .u8 0, .int .u8 0, .int .u8 0, .int .u8 0, .int .u8 0, .int .u8 0, .int .u8 0, .int .u8 0, .int .u8 0, .int .u8 0, .int .u8 0, .int .u8 0, .int .u8 0, .int .u8 0, .int .u8 0, .int .u8 0, .int .u8 0, .int .u8 0, .int .u8 0, .int .u8 0, .int .u8 0, .int .u8 0, .int .u8 0, .int .u8 0, .int .u8 0, .int .u8 0, .int .u8 0, .int .u8 0, .int .u8 0, .int .u8 0, .int .u8 0, .int .u8 0] := rfl
  rw [e0] at f1 b1
  obtain ⟨w1, hw1⟩ : ∃ x, x = w.alloc (.cells #[.int .u8 0, .int .u8 0, .int .u8 0, .int .u8 0, .int .u8 0, .int .u8 0, .int .u8 0, .int .u8 0, .int .u8 0, .int .u8 0, .int .u8 0, .int .u8 0, .int .u8 0, .int .u8 0, .int .u8 0, .int .u8 0, .int .u8 0, .int .u8 0, .int .u8 0, .int .u8 0, .int .u8 0, .int .u8 0, .int .u8 0, .int .u8 0, .int .u8 0, .int .u8 0, .int .u8 0, .int .u8 0, .int .u8 0, .int .u8 0, .int .u8 0, .int .u8 0, .int .u8 0, .int .u8 0, .int .u8 0, .int .u8 0, .int .u8 0, .int .u8 0, .int .u8 0, .int .u8 0, .int .u8 0, .int .u8 0, .int .u8 0, .int .u8 0, .int .u8 0, .int .u8 0, .int .u8 0, .int .u8 0, .int .u8 0, .int .u8 0, .int .u8 0, .int .u8 0, .int .u8 0, .int .u8 0, .int .u8 0, .int .u8 0, .int .u8 0, .int .u8 0, .int .u8 0, .int .u8 0, .int .u8 0, .int .u8 0, .int .u8 0, .int .u8 0] 63) := ⟨_, rfl⟩
  rw [← hw1] at f1 b1
  have s1 : w1.heap.size = g + 1 := by rw [hw1]; simp [hg]
  have HW := Lib.hid hw1
  have HG := Lib.hid hg
  have HE0 := Lib.hid e0
  have b01 := b1
  rw [hg] at f1 b1
  have H2 := Lib.hid (And.intro b1 (And.intro f1 s1))
  obtain ⟨Q, hQ⟩ : ∃ Q, rtl R ++ leadF (nth ys) (leafL b) at_ n 0 = Q := ⟨_, rfl⟩
  have hal := hI.len
  have Ql : Q.length = 64 := by
    rw [← hQ, List.length_append, rtl_length, leadF_length _ _ (leafL_length _)]
  have hcl := cutN_lt h2n
  have hcp := cutN_pos n
  have hcR := rtl_cut E1.len h2n
  have hdp := hq.trans (dep_high h2n hside)
  have hld := leadF_high (nth ys) (leafL b) h2n hside 0
  obtain ⟨k, hk0⟩ : ∃ k, cutN n = k := ⟨_, rfl⟩
  have CL := Lib.hid (show Calls Tryd.prog 66 #[.int .i64 (n : Int)] w1 fun e w' => e = .returned (.int .i64 (k : Int)) ∧ w' = w1 from (cleft_any n w1 h2n (by omega)).mono fun e w' ⟨h1, h2⟩ => ⟨by rw [h1, hk0], h2⟩)
  rw [hk0] at hcl hcp hcR hdp hld hside
  have hq1 : 1 ≤ q := by omega
  have hqb : q ≤ 64 := by rw [hq]; exact dep_64 hat (by omega)
  obtain ⟨pd, rfl⟩ := hI.some_ (by omega)
  obtain ⟨Z, hZ⟩ : ∃ Z, nth ys (q - 1) = Z := ⟨_, rfl⟩
  have Zl : Z.length = 32 := by rw [← hZ]; exact nth_length hI.len (by omega)
  have Zb : ∀ x ∈ Z, x < 256 := by rw [← hZ]; exact nth_lt hy _
  obtain ⟨pd', epd, _, hatZ⟩ := hI.at_ (k := q - 1) (by omega)
  cases epd
  rw [hZ] at hatZ
  obtain ⟨L, hL⟩ : ∃ L, leadF (nth ys) (leafL b) (at_ - k) (n - k) 0 = L := ⟨_, rfl⟩
  have Ll : L.length = 32 := by rw [← hL]; exact leadF_length _ _ (leafL_length _) _ _ _
  have Lb : ∀ x ∈ L, x < 256 := by rw [← hL]; exact leadF_lt _ _ (leafL_lt _) _ _ _
  obtain ⟨R1, hR1⟩ : ∃ x, R.drop k = x := ⟨_, rfl⟩
  obtain ⟨R2, hR2⟩ : ∃ x, R.take k = x := ⟨_, rfl⟩
  have hfin : R1[(at_ - k)]? = some b → R[at_]? = some b := by rw [← hR1]; exact fun e => by have := e; rw [List.getElem?_drop, show k + (at_ - k) = at_ by omega] at this; exact this
  have hnl : rtl R = nodeL (rtl R2) (rtl R1) := by rw [← hR1, ← hR2]; exact hcR
  have hnr : leadF (nth ys) (leafL b) at_ n 0 = nodeL Z L := by rw [hld, hL, Nat.zero_add, show dep (at_ - k) (n - k) = q - 1 by omega, hZ]
  have C1 := Lib.hid (fun (W : World) (hW : Below w.heap.size w W) => show Calls Tryd.prog 62 #[(.slice (some (A.add k)) (n - k) (c - k)), .int .i64 ((at_ - k : Nat) : Int), .slice B m d, .slice (some pd) (q - 1) r] W fun e w' => Told g (sv (rtl R1 ++ L)) (rtl R1 = L → R1[(at_ - k)]? = some b) e w' ∧ Below W.heap.size W w' from by
    have hcg : leadF (nth (ys.take (32 * (q - 1)))) (leafL b) (at_ - k) (n - k) 0 = L := by
      rw [← hL]
      exact leadF_congr _ _ _ _ _ _ fun j hj => nth_take (by omega)
    have := ih (n - k) (by omega) W _ (some pd) _ (q - 1) (at_ - k) _ (ys.take (32 * (q - 1))) ((E1.below hW).drop (k := k)) (hB.below hW) ((hI.below hW).take (by omega)) (fun x hx => hy x (List.mem_of_mem_take hx)) (by omega) (by omega) (by omega) (hk.below hW) (hks.below hW)
    rw [hR1, hcg] at this
    exact this.mono fun e w' ⟨h, hb'⟩ => ⟨h.low (by have := hW.size; omega), hb'⟩)
  have CRT := Lib.hid (fun (W : World) (hW : Below w.heap.size w W) => show Calls Tryd.prog 36 #[(.slice (some A) k c)] W fun e w' => e = .returned (sv (rtl R2)) ∧ Below W.heap.size W w' from by
    rw [← hR2]; exact croot_any ((E1.below hW).take (k := k) (by omega)) (by omega) (hk.below hW) (hks.below hW))
  have C3 := Lib.hid (fun (W : World) (hW : Below w.heap.size w W) (h1 : rtl R1 = L → R1[(at_ - k)]? = some b) => show Calls Tryd.prog 67 #[sv (rtl R2 ++ Z), sv (rtl R1 ++ L)] W fun e w' => Told g (sv Q) (rtl R = leadF (nth ys) (leafL b) at_ n 0 → R[at_]? = some b) e w' ∧ Below W.heap.size W w' from
    (cnode_any (w := W) (rtl_length _) Zl (rtl_length _) Ll (rtl_lt _) Zb (rtl_lt _) Lb (hk.below hW) (hks.below hW)).mono fun e w' ⟨h, hb'⟩ => ⟨(h.low (by have := hW.size; omega)).imp (by rw [← hQ, hnl, hnr]) (fun h => by rw [hnl, hnr]; intro e; exact hfin (h1 (h e).2)), hb'⟩)
  have HAZ := Lib.hid (fun (W : World) (hW : Below w1.heap.size w1 W) => show At W (pd.add ((q - 1) * 32)) Z from (hatZ.below b01).below hW)
  have hpb : pd.block < g := by
    have := hatZ 0 (Z.getD 0 0) (by rw [List.getD_eq_getElem?_getD, List.getElem?_eq_getElem (by omega)]; rfl)
    have h1 := World.block_lt_of_cell? w _ this
    rw [block_add, block_add, hg] at h1
    exact h1
  have t1 := fun W => run_takeR (A := some A) (n := n) (c := c) (k := k) (by omega) E1.cap (fun e => by cases e) W
  have t2 := fun W => run_dropR (ad := A) (n := n) (c := c) (k := k) hcl E1.cap W
  have t3 := fun W => run_take_sums (ad := pd) (n := q) (c := r) (k := q - 1) (by omega) hqr W
  have hn1 : ((n : Int) == 1) = false := by simp; omega
  have hq0 : (q : Int) - 1 = ((q - 1 : Nat) : Int) := by omega
  have hq2 : ((q - 1 : Nat) : Int) < (q : Int) := by omega
  have hsd : ¬ ((at_ : Int) < (k : Int)) := by omega
  have HAK := Lib.hid (show IntKind.i64.wrap ((at_ : Int) - (k : Int)) = ((at_ - k : Nat) : Int) by rw [IntKind.wrap_i64]; omega)
  have B2 := Lib.hid b01
  have R1l : (rtl R1 ++ L).length = 64 := by rw [List.length_append, rtl_length, Ll]
  have rl2 := rtl_length R2
  have HR1 := Lib.hid (And.intro hR1 hR2)
  obtain ⟨T1, hT1⟩ : ∃ x, rtl R1 ++ L = x := ⟨_, rfl⟩
  obtain ⟨T2, hT2⟩ : ∃ x, rtl R2 = x := ⟨_, rfl⟩
  rw [hT1] at C1 C3 R1l
  rw [hT2] at CRT C3 rl2
  rw [hg, hQ]
  clear e0 hw1 hg hQ hk hks E1 b01 f1 b1 s1 hal hI hy hB hq ih hcR hdp hld hfin hnl hnr hR1 hR2 hL hZ hatZ hk0 hT1 hT2 h2n hn6 hside hqr
  go_enter Tryd.func62, Tryd.ntmps62
  go_upto_region 1 with fail
  rw [← HW.out]
  rw [HG.out]
  go_upto_region 3 with fail
  go_wp2_with fail
  refine CL.out.mono ?_
  rintro e w' ⟨rfl, e1⟩
  obtain rfl := e1.symm
  clear e1 CL
  go_upto_region 7 with fail
  clear hcl hcp hn1
  go_cut [12] from 29 to 60 (fun s1 wx => ∃ p, s1 = .pointer (some ⟨p, 0, none⟩) ∧ Hid (BArr wx p 63 T1 ∧ (rtl R1 = L → R1[(at_ - k)]? = some b) ∧ w1.heap.size ≤ p ∧ Below w1.heap.size w1 wx))
  case first =>
    have hSa1 : Below w1.heap.size w1 w1.drew := (Below.refl _ _).drew
    refine wp_region_held_drew (S := fun W => Below w1.heap.size w1 W) (by kernel_rfl) (hSa1) (fun _ => ?_)
    change wpAnyH _ _ _ _ _ _ _ _ w1.drew
    generalize w1.drew = Wa2 at hSa1 ⊢
    refine' wpAnyH_take (i := 0) (oi := _) (v := _) ?hia3 (by kernel_rfl) ?hfa3 ?hra3 ?hQa3 ?hya3 (hSa1) ?resta3
    case hia3 => (simp only [List.getElem?_toArray, List.getElem?_cons_zero]; rfl)
    case hfa3 => kernel_rfl
    case hra3 => kernel_rfl
    case hQa3 => exact fun _ _ _ h => h
    case hya3 => refine Or.inl ⟨by rfl, ?_⟩; intro W hSw; go_simp; try with_reducible rfl
    try simp only [Act.put, List.setIfInBounds_toArray, List.set_cons_zero, List.set_cons_succ]
    refine' wpAnyH_take (i := 1) (oi := _) (v := _) ?hia4 (by kernel_rfl) ?hfa4 ?hra4 ?hQa4 ?hya4 (hSa1) ?resta4
    case hia4 => (simp only [List.getElem?_toArray, List.getElem?_cons_zero, List.getElem?_cons_succ]; rfl)
    case hfa4 => kernel_rfl
    case hra4 => kernel_rfl
    case hQa4 => exact fun _ _ _ h => h
    case hya4 => refine Or.inl ⟨by rfl, ?_⟩; intro W hSw; go_simp; try with_reducible rfl
    try simp only [Act.put, List.setIfInBounds_toArray, List.set_cons_zero, List.set_cons_succ]
    refine' wpAnyH_take (i := 2) (oi := _) (v := _) ?hia5 (by kernel_rfl) ?hfa5 ?hra5 ?hQa5 ?hya5 (hSa1) ?resta5
    case hia5 => (simp only [List.getElem?_toArray, List.getElem?_cons_zero, List.getElem?_cons_succ]; rfl)
    case hfa5 => kernel_rfl
    case hra5 => kernel_rfl
    case hQa5 => exact fun _ _ _ h => h
    case hya5 => refine Or.inl ⟨by rfl, ?_⟩; intro W hSw; go_simp; try with_reducible rfl
    try simp only [Act.put, List.setIfInBounds_toArray, List.set_cons_zero, List.set_cons_succ]
    refine' wpAnyH_take (i := 3) (oi := _) (v := _) ?hia6 (by kernel_rfl) ?hfa6 ?hra6 ?hQa6 ?hya6 (hSa1) ?resta6
    case hia6 => (simp only [List.getElem?_toArray, List.getElem?_cons_zero, List.getElem?_cons_succ]; rfl)
    case hfa6 => kernel_rfl
    case hra6 => kernel_rfl
    case hQa6 => exact fun _ _ _ h => h
    case hya6 => refine Or.inl ⟨by rfl, ?_⟩; intro W hSw; go_simp; try with_reducible rfl
    try simp only [Act.put, List.setIfInBounds_toArray, List.set_cons_zero, List.set_cons_succ]
    refine' wpAnyH_take (i := 4) (oi := _) (v := _) ?hia7 (by kernel_rfl) ?hfa7 ?hra7 ?hQa7 ?hya7 (hSa1) ?resta7
    case hia7 => (simp only [List.getElem?_toArray, List.getElem?_cons_zero, List.getElem?_cons_succ]; rfl)
    case hfa7 => kernel_rfl
    case hra7 => kernel_rfl
    case hQa7 => exact fun _ _ _ h => h
    case hya7 => refine Or.inl ⟨by rfl, ?_⟩; intro W hSw; go_simp; try with_reducible rfl
    try simp only [Act.put, List.setIfInBounds_toArray, List.set_cons_zero, List.set_cons_succ]
    refine' wpAnyH_take (i := 5) (oi := _) (v := .int .i64 ((at_ - k : Nat) : Int)) ?hia8 (by kernel_rfl) ?hfa8 ?hra8 ?hQa8 ?hya8 (hSa1) ?resta8
    case hia8 => (simp only [List.getElem?_toArray, List.getElem?_cons_zero, List.getElem?_cons_succ]; rfl)
    case hfa8 => kernel_rfl
    case hra8 => kernel_rfl
    case hQa8 => exact fun _ _ _ h => h
    case hya8 => refine Or.inl ⟨by rfl, ?_⟩; intro W hSw; exact sub_op (.tmp 53) (.tmp 54) (by rfl) (by rfl) (by rfl) HAK.out
    try simp only [Act.put, List.setIfInBounds_toArray, List.set_cons_zero, List.set_cons_succ]
    refine' wpAnyH_take (i := 6) (oi := _) (v := _) ?hia9 (by kernel_rfl) ?hfa9 ?hra9 ?hQa9 ?hya9 (hSa1) ?resta9
    case hia9 => (simp only [List.getElem?_toArray, List.getElem?_cons_zero, List.getElem?_cons_succ]; rfl)
    case hfa9 => kernel_rfl
    case hra9 => kernel_rfl
    case hQa9 => exact fun _ _ _ h => h
    case hya9 => refine Or.inl ⟨by rfl, ?_⟩; intro W hSw; go_simp; try with_reducible rfl
    try simp only [Act.put, List.setIfInBounds_toArray, List.set_cons_zero, List.set_cons_succ]
    refine' wpAnyH_take (i := 7) (oi := _) (v := _) ?hia10 (by kernel_rfl) ?hfa10 ?hra10 ?hQa10 ?hya10 (hSa1) ?resta10
    case hia10 => (simp only [List.getElem?_toArray, List.getElem?_cons_zero, List.getElem?_cons_succ]; rfl)
    case hfa10 => kernel_rfl
    case hra10 => kernel_rfl
    case hQa10 => exact fun _ _ _ h => h
    case hya10 => refine Or.inl ⟨by rfl, ?_⟩; intro W hSw; go_simp; try with_reducible rfl
    try simp only [Act.put, List.setIfInBounds_toArray, List.set_cons_zero, List.set_cons_succ]
    refine' wpAnyH_take (i := 8) (oi := _) (v := _) ?hia11 (by kernel_rfl) ?hfa11 ?hra11 ?hQa11 ?hya11 (hSa1) ?resta11
    case hia11 => (simp only [List.getElem?_toArray, List.getElem?_cons_zero, List.getElem?_cons_succ]; rfl)
    case hfa11 => kernel_rfl
    case hra11 => kernel_rfl
    case hQa11 => exact fun _ _ _ h => h
    case hya11 => refine Or.inl ⟨by rfl, ?_⟩; intro W hSw; go_simp; try with_reducible rfl
    try simp only [Act.put, List.setIfInBounds_toArray, List.set_cons_zero, List.set_cons_succ]
    refine' wpAnyH_take (i := 9) (oi := _) (v := _) ?hia12 (by kernel_rfl) ?hfa12 ?hra12 ?hQa12 ?hya12 (hSa1) ?resta12
    case hia12 => (simp only [List.getElem?_toArray, List.getElem?_cons_zero, List.getElem?_cons_succ]; rfl)
    case hfa12 => kernel_rfl
    case hra12 => kernel_rfl
    case hQa12 => exact fun _ _ _ h => h
    case hya12 => refine Or.inl ⟨by rfl, ?_⟩; intro W hSw; go_simp; try with_reducible rfl
    try simp only [Act.put, List.setIfInBounds_toArray, List.set_cons_zero, List.set_cons_succ]
    refine wpAnyH_ready (rs := [10, 11]) (by kernel_rfl) (by simp) ?_
    refine' (AllReadyH.cons (o := _) ?hia13 (fun K hK => ?_) (AllReadyH.cons (o := _) ?hia14 (fun K hK => ?_) AllReadyH.nil))
    case hia13 => (simp only [List.getElem?_toArray, List.getElem?_cons_zero, List.getElem?_cons_succ]; rfl)
    case hia14 => (simp only [List.getElem?_toArray, List.getElem?_cons_zero, List.getElem?_cons_succ]; rfl)
    · skip
      go_simp
      go_at_call 62
      refine (C1.out Wa2 (below_on B2.out (Nat.le_refl _) hSa1)).mono ?_
      rintro e Wa17 ⟨hTa18, hba15⟩
      have hBa16 := below_on hSa1 (Nat.le_refl _) hba15
      rcases hTa18 with ⟨rfl, hs1⟩ | ⟨u, rfl, hu⟩
      · skip
        refine hK.out _ _ (hBa16) (fun _ => ?_)
        clear hK K
        try simp only [Act.put, List.setIfInBounds_toArray, List.set_cons_zero, List.set_cons_succ]
        refine wpAnyH_ready (rs := [11]) (by kernel_rfl) (by simp) ?_
        refine' (AllReadyH.cons (o := _) ?hia19 (fun K hK => ?_) AllReadyH.nil)
        case hia19 => (simp only [List.getElem?_toArray, List.getElem?_cons_zero, List.getElem?_cons_succ]; rfl)
        go_simp
        have hBa20 := Below.alloc hBa16 (Below.size hBa16) (.cells #[.int .u8 0, .int .u8 0, .int .u8 0, .int .u8 0, .int .u8 0, .int .u8 0, .int .u8 0, .int .u8 0, .int .u8 0, .int .u8 0, .int .u8 0, .int .u8 0, .int .u8 0, .int .u8 0, .int .u8 0, .int .u8 0, .int .u8 0, .int .u8 0, .int .u8 0, .int .u8 0, .int .u8 0, .int .u8 0, .int .u8 0, .int .u8 0, .int .u8 0, .int .u8 0, .int .u8 0, .int .u8 0, .int .u8 0, .int .u8 0, .int .u8 0, .int .u8 0, .int .u8 0, .int .u8 0, .int .u8 0, .int .u8 0, .int .u8 0, .int .u8 0, .int .u8 0, .int .u8 0, .int .u8 0, .int .u8 0, .int .u8 0, .int .u8 0, .int .u8 0, .int .u8 0, .int .u8 0, .int .u8 0, .int .u8 0, .int .u8 0, .int .u8 0, .int .u8 0, .int .u8 0, .int .u8 0, .int .u8 0, .int .u8 0, .int .u8 0, .int .u8 0, .int .u8 0, .int .u8 0, .int .u8 0, .int .u8 0, .int .u8 0, .int .u8 0] 63)
        have hZa22 := (by have hh := BArr.new Wa17 63 zero64; rw [HE0.out] at hh; exact hh)
        have hgea23 := (show w1.heap.size ≤ Wa17.heap.size from Below.size hBa16)
        have hba24 := below_alloc Wa17 (.cells #[.int .u8 0, .int .u8 0, .int .u8 0, .int .u8 0, .int .u8 0, .int .u8 0, .int .u8 0, .int .u8 0, .int .u8 0, .int .u8 0, .int .u8 0, .int .u8 0, .int .u8 0, .int .u8 0, .int .u8 0, .int .u8 0, .int .u8 0, .int .u8 0, .int .u8 0, .int .u8 0, .int .u8 0, .int .u8 0, .int .u8 0, .int .u8 0, .int .u8 0, .int .u8 0, .int .u8 0, .int .u8 0, .int .u8 0, .int .u8 0, .int .u8 0, .int .u8 0, .int .u8 0, .int .u8 0, .int .u8 0, .int .u8 0, .int .u8 0, .int .u8 0, .int .u8 0, .int .u8 0, .int .u8 0, .int .u8 0, .int .u8 0, .int .u8 0, .int .u8 0, .int .u8 0, .int .u8 0, .int .u8 0, .int .u8 0, .int .u8 0, .int .u8 0, .int .u8 0, .int .u8 0, .int .u8 0, .int .u8 0, .int .u8 0, .int .u8 0, .int .u8 0, .int .u8 0, .int .u8 0, .int .u8 0, .int .u8 0, .int .u8 0, .int .u8 0] 63)
        clear hba24
        refine hK.out _ _ (hBa20) (fun _ => ?_)
        clear hK K
        try simp only [Act.put, List.setIfInBounds_toArray, List.set_cons_zero, List.set_cons_succ]
        generalize (Wa17.alloc (.cells #[.int .u8 0, .int .u8 0, .int .u8 0, .int .u8 0, .int .u8 0, .int .u8 0, .int .u8 0, .int .u8 0, .int .u8 0, .int .u8 0, .int .u8 0, .int .u8 0, .int .u8 0, .int .u8 0, .int .u8 0, .int .u8 0, .int .u8 0, .int .u8 0, .int .u8 0, .int .u8 0, .int .u8 0, .int .u8 0, .int .u8 0, .int .u8 0, .int .u8 0, .int .u8 0, .int .u8 0, .int .u8 0, .int .u8 0, .int .u8 0, .int .u8 0, .int .u8 0, .int .u8 0, .int .u8 0, .int .u8 0, .int .u8 0, .int .u8 0, .int .u8 0, .int .u8 0, .int .u8 0, .int .u8 0, .int .u8 0, .int .u8 0, .int .u8 0, .int .u8 0, .int .u8 0, .int .u8 0, .int .u8 0, .int .u8 0, .int .u8 0, .int .u8 0, .int .u8 0, .int .u8 0, .int .u8 0, .int .u8 0, .int .u8 0, .int .u8 0, .int .u8 0, .int .u8 0, .int .u8 0, .int .u8 0, .int .u8 0, .int .u8 0, .int .u8 0] 63)) = Wa21 at hBa20 hZa22 hgea23 ⊢
        refine wpAnyH_ready (rs := [12]) (by kernel_rfl) (by simp) ?_
        refine' (AllReadyH.cons (o := _) ?hia25 (fun K hK => ?_) AllReadyH.nil)
        case hia25 => (simp only [List.getElem?_toArray, List.getElem?_cons_zero, List.getElem?_cons_succ]; rfl)
        rw [if_pos (by rfl)]
        refine step_store_pairC (.tmp 12) (.tmp 60) rfl (Wa17.heap.size) rfl zero64 T1 (by rfl) R1l hZa22 rfl ?_
        have hZa26 := hZa22.setRow T1
        have hBa27 := below_setRow hBa20 hgea23 (bvs T1).toArray
        refine hK.out _ _ hBa27 (fun _ => ?_)
        clear hK K
        try simp only [Act.put]
        generalize (Wa21.setRow (Wa17.heap.size) (bvs T1).toArray) = Wa28 at hZa26 hBa27 ⊢
        refine wpAnyH_done (by kernel_rfl) ?_ _
        go_wp2_with fail
        go_meet
        case rel => exact ⟨_, rfl, Lib.hid ⟨hZa26, hs1, hgea23, hBa27⟩⟩
      · skip
        go_wp2
        exact ⟨rfl, .inr ⟨u, rfl, hu⟩, below_on H2.out.1 (Nat.le_of_eq HG.out.symm) (hBa16)⟩
    · skip
      go_simp
      have hBa29 := Below.alloc hSa1 (Below.size hSa1) (.cells #[.int .u8 0, .int .u8 0, .int .u8 0, .int .u8 0, .int .u8 0, .int .u8 0, .int .u8 0, .int .u8 0, .int .u8 0, .int .u8 0, .int .u8 0, .int .u8 0, .int .u8 0, .int .u8 0, .int .u8 0, .int .u8 0, .int .u8 0, .int .u8 0, .int .u8 0, .int .u8 0, .int .u8 0, .int .u8 0, .int .u8 0, .int .u8 0, .int .u8 0, .int .u8 0, .int .u8 0, .int .u8 0, .int .u8 0, .int .u8 0, .int .u8 0, .int .u8 0, .int .u8 0, .int .u8 0, .int .u8 0, .int .u8 0, .int .u8 0, .int .u8 0, .int .u8 0, .int .u8 0, .int .u8 0, .int .u8 0, .int .u8 0, .int .u8 0, .int .u8 0, .int .u8 0, .int .u8 0, .int .u8 0, .int .u8 0, .int .u8 0, .int .u8 0, .int .u8 0, .int .u8 0, .int .u8 0, .int .u8 0, .int .u8 0, .int .u8 0, .int .u8 0, .int .u8 0, .int .u8 0, .int .u8 0, .int .u8 0, .int .u8 0, .int .u8 0] 63)
      have hZa31 := (by have hh := BArr.new Wa2 63 zero64; rw [HE0.out] at hh; exact hh)
      have hgea32 := (show w1.heap.size ≤ Wa2.heap.size from Below.size hSa1)
      have hba33 := below_alloc Wa2 (.cells #[.int .u8 0, .int .u8 0, .int .u8 0, .int .u8 0, .int .u8 0, .int .u8 0, .int .u8 0, .int .u8 0, .int .u8 0, .int .u8 0, .int .u8 0, .int .u8 0, .int .u8 0, .int .u8 0, .int .u8 0, .int .u8 0, .int .u8 0, .int .u8 0, .int .u8 0, .int .u8 0, .int .u8 0, .int .u8 0, .int .u8 0, .int .u8 0, .int .u8 0, .int .u8 0, .int .u8 0, .int .u8 0, .int .u8 0, .int .u8 0, .int .u8 0, .int .u8 0, .int .u8 0, .int .u8 0, .int .u8 0, .int .u8 0, .int .u8 0, .int .u8 0, .int .u8 0, .int .u8 0, .int .u8 0, .int .u8 0, .int .u8 0, .int .u8 0, .int .u8 0, .int .u8 0, .int .u8 0, .int .u8 0, .int .u8 0, .int .u8 0, .int .u8 0, .int .u8 0, .int .u8 0, .int .u8 0, .int .u8 0, .int .u8 0, .int .u8 0, .int .u8 0, .int .u8 0, .int .u8 0, .int .u8 0, .int .u8 0, .int .u8 0, .int .u8 0] 63)
      clear hba33
      refine hK.out _ _ (hBa29) (fun _ => ?_)
      clear hK K
      try simp only [Act.put, List.setIfInBounds_toArray, List.set_cons_zero, List.set_cons_succ]
      generalize (Wa2.alloc (.cells #[.int .u8 0, .int .u8 0, .int .u8 0, .int .u8 0, .int .u8 0, .int .u8 0, .int .u8 0, .int .u8 0, .int .u8 0, .int .u8 0, .int .u8 0, .int .u8 0, .int .u8 0, .int .u8 0, .int .u8 0, .int .u8 0, .int .u8 0, .int .u8 0, .int .u8 0, .int .u8 0, .int .u8 0, .int .u8 0, .int .u8 0, .int .u8 0, .int .u8 0, .int .u8 0, .int .u8 0, .int .u8 0, .int .u8 0, .int .u8 0, .int .u8 0, .int .u8 0, .int .u8 0, .int .u8 0, .int .u8 0, .int .u8 0, .int .u8 0, .int .u8 0, .int .u8 0, .int .u8 0, .int .u8 0, .int .u8 0, .int .u8 0, .int .u8 0, .int .u8 0, .int .u8 0, .int .u8 0, .int .u8 0, .int .u8 0, .int .u8 0, .int .u8 0, .int .u8 0, .int .u8 0, .int .u8 0, .int .u8 0, .int .u8 0, .int .u8 0, .int .u8 0, .int .u8 0, .int .u8 0, .int .u8 0, .int .u8 0, .int .u8 0, .int .u8 0] 63)) = Wa30 at hBa29 hZa31 hgea32 ⊢
      refine wpAnyH_ready (rs := [10]) (by kernel_rfl) (by simp) ?_
      refine' (AllReadyH.cons (o := _) ?hia34 (fun K hK => ?_) AllReadyH.nil)
      case hia34 => (simp only [List.getElem?_toArray, List.getElem?_cons_zero, List.getElem?_cons_succ]; rfl)
      go_simp
      go_at_call 62
      refine (C1.out Wa30 (below_on B2.out (Nat.le_refl _) hBa29)).mono ?_
      rintro e Wa37 ⟨hTa38, hba35⟩
      have hBa36 := below_on hBa29 (Nat.le_refl _) hba35
      rcases hTa38 with ⟨rfl, hs1⟩ | ⟨u, rfl, hu⟩
      · skip
        have hZa39 := hZa31.below hba35
        have hgea40 := hgea32
        refine hK.out _ _ (hBa36) (fun _ => ?_)
        clear hK K
        try simp only [Act.put, List.setIfInBounds_toArray, List.set_cons_zero, List.set_cons_succ]
        refine wpAnyH_ready (rs := [12]) (by kernel_rfl) (by simp) ?_
        refine' (AllReadyH.cons (o := _) ?hia41 (fun K hK => ?_) AllReadyH.nil)
        case hia41 => (simp only [List.getElem?_toArray, List.getElem?_cons_zero, List.getElem?_cons_succ]; rfl)
        rw [if_pos (by rfl)]
        refine step_store_pairC (.tmp 12) (.tmp 60) rfl (Wa2.heap.size) rfl zero64 T1 (by rfl) R1l hZa39 rfl ?_
        have hZa42 := hZa39.setRow T1
        have hBa43 := below_setRow hBa36 hgea40 (bvs T1).toArray
        refine hK.out _ _ hBa43 (fun _ => ?_)
        clear hK K
        try simp only [Act.put]
        generalize (Wa37.setRow (Wa2.heap.size) (bvs T1).toArray) = Wa44 at hZa42 hBa43 ⊢
        refine wpAnyH_done (by kernel_rfl) ?_ _
        go_wp2_with fail
        go_meet
        case rel => exact ⟨_, rfl, Lib.hid ⟨hZa42, hs1, hgea40, hBa43⟩⟩
      · skip
        go_wp2
        exact ⟨rfl, .inr ⟨u, rfl, hu⟩, below_on H2.out.1 (Nat.le_of_eq HG.out.symm) (hBa36)⟩
  case rest =>
    obtain ⟨p, rfl, HR⟩ := hcut
    have hs1 := HR.out.2.1
    have B4 := Lib.hid (below_on B2.out (Nat.le_refl _) HR.out.2.2.2)
    have pg : ¬ (p = g) := by have h1 := HR.out.2.2.1; have h2 := H2.out.2.2; omega
    have HP := Lib.hid (fun (W : World) (hW : But (· = g) wc W) => show BArr W p 63 T1 from but_barr hW HR.out.1 pg)
    have HZA := Lib.hid (fun (W : World) (hW : But (· = g) wc W) => show At W (pd.add ((q - 1) * 32)) Z from but_at hW (HAZ.out wc HR.out.2.2.2) (by intro e; rw [block_add] at e; have e' : pd.block = g := e; omega))
    have HS1 := Lib.hid hs1
    clear pg hs1
    go_upto_region 8 with fail
    have hSb1 : Below wc.heap.size wc wc.drew := (Below.refl _ _).drew
    have hresb3 := (H2.out.2.1.below HR.out.2.2.2).below hSb1
    refine wp_region_held_drew (S := fun W => But (· = g) wc W) (by kernel_rfl) (But.of_below hSb1) (fun _ => ?_)
    change wpAnyH _ _ _ _ _ _ _ _ wc.drew
    generalize wc.drew = Wb2 at hSb1 hresb3 ⊢
    refine' wpAnyH_take (i := 0) (oi := _) (v := _) ?hib4 (by kernel_rfl) ?hfb4 ?hrb4 ?hQb4 ?hyb4 (But.of_below hSb1) ?restb4
    case hib4 => (simp only [List.getElem?_toArray, List.getElem?_cons_zero]; rfl)
    case hfb4 => kernel_rfl
    case hrb4 => kernel_rfl
    case hQb4 => exact fun _ _ _ h => h
    case hyb4 => refine Or.inl ⟨by rfl, ?_⟩; intro W hSw; go_simp; try with_reducible rfl
    try simp only [Act.put, List.setIfInBounds_toArray, List.set_cons_zero, List.set_cons_succ]
    refine' wpAnyH_take (i := 1) (oi := _) (v := _) ?hib5 (by kernel_rfl) ?hfb5 ?hrb5 ?hQb5 ?hyb5 (But.of_below hSb1) ?restb5
    case hib5 => (simp only [List.getElem?_toArray, List.getElem?_cons_zero, List.getElem?_cons_succ]; rfl)
    case hfb5 => kernel_rfl
    case hrb5 => kernel_rfl
    case hQb5 => exact fun _ _ _ h => h
    case hyb5 => refine Or.inl ⟨by rfl, ?_⟩; intro W hSw; go_simp; try with_reducible rfl
    try simp only [Act.put, List.setIfInBounds_toArray, List.set_cons_zero, List.set_cons_succ]
    refine' wpAnyH_take (i := 2) (oi := _) (v := _) ?hib6 (by kernel_rfl) ?hfb6 ?hrb6 ?hQb6 ?hyb6 (But.of_below hSb1) ?restb6
    case hib6 => (simp only [List.getElem?_toArray, List.getElem?_cons_zero, List.getElem?_cons_succ]; rfl)
    case hfb6 => kernel_rfl
    case hrb6 => kernel_rfl
    case hQb6 => exact fun _ _ _ h => h
    case hyb6 => refine Or.inl ⟨by rfl, ?_⟩; intro W hSw; go_simp; try with_reducible rfl
    try simp only [Act.put, List.setIfInBounds_toArray, List.set_cons_zero, List.set_cons_succ]
    refine' wpAnyH_take (i := 4) (oi := _) (v := _) ?hib7 (by kernel_rfl) ?hfb7 ?hrb7 ?hQb7 ?hyb7 (But.of_below hSb1) ?restb7
    case hib7 => (simp only [List.getElem?_toArray, List.getElem?_cons_zero, List.getElem?_cons_succ]; rfl)
    case hfb7 => kernel_rfl
    case hrb7 => kernel_rfl
    case hQb7 => exact fun _ _ _ h => h
    case hyb7 => refine Or.inl ⟨by rfl, ?_⟩; intro W hSw; go_simp; try with_reducible rfl
    try simp only [Act.put, List.setIfInBounds_toArray, List.set_cons_zero, List.set_cons_succ]
    refine' wpAnyH_take (i := 5) (oi := _) (v := _) ?hib8 (by kernel_rfl) ?hfb8 ?hrb8 ?hQb8 ?hyb8 (But.of_below hSb1) ?restb8
    case hib8 => (simp only [List.getElem?_toArray, List.getElem?_cons_zero, List.getElem?_cons_succ]; rfl)
    case hfb8 => kernel_rfl
    case hrb8 => kernel_rfl
    case hQb8 => exact fun _ _ _ h => h
    case hyb8 => refine Or.inl ⟨by rfl, ?_⟩; intro W hSw; go_simp; try with_reducible rfl
    try simp only [Act.put, List.setIfInBounds_toArray, List.set_cons_zero, List.set_cons_succ]
    refine' wpAnyH_take (i := 6) (oi := _) (v := _) ?hib9 (by kernel_rfl) ?hfb9 ?hrb9 ?hQb9 ?hyb9 (But.of_below hSb1) ?restb9
    case hib9 => (simp only [List.getElem?_toArray, List.getElem?_cons_zero, List.getElem?_cons_succ]; rfl)
    case hfb9 => kernel_rfl
    case hrb9 => kernel_rfl
    case hQb9 => exact fun _ _ _ h => h
    case hyb9 => refine Or.inl ⟨by rfl, ?_⟩; intro W hSw; go_simp; try with_reducible rfl
    try simp only [Act.put, List.setIfInBounds_toArray, List.set_cons_zero, List.set_cons_succ]
    refine' wpAnyH_take (i := 7) (oi := _) (v := sv Z) ?hib10 (by kernel_rfl) ?hfb10 ?hrb10 ?hQb10 ?hyb10 (But.of_below hSb1) ?restb10
    case hib10 => (simp only [List.getElem?_toArray, List.getElem?_cons_zero, List.getElem?_cons_succ]; rfl)
    case hfb10 => kernel_rfl
    case hrb10 => kernel_rfl
    case hQb10 => exact fun _ _ _ h => h
    case hyb10 => refine Or.inl ⟨by rfl, ?_⟩; intro W hSw; exact load_sum_op (.tmp 67) (by rfl) (by rfl) Zl (HZA.out W hSw)
    try simp only [Act.put, List.setIfInBounds_toArray, List.set_cons_zero, List.set_cons_succ]
    refine' wpAnyH_take (i := 9) (oi := _) (v := sv T1) ?hib11 (by kernel_rfl) ?hfb11 ?hrb11 ?hQb11 ?hyb11 (But.of_below hSb1) ?restb11
    case hib11 => (simp only [List.getElem?_toArray, List.getElem?_cons_zero, List.getElem?_cons_succ]; rfl)
    case hfb11 => kernel_rfl
    case hrb11 => kernel_rfl
    case hQb11 => exact fun _ _ _ h => h
    case hyb11 => refine Or.inl ⟨by rfl, ?_⟩; intro W hSw; exact load_pair_op (.tmp 12) (by rfl) (by rfl) R1l (HP.out W hSw)
    try simp only [Act.put, List.setIfInBounds_toArray, List.set_cons_zero, List.set_cons_succ]
    refine wpAnyH_ready (rs := [3]) (by kernel_rfl) (by simp) ?_
    refine' (AllReadyH.cons (o := _) ?hib12 (fun K hK => ?_) AllReadyH.nil)
    case hib12 => (simp only [List.getElem?_toArray, List.getElem?_cons_zero, List.getElem?_cons_succ]; rfl)
    go_simp
    go_at_call 36
    refine (CRT.out Wb2 (below_on B4.out (Nat.le_refl _) hSb1)).mono ?_
    rintro e Wb15 ⟨rfl, hbb13⟩
    have hBb14 := below_on hSb1 (Nat.le_refl _) hbb13
    have hresb16 := hresb3.below hbb13
    refine hK.out _ _ (But.of_below hBb14) (fun _ => ?_)
    clear hK K
    try simp only [Act.put, List.setIfInBounds_toArray, List.set_cons_zero, List.set_cons_succ]
    refine' wpAnyH_take (i := 8) (oi := _) (v := sv (T2 ++ Z)) ?hib17 (by kernel_rfl) ?hfb17 ?hrb17 ?hQb17 ?hyb17 (But.of_below hBb14) ?restb17
    case hib17 => (simp only [List.getElem?_toArray, List.getElem?_cons_zero, List.getElem?_cons_succ]; rfl)
    case hfb17 => kernel_rfl
    case hrb17 => kernel_rfl
    case hQb17 => exact fun _ _ _ h => h
    case hyb17 => exact yields_build_pairC (by rfl) (.tmp 64) (.tmp 68) (by rfl) T2 Z (by rfl) (by rfl) rl2 Zl
    try simp only [Act.put, List.setIfInBounds_toArray, List.set_cons_zero, List.set_cons_succ]
    refine wpAnyH_ready (rs := [10]) (by kernel_rfl) (by simp) ?_
    refine' (AllReadyH.cons (o := _) ?hib18 (fun K hK => ?_) AllReadyH.nil)
    case hib18 => (simp only [List.getElem?_toArray, List.getElem?_cons_zero, List.getElem?_cons_succ]; rfl)
    go_simp
    go_at_call 67
    refine (C3.out Wb15 (below_on B4.out (Nat.le_refl _) hBb14) HS1.out).mono ?_
    rintro e Wb21 ⟨hTb22, hbb19⟩
    have hBb20 := below_on hBb14 (Nat.le_refl _) hbb19
    rcases hTb22 with ⟨rfl, hs3⟩ | ⟨u, rfl, hu⟩
    · skip
      have hresb23 := hresb16.below hbb19
      refine hK.out _ _ (But.of_below hBb20) (fun _ => ?_)
      clear hK K
      try simp only [Act.put, List.setIfInBounds_toArray, List.set_cons_zero, List.set_cons_succ]
      refine wpAnyH_ready (rs := [11]) (by kernel_rfl) (by simp) ?_
      refine' (AllReadyH.cons (o := _) ?hib24 (fun K hK => ?_) AllReadyH.nil)
      case hib24 => (simp only [List.getElem?_toArray, List.getElem?_cons_zero, List.getElem?_cons_succ]; rfl)
      rw [if_pos (by rfl)]
      have hf := hresb23
      refine step_store_pairC (.tmp 8) (.tmp 71) rfl g rfl zero64 Q (by rfl) Ql hf rfl ?_
      have hz : Below g w (Wb21.setRow g (bvs Q).toArray) := below_setRow (by rw [← HG.out]; exact below_on B4.out (Nat.le_refl _) hBb20) (Nat.le_refl _) _
      refine hK.out _ _ (but_setRow (S := (· = g)) (But.of_below hBb20) rfl _) (fun _ => ?_)
      clear hK K
      try simp only [Act.put]
      have hf2 := hf.setRow Q
      generalize (Wb21.setRow g (bvs Q).toArray) = Wz at hz hf2 ⊢
      refine wpAnyH_done (by kernel_rfl) ?_ _
      go_wp2_with fail
      refine bodyPost_ret_by (results_cell_row (p := 8) (ty := 63) (by kernel_rfl) _ _ g 63 (bvs Q).toArray (0, 0) _ rfl hf2 Tryd.underlying63 rfl (by rw [List.size_toArray, bvs_length, Ql]; exact sizePairC)) rfl ?_
      exact ⟨.inl ⟨rfl, hs3⟩, hz⟩
    · skip
      go_wp2
      exact ⟨rfl, .inr ⟨u, rfl, hu⟩, by rw [← HG.out]; exact below_on B4.out (Nat.le_refl _) hBb20⟩
end

theorem dpath_any {B : Option Addr} {m d r : Nat} {b : List Nat} (hm : m ≤ 20000) : ∀ (n : Nat) (w : World) (A : Addr) (P : Option Addr) (c q at_ : Nat) (R : List (List Nat)) (ys : List Nat), Ent w (some A) n c R → Came w B m d b → InS w P q ys → (∀ x ∈ ys, x < 256) → q ≤ r → q = dep at_ n → at_ < n → Knows w → Starts w → n ≤ 60000 →
    Calls Tryd.prog 62 #[.slice (some A) n c, .int .i64 (at_ : Int), .slice B m d, .slice P q r] w fun e w' => Told w.heap.size (sv (rtl R ++ leadF (nth ys) (leafL b) at_ n 0)) (rtl R = leadF (nth ys) (leafL b) at_ n 0 → R[at_]? = some b) e w' ∧ Below w.heap.size w w' := by
  intro n
  induction n using Nat.strongRecOn with
  | ind n ih =>
    intro w A P c q at_ R ys E1 hB hI hy hqr hq hat hk hks h6
    by_cases hn : n = 1
    · subst hn; exact dpath_one E1 hB hm hI hy hqr hq hat hk hks
    · have ih' := fun k hk w A P c q at_ R ys E1 hB hI hy hqr hq hat hkn hks => ih k hk w A P c q at_ R ys E1 hB hI hy hqr hq hat hkn hks (by omega)
      by_cases hs : at_ < cutN n
      · exact dpath_low E1 hB hm hI hy hqr hq hat hk hks (by omega) h6 hs ih'
      · exact dpath_high E1 hB hm hI hy hqr hq hat hk hks (by omega) h6 hs ih'

end Go.Proofs.YtnaebjdccngeoaaDoor
