/-
  Several texts in one: CLink, LArrArg, LListSum, CArg, LRowsCap, CSaid, CLinkLaw, ShaLaid, KLaid.
-/
import Derived.Test.YtnaebjdccngeoaaDoorCLkB3
import Derived.Test.YtnaebjdccngeoaaDoorLPre
import Derived.ProofKit
import Derived.OpenShut
import Derived.Test.YtnaebjdccngeoaaDoorLRowS
import Derived.Test.YtnaebjdccngeoaaDoorLRows
import Derived.Test.YtnaebjdccngeoaaDoorCIs
import Derived.Test.YtnaebjdccngeoaaDoorShaNew
import Derived.Test.YtnaebjdccngeoaaDoorRows
import Derived.LaidMore
import Derived.Stop.Joined
import Derived.LaidSub
import Derived.Stop.LaidErr
import Derived.Stop.LaidTwo
/-
  clashes.Link.
-/
namespace Go.Proofs.YtnaebjdccngeoaaDoor
open Go.RowKit

/-- Does a link tell one? -/
def linkB (R S : List (List Nat)) (ys : List Nat) (q : Nat) : Bool := !decide (S.length < R.length) && (!decide (R = S.take R.length) && begins ys (rtl R) (rtl S) q R.length S.length)
theorem begins_true {ys x y : List Nat} {n k size : Nat} (h : begins ys x y n k size = true) : 1 ≤ k ∧ k ≤ size ∧ n = ldep k size true ∧ x = (linkF (nth ys) x k size true 0).1 ∧ y = (linkF (nth ys) x k size true 0).2 := by
  simp [begins] at h
  exact ⟨h.1.1, h.1.2, h.2.1.symm, h.2.2.1.symm, h.2.2.2.symm⟩

section
variable {w : World} {A B P : Option Addr} {n m q c d r : Nat} {R S : List (List Nat)} {ys : List Nat} {E : Addr}

set_option maxRecDepth 100000 in
set_option maxHeartbeats 2000000 in
theorem link1_any {g : Nat} (vl : VarAt w g 22 (.slice A n c)) (vb : VarAt w (g + 1) 22 (.slice B m d)) (vp : VarAt w (g + 2) 24 (.slice P q r))
    (E1 : Ent w A n c R) (E2 : Ent w B m d S) (hI : InS w P q ys) (hy : ∀ x ∈ ys, x < 256) (hqr : q ≤ r) (hkn : Knows w) (hks : Starts w) (hm : m ≤ 60000)
    (hne : ¬ R = S.take n) (hin : begins ys (rtl R) (rtl S) q n m = true) :
    Calls Tryd.prog 38 #[.pointer (some ⟨g, 0, none⟩), .pointer (some ⟨g + 1, 0, none⟩), .pointer (some ⟨g + 2, 0, none⟩)] w fun e w' => (∃ u, e = .panicked (tells u) ∧ Shown w.heap.size w' u) ∧ Below w.heap.size w w' := by
  obtain ⟨h1, h2, h3, h4, h5⟩ := begins_true hin
  obtain ⟨adA, rfl⟩ := E1.some_ (by omega)
  obtain ⟨adB, rfl⟩ := E2.some_ (by omega)
  have CD := Lib.hid (dlink_any (rtl_length R) (rtl_lt R) m w adA adB P c d q n true R S ys E1 E2 hI hy hqr h3 h1 h2 (fun _ => rfl) hkn hks hm)
  have c0 := vl.cell
  have c1 := vb.cell
  have c2 := vp.cell
  have HN := Lib.hid (And.intro hne (And.intro h4 h5))
  clear vl vb vp E1 E2 hI hy hqr hkn hks hm hne hin h1 h2 h3 h4 h5
  go_enter Tryd.func38, Tryd.ntmps38
  go_wp2_with fail
  refine CD.out.mono ?_
  rintro e w' ⟨hT, hb⟩
  rcases hT with ⟨_, h⟩ | ⟨u, rfl, hu⟩
  · exact absurd (h HN.out.2.1 HN.out.2.2) HN.out.1
  · have HU := Lib.hid (And.intro hu hb)
    clear hu hb
    go_wp2_with fail
    exact ⟨rfl, ⟨u, rfl, HU.out.1⟩, HU.out.2⟩

set_option maxRecDepth 100000 in
set_option maxHeartbeats 8000000 in
theorem clink_nocheck (E1 : Ent w A n c R) (E2 : Ent w B m d S) (hnm : n ≤ m) (hm : m ≤ 60000) (hI : InS w P q ys) (hy : ∀ x ∈ ys, x < 256) (hqr : q ≤ r) (hq : q ≤ 1000000) (hkn : Knows w) (hks : Starts w) (hmi : Miss w E) (hne : ¬ R = S.take n) (hin : begins ys (rtl R) (rtl S) q n m = false) :
    Calls Tryd.prog 10 #[.slice A n c, .slice B m d, .slice P q r] w fun e w' => Tells w.heap.size false e w' ∧ Below w.heap.size w w' := by
  obtain ⟨g, hg⟩ : ∃ g, w.heap.size = g := ⟨_, rfl⟩
  have hz0 := LinkIn.mk_ w g (.slice A n c) (.slice B m d) (.slice P q r) hg
  obtain ⟨wz, hwz⟩ : ∃ x, x = ((((w.alloc (.cells #[.slice A n c] 22)).alloc (.cells #[.slice B m d] 22)).alloc (.cells #[.slice P q r] 24)).alloc (.cells #[.slice none 0 0, .slice none 0 0] 30)) := ⟨_, rfl⟩
  rw [← hwz] at hz0
  have HW := Lib.hid hwz
  have HG := Lib.hid hg
  have HZ := Lib.hid hz0
  have b0z : Below w.heap.size w wz := by rw [hg]; exact hz0.below
  have HC0 := Lib.hid (fun (W : World) (hW : Below wz.heap.size wz W) => show W.cell? ⟨g, 0, none⟩ = some (.slice A n c) from (hz0.a.below hW).cell)
  have HC1 := Lib.hid (fun (W : World) (hW : Below wz.heap.size wz W) => show W.cell? ⟨g + 1, 0, none⟩ = some (.slice B m d) from (hz0.b.below hW).cell)
  have HC2 := Lib.hid (fun (W : World) (hW : Below wz.heap.size wz W) => show W.cell? ⟨g + 2, 0, none⟩ = some (.slice P q r) from (hz0.link.below hW).cell)
  obtain ⟨ra, hra⟩ : ∃ x, rtl R = x := ⟨_, rfl⟩
  have ral : ra.length = 32 := by rw [← hra]; exact rtl_length _
  have rab : ∀ x ∈ ra, x < 256 := by rw [← hra]; exact rtl_lt _
  obtain ⟨rb, hrb⟩ : ∃ x, rtl S = x := ⟨_, rfl⟩
  have rbl : rb.length = 32 := by rw [← hrb]; exact rtl_length _
  have CB0 := begins_any (E1.below b0z) (E2.below b0z) hnm (by omega)
  rw [decide_eq_false hne] at CB0
  have CB := Lib.hid CB0
  have CRA := Lib.hid (fun (W : World) (hW : Below w.heap.size w W) => show Calls Tryd.prog 36 #[.slice A n c] W fun e w' => e = .returned (sv ra) ∧ Below W.heap.size W w' from by
    rw [← hra]; exact croot_any (E1.below hW) (by omega) (hkn.below hW) (hks.below hW))
  have CRB := Lib.hid (fun (W : World) (hW : Below w.heap.size w W) => show Calls Tryd.prog 36 #[.slice B m d] W fun e w' => e = .returned (sv rb) ∧ Below W.heap.size W w' from by
    rw [← hrb]; exact croot_any (E2.below hW) (by omega) (hkn.below hW) (hks.below hW))
  have CCK := Lib.hid (fun (W : World) (hW : Below w.heap.size w W) => show Calls Tryd.prog 11 #[.int .u64 (n : Int), .int .u64 (m : Int), sv ra, sv rb, .slice P q r] W fun e w' => e = .returned (.bool false) ∧ Below W.heap.size W w' from by
    rw [← hin, hra, hrb]; exact kcheck_any (from_ := n) (size := m) (hI.below hW) hy hqr (by omega) ral rab rbl (by omega) (hkn.below hW) (hks.below hW) (hmi.below hW))
  have HKA := Lib.hid (And.intro E1 (And.intro E2 (And.intro hI (And.intro hy (And.intro hkn (And.intro hks (And.intro hne hin)))))))
  have x0 : wz.cell? ⟨g, 0, none⟩ = some (.slice A n c) := hz0.a.cell
  have x1 : wz.cell? ⟨g + 1, 0, none⟩ = some (.slice B m d) := hz0.b.cell
  have hi : ¬ ((m : Int) < (n : Int)) := by omega
  have HB0 := Lib.hid b0z
  clear E1 E2 hI hy hkn hks hmi hne hin hra hrb ral rab rbl CB0
  rw [hg]
  clear hz0 hwz hg b0z
  go_enter Tryd.func10, Tryd.ntmps10
  go_upto_region 1 with fail
  rw [← HW.out]
  rw [HG.out]
  go_wp2_with fail
  refine CB.out.mono ?_
  rintro e w' ⟨rfl, e1⟩
  obtain rfl := e1.symm
  clear e1
  go_upto_region 3 with fail
  have hn64 : IntKind.u64.wrap (n : Int) = (n : Int) := by rw [IntKind.wrap_u64]; omega
  have hm64 : IntKind.u64.wrap (m : Int) = (m : Int) := by rw [IntKind.wrap_u64]; omega
  clear x0 x1
  have hSk1 : Below wz.heap.size wz wz.drew := (Below.refl _ _).drew
  refine wp_region_held_drew (S := fun W => Below wz.heap.size wz W) (by kernel_rfl) (hSk1) (fun _ => ?_)
  change wpAnyH _ _ _ _ _ _ _ _ wz.drew
  generalize wz.drew = Wk2 at hSk1 ⊢
  refine' wpAnyH_take (i := 0) (oi := _) (v := _) ?hik3 (by kernel_rfl) ?hfk3 ?hrk3 ?hQk3 ?hyk3 (hSk1) ?restk3
  case hik3 => (simp only [List.getElem?_toArray, List.getElem?_cons_zero]; rfl)
  case hfk3 => kernel_rfl
  case hrk3 => kernel_rfl
  case hQk3 => exact fun _ _ _ h => h
  case hyk3 => refine Or.inl ⟨by rfl, ?_⟩; intro W hSw; have hcc := HC0.out W hSw; go_simp; try with_reducible rfl
  try simp only [Act.put, List.setIfInBounds_toArray, List.set_cons_zero, List.set_cons_succ]
  refine' wpAnyH_take (i := 1) (oi := _) (v := _) ?hik4 (by kernel_rfl) ?hfk4 ?hrk4 ?hQk4 ?hyk4 (hSk1) ?restk4
  case hik4 => (simp only [List.getElem?_toArray, List.getElem?_cons_zero, List.getElem?_cons_succ]; rfl)
  case hfk4 => kernel_rfl
  case hrk4 => kernel_rfl
  case hQk4 => exact fun _ _ _ h => h
  case hyk4 => refine Or.inl ⟨by rfl, ?_⟩; intro W hSw; go_simp; try with_reducible rfl
  try simp only [Act.put, List.setIfInBounds_toArray, List.set_cons_zero, List.set_cons_succ]
  refine' wpAnyH_take (i := 2) (oi := _) (v := .int .u64 (n : Int)) ?hik5 (by kernel_rfl) ?hfk5 ?hrk5 ?hQk5 ?hyk5 (hSk1) ?restk5
  case hik5 => (simp only [List.getElem?_toArray, List.getElem?_cons_zero, List.getElem?_cons_succ]; rfl)
  case hfk5 => kernel_rfl
  case hrk5 => kernel_rfl
  case hQk5 => exact fun _ _ _ h => h
  case hyk5 => refine Or.inl ⟨by rfl, ?_⟩; intro W hSw; go_simp; try rw [hn64]; try with_reducible rfl
  try simp only [Act.put, List.setIfInBounds_toArray, List.set_cons_zero, List.set_cons_succ]
  refine' wpAnyH_take (i := 3) (oi := _) (v := _) ?hik6 (by kernel_rfl) ?hfk6 ?hrk6 ?hQk6 ?hyk6 (hSk1) ?restk6
  case hik6 => (simp only [List.getElem?_toArray, List.getElem?_cons_zero, List.getElem?_cons_succ]; rfl)
  case hfk6 => kernel_rfl
  case hrk6 => kernel_rfl
  case hQk6 => exact fun _ _ _ h => h
  case hyk6 => refine Or.inl ⟨by rfl, ?_⟩; intro W hSw; have hcc := HC1.out W hSw; go_simp; try with_reducible rfl
  try simp only [Act.put, List.setIfInBounds_toArray, List.set_cons_zero, List.set_cons_succ]
  refine' wpAnyH_take (i := 4) (oi := _) (v := _) ?hik7 (by kernel_rfl) ?hfk7 ?hrk7 ?hQk7 ?hyk7 (hSk1) ?restk7
  case hik7 => (simp only [List.getElem?_toArray, List.getElem?_cons_zero, List.getElem?_cons_succ]; rfl)
  case hfk7 => kernel_rfl
  case hrk7 => kernel_rfl
  case hQk7 => exact fun _ _ _ h => h
  case hyk7 => refine Or.inl ⟨by rfl, ?_⟩; intro W hSw; go_simp; try with_reducible rfl
  try simp only [Act.put, List.setIfInBounds_toArray, List.set_cons_zero, List.set_cons_succ]
  refine' wpAnyH_take (i := 5) (oi := _) (v := .int .u64 (m : Int)) ?hik8 (by kernel_rfl) ?hfk8 ?hrk8 ?hQk8 ?hyk8 (hSk1) ?restk8
  case hik8 => (simp only [List.getElem?_toArray, List.getElem?_cons_zero, List.getElem?_cons_succ]; rfl)
  case hfk8 => kernel_rfl
  case hrk8 => kernel_rfl
  case hQk8 => exact fun _ _ _ h => h
  case hyk8 => refine Or.inl ⟨by rfl, ?_⟩; intro W hSw; go_simp; try rw [hm64]; try with_reducible rfl
  try simp only [Act.put, List.setIfInBounds_toArray, List.set_cons_zero, List.set_cons_succ]
  refine' wpAnyH_take (i := 6) (oi := _) (v := _) ?hik9 (by kernel_rfl) ?hfk9 ?hrk9 ?hQk9 ?hyk9 (hSk1) ?restk9
  case hik9 => (simp only [List.getElem?_toArray, List.getElem?_cons_zero, List.getElem?_cons_succ]; rfl)
  case hfk9 => kernel_rfl
  case hrk9 => kernel_rfl
  case hQk9 => exact fun _ _ _ h => h
  case hyk9 => refine Or.inl ⟨by rfl, ?_⟩; intro W hSw; have hcc := HC0.out W hSw; go_simp; try with_reducible rfl
  try simp only [Act.put, List.setIfInBounds_toArray, List.set_cons_zero, List.set_cons_succ]
  refine' wpAnyH_take (i := 8) (oi := _) (v := _) ?hik10 (by kernel_rfl) ?hfk10 ?hrk10 ?hQk10 ?hyk10 (hSk1) ?restk10
  case hik10 => (simp only [List.getElem?_toArray, List.getElem?_cons_zero, List.getElem?_cons_succ]; rfl)
  case hfk10 => kernel_rfl
  case hrk10 => kernel_rfl
  case hQk10 => exact fun _ _ _ h => h
  case hyk10 => refine Or.inl ⟨by rfl, ?_⟩; intro W hSw; have hcc := HC1.out W hSw; go_simp; try with_reducible rfl
  try simp only [Act.put, List.setIfInBounds_toArray, List.set_cons_zero, List.set_cons_succ]
  refine' wpAnyH_take (i := 10) (oi := _) (v := _) ?hik11 (by kernel_rfl) ?hfk11 ?hrk11 ?hQk11 ?hyk11 (hSk1) ?restk11
  case hik11 => (simp only [List.getElem?_toArray, List.getElem?_cons_zero, List.getElem?_cons_succ]; rfl)
  case hfk11 => kernel_rfl
  case hrk11 => kernel_rfl
  case hQk11 => exact fun _ _ _ h => h
  case hyk11 => refine Or.inl ⟨by rfl, ?_⟩; intro W hSw; have hcc := HC2.out W hSw; go_simp; try with_reducible rfl
  try simp only [Act.put, List.setIfInBounds_toArray, List.set_cons_zero, List.set_cons_succ]
  refine wpAnyH_ready (rs := [7]) (by kernel_rfl) (by simp) ?_
  refine' (AllReadyH.cons (o := _) ?hik12 (fun K hK => ?_) AllReadyH.nil)
  case hik12 => (simp only [List.getElem?_toArray, List.getElem?_cons_zero, List.getElem?_cons_succ]; rfl)
  go_simp
  go_at_call 36
  refine (CRA.out Wk2 (below_on HB0.out (Nat.le_refl _) hSk1)).mono ?_
  rintro e Wk15 ⟨rfl, hbk13⟩
  have hBk14 := below_on hSk1 (Nat.le_refl _) hbk13
  refine hK.out _ _ (hBk14) (fun _ => ?_)
  clear hK K
  try simp only [Act.put, List.setIfInBounds_toArray, List.set_cons_zero, List.set_cons_succ]
  refine wpAnyH_ready (rs := [9]) (by kernel_rfl) (by simp) ?_
  refine' (AllReadyH.cons (o := _) ?hik16 (fun K hK => ?_) AllReadyH.nil)
  case hik16 => (simp only [List.getElem?_toArray, List.getElem?_cons_zero, List.getElem?_cons_succ]; rfl)
  go_simp
  go_at_call 36
  refine (CRB.out Wk15 (below_on HB0.out (Nat.le_refl _) hBk14)).mono ?_
  rintro e Wk19 ⟨rfl, hbk17⟩
  have hBk18 := below_on hBk14 (Nat.le_refl _) hbk17
  refine hK.out _ _ (hBk18) (fun _ => ?_)
  clear hK K
  try simp only [Act.put, List.setIfInBounds_toArray, List.set_cons_zero, List.set_cons_succ]
  refine wpAnyH_ready (rs := [11]) (by kernel_rfl) (by simp) ?_
  refine' (AllReadyH.cons (o := _) ?hik20 (fun K hK => ?_) AllReadyH.nil)
  case hik20 => (simp only [List.getElem?_toArray, List.getElem?_cons_zero, List.getElem?_cons_succ]; rfl)
  go_simp
  go_at_call 11
  refine (CCK.out Wk19 (below_on HB0.out (Nat.le_refl _) hBk18)).mono ?_
  rintro e Wk23 ⟨rfl, hbk21⟩
  have hBk22 := below_on hBk18 (Nat.le_refl _) hbk21
  refine hK.out _ _ (hBk22) (fun _ => ?_)
  clear hK K
  try simp only [Act.put, List.setIfInBounds_toArray, List.set_cons_zero, List.set_cons_succ]
  refine' wpAnyH_take (i := 12) (oi := _) (v := _) ?hik24 (by kernel_rfl) ?hfk24 ?hrk24 ?hQk24 ?hyk24 (hBk22) ?restk24
  case hik24 => (simp only [List.getElem?_toArray, List.getElem?_cons_zero, List.getElem?_cons_succ]; rfl)
  case hfk24 => kernel_rfl
  case hrk24 => kernel_rfl
  case hQk24 => exact fun _ _ _ h => h
  case hyk24 => refine Or.inl ⟨by rfl, ?_⟩; intro W hSw; go_simp; try with_reducible rfl
  try simp only [Act.put, List.setIfInBounds_toArray, List.set_cons_zero, List.set_cons_succ]
  refine wpAnyH_done (by kernel_rfl) ?_ _
  have hres := HZ.out.res.below hBk22
  have hz := below_setRow (below_on HZ.out.below (Nat.le_of_eq HG.out.symm) hBk22) (show g ≤ g + 3 by omega) #[.slice none 0 0, .slice none 0 0]
  go_wp2_with (with_reducible refine wpList_store_clash rfl (.tmp 6) (.tmp 32) rfl (g + 3) rfl hres none 0 0 none 0 0 rfl ?_)
  refine bodyPost_ret_by (results_cell_tmp (p := 6) (q := 7) (ty := 30) (by kernel_rfl) _ _ ⟨g + 3, 0, none⟩ (clv none 0 0 none 0 0) rfl (run_load_clash ((hres.setRow _).cell 0 rfl) ((hres.setRow _).cell 1 rfl))) rfl ?_
  exact ⟨⟨_, rfl, (fun e => by cases e), fun _ => rfl⟩, hz⟩

set_option maxRecDepth 100000 in
set_option maxHeartbeats 8000000 in
theorem clink_yes (E1 : Ent w A n c R) (E2 : Ent w B m d S) (hnm : n ≤ m) (hm : m ≤ 60000) (hI : InS w P q ys) (hy : ∀ x ∈ ys, x < 256) (hqr : q ≤ r) (hq : q ≤ 1000000) (hkn : Knows w) (hks : Starts w) (hmi : Miss w E) (hne : ¬ R = S.take n) (hin : begins ys (rtl R) (rtl S) q n m = true) :
    Calls Tryd.prog 10 #[.slice A n c, .slice B m d, .slice P q r] w fun e w' => Tells w.heap.size true e w' ∧ Below w.heap.size w w' := by
  obtain ⟨g, hg⟩ : ∃ g, w.heap.size = g := ⟨_, rfl⟩
  have hz0 := LinkIn.mk_ w g (.slice A n c) (.slice B m d) (.slice P q r) hg
  obtain ⟨wz, hwz⟩ : ∃ x, x = ((((w.alloc (.cells #[.slice A n c] 22)).alloc (.cells #[.slice B m d] 22)).alloc (.cells #[.slice P q r] 24)).alloc (.cells #[.slice none 0 0, .slice none 0 0] 30)) := ⟨_, rfl⟩
  rw [← hwz] at hz0
  have HW := Lib.hid hwz
  have HG := Lib.hid hg
  have HZ := Lib.hid hz0
  have b0z : Below w.heap.size w wz := by rw [hg]; exact hz0.below
  have HC0 := Lib.hid (fun (W : World) (hW : Below wz.heap.size wz W) => show W.cell? ⟨g, 0, none⟩ = some (.slice A n c) from (hz0.a.below hW).cell)
  have HC1 := Lib.hid (fun (W : World) (hW : Below wz.heap.size wz W) => show W.cell? ⟨g + 1, 0, none⟩ = some (.slice B m d) from (hz0.b.below hW).cell)
  have HC2 := Lib.hid (fun (W : World) (hW : Below wz.heap.size wz W) => show W.cell? ⟨g + 2, 0, none⟩ = some (.slice P q r) from (hz0.link.below hW).cell)
  obtain ⟨ra, hra⟩ : ∃ x, rtl R = x := ⟨_, rfl⟩
  have ral : ra.length = 32 := by rw [← hra]; exact rtl_length _
  have rab : ∀ x ∈ ra, x < 256 := by rw [← hra]; exact rtl_lt _
  obtain ⟨rb, hrb⟩ : ∃ x, rtl S = x := ⟨_, rfl⟩
  have rbl : rb.length = 32 := by rw [← hrb]; exact rtl_length _
  have CB0 := begins_any (E1.below b0z) (E2.below b0z) hnm (by omega)
  rw [decide_eq_false hne] at CB0
  have CB := Lib.hid CB0
  have CRA := Lib.hid (fun (W : World) (hW : Below w.heap.size w W) => show Calls Tryd.prog 36 #[.slice A n c] W fun e w' => e = .returned (sv ra) ∧ Below W.heap.size W w' from by
    rw [← hra]; exact croot_any (E1.below hW) (by omega) (hkn.below hW) (hks.below hW))
  have CRB := Lib.hid (fun (W : World) (hW : Below w.heap.size w W) => show Calls Tryd.prog 36 #[.slice B m d] W fun e w' => e = .returned (sv rb) ∧ Below W.heap.size W w' from by
    rw [← hrb]; exact croot_any (E2.below hW) (by omega) (hkn.below hW) (hks.below hW))
  have CCK := Lib.hid (fun (W : World) (hW : Below w.heap.size w W) => show Calls Tryd.prog 11 #[.int .u64 (n : Int), .int .u64 (m : Int), sv ra, sv rb, .slice P q r] W fun e w' => e = .returned (.bool true) ∧ Below W.heap.size W w' from by
    rw [← hin, hra, hrb]; exact kcheck_any (from_ := n) (size := m) (hI.below hW) hy hqr (by omega) ral rab rbl (by omega) (hkn.below hW) (hks.below hW) (hmi.below hW))
  have HKA := Lib.hid (And.intro E1 (And.intro E2 (And.intro hI (And.intro hy (And.intro hkn (And.intro hks (And.intro hne hin)))))))
  have x0 : wz.cell? ⟨g, 0, none⟩ = some (.slice A n c) := hz0.a.cell
  have x1 : wz.cell? ⟨g + 1, 0, none⟩ = some (.slice B m d) := hz0.b.cell
  have hi : ¬ ((m : Int) < (n : Int)) := by omega
  have HB0 := Lib.hid b0z
  clear E1 E2 hI hy hkn hks hmi hne hin hra hrb ral rab rbl CB0
  rw [hg]
  clear hz0 hwz hg b0z
  go_enter Tryd.func10, Tryd.ntmps10
  go_upto_region 1 with fail
  rw [← HW.out]
  rw [HG.out]
  go_wp2_with fail
  refine CB.out.mono ?_
  rintro e w' ⟨rfl, e1⟩
  obtain rfl := e1.symm
  clear e1
  go_upto_region 3 with fail
  have hn64 : IntKind.u64.wrap (n : Int) = (n : Int) := by rw [IntKind.wrap_u64]; omega
  have hm64 : IntKind.u64.wrap (m : Int) = (m : Int) := by rw [IntKind.wrap_u64]; omega
  clear x0 x1
  have hSs1 : Below wz.heap.size wz wz.drew := (Below.refl _ _).drew
  refine wp_region_held_drew (S := fun W => Below wz.heap.size wz W) (by kernel_rfl) (hSs1) (fun _ => ?_)
  change wpAnyH _ _ _ _ _ _ _ _ wz.drew
  generalize wz.drew = Ws2 at hSs1 ⊢
  refine' wpAnyH_take (i := 0) (oi := _) (v := _) ?his3 (by kernel_rfl) ?hfs3 ?hrs3 ?hQs3 ?hys3 (hSs1) ?rests3
  case his3 => (simp only [List.getElem?_toArray, List.getElem?_cons_zero]; rfl)
  case hfs3 => kernel_rfl
  case hrs3 => kernel_rfl
  case hQs3 => exact fun _ _ _ h => h
  case hys3 => refine Or.inl ⟨by rfl, ?_⟩; intro W hSw; have hcc := HC0.out W hSw; go_simp; try with_reducible rfl
  try simp only [Act.put, List.setIfInBounds_toArray, List.set_cons_zero, List.set_cons_succ]
  refine' wpAnyH_take (i := 1) (oi := _) (v := _) ?his4 (by kernel_rfl) ?hfs4 ?hrs4 ?hQs4 ?hys4 (hSs1) ?rests4
  case his4 => (simp only [List.getElem?_toArray, List.getElem?_cons_zero, List.getElem?_cons_succ]; rfl)
  case hfs4 => kernel_rfl
  case hrs4 => kernel_rfl
  case hQs4 => exact fun _ _ _ h => h
  case hys4 => refine Or.inl ⟨by rfl, ?_⟩; intro W hSw; go_simp; try with_reducible rfl
  try simp only [Act.put, List.setIfInBounds_toArray, List.set_cons_zero, List.set_cons_succ]
  refine' wpAnyH_take (i := 2) (oi := _) (v := .int .u64 (n : Int)) ?his5 (by kernel_rfl) ?hfs5 ?hrs5 ?hQs5 ?hys5 (hSs1) ?rests5
  case his5 => (simp only [List.getElem?_toArray, List.getElem?_cons_zero, List.getElem?_cons_succ]; rfl)
  case hfs5 => kernel_rfl
  case hrs5 => kernel_rfl
  case hQs5 => exact fun _ _ _ h => h
  case hys5 => refine Or.inl ⟨by rfl, ?_⟩; intro W hSw; go_simp; try rw [hn64]; try with_reducible rfl
  try simp only [Act.put, List.setIfInBounds_toArray, List.set_cons_zero, List.set_cons_succ]
  refine' wpAnyH_take (i := 3) (oi := _) (v := _) ?his6 (by kernel_rfl) ?hfs6 ?hrs6 ?hQs6 ?hys6 (hSs1) ?rests6
  case his6 => (simp only [List.getElem?_toArray, List.getElem?_cons_zero, List.getElem?_cons_succ]; rfl)
  case hfs6 => kernel_rfl
  case hrs6 => kernel_rfl
  case hQs6 => exact fun _ _ _ h => h
  case hys6 => refine Or.inl ⟨by rfl, ?_⟩; intro W hSw; have hcc := HC1.out W hSw; go_simp; try with_reducible rfl
  try simp only [Act.put, List.setIfInBounds_toArray, List.set_cons_zero, List.set_cons_succ]
  refine' wpAnyH_take (i := 4) (oi := _) (v := _) ?his7 (by kernel_rfl) ?hfs7 ?hrs7 ?hQs7 ?hys7 (hSs1) ?rests7
  case his7 => (simp only [List.getElem?_toArray, List.getElem?_cons_zero, List.getElem?_cons_succ]; rfl)
  case hfs7 => kernel_rfl
  case hrs7 => kernel_rfl
  case hQs7 => exact fun _ _ _ h => h
  case hys7 => refine Or.inl ⟨by rfl, ?_⟩; intro W hSw; go_simp; try with_reducible rfl
  try simp only [Act.put, List.setIfInBounds_toArray, List.set_cons_zero, List.set_cons_succ]
  refine' wpAnyH_take (i := 5) (oi := _) (v := .int .u64 (m : Int)) ?his8 (by kernel_rfl) ?hfs8 ?hrs8 ?hQs8 ?hys8 (hSs1) ?rests8
  case his8 => (simp only [List.getElem?_toArray, List.getElem?_cons_zero, List.getElem?_cons_succ]; rfl)
  case hfs8 => kernel_rfl
  case hrs8 => kernel_rfl
  case hQs8 => exact fun _ _ _ h => h
  case hys8 => refine Or.inl ⟨by rfl, ?_⟩; intro W hSw; go_simp; try rw [hm64]; try with_reducible rfl
  try simp only [Act.put, List.setIfInBounds_toArray, List.set_cons_zero, List.set_cons_succ]
  refine' wpAnyH_take (i := 6) (oi := _) (v := _) ?his9 (by kernel_rfl) ?hfs9 ?hrs9 ?hQs9 ?hys9 (hSs1) ?rests9
  case his9 => (simp only [List.getElem?_toArray, List.getElem?_cons_zero, List.getElem?_cons_succ]; rfl)
  case hfs9 => kernel_rfl
  case hrs9 => kernel_rfl
  case hQs9 => exact fun _ _ _ h => h
  case hys9 => refine Or.inl ⟨by rfl, ?_⟩; intro W hSw; have hcc := HC0.out W hSw; go_simp; try with_reducible rfl
  try simp only [Act.put, List.setIfInBounds_toArray, List.set_cons_zero, List.set_cons_succ]
  refine' wpAnyH_take (i := 8) (oi := _) (v := _) ?his10 (by kernel_rfl) ?hfs10 ?hrs10 ?hQs10 ?hys10 (hSs1) ?rests10
  case his10 => (simp only [List.getElem?_toArray, List.getElem?_cons_zero, List.getElem?_cons_succ]; rfl)
  case hfs10 => kernel_rfl
  case hrs10 => kernel_rfl
  case hQs10 => exact fun _ _ _ h => h
  case hys10 => refine Or.inl ⟨by rfl, ?_⟩; intro W hSw; have hcc := HC1.out W hSw; go_simp; try with_reducible rfl
  try simp only [Act.put, List.setIfInBounds_toArray, List.set_cons_zero, List.set_cons_succ]
  refine' wpAnyH_take (i := 10) (oi := _) (v := _) ?his11 (by kernel_rfl) ?hfs11 ?hrs11 ?hQs11 ?hys11 (hSs1) ?rests11
  case his11 => (simp only [List.getElem?_toArray, List.getElem?_cons_zero, List.getElem?_cons_succ]; rfl)
  case hfs11 => kernel_rfl
  case hrs11 => kernel_rfl
  case hQs11 => exact fun _ _ _ h => h
  case hys11 => refine Or.inl ⟨by rfl, ?_⟩; intro W hSw; have hcc := HC2.out W hSw; go_simp; try with_reducible rfl
  try simp only [Act.put, List.setIfInBounds_toArray, List.set_cons_zero, List.set_cons_succ]
  refine wpAnyH_ready (rs := [7]) (by kernel_rfl) (by simp) ?_
  refine' (AllReadyH.cons (o := _) ?his12 (fun K hK => ?_) AllReadyH.nil)
  case his12 => (simp only [List.getElem?_toArray, List.getElem?_cons_zero, List.getElem?_cons_succ]; rfl)
  go_simp
  go_at_call 36
  refine (CRA.out Ws2 (below_on HB0.out (Nat.le_refl _) hSs1)).mono ?_
  rintro e Ws15 ⟨rfl, hbs13⟩
  have hBs14 := below_on hSs1 (Nat.le_refl _) hbs13
  refine hK.out _ _ (hBs14) (fun _ => ?_)
  clear hK K
  try simp only [Act.put, List.setIfInBounds_toArray, List.set_cons_zero, List.set_cons_succ]
  refine wpAnyH_ready (rs := [9]) (by kernel_rfl) (by simp) ?_
  refine' (AllReadyH.cons (o := _) ?his16 (fun K hK => ?_) AllReadyH.nil)
  case his16 => (simp only [List.getElem?_toArray, List.getElem?_cons_zero, List.getElem?_cons_succ]; rfl)
  go_simp
  go_at_call 36
  refine (CRB.out Ws15 (below_on HB0.out (Nat.le_refl _) hBs14)).mono ?_
  rintro e Ws19 ⟨rfl, hbs17⟩
  have hBs18 := below_on hBs14 (Nat.le_refl _) hbs17
  refine hK.out _ _ (hBs18) (fun _ => ?_)
  clear hK K
  try simp only [Act.put, List.setIfInBounds_toArray, List.set_cons_zero, List.set_cons_succ]
  refine wpAnyH_ready (rs := [11]) (by kernel_rfl) (by simp) ?_
  refine' (AllReadyH.cons (o := _) ?his20 (fun K hK => ?_) AllReadyH.nil)
  case his20 => (simp only [List.getElem?_toArray, List.getElem?_cons_zero, List.getElem?_cons_succ]; rfl)
  go_simp
  go_at_call 11
  refine (CCK.out Ws19 (below_on HB0.out (Nat.le_refl _) hBs18)).mono ?_
  rintro e Ws23 ⟨rfl, hbs21⟩
  have hBs22 := below_on hBs18 (Nat.le_refl _) hbs21
  refine hK.out _ _ (hBs22) (fun _ => ?_)
  clear hK K
  try simp only [Act.put, List.setIfInBounds_toArray, List.set_cons_zero, List.set_cons_succ]
  refine' wpAnyH_take (i := 12) (oi := _) (v := _) ?his24 (by kernel_rfl) ?hfs24 ?hrs24 ?hQs24 ?hys24 (hBs22) ?rests24
  case his24 => (simp only [List.getElem?_toArray, List.getElem?_cons_zero, List.getElem?_cons_succ]; rfl)
  case hfs24 => kernel_rfl
  case hrs24 => kernel_rfl
  case hQs24 => exact fun _ _ _ h => h
  case hys24 => refine Or.inl ⟨by rfl, ?_⟩; intro W hSw; go_simp; try with_reducible rfl
  try simp only [Act.put, List.setIfInBounds_toArray, List.set_cons_zero, List.set_cons_succ]
  refine wpAnyH_done (by kernel_rfl) ?_ _
  have CF := Lib.hid (found_any (w := Ws23) (fid := 38) (caps := #[.pointer (some ⟨g, 0, none⟩), .pointer (some ⟨g + 1, 0, none⟩), .pointer (some ⟨g + 2, 0, none⟩)]) (fun _ => rfl) (fun W hW => by
    have hb3 := below_on hBs22 (Nat.le_refl _) hW
    have hb0 := below_on HB0.out (Nat.le_refl _) hb3
    exact link1_any (HZ.out.a.below hb3) (HZ.out.b.below hb3) (HZ.out.link.below hb3) (HKA.out.1.below hb0) (HKA.out.2.1.below hb0) (HKA.out.2.2.1.below hb0) HKA.out.2.2.2.1 hqr (HKA.out.2.2.2.2.1.below hb0) (HKA.out.2.2.2.2.2.1.below hb0) hm HKA.out.2.2.2.2.2.2.1 HKA.out.2.2.2.2.2.2.2))
  have hmf : ∀ (fn : Fn) (first cap : Array Value) (w : World), (Instr.makeFunc fn first cap).run Tryd.prog w = .ok (.func fn first cap) w := fun _ _ _ _ => rfl
  clear hn64 hm64 hi
  go_wp2_with fail
  refine CF.out.mono ?_
  rintro e w5 ⟨u, rfl, hu, hb5⟩
  obtain ⟨A5, n5, c5, xs5, B5, m5, d5, ys5, rfl, hT, hC⟩ := hu
  have hres := (HZ.out.res.below hBs22).below hb5
  have hz := below_setRow (below_on (below_on HZ.out.below (Nat.le_of_eq HG.out.symm) hBs22) (Nat.le_of_eq HG.out.symm) hb5) (show g ≤ g + 3 by omega) #[.slice A5 n5 c5, .slice B5 m5 d5]
  have hT2 := (two_setRow hT (show g + 3 < Ws23.heap.size by have := Below.size hBs22; have := HZ.out.size; omega) #[.slice A5 n5 c5, .slice B5 m5 d5]).low (base' := g) (by have := Below.size hBs22; have := HZ.out.size; omega)
  have HE := Lib.hid (And.intro hz (And.intro hT2 hC))
  clear hz hT2 hC hT hb5
  go_wp2_with (with_reducible refine wpList_store_clash rfl (.tmp 6) (.tmp 35) rfl (g + 3) rfl hres A5 n5 c5 B5 m5 d5 rfl ?_)
  refine bodyPost_ret_by (results_cell_tmp (p := 6) (q := 7) (ty := 30) (by kernel_rfl) _ _ ⟨g + 3, 0, none⟩ (clv A5 n5 c5 B5 m5 d5) rfl (run_load_clash ((hres.setRow _).cell 0 rfl) ((hres.setRow _).cell 1 rfl))) rfl ?_
  exact ⟨⟨_, rfl, (fun _ => ⟨_, _, _, _, _, _, _, _, rfl, HE.out.2.1, HE.out.2.2⟩), fun e => by cases e⟩, HE.out.1⟩

theorem clink_any (E1 : Ent w A n c R) (E2 : Ent w B m d S) (hn : n ≤ 60000) (hm : m ≤ 60000) (hI : InS w P q ys) (hy : ∀ x ∈ ys, x < 256) (hqr : q ≤ r) (hq : q ≤ 1000000) (hkn : Knows w) (hks : Starts w) (hmi : Miss w E) :
    Calls Tryd.prog 10 #[.slice A n c, .slice B m d, .slice P q r] w fun e w' => Tells w.heap.size (linkB R S ys q) e w' ∧ Below w.heap.size w w' := by
  unfold linkB
  rw [E1.len, E2.len]
  by_cases hnm : m < n
  · rw [decide_eq_true hnm]
    exact link_far hnm
  · rw [decide_eq_false hnm]
    by_cases hb : R = S.take n
    · rw [decide_eq_true hb]
      exact link_begins E1 E2 (by omega) hn hb
    · rw [decide_eq_false hb]
      cases hin : begins ys (rtl R) (rtl S) q n m with
      | false => exact clink_nocheck E1 E2 (by omega) hm hI hy hqr hq hkn hks hmi hb hin
      | true => exact clink_yes E1 E2 (by omega) hm hI hy hqr hq hkn hks hmi hb hin
end

end Go.Proofs.YtnaebjdccngeoaaDoor

/-
  An argument that is an array of bytes.
-/
namespace Go.Proofs.YtnaebjdccngeoaaDoor
open Go.ChangeShapes Go.WideShapes Go.ChangeAt Go.RowKit

/-- A value as a byte. -/
def byteOf : Value → Nat
  | .int _ z => z.toNat
  | _ => 0

theorem came_arr {H : Type} {enc : TypeId × Value → H} {P : Program} {W : World} {base b0 n : Nat} {spare : Nat → Bool} {held : Bool} {r : Reach} {t e : TypeId} {v : Value} {d : DataW H} {ps : List MemPlace}
    (ht : P.underlying t = some (.array n e)) (he : P.underlying e = some (.int .u8)) (hc : P.cellsOf e = 1) (hct : P.cellsOf t = n)
    (hval : Value.okWide P W r b0 t v) (hd : DataW.Trod enc P W base spare held t v d ps) : ∃ xs : List Nat, v = .agg (bvs xs).toArray ∧ xs.length = n ∧ ∀ x ∈ xs, x < 256 := by
  simp only [Value.okWide, ht] at hval
  obtain ⟨cs, rfl, hsz, _⟩ := hval
  rw [hct] at hsz
  obtain ⟨fuel, hf⟩ := hd
  obtain ⟨xs, m, rfl, _, _, hlen, hp⟩ := DataW.trod_array ht hf
  have hx : ∀ i, i < n → ∃ z : Nat, z < 256 ∧ cs.toList[i]? = some (bv z) := fun i hi => by
    have h1 := hp i hi
    rw [List.getElem?_eq_getElem (by omega)] at h1
    obtain ⟨z, hz, _, hw⟩ := DataW.trod_int he h1
    rw [hc, Nat.mul_one] at hz
    have hb := bounds_u8 hw
    obtain ⟨z, rfl⟩ := Int.eq_ofNat_of_zero_le hb.1
    refine ⟨z, by omega, ?_⟩
    have : (List.take 1 (List.drop i cs.toList))[0]? = some (.int .u8 (z : Int)) := by simp only [Value.cells] at hz; rw [hz]; rfl
    rw [List.getElem?_take, if_pos (by omega), List.getElem?_drop, Nat.add_zero] at this
    exact this
  have hl : cs.toList.length = n := by simpa using hsz
  refine ⟨cs.toList.map byteOf, ?_, by rw [List.length_map, hl], fun x hxm => ?_⟩
  · congr 1
    apply Array.ext'
    rw [List.toList_toArray]
    apply List.ext_getElem?
    intro i
    rw [bvs_get, List.getElem?_map]
    by_cases hi : i < n
    · obtain ⟨z, _, hz⟩ := hx i hi
      rw [hz]; rfl
    · rw [List.getElem?_eq_none (by omega)]; rfl
  · obtain ⟨v, hv, rfl⟩ := List.mem_map.1 hxm
    obtain ⟨i, hi⟩ := List.mem_iff_getElem?.1 hv
    obtain ⟨z, hz, hz2⟩ := hx i (by rw [← hl]; exact (List.getElem?_eq_some_iff.1 hi).1)
    rw [hi] at hz2
    cases hz2
    exact hz

end Go.Proofs.YtnaebjdccngeoaaDoor

/-
  The parts of a struct that came in: a sum, a number of 64 bits, a list of sums.
-/
namespace Go.Proofs.YtnaebjdccngeoaaDoor
open Go.ChangeShapes Go.WideShapes Go.ChangeAt Go.RowKit Go.Deep

theorem list_sum {H : Type} {enc : TypeId × Value → H} {w : World} {base : Nat} {sp : Nat → Bool} {held : Bool} {fuel : Nat} {cs : List Value} {x : DataW H × List MemPlace}
    (h : DataW.trod enc Tryd.prog w base sp held fuel 36 cs = some x) : ∃ xs, cs = bvs xs ∧ xs.length = 32 ∧ ∀ x ∈ xs, x < 256 := by
  obtain ⟨hl, hx⟩ := cells_sum h
  refine ⟨cs.map byteOf, ?_, by rw [List.length_map, hl], fun x hxm => ?_⟩
  · apply List.ext_getElem?
    intro i
    rw [bvs_get, List.getElem?_map]
    by_cases hi : i < 32
    · obtain ⟨z, _, hz⟩ := hx i hi
      rw [hz]; rfl
    · rw [List.getElem?_eq_none (by omega)]; rfl
  · obtain ⟨v, hv, rfl⟩ := List.mem_map.1 hxm
    obtain ⟨i, hi⟩ := List.mem_iff_getElem?.1 hv
    obtain ⟨z, hz, hz2⟩ := hx i (by rw [← hl]; exact (List.getElem?_eq_some_iff.1 hi).1)
    rw [hi] at hz2
    cases hz2
    exact hz

theorem cellsS64 : Tryd.prog.cellsOf 34 = 1 := by kernel_rfl
theorem cellsSpath : Tryd.prog.cellsOf 24 = 1 := by kernel_rfl

theorem one_of (l : List Value) (h : l.length = 1) : ∃ a, l = [a] := by
  match l, h with
  | [a], _ => exact ⟨a, rfl⟩

theorem u64_one {H : Type} {enc : TypeId × Value → H} {W : World} {base fuel : Nat} {sp : Nat → Bool} {held : Bool} {l : List Value} {x : DataW H × List MemPlace} (h : DataW.trod enc Tryd.prog W base sp held fuel 34 l = some x) :
    ∃ q : Nat, l = [.int .u64 (q : Int)] ∧ q < 18446744073709551616 := by
  obtain ⟨z, ez, _, hw⟩ := DataW.trod_int Tryd.underlying34 h
  have hb := bounds_u64 hw
  obtain ⟨q, rfl⟩ := Int.eq_ofNat_of_zero_le hb.1
  exact ⟨q, ez, by omega⟩

end Go.Proofs.YtnaebjdccngeoaaDoor

/-
  Arguments of type api.Clash.
-/
namespace Go.Proofs.YtnaebjdccngeoaaDoor
open Go.ChangeShapes Go.WideShapes Go.ChangeAt Go.RowKit Go.Deep

/-- A slice of bytes that lies in a struct. -/
theorem bytes_one {H : Type} {enc : TypeId × Value → H} {w : World} {held : Bool} {fuel : Nat} {u : Value} {x : DataW H × List MemPlace} (h : DataW.trod enc Tryd.prog w 0 (fun _ => true) held fuel 23 [u] = some x)
    (hw : ∀ n ∈ x.1.weights Tryd.prog 23, n ≤ reachBytes) : ∃ A m c xs, u = .slice A m c ∧ Came w A m c xs ∧ m ≤ 140737488355328 := by
  rcases open_ints Tryd.underlying23 Tryd.underlying5 (by kernel_rfl) h with ⟨hcs, _⟩ | ⟨a, len, cap, zs, hcs, _, hl, hm, hz, hx, hcell, hwz⟩
  · simp at hcs
    subst hcs
    exact ⟨none, 0, 0, [], rfl, ⟨In.none_ _ _, (by intro x hx; cases hx), fun _ => rfl, Nat.le_refl _⟩, by omega⟩
  · simp at hcs
    subst hcs
    obtain ⟨xs, hxs⟩ := came_of (w := w) (a := some a) (len := len) (cap := cap) (zs := zs) (.inr ⟨_, rfl, hl, by simpa using hz, hcell, hwz⟩)
    have hz' : zs.length = cap := by simpa using hz
    have h1 := hw cap (by
      rw [hx, DataW.weights, Tryd.underlying23]
      refine List.mem_cons.2 (.inl ?_)
      rw [bytesByte, Nat.mul_one]
      simp [lits]
      omega)
    have := reachBytes_lt
    exact ⟨_, _, _, xs, rfl, hxs, by omega⟩

theorem cellsClash : Tryd.prog.cellsOf 30 = 2 := by kernel_rfl
theorem cellsBytes1 : Tryd.prog.cellsOf 23 = 1 := by kernel_rfl

set_option maxRecDepth 100000 in
theorem came_clash {H : Type} {enc : TypeId × Value → H} {W : World} {b0 : Nat} {held : Bool} {r : Reach} {v : Value} {d : DataW H} {ps : List MemPlace}
    (hval : Value.okWide Tryd.prog W r b0 30 v) (hd : DataW.Trod enc Tryd.prog W 0 (fun _ => true) held 30 v d ps) (hw : ∀ n ∈ d.weights Tryd.prog 30, n ≤ reachBytes) :
    ∃ A n c xs B m e ys, v = clv A n c B m e ∧ Came W A n c xs ∧ Came W B m e ys ∧ n ≤ 140737488355328 ∧ m ≤ 140737488355328 := by
  simp only [Value.okWide, Tryd.underlying30] at hval
  obtain ⟨cs, rfl, hsz, _⟩ := hval
  rw [cellsClash] at hsz
  obtain ⟨fuel, hf⟩ := hd
  obtain ⟨xs, n, _, hx0, hl, hlen, hx⟩ := DataW.trod_struct Tryd.underlying30 hf
  match xs, hlen with
  | [y0, y1], _ =>
    obtain ⟨l⟩ := cs
    have hln : l.length = 2 := by simpa using hsz
    match l, hln with
    | [u0, u1], _ =>
      have h0 := hx 0 _ rfl
      have h1 := hx 1 _ rfl
      have g0 : DataW.trod enc Tryd.prog W 0 (fun _ => true) held n 23 (([u0, u1].drop 0).take (Tryd.prog.cellsOf 23)) = some y0 := h0
      rw [cellsBytes1] at g0
      have g1 : DataW.trod enc Tryd.prog W 0 (fun _ => true) held n 23 (([u0, u1].drop 1).take (Tryd.prog.cellsOf 23)) = some y1 := h1
      rw [cellsBytes1] at g1
      have hd0 : d = .agg [y0.1, y1.1] := by
        have := congrArg Prod.fst hx0
        simpa using this
      subst hd0
      simp only [DataW.weights, Tryd.underlying30] at hw
      obtain ⟨A, m, c, xs, rfl, k0, l0⟩ := bytes_one g0 (fun n hn => hw n (DataW.weights_mem_each (ts := [23, 23]) (j := 0) rfl rfl n hn))
      obtain ⟨B, m', c', ys, rfl, k1, l1⟩ := bytes_one g1 (fun n hn => hw n (DataW.weights_mem_each (ts := [23, 23]) (j := 1) rfl rfl n hn))
      exact ⟨A, m, c, xs, B, m', c', ys, rfl, k0, k1, l0, l1⟩

end Go.Proofs.YtnaebjdccngeoaaDoor

/-
  A slice of slices that came in: its length is not above its room.
-/
namespace Go.Proofs.YtnaebjdccngeoaaDoor
open Go.ChangeShapes Go.WideShapes Go.ChangeAt Go.RowKit Go.Deep

theorem rows_cap {H : Type} {enc : TypeId × Value → H} {w : World} {base : Nat} {held : Bool} {fuel n c : Nat} {A : Option Addr} {x : DataW H × List MemPlace} (h : DataW.trod enc Tryd.prog w base (fun _ => true) held fuel 22 [.slice A n c] = some x) : n ≤ c := by
  rcases open_int_rows Tryd.underlying22 Tryd.underlying23 Tryd.underlying5 (by kernel_rfl) (by kernel_rfl) h with ⟨e, _⟩ | ⟨a, len, cap, B, L, C, Z, e, _, hl, _⟩
  · simp at e; omega
  · simp at e; omega

end Go.Proofs.YtnaebjdccngeoaaDoor

/-
  Arguments of type Said of layer 13: two lists of entries, a place, an entry, and sums.
-/
namespace Go.Proofs.YtnaebjdccngeoaaDoor
open Go.ChangeShapes Go.WideShapes Go.ChangeAt Go.RowKit Go.Deep

/-- One that came in. -/
def SaidC (W : World) (v : Value) : Prop := ∃ A n c R B m d S z X k q b P s r ys, v = .agg #[.slice A n c, .slice B m d, .int .i64 z, .slice X k q, .slice P s r] ∧
  (CameRows W A n R ∧ (A = none → c = 0) ∧ n ≤ c) ∧ (CameRows W B m S ∧ (B = none → d = 0) ∧ m ≤ d) ∧ (Came W X k q b ∧ k ≤ 140737488355328) ∧ CameS W P s r ys

theorem rows_form {H : Type} {enc : TypeId × Value → H} {w : World} {held : Bool} {fuel : Nat} {u : Value} {x : DataW H × List MemPlace} (h : DataW.trod enc Tryd.prog w 0 (fun _ => true) held fuel 22 [u] = some x)
    (hw : ∀ n ∈ x.1.weights Tryd.prog 22, n ≤ reachBytes) : ∃ A n c R, u = .slice A n c ∧ CameRows w A n R ∧ (A = none → c = 0) ∧ n ≤ c := by
  obtain ⟨Ao, no, co, rows, hcs, hr⟩ := came_rows h (List.all_eq_true.2 fun n hn => by simpa using hw n hn)
  simp at hcs
  subst hcs
  exact ⟨Ao, no, co, rows, rfl, hr, rows_nil h, rows_cap h⟩
theorem cellsInt1 : Tryd.prog.cellsOf 3 = 1 := by kernel_rfl
theorem cellsRows1 : Tryd.prog.cellsOf 22 = 1 := by kernel_rfl
theorem cellsSaidC : Tryd.prog.cellsOf 26 = 5 := by kernel_rfl

set_option maxRecDepth 100000 in
theorem came_saidC {H : Type} {enc : TypeId × Value → H} {W : World} {b0 : Nat} {held : Bool} {r : Reach} {v : Value} {d : DataW H} {ps : List MemPlace}
    (hval : Value.okWide Tryd.prog W r b0 26 v) (hd : DataW.Trod enc Tryd.prog W 0 (fun _ => true) held 26 v d ps) (hw : ∀ n ∈ d.weights Tryd.prog 26, n ≤ reachBytes) : SaidC W v := by
  simp only [Value.okWide, Tryd.underlying26] at hval
  obtain ⟨cs, rfl, hsz, _⟩ := hval
  rw [cellsSaidC] at hsz
  obtain ⟨fuel, hf⟩ := hd
  obtain ⟨xs, n, _, hx0, hl, hlen, hx⟩ := DataW.trod_struct Tryd.underlying26 hf
  match xs, hlen with
  | [y0, y1, y2, y3, y4], _ =>
    obtain ⟨l⟩ := cs
    have hln : l.length = 5 := by simpa using hsz
    match l, hln with
    | [u0, u1, u2, u3, u4], _ =>
      have g0 : DataW.trod enc Tryd.prog W 0 (fun _ => true) held n 22 (([u0, u1, u2, u3, u4].drop 0).take (Tryd.prog.cellsOf 22)) = some y0 := hx 0 _ rfl
      have g1 : DataW.trod enc Tryd.prog W 0 (fun _ => true) held n 22 (([u0, u1, u2, u3, u4].drop 1).take (Tryd.prog.cellsOf 22)) = some y1 := hx 1 _ rfl
      have g2 : DataW.trod enc Tryd.prog W 0 (fun _ => true) held n 3 (([u0, u1, u2, u3, u4].drop 2).take (Tryd.prog.cellsOf 3)) = some y2 := hx 2 _ rfl
      have g3 : DataW.trod enc Tryd.prog W 0 (fun _ => true) held n 23 (([u0, u1, u2, u3, u4].drop 3).take (Tryd.prog.cellsOf 23)) = some y3 := hx 3 _ rfl
      have g4 : DataW.trod enc Tryd.prog W 0 (fun _ => true) held n 24 (([u0, u1, u2, u3, u4].drop 4).take (Tryd.prog.cellsOf 24)) = some y4 := hx 4 _ rfl
      rw [cellsRows1] at g0 g1
      rw [cellsInt1] at g2
      rw [cellsBytes1] at g3
      rw [cellsSpath] at g4
      have hd0 : d = .agg [y0.1, y1.1, y2.1, y3.1, y4.1] := by
        have := congrArg Prod.fst hx0
        simpa using this
      subst hd0
      simp only [DataW.weights, Tryd.underlying26] at hw
      obtain ⟨A, m0, c0, R, rfl, k0⟩ := rows_form g0 (fun n hn => hw n (DataW.weights_mem_each (ts := [22, 22, 3, 23, 24]) (j := 0) rfl rfl n hn))
      obtain ⟨B, m1, c1, S, rfl, k1⟩ := rows_form g1 (fun n hn => hw n (DataW.weights_mem_each (ts := [22, 22, 3, 23, 24]) (j := 1) rfl rfl n hn))
      obtain ⟨z, ez, _, _⟩ := DataW.trod_int Tryd.underlying3 g2
      obtain ⟨X, m3, c3, b, rfl, k3, l3⟩ := bytes_one g3 (fun n hn => hw n (DataW.weights_mem_each (ts := [22, 22, 3, 23, 24]) (j := 3) rfl rfl n hn))
      obtain ⟨P, m4, c4, ys, rfl, k4⟩ : ∃ A m c ys, u4 = .slice A m c ∧ CameS W A m c ys := by
        have g4' : DataW.trod enc Tryd.prog W 0 (fun _ => true) held n 24 [u4] = some y4 := g4
        rcases Go.Deep.open_slice Tryd.underlying24 g4' with ⟨h0, _⟩ | ⟨ad, l, c, m, n, D, Pl, h0, _⟩
        · simp at h0
          subst h0
          exact ⟨none, 0, 0, [], rfl, InS.none_ _ _, (by intro x hx; cases hx), fun _ => rfl, Nat.le_refl _⟩
        · simp at h0
          subst h0
          obtain ⟨ys, hys⟩ := cameS_of g4'
          exact ⟨_, _, _, ys, rfl, hys⟩
      have e2 : u2 = .int .i64 z := by have : [u2] = [Value.int .i64 z] := ez; injection this
      subst e2
      exact ⟨A, m0, c0, R, B, m1, c1, S, z, X, m3, c3, b, P, m4, c4, ys, rfl, k0, k1, ⟨k3, l3⟩, k4⟩

end Go.Proofs.YtnaebjdccngeoaaDoor

/-
  almonerlaw13.ClashesLink.
-/
namespace Go.Proofs.YtnaebjdccngeoaaDoor
open Go.RowKit

theorem leql_bool (x : Bool) (W : World) : (binOp .eql 4 (.bool x) (.bool x)).run Tryd.prog W = .ok (.bool true) W := by simp [go_sem]
theorem lent_of {w : World} {A : Option Addr} {n c : Nat} {R : List (List Nat)} (h : CameRows w A n R) (hc : n ≤ c) (hn : A = none → c = 0) (ht : tot R ≤ 20000) : Ent w A n c R :=
  ⟨h, hc, hn, fun _ hb => Nat.le_trans (tot_mem hb) ht⟩
theorem lload_clash_op {o : Oper} {a : Act} {W : World} {g : Nat} {T : TypeId} {x y : Value} (p : Operand) (ho : o.op = .load 30 p) (hp : a.eval p = .pointer (some ⟨g, 0, none⟩)) (h : Cells W g T #[x, y]) : (execOp a.eval o).run Tryd.prog W = .ok (.value (.agg #[x, y])) W := by
  unfold execOp
  simp only [ho, hp, Instr.loadAt, Instr.sureAddr, Sem.run_bind, Sem.run_pure, Result.andThen_ok, run_load_clash (h.cell 0 (v := x) rfl) (h.cell 1 (v := y) rfl)]

set_option maxRecDepth 100000 in
set_option maxHeartbeats 8000000 in
theorem clashesLink_law (w : World) (hk : Knows w) (hks : Starts w) (E : Addr) (hmi : Miss w E) {v : Value} (hv : SaidC w v) :
    Calls Tryd.prog 3 #[v] w fun e w' => e = .returned (.bool true) ∧ Below w.heap.size w w' := by
  obtain ⟨A, n, c, R, B, m, d, S, z, X, k, q, b, P, s, r, ys, rfl, ⟨crA, nilA, capA⟩, ⟨crB, nilB, capB⟩, ⟨hb, hkb⟩, hsu⟩ := hv
  obtain ⟨g, hg⟩ : ∃ g, w.heap.size = g := ⟨_, rfl⟩
  have c1 := Cells.new w 26 #[.slice A n c, .slice B m d, .int .i64 z, .slice X k q, .slice P s r]
  have b1 := below_alloc w (.cells #[.slice A n c, .slice B m d, .int .i64 z, .slice X k q, .slice P s r] 26)
  obtain ⟨w1, hw1⟩ : ∃ x, x = w.alloc (.cells #[.slice A n c, .slice B m d, .int .i64 z, .slice X k q, .slice P s r] 26) := ⟨_, rfl⟩
  rw [← hw1] at c1 b1
  rw [hg] at c1
  have CG := Lib.hid (cgreat_any (w := w1) (A := A) (B := B) (X := X) (P := P) (c := c) (d := d) (q := q) (s := s) (r := r) (z := z) (crA.below b1) (crB.below b1) hkb)
  have CA := Lib.hid (fun (W : World) (hW : Below w.heap.size w W) => calive_on hk hks hW)
  have HK := Lib.hid (And.intro hk (And.intro hks (And.intro crA (And.intro crB (And.intro hsu hmi)))))
  have HW := Lib.hid hw1
  have HG := Lib.hid hg
  have HB1 := Lib.hid b1
  have HC1 := Lib.hid c1
  have x0 := c1.cell 0 (v := .slice A n c) rfl
  have x1 := c1.cell 1 (v := .slice B m d) rfl
  have x2 := c1.cell 2 (v := .int .i64 z) rfl
  have x3 := c1.cell 3 (v := .slice X k q) rfl
  have x4 := c1.cell 4 (v := .slice P s r) rfl
  clear hk hks crA crB hb hsu hw1 b1 c1 hg hmi
  go_enter Tryd.func3, Tryd.ntmps3
  go_upto_region 1 with fail
  rw [← HW.out]
  rw [HG.out]
  go_wp2_with fail
  refine CG.out.mono ?_
  rintro e w2 ⟨⟨bg, rfl, hbg⟩, hb2⟩
  have HB2 := Lib.hid (below_on HB1.out (Nat.le_refl _) hb2)
  have HC2 := Lib.hid (HC1.out.below hb2)
  clear CG hb2 x0 x1 x2 x3 x4
  cases bg with
  | true =>
    have C1 := Lib.hid (CA.out w2 HB2.out)
    go_wp2_with fail
    refine C1.out.mono ?_
    rintro e w3 ⟨rfl, hb3⟩
    have HB3 := Lib.hid (below_on HB2.out (Nat.le_refl _) hb3)
    clear hb3
    go_wp2_with fail
    go_ret
    exact ⟨rfl, HB3.out⟩
  | false =>
    have hgr := hbg rfl
    have HE := Lib.hid (lent_of HK.out.2.2.1 capA nilA (by omega))
    have HF := Lib.hid (lent_of HK.out.2.2.2.1 capB nilB (by omega))
    have hn40 : n ≤ 40 := hgr.1
    have hm40 : m ≤ 40 := hgr.2.1
    have hs100 : s ≤ 100 := hgr.2.2.1
    clear hgr hbg
    have y0 := HC2.out.cell 0 (v := .slice A n c) rfl
    have y1 := HC2.out.cell 1 (v := .slice B m d) rfl
    have y4 := HC2.out.cell 4 (v := .slice P s r) rfl
    have CP := Lib.hid (clink_any (w := w2) (HE.out.below HB2.out) (HF.out.below HB2.out) (by omega) (by omega) (HK.out.2.2.2.2.1.in_.below HB2.out) HK.out.2.2.2.2.1.lt HK.out.2.2.2.2.1.cap (by omega) (HK.out.1.below HB2.out) (HK.out.2.1.below HB2.out) (HK.out.2.2.2.2.2.below HB2.out))
    go_wp2_with fail
    refine CP.out.mono ?_
    rintro e w3 ⟨⟨v, rfl, hv1, hv0⟩, hb3⟩
    obtain ⟨b0, hb0⟩ : ∃ x, linkB R S ys s = x := ⟨_, rfl⟩
    rw [hb0] at hv1 hv0 ⊢
    obtain ⟨A5, n5, c5, B5, m5, d5, rfl, hsh⟩ : ∃ A5 n5 c5 B5 m5 d5, v = clv A5 n5 c5 B5 m5 d5 ∧ (b0 = true → ∃ xs ys, Two w2.heap.size w3 A5 n5 c5 xs B5 m5 d5 ys ∧ Clashes xs ys) := by
      cases b0 with
      | true =>
        obtain ⟨A5, n5, c5, xs, B5, m5, d5, ys, e5, hT, hC⟩ := hv1 rfl
        exact ⟨A5, n5, c5, B5, m5, d5, e5, fun _ => ⟨xs, ys, hT, hC⟩⟩
      | false => exact ⟨none, 0, 0, none, 0, 0, hv0 rfl, fun e => by cases e⟩
    have c4 := Cells.new w3 30 #[.slice A5 n5 c5, .slice B5 m5 d5]
    have b34 := below_alloc w3 (.cells #[.slice A5 n5 c5, .slice B5 m5 d5] 30)
    have HB3 := Lib.hid (below_on HB2.out (Nat.le_refl _) hb3)
    have HC3 := Lib.hid (HC2.out.below hb3)
    have HSH := Lib.hid hsh
    have HB0 := Lib.hid hb0
    clear hv1 hv0 hsh hb0 hb3 CP y0 y1 y4
    unfold clv
    go_upto_region 4 with fail
    obtain ⟨w4, hw4⟩ : ∃ x, x = w3.alloc (.cells #[.slice A5 n5 c5, .slice B5 m5 d5] 30) := ⟨_, rfl⟩
    rw [← hw4] at c4 b34 ⊢
    obtain ⟨gc, hgc⟩ : ∃ g, w3.heap.size = g := ⟨_, rfl⟩
    rw [hgc] at c4 ⊢
    have HB4 := Lib.hid (below_on HB3.out (Nat.le_refl _) b34)
    have HC4 := Lib.hid (HC3.out.below b34)
    have HCL := Lib.hid c4
    have HT4 := Lib.hid (fun e => by obtain ⟨xs, ys, hT, hC⟩ := HSH.out e; exact (⟨xs, ys, hT.below b34, hC⟩ : ∃ xs ys, Two w2.heap.size w4 A5 n5 c5 xs B5 m5 d5 ys ∧ Clashes xs ys))
    clear hw4 c4 b34 hgc HSH
    have y0 := HC4.out.cell 0 (v := .slice A n c) rfl
    have y1 := HC4.out.cell 1 (v := .slice B m d) rfl
    by_cases hout : n < 1 ∨ m < n
    · have hbf : b0 = false := by
        rw [← HB0.out]; unfold linkB
        rw [HE.out.len, HF.out.len]
        rcases hout with h0 | h0
        · have hR : R = [] := List.length_eq_zero_iff.1 (by have := HE.out.len; omega)
          have hz : n = 0 := by omega
          rw [hR, hz]; simp
        · rw [decide_eq_true h0]; rfl
      subst hbf
      have C9 := Lib.hid (CA.out w4 HB4.out)
      have HOUT := Lib.hid hout
      clear hout
      by_cases h1 : n < 1
      · have hi1 : (n : Int) < 1 := by omega
        go_wp2_with fail
        refine C9.out.mono ?_
        rintro e w9 ⟨rfl, hb9⟩
        have HB9 := Lib.hid (below_on HB4.out (Nat.le_refl _) hb9)
        clear hb9
        go_wp2_with fail
        go_ret
        exact ⟨rfl, HB9.out⟩
      · have hi1 : ¬ (n : Int) < 1 := by omega
        have hi2 : (m : Int) < (n : Int) := by have := HOUT.out; omega
        go_wp2_with fail
        refine C9.out.mono ?_
        rintro e w9 ⟨rfl, hb9⟩
        have HB9 := Lib.hid (below_on HB4.out (Nat.le_refl _) hb9)
        clear hb9
        go_wp2_with fail
        go_ret
        exact ⟨rfl, HB9.out⟩
    · have hn1 : ¬ n < 1 := fun h => hout (.inl h)
      have hmn : n ≤ m := by have : ¬ m < n := fun h => hout (.inr h); omega
      have hi1 : ¬ (n : Int) < 1 := by omega
      have hi2 : ¬ (m : Int) < (n : Int) := by omega
      clear hout
      go_upto_region 6 with fail
      clear y0 y1
      have LC0 := Lib.hid (fun (W : World) (hW : Below w4.heap.size w4 W) => show W.cell? ⟨g, 0, none⟩ = some (.slice A n c) from (HC4.out.below hW).cell 0 rfl)
      have LC1 := Lib.hid (fun (W : World) (hW : Below w4.heap.size w4 W) => show W.cell? ⟨g, 1, none⟩ = some (.slice B m d) from (HC4.out.below hW).cell 1 rfl)
      have LC4 := Lib.hid (fun (W : World) (hW : Below w4.heap.size w4 W) => show W.cell? ⟨g, 4, none⟩ = some (.slice P s r) from (HC4.out.below hW).cell 4 rfl)
      have ON := Lib.hid (fun (W : World) (hW : Below w4.heap.size w4 W) => below_on HB4.out (Nat.le_refl _) hW)
      obtain ⟨ra, hra⟩ : ∃ x, rtl R = x := ⟨_, rfl⟩
      obtain ⟨rb, hrb⟩ : ∃ x, rtl S = x := ⟨_, rfl⟩
      obtain ⟨let_, hlet⟩ : ∃ x, begins ys (rtl R) (rtl S) s n m = x := ⟨_, rfl⟩
      have CSM := Lib.hid (fun (W : World) (hW : Below w4.heap.size w4 W) => csums_any (HE.out.below (ON.out W hW)) (by omega) (HK.out.1.below (ON.out W hW)) (HK.out.2.1.below (ON.out W hW)))
      have CSN := Lib.hid (fun (W : World) (hW : Below w4.heap.size w4 W) => csums_any (HF.out.below (ON.out W hW)) (by omega) (HK.out.1.below (ON.out W hW)) (HK.out.2.1.below (ON.out W hW)))
      have CRT := Lib.hid (fun (W : World) (hW : Below w4.heap.size w4 W) (Y : Option Addr) (qy base : Nat) (ho : W.ownsRow base 36 32 (.slice Y n qy) n (bvs (leavesL R))) => show Calls Tryd.prog 12 #[.slice Y n qy] W fun e w' => e = .returned (sv ra) ∧ Below W.heap.size W w' from by
        have := root_any Y n qy (leavesL R) W (InS.of_own ho) (leavesL_lt _) (own_cap ho) (by omega) (HK.out.1.below (ON.out W hW)) (HK.out.2.1.below (ON.out W hW))
        have hl := HE.out.len
        have h2 := rtl_nth R
        rw [hl, hra] at h2
        rw [h2] at this
        exact this)
      have CRU := Lib.hid (fun (W : World) (hW : Below w4.heap.size w4 W) (Y : Option Addr) (qy base : Nat) (ho : W.ownsRow base 36 32 (.slice Y m qy) m (bvs (leavesL S))) => show Calls Tryd.prog 12 #[.slice Y m qy] W fun e w' => e = .returned (sv rb) ∧ Below W.heap.size W w' from by
        have := root_any Y m qy (leavesL S) W (InS.of_own ho) (leavesL_lt _) (own_cap ho) (by omega) (HK.out.1.below (ON.out W hW)) (HK.out.2.1.below (ON.out W hW))
        have hl := HF.out.len
        have h2 := rtl_nth S
        rw [hl, hrb] at h2
        rw [h2] at this
        exact this)
      have CCK := Lib.hid (fun (W : World) (hW : Below w4.heap.size w4 W) => show Calls Tryd.prog 11 #[.int .u64 (n : Int), .int .u64 (m : Int), sv ra, sv rb, .slice P s r] W fun e w' => e = .returned (.bool let_) ∧ Below W.heap.size W w' from by
        rw [← hlet, ← hra, ← hrb]; exact kcheck_any (from_ := n) (size := m) (HK.out.2.2.2.2.1.in_.below (ON.out W hW)) HK.out.2.2.2.2.1.lt HK.out.2.2.2.2.1.cap (by omega) (rtl_length _) (rtl_lt _) (rtl_length _) (by omega) (HK.out.1.below (ON.out W hW)) (HK.out.2.1.below (ON.out W hW)) (HK.out.2.2.2.2.2.below (ON.out W hW)))
      have hm64 := Lib.hid (show IntKind.u64.wrap (m : Int) = (m : Int) by rw [IntKind.wrap_u64]; omega)
      have hn64 := Lib.hid (show IntKind.u64.wrap (n : Int) = (n : Int) by rw [IntKind.wrap_u64]; omega)
      obtain ⟨adB, rfl⟩ := HF.out.some_ (by omega)
      have hpB : b0 = (!decide (R = S.take n) && let_) := by
        rw [← HB0.out]; unfold linkB
        rw [HE.out.len, HF.out.len, hlet, decide_eq_false (show ¬ m < n by omega)]; rfl
      have CSB := Lib.hid (fun (W : World) (hW : Below w4.heap.size w4 W) => show Calls Tryd.prog 14 #[.slice A n c, .slice (some adB) n d] W fun e w' => e = .returned (.bool (decide (R = S.take n))) ∧ Below W.heap.size W w' from
        (sameLists_any (HE.out.below (ON.out W hW)) ((HF.out.below (ON.out W hW)).take hmn) (by omega)).mono fun e w' ⟨he, q0, hq⟩ => ⟨he, by rw [hq]; exact drewN_on W q0⟩)
      have tk := fun W => run_takeR (A := some adB) (n := m) (c := d) (k := n) hmn HF.out.cap (fun e => by cases e) W
      obtain ⟨same, hsm⟩ : ∃ x, decide (R = S.take n) = x := ⟨_, rfl⟩
      rw [hsm] at CSB hpB
      have HPB := Lib.hid hpB
      clear hra hrb hlet hpB hsm
      have CAL := Lib.hid (fun (W : World) (hW : Below w4.heap.size w4 W) => CA.out W (ON.out W hW))
      have e1 := leql_bool
      go_cut [5] from 37 to 55 (fun s5 wx => s5 = .bool let_ ∧ Hid (Below w4.heap.size w4 wx))
      case first =>
        have hSk1 : Below w4.heap.size w4 w4.drew := (Below.refl _ _).drew
        refine wp_region_held_drew (S := fun W => Below w4.heap.size w4 W) (by kernel_rfl) (hSk1) (fun _ => ?_)
        change wpAnyH _ _ _ _ _ _ _ _ w4.drew
        generalize w4.drew = Wk2 at hSk1 ⊢
        refine' wpAnyH_take (i := 0) (oi := _) (v := _) ?hik3 (by kernel_rfl) ?hfk3 ?hrk3 ?hQk3 ?hyk3 (hSk1) ?restk3
        case hik3 => (simp only [List.getElem?_toArray, List.getElem?_cons_zero]; rfl)
        case hfk3 => kernel_rfl
        case hrk3 => kernel_rfl
        case hQk3 => exact fun _ _ _ h => h
        case hyk3 => refine Or.inl ⟨by rfl, ?_⟩; intro W hSw; go_simp; try with_reducible rfl
        try simp only [Act.put, List.setIfInBounds_toArray, List.set_cons_zero, List.set_cons_succ]
        refine' wpAnyH_take (i := 1) (oi := _) (v := _) ?hik4 (by kernel_rfl) ?hfk4 ?hrk4 ?hQk4 ?hyk4 (hSk1) ?restk4
        case hik4 => (simp only [List.getElem?_toArray, List.getElem?_cons_zero, List.getElem?_cons_succ]; rfl)
        case hfk4 => kernel_rfl
        case hrk4 => kernel_rfl
        case hQk4 => exact fun _ _ _ h => h
        case hyk4 => refine Or.inl ⟨by rfl, ?_⟩; intro W hSw; have hcc := LC0.out W hSw; go_simp; try with_reducible rfl
        try simp only [Act.put, List.setIfInBounds_toArray, List.set_cons_zero, List.set_cons_succ]
        refine' wpAnyH_take (i := 2) (oi := _) (v := _) ?hik5 (by kernel_rfl) ?hfk5 ?hrk5 ?hQk5 ?hyk5 (hSk1) ?restk5
        case hik5 => (simp only [List.getElem?_toArray, List.getElem?_cons_zero, List.getElem?_cons_succ]; rfl)
        case hfk5 => kernel_rfl
        case hrk5 => kernel_rfl
        case hQk5 => exact fun _ _ _ h => h
        case hyk5 => refine Or.inl ⟨by rfl, ?_⟩; intro W hSw; go_simp; try with_reducible rfl
        try simp only [Act.put, List.setIfInBounds_toArray, List.set_cons_zero, List.set_cons_succ]
        refine' wpAnyH_take (i := 3) (oi := _) (v := .int .u64 (n : Int)) ?hik6 (by kernel_rfl) ?hfk6 ?hrk6 ?hQk6 ?hyk6 (hSk1) ?restk6
        case hik6 => (simp only [List.getElem?_toArray, List.getElem?_cons_zero, List.getElem?_cons_succ]; rfl)
        case hfk6 => kernel_rfl
        case hrk6 => kernel_rfl
        case hQk6 => exact fun _ _ _ h => h
        case hyk6 => refine Or.inl ⟨by rfl, ?_⟩; intro W hSw; have h6 := hn64.out; go_simp; try rw [h6]; try with_reducible rfl
        try simp only [Act.put, List.setIfInBounds_toArray, List.set_cons_zero, List.set_cons_succ]
        refine' wpAnyH_take (i := 4) (oi := _) (v := _) ?hik7 (by kernel_rfl) ?hfk7 ?hrk7 ?hQk7 ?hyk7 (hSk1) ?restk7
        case hik7 => (simp only [List.getElem?_toArray, List.getElem?_cons_zero, List.getElem?_cons_succ]; rfl)
        case hfk7 => kernel_rfl
        case hrk7 => kernel_rfl
        case hQk7 => exact fun _ _ _ h => h
        case hyk7 => refine Or.inl ⟨by rfl, ?_⟩; intro W hSw; go_simp; try with_reducible rfl
        try simp only [Act.put, List.setIfInBounds_toArray, List.set_cons_zero, List.set_cons_succ]
        refine' wpAnyH_take (i := 5) (oi := _) (v := _) ?hik8 (by kernel_rfl) ?hfk8 ?hrk8 ?hQk8 ?hyk8 (hSk1) ?restk8
        case hik8 => (simp only [List.getElem?_toArray, List.getElem?_cons_zero, List.getElem?_cons_succ]; rfl)
        case hfk8 => kernel_rfl
        case hrk8 => kernel_rfl
        case hQk8 => exact fun _ _ _ h => h
        case hyk8 => refine Or.inl ⟨by rfl, ?_⟩; intro W hSw; have hcc := LC1.out W hSw; go_simp; try with_reducible rfl
        try simp only [Act.put, List.setIfInBounds_toArray, List.set_cons_zero, List.set_cons_succ]
        refine' wpAnyH_take (i := 6) (oi := _) (v := _) ?hik9 (by kernel_rfl) ?hfk9 ?hrk9 ?hQk9 ?hyk9 (hSk1) ?restk9
        case hik9 => (simp only [List.getElem?_toArray, List.getElem?_cons_zero, List.getElem?_cons_succ]; rfl)
        case hfk9 => kernel_rfl
        case hrk9 => kernel_rfl
        case hQk9 => exact fun _ _ _ h => h
        case hyk9 => refine Or.inl ⟨by rfl, ?_⟩; intro W hSw; go_simp; try with_reducible rfl
        try simp only [Act.put, List.setIfInBounds_toArray, List.set_cons_zero, List.set_cons_succ]
        refine' wpAnyH_take (i := 7) (oi := _) (v := .int .u64 (m : Int)) ?hik10 (by kernel_rfl) ?hfk10 ?hrk10 ?hQk10 ?hyk10 (hSk1) ?restk10
        case hik10 => (simp only [List.getElem?_toArray, List.getElem?_cons_zero, List.getElem?_cons_succ]; rfl)
        case hfk10 => kernel_rfl
        case hrk10 => kernel_rfl
        case hQk10 => exact fun _ _ _ h => h
        case hyk10 => refine Or.inl ⟨by rfl, ?_⟩; intro W hSw; have h6 := hm64.out; go_simp; try rw [h6]; try with_reducible rfl
        try simp only [Act.put, List.setIfInBounds_toArray, List.set_cons_zero, List.set_cons_succ]
        refine' wpAnyH_take (i := 8) (oi := _) (v := _) ?hik11 (by kernel_rfl) ?hfk11 ?hrk11 ?hQk11 ?hyk11 (hSk1) ?restk11
        case hik11 => (simp only [List.getElem?_toArray, List.getElem?_cons_zero, List.getElem?_cons_succ]; rfl)
        case hfk11 => kernel_rfl
        case hrk11 => kernel_rfl
        case hQk11 => exact fun _ _ _ h => h
        case hyk11 => refine Or.inl ⟨by rfl, ?_⟩; intro W hSw; go_simp; try with_reducible rfl
        try simp only [Act.put, List.setIfInBounds_toArray, List.set_cons_zero, List.set_cons_succ]
        refine' wpAnyH_take (i := 9) (oi := _) (v := _) ?hik12 (by kernel_rfl) ?hfk12 ?hrk12 ?hQk12 ?hyk12 (hSk1) ?restk12
        case hik12 => (simp only [List.getElem?_toArray, List.getElem?_cons_zero, List.getElem?_cons_succ]; rfl)
        case hfk12 => kernel_rfl
        case hrk12 => kernel_rfl
        case hQk12 => exact fun _ _ _ h => h
        case hyk12 => refine Or.inl ⟨by rfl, ?_⟩; intro W hSw; have hcc := LC0.out W hSw; go_simp; try with_reducible rfl
        try simp only [Act.put, List.setIfInBounds_toArray, List.set_cons_zero, List.set_cons_succ]
        refine' wpAnyH_take (i := 12) (oi := _) (v := _) ?hik13 (by kernel_rfl) ?hfk13 ?hrk13 ?hQk13 ?hyk13 (hSk1) ?restk13
        case hik13 => (simp only [List.getElem?_toArray, List.getElem?_cons_zero, List.getElem?_cons_succ]; rfl)
        case hfk13 => kernel_rfl
        case hrk13 => kernel_rfl
        case hQk13 => exact fun _ _ _ h => h
        case hyk13 => refine Or.inl ⟨by rfl, ?_⟩; intro W hSw; go_simp; try with_reducible rfl
        try simp only [Act.put, List.setIfInBounds_toArray, List.set_cons_zero, List.set_cons_succ]
        refine' wpAnyH_take (i := 13) (oi := _) (v := _) ?hik14 (by kernel_rfl) ?hfk14 ?hrk14 ?hQk14 ?hyk14 (hSk1) ?restk14
        case hik14 => (simp only [List.getElem?_toArray, List.getElem?_cons_zero, List.getElem?_cons_succ]; rfl)
        case hfk14 => kernel_rfl
        case hrk14 => kernel_rfl
        case hQk14 => exact fun _ _ _ h => h
        case hyk14 => refine Or.inl ⟨by rfl, ?_⟩; intro W hSw; have hcc := LC1.out W hSw; go_simp; try with_reducible rfl
        try simp only [Act.put, List.setIfInBounds_toArray, List.set_cons_zero, List.set_cons_succ]
        refine' wpAnyH_take (i := 16) (oi := _) (v := _) ?hik15 (by kernel_rfl) ?hfk15 ?hrk15 ?hQk15 ?hyk15 (hSk1) ?restk15
        case hik15 => (simp only [List.getElem?_toArray, List.getElem?_cons_zero, List.getElem?_cons_succ]; rfl)
        case hfk15 => kernel_rfl
        case hrk15 => kernel_rfl
        case hQk15 => exact fun _ _ _ h => h
        case hyk15 => refine Or.inl ⟨by rfl, ?_⟩; intro W hSw; go_simp; try with_reducible rfl
        try simp only [Act.put, List.setIfInBounds_toArray, List.set_cons_zero, List.set_cons_succ]
        refine' wpAnyH_take (i := 17) (oi := _) (v := _) ?hik16 (by kernel_rfl) ?hfk16 ?hrk16 ?hQk16 ?hyk16 (hSk1) ?restk16
        case hik16 => (simp only [List.getElem?_toArray, List.getElem?_cons_zero, List.getElem?_cons_succ]; rfl)
        case hfk16 => kernel_rfl
        case hrk16 => kernel_rfl
        case hQk16 => exact fun _ _ _ h => h
        case hyk16 => refine Or.inl ⟨by rfl, ?_⟩; intro W hSw; have hcc := LC4.out W hSw; go_simp; try with_reducible rfl
        try simp only [Act.put, List.setIfInBounds_toArray, List.set_cons_zero, List.set_cons_succ]
        refine wpAnyH_ready (rs := [10]) (by kernel_rfl) (by simp) ?_
        refine' (AllReadyH.cons (o := _) ?hik17 (fun K hK => ?_) AllReadyH.nil)
        case hik17 => (simp only [List.getElem?_toArray, List.getElem?_cons_zero, List.getElem?_cons_succ]; rfl)
        go_simp
        go_at_call 13
        refine (CSM.out Wk2 hSk1).mono ?_
        rintro e Wk20 ⟨Yk21, qyk22, rfl, hok23, hbk18⟩
        have hBk19 := below_on hSk1 (Nat.le_refl _) hbk18
        refine hK.out _ _ (hBk19) (fun _ => ?_)
        clear hK K
        try simp only [Act.put, List.setIfInBounds_toArray, List.set_cons_zero, List.set_cons_succ]
        refine wpAnyH_ready (rs := [11]) (by kernel_rfl) (by simp) ?_
        refine' (AllReadyH.cons (o := _) ?hik24 (fun K hK => ?_) AllReadyH.nil)
        case hik24 => (simp only [List.getElem?_toArray, List.getElem?_cons_zero, List.getElem?_cons_succ]; rfl)
        go_simp
        go_at_call 12
        refine (CRT.out Wk20 hBk19 _ _ _ hok23).mono ?_
        rintro e Wk27 ⟨rfl, hbk25⟩
        have hBk26 := below_on hBk19 (Nat.le_refl _) hbk25
        refine hK.out _ _ (hBk26) (fun _ => ?_)
        clear hK K
        try simp only [Act.put, List.setIfInBounds_toArray, List.set_cons_zero, List.set_cons_succ]
        refine wpAnyH_ready (rs := [14]) (by kernel_rfl) (by simp) ?_
        refine' (AllReadyH.cons (o := _) ?hik28 (fun K hK => ?_) AllReadyH.nil)
        case hik28 => (simp only [List.getElem?_toArray, List.getElem?_cons_zero, List.getElem?_cons_succ]; rfl)
        go_simp
        go_at_call 13
        refine (CSN.out Wk27 hBk26).mono ?_
        rintro e Wk31 ⟨Y2k32, qy2k33, rfl, ho2k34, hbk29⟩
        have hBk30 := below_on hBk26 (Nat.le_refl _) hbk29
        refine hK.out _ _ (hBk30) (fun _ => ?_)
        clear hK K
        try simp only [Act.put, List.setIfInBounds_toArray, List.set_cons_zero, List.set_cons_succ]
        refine wpAnyH_ready (rs := [15]) (by kernel_rfl) (by simp) ?_
        refine' (AllReadyH.cons (o := _) ?hik35 (fun K hK => ?_) AllReadyH.nil)
        case hik35 => (simp only [List.getElem?_toArray, List.getElem?_cons_zero, List.getElem?_cons_succ]; rfl)
        go_simp
        go_at_call 12
        refine (CRU.out Wk31 hBk30 _ _ _ ho2k34).mono ?_
        rintro e Wk38 ⟨rfl, hbk36⟩
        have hBk37 := below_on hBk30 (Nat.le_refl _) hbk36
        refine hK.out _ _ (hBk37) (fun _ => ?_)
        clear hK K
        try simp only [Act.put, List.setIfInBounds_toArray, List.set_cons_zero, List.set_cons_succ]
        refine wpAnyH_ready (rs := [18]) (by kernel_rfl) (by simp) ?_
        refine' (AllReadyH.cons (o := _) ?hik39 (fun K hK => ?_) AllReadyH.nil)
        case hik39 => (simp only [List.getElem?_toArray, List.getElem?_cons_zero, List.getElem?_cons_succ]; rfl)
        go_simp
        go_at_call 11
        refine (CCK.out Wk38 hBk37).mono ?_
        rintro e Wk42 ⟨rfl, hbk40⟩
        have hBk41 := below_on hBk37 (Nat.le_refl _) hbk40
        refine hK.out _ _ (hBk41) (fun _ => ?_)
        clear hK K
        try simp only [Act.put, List.setIfInBounds_toArray, List.set_cons_zero, List.set_cons_succ]
        refine' wpAnyH_take (i := 19) (oi := _) (v := _) ?hik43 (by kernel_rfl) ?hfk43 ?hrk43 ?hQk43 ?hyk43 (hBk41) ?restk43
        case hik43 => (simp only [List.getElem?_toArray, List.getElem?_cons_zero, List.getElem?_cons_succ]; rfl)
        case hfk43 => kernel_rfl
        case hrk43 => kernel_rfl
        case hQk43 => exact fun _ _ _ h => h
        case hyk43 => refine Or.inl ⟨by rfl, ?_⟩; intro W hSw; go_simp; try with_reducible rfl
        try simp only [Act.put, List.setIfInBounds_toArray, List.set_cons_zero, List.set_cons_succ]
        refine wpAnyH_done (by kernel_rfl) ?_ _
        go_wp2_with fail
        go_meet
        case rel => exact ⟨rfl, Lib.hid hBk41⟩
      case rest =>
        obtain ⟨rfl, HR⟩ := hcut
        have HCW := Lib.hid (HCL.out.below HR.out)
        have HTW := Lib.hid (fun e => by obtain ⟨xs, ys, hT, hC⟩ := HT4.out e; exact (⟨xs, ys, hT.below HR.out, hC⟩ : ∃ xs ys, Two w2.heap.size wc A5 n5 c5 xs B5 m5 d5 ys ∧ Clashes xs ys))
        go_upto_region 7 with fail
        clear CSM CSN CRT CRU CCK
        have K0 := Lib.hid (fun (W : World) (hW : Below wc.heap.size wc W) => LC0.out W (below_on HR.out (Nat.le_refl _) hW))
        have K1 := Lib.hid (fun (W : World) (hW : Below wc.heap.size wc W) => LC1.out W (below_on HR.out (Nat.le_refl _) hW))
        have KS := Lib.hid (fun (W : World) (hW : Below wc.heap.size wc W) => CSB.out W (below_on HR.out (Nat.le_refl _) hW))
        have KA := Lib.hid (fun (W : World) (hW : Below wc.heap.size wc W) => CAL.out W (below_on HR.out (Nat.le_refl _) hW))
        cases let_ with
        | false =>
          have hbv : b0 = false := by rw [HPB.out]; simp
          subst hbv
          have hSl1 : Below wc.heap.size wc wc.drew := (Below.refl _ _).drew
          refine wp_region_held_drew (S := fun W => Below wc.heap.size wc W) (by kernel_rfl) (hSl1) (fun _ => ?_)
          change wpAnyH _ _ _ _ _ _ _ _ wc.drew
          generalize wc.drew = Wl2 at hSl1 ⊢
          refine wpAnyH_ready (rs := [0]) (by kernel_rfl) (by simp) ?_
          refine' (AllReadyH.cons (o := _) ?hil3 (fun K hK => ?_) AllReadyH.nil)
          case hil3 => (simp only [List.getElem?_toArray, List.getElem?_cons_zero]; rfl)
          go_simp
          go_at_call 9
          refine (KA.out Wl2 hSl1).mono ?_
          rintro e Wl6 ⟨rfl, hbl4⟩
          have hBl5 := below_on hSl1 (Nat.le_refl _) hbl4
          refine hK.out _ _ (hBl5) (fun _ => ?_)
          clear hK K
          try simp only [Act.put, List.setIfInBounds_toArray, List.set_cons_zero, List.set_cons_succ]
          refine' wpAnyH_take (i := 1) (oi := _) (v := _) ?hil7 (by kernel_rfl) ?hfl7 ?hrl7 ?hQl7 ?hyl7 (hBl5) ?restl7
          case hil7 => (simp only [List.getElem?_toArray, List.getElem?_cons_zero, List.getElem?_cons_succ]; rfl)
          case hfl7 => kernel_rfl
          case hrl7 => kernel_rfl
          case hQl7 => exact fun _ _ _ h => h
          case hyl7 => refine Or.inl ⟨by rfl, ?_⟩; intro W hSw; go_simp; try with_reducible rfl
          try simp only [Act.put, List.setIfInBounds_toArray, List.set_cons_zero, List.set_cons_succ]
          refine' wpAnyH_take (i := 2) (oi := _) (v := _) ?hil8 (by kernel_rfl) ?hfl8 ?hrl8 ?hQl8 ?hyl8 (hBl5) ?restl8
          case hil8 => (simp only [List.getElem?_toArray, List.getElem?_cons_zero, List.getElem?_cons_succ]; rfl)
          case hfl8 => kernel_rfl
          case hrl8 => kernel_rfl
          case hQl8 => exact fun _ _ _ h => h
          case hyl8 => refine Or.inl ⟨by rfl, ?_⟩; intro W hSw; go_simp; try with_reducible rfl
          try simp only [Act.put, List.setIfInBounds_toArray, List.set_cons_zero, List.set_cons_succ]
          refine' wpAnyH_take (i := 3) (oi := _) (v := _) ?hil9 (by kernel_rfl) ?hfl9 ?hrl9 ?hQl9 ?hyl9 (hBl5) ?restl9
          case hil9 => (simp only [List.getElem?_toArray, List.getElem?_cons_zero, List.getElem?_cons_succ]; rfl)
          case hfl9 => kernel_rfl
          case hrl9 => kernel_rfl
          case hQl9 => exact fun _ _ _ h => h
          case hyl9 => refine Or.inl ⟨by rfl, ?_⟩; intro W hSw; go_simp; try with_reducible rfl
          try simp only [Act.put, List.setIfInBounds_toArray, List.set_cons_zero, List.set_cons_succ]
          refine' wpAnyH_take (i := 4) (oi := _) (v := _) ?hil10 (by kernel_rfl) ?hfl10 ?hrl10 ?hQl10 ?hyl10 (hBl5) ?restl10
          case hil10 => (simp only [List.getElem?_toArray, List.getElem?_cons_zero, List.getElem?_cons_succ]; rfl)
          case hfl10 => kernel_rfl
          case hrl10 => kernel_rfl
          case hQl10 => exact fun _ _ _ h => h
          case hyl10 => refine Or.inl ⟨by rfl, ?_⟩; intro W hSw; go_simp; try with_reducible rfl
          try simp only [Act.put, List.setIfInBounds_toArray, List.set_cons_zero, List.set_cons_succ]
          refine' wpAnyH_take (i := 5) (oi := _) (v := undef) ?hil11 (by kernel_rfl) ?hfl11 ?hrl11 ?hQl11 ?hyl11 (hBl5) ?restl11
          case hil11 => (simp only [List.getElem?_toArray, List.getElem?_cons_zero, List.getElem?_cons_succ]; rfl)
          case hfl11 => kernel_rfl
          case hrl11 => kernel_rfl
          case hQl11 => exact fun _ _ _ h => h
          case hyl11 => exact Or.inr ⟨by rfl, rfl⟩
          try simp only [Act.put, List.setIfInBounds_toArray, List.set_cons_zero, List.set_cons_succ]
          refine' wpAnyH_take (i := 6) (oi := _) (v := undef) ?hil12 (by kernel_rfl) ?hfl12 ?hrl12 ?hQl12 ?hyl12 (hBl5) ?restl12
          case hil12 => (simp only [List.getElem?_toArray, List.getElem?_cons_zero, List.getElem?_cons_succ]; rfl)
          case hfl12 => kernel_rfl
          case hrl12 => kernel_rfl
          case hQl12 => exact fun _ _ _ h => h
          case hyl12 => exact Or.inr ⟨by rfl, rfl⟩
          try simp only [Act.put, List.setIfInBounds_toArray, List.set_cons_zero, List.set_cons_succ]
          refine' wpAnyH_take (i := 7) (oi := _) (v := undef) ?hil13 (by kernel_rfl) ?hfl13 ?hrl13 ?hQl13 ?hyl13 (hBl5) ?restl13
          case hil13 => (simp only [List.getElem?_toArray, List.getElem?_cons_zero, List.getElem?_cons_succ]; rfl)
          case hfl13 => kernel_rfl
          case hrl13 => kernel_rfl
          case hQl13 => exact fun _ _ _ h => h
          case hyl13 => exact Or.inr ⟨by rfl, rfl⟩
          try simp only [Act.put, List.setIfInBounds_toArray, List.set_cons_zero, List.set_cons_succ]
          refine' wpAnyH_take (i := 8) (oi := _) (v := undef) ?hil14 (by kernel_rfl) ?hfl14 ?hrl14 ?hQl14 ?hyl14 (hBl5) ?restl14
          case hil14 => (simp only [List.getElem?_toArray, List.getElem?_cons_zero, List.getElem?_cons_succ]; rfl)
          case hfl14 => kernel_rfl
          case hrl14 => kernel_rfl
          case hQl14 => exact fun _ _ _ h => h
          case hyl14 => exact Or.inr ⟨by rfl, rfl⟩
          try simp only [Act.put, List.setIfInBounds_toArray, List.set_cons_zero, List.set_cons_succ]
          refine' wpAnyH_take (i := 9) (oi := _) (v := undef) ?hil15 (by kernel_rfl) ?hfl15 ?hrl15 ?hQl15 ?hyl15 (hBl5) ?restl15
          case hil15 => (simp only [List.getElem?_toArray, List.getElem?_cons_zero, List.getElem?_cons_succ]; rfl)
          case hfl15 => kernel_rfl
          case hrl15 => kernel_rfl
          case hQl15 => exact fun _ _ _ h => h
          case hyl15 => exact Or.inr ⟨by rfl, rfl⟩
          try simp only [Act.put, List.setIfInBounds_toArray, List.set_cons_zero, List.set_cons_succ]
          refine' wpAnyH_take (i := 10) (oi := _) (v := undef) ?hil16 (by kernel_rfl) ?hfl16 ?hrl16 ?hQl16 ?hyl16 (hBl5) ?restl16
          case hil16 => (simp only [List.getElem?_toArray, List.getElem?_cons_zero, List.getElem?_cons_succ]; rfl)
          case hfl16 => kernel_rfl
          case hrl16 => kernel_rfl
          case hQl16 => exact fun _ _ _ h => h
          case hyl16 => exact Or.inr ⟨by rfl, rfl⟩
          try simp only [Act.put, List.setIfInBounds_toArray, List.set_cons_zero, List.set_cons_succ]
          refine' wpAnyH_take (i := 11) (oi := _) (v := undef) ?hil17 (by kernel_rfl) ?hfl17 ?hrl17 ?hQl17 ?hyl17 (hBl5) ?restl17
          case hil17 => (simp only [List.getElem?_toArray, List.getElem?_cons_zero, List.getElem?_cons_succ]; rfl)
          case hfl17 => kernel_rfl
          case hrl17 => kernel_rfl
          case hQl17 => exact fun _ _ _ h => h
          case hyl17 => exact Or.inr ⟨by rfl, rfl⟩
          try simp only [Act.put, List.setIfInBounds_toArray, List.set_cons_zero, List.set_cons_succ]
          refine' wpAnyH_take (i := 12) (oi := _) (v := undef) ?hil18 (by kernel_rfl) ?hfl18 ?hrl18 ?hQl18 ?hyl18 (hBl5) ?restl18
          case hil18 => (simp only [List.getElem?_toArray, List.getElem?_cons_zero, List.getElem?_cons_succ]; rfl)
          case hfl18 => kernel_rfl
          case hrl18 => kernel_rfl
          case hQl18 => exact fun _ _ _ h => h
          case hyl18 => exact Or.inr ⟨by rfl, rfl⟩
          try simp only [Act.put, List.setIfInBounds_toArray, List.set_cons_zero, List.set_cons_succ]
          refine' wpAnyH_take (i := 13) (oi := _) (v := undef) ?hil19 (by kernel_rfl) ?hfl19 ?hrl19 ?hQl19 ?hyl19 (hBl5) ?restl19
          case hil19 => (simp only [List.getElem?_toArray, List.getElem?_cons_zero, List.getElem?_cons_succ]; rfl)
          case hfl19 => kernel_rfl
          case hrl19 => kernel_rfl
          case hQl19 => exact fun _ _ _ h => h
          case hyl19 => exact Or.inr ⟨by rfl, rfl⟩
          try simp only [Act.put, List.setIfInBounds_toArray, List.set_cons_zero, List.set_cons_succ]
          refine' wpAnyH_take (i := 14) (oi := _) (v := undef) ?hil20 (by kernel_rfl) ?hfl20 ?hrl20 ?hQl20 ?hyl20 (hBl5) ?restl20
          case hil20 => (simp only [List.getElem?_toArray, List.getElem?_cons_zero, List.getElem?_cons_succ]; rfl)
          case hfl20 => kernel_rfl
          case hrl20 => kernel_rfl
          case hQl20 => exact fun _ _ _ h => h
          case hyl20 => exact Or.inr ⟨by rfl, rfl⟩
          try simp only [Act.put, List.setIfInBounds_toArray, List.set_cons_zero, List.set_cons_succ]
          refine' wpAnyH_take (i := 15) (oi := _) (v := _) ?hil21 (by kernel_rfl) ?hfl21 ?hrl21 ?hQl21 ?hyl21 (hBl5) ?restl21
          case hil21 => (simp only [List.getElem?_toArray, List.getElem?_cons_zero, List.getElem?_cons_succ]; rfl)
          case hfl21 => kernel_rfl
          case hrl21 => kernel_rfl
          case hQl21 => exact fun _ _ _ h => h
          case hyl21 => refine Or.inl ⟨by rfl, ?_⟩; intro W hSw; go_simp; try with_reducible rfl
          try simp only [Act.put, List.setIfInBounds_toArray, List.set_cons_zero, List.set_cons_succ]
          refine' wpAnyH_take (i := 16) (oi := _) (v := _) ?hil22 (by kernel_rfl) ?hfl22 ?hrl22 ?hQl22 ?hyl22 (hBl5) ?restl22
          case hil22 => (simp only [List.getElem?_toArray, List.getElem?_cons_zero, List.getElem?_cons_succ]; rfl)
          case hfl22 => kernel_rfl
          case hrl22 => kernel_rfl
          case hQl22 => exact fun _ _ _ h => h
          case hyl22 => refine Or.inl ⟨by rfl, ?_⟩; intro W hSw; go_simp; try with_reducible rfl
          try simp only [Act.put, List.setIfInBounds_toArray, List.set_cons_zero, List.set_cons_succ]
          refine' wpAnyH_take (i := 17) (oi := _) (v := _) ?hil23 (by kernel_rfl) ?hfl23 ?hrl23 ?hQl23 ?hyl23 (hBl5) ?restl23
          case hil23 => (simp only [List.getElem?_toArray, List.getElem?_cons_zero, List.getElem?_cons_succ]; rfl)
          case hfl23 => kernel_rfl
          case hrl23 => kernel_rfl
          case hQl23 => exact fun _ _ _ h => h
          case hyl23 => refine Or.inl ⟨by rfl, ?_⟩; intro W hSw; go_simp; try with_reducible rfl
          try simp only [Act.put, List.setIfInBounds_toArray, List.set_cons_zero, List.set_cons_succ]
          refine' wpAnyH_take (i := 18) (oi := _) (v := _) ?hil24 (by kernel_rfl) ?hfl24 ?hrl24 ?hQl24 ?hyl24 (hBl5) ?restl24
          case hil24 => (simp only [List.getElem?_toArray, List.getElem?_cons_zero, List.getElem?_cons_succ]; rfl)
          case hfl24 => kernel_rfl
          case hrl24 => kernel_rfl
          case hQl24 => exact fun _ _ _ h => h
          case hyl24 => refine Or.inl ⟨by rfl, ?_⟩; intro W hSw; go_simp; try with_reducible rfl
          try simp only [Act.put, List.setIfInBounds_toArray, List.set_cons_zero, List.set_cons_succ]
          refine' wpAnyH_take (i := 19) (oi := _) (v := _) ?hil25 (by kernel_rfl) ?hfl25 ?hrl25 ?hQl25 ?hyl25 (hBl5) ?restl25
          case hil25 => (simp only [List.getElem?_toArray, List.getElem?_cons_zero, List.getElem?_cons_succ]; rfl)
          case hfl25 => kernel_rfl
          case hrl25 => kernel_rfl
          case hQl25 => exact fun _ _ _ h => h
          case hyl25 => refine Or.inl ⟨by rfl, ?_⟩; intro W hSw; go_simp; try with_reducible rfl
          try simp only [Act.put, List.setIfInBounds_toArray, List.set_cons_zero, List.set_cons_succ]
          refine' wpAnyH_take (i := 20) (oi := _) (v := _) ?hil26 (by kernel_rfl) ?hfl26 ?hrl26 ?hQl26 ?hyl26 (hBl5) ?restl26
          case hil26 => (simp only [List.getElem?_toArray, List.getElem?_cons_zero, List.getElem?_cons_succ]; rfl)
          case hfl26 => kernel_rfl
          case hrl26 => kernel_rfl
          case hQl26 => exact fun _ _ _ h => h
          case hyl26 => refine Or.inl ⟨by rfl, ?_⟩; intro W hSw; go_simp; try with_reducible rfl
          try simp only [Act.put, List.setIfInBounds_toArray, List.set_cons_zero, List.set_cons_succ]
          refine' wpAnyH_take (i := 21) (oi := _) (v := _) ?hil27 (by kernel_rfl) ?hfl27 ?hrl27 ?hQl27 ?hyl27 (hBl5) ?restl27
          case hil27 => (simp only [List.getElem?_toArray, List.getElem?_cons_zero, List.getElem?_cons_succ]; rfl)
          case hfl27 => kernel_rfl
          case hrl27 => kernel_rfl
          case hQl27 => exact fun _ _ _ h => h
          case hyl27 => refine Or.inl ⟨by rfl, ?_⟩; intro W hSw; go_simp; try with_reducible rfl
          try simp only [Act.put, List.setIfInBounds_toArray, List.set_cons_zero, List.set_cons_succ]
          refine' wpAnyH_take (i := 22) (oi := _) (v := undef) ?hil28 (by kernel_rfl) ?hfl28 ?hrl28 ?hQl28 ?hyl28 (hBl5) ?restl28
          case hil28 => (simp only [List.getElem?_toArray, List.getElem?_cons_zero, List.getElem?_cons_succ]; rfl)
          case hfl28 => kernel_rfl
          case hrl28 => kernel_rfl
          case hQl28 => exact fun _ _ _ h => h
          case hyl28 => exact Or.inr ⟨by rfl, rfl⟩
          try simp only [Act.put, List.setIfInBounds_toArray, List.set_cons_zero, List.set_cons_succ]
          refine' wpAnyH_take (i := 23) (oi := _) (v := undef) ?hil29 (by kernel_rfl) ?hfl29 ?hrl29 ?hQl29 ?hyl29 (hBl5) ?restl29
          case hil29 => (simp only [List.getElem?_toArray, List.getElem?_cons_zero, List.getElem?_cons_succ]; rfl)
          case hfl29 => kernel_rfl
          case hrl29 => kernel_rfl
          case hQl29 => exact fun _ _ _ h => h
          case hyl29 => exact Or.inr ⟨by rfl, rfl⟩
          try simp only [Act.put, List.setIfInBounds_toArray, List.set_cons_zero, List.set_cons_succ]
          refine' wpAnyH_take (i := 24) (oi := _) (v := _) ?hil30 (by kernel_rfl) ?hfl30 ?hrl30 ?hQl30 ?hyl30 (hBl5) ?restl30
          case hil30 => (simp only [List.getElem?_toArray, List.getElem?_cons_zero, List.getElem?_cons_succ]; rfl)
          case hfl30 => kernel_rfl
          case hrl30 => kernel_rfl
          case hQl30 => exact fun _ _ _ h => h
          case hyl30 => refine Or.inl ⟨by rfl, ?_⟩; intro W hSw; go_simp; try with_reducible rfl
          try simp only [Act.put, List.setIfInBounds_toArray, List.set_cons_zero, List.set_cons_succ]
          refine' wpAnyH_take (i := 25) (oi := _) (v := _) ?hil31 (by kernel_rfl) ?hfl31 ?hrl31 ?hQl31 ?hyl31 (hBl5) ?restl31
          case hil31 => (simp only [List.getElem?_toArray, List.getElem?_cons_zero, List.getElem?_cons_succ]; rfl)
          case hfl31 => kernel_rfl
          case hrl31 => kernel_rfl
          case hQl31 => exact fun _ _ _ h => h
          case hyl31 => refine Or.inl ⟨by rfl, ?_⟩; intro W hSw; go_simp; try with_reducible rfl
          try simp only [Act.put, List.setIfInBounds_toArray, List.set_cons_zero, List.set_cons_succ]
          refine' wpAnyH_take (i := 26) (oi := _) (v := _) ?hil32 (by kernel_rfl) ?hfl32 ?hrl32 ?hQl32 ?hyl32 (hBl5) ?restl32
          case hil32 => (simp only [List.getElem?_toArray, List.getElem?_cons_zero, List.getElem?_cons_succ]; rfl)
          case hfl32 => kernel_rfl
          case hrl32 => kernel_rfl
          case hQl32 => exact fun _ _ _ h => h
          case hyl32 => refine Or.inl ⟨by rfl, ?_⟩; intro W hSw; go_simp; try with_reducible rfl
          try simp only [Act.put, List.setIfInBounds_toArray, List.set_cons_zero, List.set_cons_succ]
          refine wpAnyH_done (by kernel_rfl) ?_ _
          go_wp2_with fail
          go_ret
          exact ⟨rfl, below_on HB4.out (Nat.le_refl _) (below_on HR.out (Nat.le_refl _) hBl5)⟩
        | true =>
          cases same with
          | true =>
            have hbv : b0 = false := by rw [HPB.out]; rfl
            subst hbv
            have hSm1 : Below wc.heap.size wc wc.drew := (Below.refl _ _).drew
            refine wp_region_held_drew (S := fun W => Below wc.heap.size wc W) (by kernel_rfl) (hSm1) (fun _ => ?_)
            change wpAnyH _ _ _ _ _ _ _ _ wc.drew
            generalize wc.drew = Wm2 at hSm1 ⊢
            refine wpAnyH_ready (rs := [0]) (by kernel_rfl) (by simp) ?_
            refine' (AllReadyH.cons (o := _) ?him3 (fun K hK => ?_) AllReadyH.nil)
            case him3 => (simp only [List.getElem?_toArray, List.getElem?_cons_zero]; rfl)
            go_simp
            go_at_call 9
            refine (KA.out Wm2 hSm1).mono ?_
            rintro e Wm6 ⟨rfl, hbm4⟩
            have hBm5 := below_on hSm1 (Nat.le_refl _) hbm4
            refine hK.out _ _ (hBm5) (fun _ => ?_)
            clear hK K
            try simp only [Act.put, List.setIfInBounds_toArray, List.set_cons_zero, List.set_cons_succ]
            refine' wpAnyH_take (i := 1) (oi := _) (v := _) ?him7 (by kernel_rfl) ?hfm7 ?hrm7 ?hQm7 ?hym7 (hBm5) ?restm7
            case him7 => (simp only [List.getElem?_toArray, List.getElem?_cons_zero, List.getElem?_cons_succ]; rfl)
            case hfm7 => kernel_rfl
            case hrm7 => kernel_rfl
            case hQm7 => exact fun _ _ _ h => h
            case hym7 => refine Or.inl ⟨by rfl, ?_⟩; intro W hSw; go_simp; try with_reducible rfl
            try simp only [Act.put, List.setIfInBounds_toArray, List.set_cons_zero, List.set_cons_succ]
            refine' wpAnyH_take (i := 2) (oi := _) (v := _) ?him8 (by kernel_rfl) ?hfm8 ?hrm8 ?hQm8 ?hym8 (hBm5) ?restm8
            case him8 => (simp only [List.getElem?_toArray, List.getElem?_cons_zero, List.getElem?_cons_succ]; rfl)
            case hfm8 => kernel_rfl
            case hrm8 => kernel_rfl
            case hQm8 => exact fun _ _ _ h => h
            case hym8 => refine Or.inl ⟨by rfl, ?_⟩; intro W hSw; go_simp; try with_reducible rfl
            try simp only [Act.put, List.setIfInBounds_toArray, List.set_cons_zero, List.set_cons_succ]
            refine' wpAnyH_take (i := 3) (oi := _) (v := _) ?him9 (by kernel_rfl) ?hfm9 ?hrm9 ?hQm9 ?hym9 (hBm5) ?restm9
            case him9 => (simp only [List.getElem?_toArray, List.getElem?_cons_zero, List.getElem?_cons_succ]; rfl)
            case hfm9 => kernel_rfl
            case hrm9 => kernel_rfl
            case hQm9 => exact fun _ _ _ h => h
            case hym9 => refine Or.inl ⟨by rfl, ?_⟩; intro W hSw; go_simp; try with_reducible rfl
            try simp only [Act.put, List.setIfInBounds_toArray, List.set_cons_zero, List.set_cons_succ]
            refine' wpAnyH_take (i := 4) (oi := _) (v := _) ?him10 (by kernel_rfl) ?hfm10 ?hrm10 ?hQm10 ?hym10 (hBm5) ?restm10
            case him10 => (simp only [List.getElem?_toArray, List.getElem?_cons_zero, List.getElem?_cons_succ]; rfl)
            case hfm10 => kernel_rfl
            case hrm10 => kernel_rfl
            case hQm10 => exact fun _ _ _ h => h
            case hym10 => refine Or.inl ⟨by rfl, ?_⟩; intro W hSw; go_simp; try with_reducible rfl
            try simp only [Act.put, List.setIfInBounds_toArray, List.set_cons_zero, List.set_cons_succ]
            refine' wpAnyH_take (i := 5) (oi := _) (v := _) ?him11 (by kernel_rfl) ?hfm11 ?hrm11 ?hQm11 ?hym11 (hBm5) ?restm11
            case him11 => (simp only [List.getElem?_toArray, List.getElem?_cons_zero, List.getElem?_cons_succ]; rfl)
            case hfm11 => kernel_rfl
            case hrm11 => kernel_rfl
            case hQm11 => exact fun _ _ _ h => h
            case hym11 => refine Or.inl ⟨by rfl, ?_⟩; intro W hSw; go_simp; try with_reducible rfl
            try simp only [Act.put, List.setIfInBounds_toArray, List.set_cons_zero, List.set_cons_succ]
            refine' wpAnyH_take (i := 6) (oi := _) (v := _) ?him12 (by kernel_rfl) ?hfm12 ?hrm12 ?hQm12 ?hym12 (hBm5) ?restm12
            case him12 => (simp only [List.getElem?_toArray, List.getElem?_cons_zero, List.getElem?_cons_succ]; rfl)
            case hfm12 => kernel_rfl
            case hrm12 => kernel_rfl
            case hQm12 => exact fun _ _ _ h => h
            case hym12 => refine Or.inl ⟨by rfl, ?_⟩; intro W hSw; have hcc := K0.out W hSw; go_simp; try with_reducible rfl
            try simp only [Act.put, List.setIfInBounds_toArray, List.set_cons_zero, List.set_cons_succ]
            refine' wpAnyH_take (i := 7) (oi := _) (v := _) ?him13 (by kernel_rfl) ?hfm13 ?hrm13 ?hQm13 ?hym13 (hBm5) ?restm13
            case him13 => (simp only [List.getElem?_toArray, List.getElem?_cons_zero, List.getElem?_cons_succ]; rfl)
            case hfm13 => kernel_rfl
            case hrm13 => kernel_rfl
            case hQm13 => exact fun _ _ _ h => h
            case hym13 => refine Or.inl ⟨by rfl, ?_⟩; intro W hSw; go_simp; try with_reducible rfl
            try simp only [Act.put, List.setIfInBounds_toArray, List.set_cons_zero, List.set_cons_succ]
            refine' wpAnyH_take (i := 8) (oi := _) (v := _) ?him14 (by kernel_rfl) ?hfm14 ?hrm14 ?hQm14 ?hym14 (hBm5) ?restm14
            case him14 => (simp only [List.getElem?_toArray, List.getElem?_cons_zero, List.getElem?_cons_succ]; rfl)
            case hfm14 => kernel_rfl
            case hrm14 => kernel_rfl
            case hQm14 => exact fun _ _ _ h => h
            case hym14 => refine Or.inl ⟨by rfl, ?_⟩; intro W hSw; have hcc := K1.out W hSw; go_simp; try with_reducible rfl
            try simp only [Act.put, List.setIfInBounds_toArray, List.set_cons_zero, List.set_cons_succ]
            refine' wpAnyH_take (i := 9) (oi := _) (v := _) ?him15 (by kernel_rfl) ?hfm15 ?hrm15 ?hQm15 ?hym15 (hBm5) ?restm15
            case him15 => (simp only [List.getElem?_toArray, List.getElem?_cons_zero, List.getElem?_cons_succ]; rfl)
            case hfm15 => kernel_rfl
            case hrm15 => kernel_rfl
            case hQm15 => exact fun _ _ _ h => h
            case hym15 => refine Or.inl ⟨by rfl, ?_⟩; intro W hSw; go_simp; try with_reducible rfl
            try simp only [Act.put, List.setIfInBounds_toArray, List.set_cons_zero, List.set_cons_succ]
            refine' wpAnyH_take (i := 10) (oi := _) (v := _) ?him16 (by kernel_rfl) ?hfm16 ?hrm16 ?hQm16 ?hym16 (hBm5) ?restm16
            case him16 => (simp only [List.getElem?_toArray, List.getElem?_cons_zero, List.getElem?_cons_succ]; rfl)
            case hfm16 => kernel_rfl
            case hrm16 => kernel_rfl
            case hQm16 => exact fun _ _ _ h => h
            case hym16 => refine Or.inl ⟨by rfl, ?_⟩; intro W hSw; have hcc := K0.out W hSw; go_simp; try with_reducible rfl
            try simp only [Act.put, List.setIfInBounds_toArray, List.set_cons_zero, List.set_cons_succ]
            refine' wpAnyH_take (i := 11) (oi := _) (v := _) ?him17 (by kernel_rfl) ?hfm17 ?hrm17 ?hQm17 ?hym17 (hBm5) ?restm17
            case him17 => (simp only [List.getElem?_toArray, List.getElem?_cons_zero, List.getElem?_cons_succ]; rfl)
            case hfm17 => kernel_rfl
            case hrm17 => kernel_rfl
            case hQm17 => exact fun _ _ _ h => h
            case hym17 => refine Or.inl ⟨by rfl, ?_⟩; intro W hSw; go_simp; try with_reducible rfl
            try simp only [Act.put, List.setIfInBounds_toArray, List.set_cons_zero, List.set_cons_succ]
            refine' wpAnyH_take (i := 12) (oi := _) (v := _) ?him18 (by kernel_rfl) ?hfm18 ?hrm18 ?hQm18 ?hym18 (hBm5) ?restm18
            case him18 => (simp only [List.getElem?_toArray, List.getElem?_cons_zero, List.getElem?_cons_succ]; rfl)
            case hfm18 => kernel_rfl
            case hrm18 => kernel_rfl
            case hQm18 => exact fun _ _ _ h => h
            case hym18 => refine Or.inl ⟨by rfl, ?_⟩; intro W hSw; go_simp; try with_reducible rfl
            try simp only [Act.put, List.setIfInBounds_toArray, List.set_cons_zero, List.set_cons_succ]
            refine wpAnyH_ready (rs := [13]) (by kernel_rfl) (by simp) ?_
            refine' (AllReadyH.cons (o := _) ?him19 (fun K hK => ?_) AllReadyH.nil)
            case him19 => (simp only [List.getElem?_toArray, List.getElem?_cons_zero, List.getElem?_cons_succ]; rfl)
            go_simp
            go_at_call 14
            refine (KS.out Wm6 hBm5).mono ?_
            rintro e Wm22 ⟨rfl, hbm20⟩
            have hBm21 := below_on hBm5 (Nat.le_refl _) hbm20
            refine hK.out _ _ (hBm21) (fun _ => ?_)
            clear hK K
            try simp only [Act.put, List.setIfInBounds_toArray, List.set_cons_zero, List.set_cons_succ]
            refine' wpAnyH_take (i := 14) (oi := _) (v := _) ?him23 (by kernel_rfl) ?hfm23 ?hrm23 ?hQm23 ?hym23 (hBm21) ?restm23
            case him23 => (simp only [List.getElem?_toArray, List.getElem?_cons_zero, List.getElem?_cons_succ]; rfl)
            case hfm23 => kernel_rfl
            case hrm23 => kernel_rfl
            case hQm23 => exact fun _ _ _ h => h
            case hym23 => refine Or.inl ⟨by rfl, ?_⟩; intro W hSw; go_simp; try with_reducible rfl
            try simp only [Act.put, List.setIfInBounds_toArray, List.set_cons_zero, List.set_cons_succ]
            refine' wpAnyH_take (i := 15) (oi := _) (v := _) ?him24 (by kernel_rfl) ?hfm24 ?hrm24 ?hQm24 ?hym24 (hBm21) ?restm24
            case him24 => (simp only [List.getElem?_toArray, List.getElem?_cons_zero, List.getElem?_cons_succ]; rfl)
            case hfm24 => kernel_rfl
            case hrm24 => kernel_rfl
            case hQm24 => exact fun _ _ _ h => h
            case hym24 => refine Or.inl ⟨by rfl, ?_⟩; intro W hSw; go_simp; try with_reducible rfl
            try simp only [Act.put, List.setIfInBounds_toArray, List.set_cons_zero, List.set_cons_succ]
            refine' wpAnyH_take (i := 16) (oi := _) (v := _) ?him25 (by kernel_rfl) ?hfm25 ?hrm25 ?hQm25 ?hym25 (hBm21) ?restm25
            case him25 => (simp only [List.getElem?_toArray, List.getElem?_cons_zero, List.getElem?_cons_succ]; rfl)
            case hfm25 => kernel_rfl
            case hrm25 => kernel_rfl
            case hQm25 => exact fun _ _ _ h => h
            case hym25 => refine Or.inl ⟨by rfl, ?_⟩; intro W hSw; go_simp; try with_reducible rfl
            try simp only [Act.put, List.setIfInBounds_toArray, List.set_cons_zero, List.set_cons_succ]
            refine' wpAnyH_take (i := 17) (oi := _) (v := _) ?him26 (by kernel_rfl) ?hfm26 ?hrm26 ?hQm26 ?hym26 (hBm21) ?restm26
            case him26 => (simp only [List.getElem?_toArray, List.getElem?_cons_zero, List.getElem?_cons_succ]; rfl)
            case hfm26 => kernel_rfl
            case hrm26 => kernel_rfl
            case hQm26 => exact fun _ _ _ h => h
            case hym26 => refine Or.inl ⟨by rfl, ?_⟩; intro W hSw; go_simp; try with_reducible rfl
            try simp only [Act.put, List.setIfInBounds_toArray, List.set_cons_zero, List.set_cons_succ]
            refine' wpAnyH_take (i := 18) (oi := _) (v := _) ?him27 (by kernel_rfl) ?hfm27 ?hrm27 ?hQm27 ?hym27 (hBm21) ?restm27
            case him27 => (simp only [List.getElem?_toArray, List.getElem?_cons_zero, List.getElem?_cons_succ]; rfl)
            case hfm27 => kernel_rfl
            case hrm27 => kernel_rfl
            case hQm27 => exact fun _ _ _ h => h
            case hym27 => refine Or.inl ⟨by rfl, ?_⟩; intro W hSw; go_simp; try with_reducible rfl
            try simp only [Act.put, List.setIfInBounds_toArray, List.set_cons_zero, List.set_cons_succ]
            refine' wpAnyH_take (i := 19) (oi := _) (v := _) ?him28 (by kernel_rfl) ?hfm28 ?hrm28 ?hQm28 ?hym28 (hBm21) ?restm28
            case him28 => (simp only [List.getElem?_toArray, List.getElem?_cons_zero, List.getElem?_cons_succ]; rfl)
            case hfm28 => kernel_rfl
            case hrm28 => kernel_rfl
            case hQm28 => exact fun _ _ _ h => h
            case hym28 => refine Or.inl ⟨by rfl, ?_⟩; intro W hSw; go_simp; try with_reducible rfl
            try simp only [Act.put, List.setIfInBounds_toArray, List.set_cons_zero, List.set_cons_succ]
            refine' wpAnyH_take (i := 20) (oi := _) (v := _) ?him29 (by kernel_rfl) ?hfm29 ?hrm29 ?hQm29 ?hym29 (hBm21) ?restm29
            case him29 => (simp only [List.getElem?_toArray, List.getElem?_cons_zero, List.getElem?_cons_succ]; rfl)
            case hfm29 => kernel_rfl
            case hrm29 => kernel_rfl
            case hQm29 => exact fun _ _ _ h => h
            case hym29 => refine Or.inl ⟨by rfl, ?_⟩; intro W hSw; go_simp; try with_reducible rfl
            try simp only [Act.put, List.setIfInBounds_toArray, List.set_cons_zero, List.set_cons_succ]
            refine' wpAnyH_take (i := 21) (oi := _) (v := _) ?him30 (by kernel_rfl) ?hfm30 ?hrm30 ?hQm30 ?hym30 (hBm21) ?restm30
            case him30 => (simp only [List.getElem?_toArray, List.getElem?_cons_zero, List.getElem?_cons_succ]; rfl)
            case hfm30 => kernel_rfl
            case hrm30 => kernel_rfl
            case hQm30 => exact fun _ _ _ h => h
            case hym30 => refine Or.inl ⟨by rfl, ?_⟩; intro W hSw; go_simp; try with_reducible rfl
            try simp only [Act.put, List.setIfInBounds_toArray, List.set_cons_zero, List.set_cons_succ]
            refine' wpAnyH_take (i := 22) (oi := _) (v := undef) ?him31 (by kernel_rfl) ?hfm31 ?hrm31 ?hQm31 ?hym31 (hBm21) ?restm31
            case him31 => (simp only [List.getElem?_toArray, List.getElem?_cons_zero, List.getElem?_cons_succ]; rfl)
            case hfm31 => kernel_rfl
            case hrm31 => kernel_rfl
            case hQm31 => exact fun _ _ _ h => h
            case hym31 => exact Or.inr ⟨by rfl, rfl⟩
            try simp only [Act.put, List.setIfInBounds_toArray, List.set_cons_zero, List.set_cons_succ]
            refine' wpAnyH_take (i := 23) (oi := _) (v := undef) ?him32 (by kernel_rfl) ?hfm32 ?hrm32 ?hQm32 ?hym32 (hBm21) ?restm32
            case him32 => (simp only [List.getElem?_toArray, List.getElem?_cons_zero, List.getElem?_cons_succ]; rfl)
            case hfm32 => kernel_rfl
            case hrm32 => kernel_rfl
            case hQm32 => exact fun _ _ _ h => h
            case hym32 => exact Or.inr ⟨by rfl, rfl⟩
            try simp only [Act.put, List.setIfInBounds_toArray, List.set_cons_zero, List.set_cons_succ]
            refine' wpAnyH_take (i := 24) (oi := _) (v := _) ?him33 (by kernel_rfl) ?hfm33 ?hrm33 ?hQm33 ?hym33 (hBm21) ?restm33
            case him33 => (simp only [List.getElem?_toArray, List.getElem?_cons_zero, List.getElem?_cons_succ]; rfl)
            case hfm33 => kernel_rfl
            case hrm33 => kernel_rfl
            case hQm33 => exact fun _ _ _ h => h
            case hym33 => refine Or.inl ⟨by rfl, ?_⟩; intro W hSw; go_simp; try with_reducible rfl
            try simp only [Act.put, List.setIfInBounds_toArray, List.set_cons_zero, List.set_cons_succ]
            refine' wpAnyH_take (i := 25) (oi := _) (v := _) ?him34 (by kernel_rfl) ?hfm34 ?hrm34 ?hQm34 ?hym34 (hBm21) ?restm34
            case him34 => (simp only [List.getElem?_toArray, List.getElem?_cons_zero, List.getElem?_cons_succ]; rfl)
            case hfm34 => kernel_rfl
            case hrm34 => kernel_rfl
            case hQm34 => exact fun _ _ _ h => h
            case hym34 => refine Or.inl ⟨by rfl, ?_⟩; intro W hSw; go_simp; try with_reducible rfl
            try simp only [Act.put, List.setIfInBounds_toArray, List.set_cons_zero, List.set_cons_succ]
            refine' wpAnyH_take (i := 26) (oi := _) (v := _) ?him35 (by kernel_rfl) ?hfm35 ?hrm35 ?hQm35 ?hym35 (hBm21) ?restm35
            case him35 => (simp only [List.getElem?_toArray, List.getElem?_cons_zero, List.getElem?_cons_succ]; rfl)
            case hfm35 => kernel_rfl
            case hrm35 => kernel_rfl
            case hQm35 => exact fun _ _ _ h => h
            case hym35 => refine Or.inl ⟨by rfl, ?_⟩; intro W hSw; go_simp; try with_reducible rfl
            try simp only [Act.put, List.setIfInBounds_toArray, List.set_cons_zero, List.set_cons_succ]
            refine wpAnyH_done (by kernel_rfl) ?_ _
            go_wp2_with fail
            go_ret
            exact ⟨rfl, below_on HB4.out (Nat.le_refl _) (below_on HR.out (Nat.le_refl _) hBm21)⟩
          | false =>
            have hbv : b0 = true := by rw [HPB.out]; rfl
            subst hbv
            have KI := Lib.hid (fun (W : World) (hW : Below wc.heap.size wc W) => show Calls Tryd.prog 15 #[.agg #[.slice A5 n5 c5, .slice B5 m5 d5]] W fun e w' => e = .returned (.bool true) ∧ Below W.heap.size W w' from by
              obtain ⟨xs, ys, hT0, hC⟩ := HTW.out (by trivial)
              have hT := hT0.below hW
              have hb0 := ON.out W (below_on HR.out (Nat.le_refl _) hW)
              have := is_any (w := W) (came_own hT.a hT.lta) (came_own hT.b hT.ltb) (by have := hT.na; omega) (by have := hT.nb; omega) (HK.out.1.below hb0) (HK.out.2.1.below hb0)
              rw [isC_true.2 hC] at this
              exact this)
            have hSo1 : Below wc.heap.size wc wc.drew := (Below.refl _ _).drew
            refine wp_region_held_drew (S := fun W => Below wc.heap.size wc W) (by kernel_rfl) (hSo1) (fun _ => ?_)
            change wpAnyH _ _ _ _ _ _ _ _ wc.drew
            generalize wc.drew = Wo2 at hSo1 ⊢
            refine wpAnyH_ready (rs := [0]) (by kernel_rfl) (by simp) ?_
            refine' (AllReadyH.cons (o := _) ?hio3 (fun K hK => ?_) AllReadyH.nil)
            case hio3 => (simp only [List.getElem?_toArray, List.getElem?_cons_zero]; rfl)
            go_simp
            go_at_call 9
            refine (KA.out Wo2 hSo1).mono ?_
            rintro e Wo6 ⟨rfl, hbo4⟩
            have hBo5 := below_on hSo1 (Nat.le_refl _) hbo4
            refine hK.out _ _ (hBo5) (fun _ => ?_)
            clear hK K
            try simp only [Act.put, List.setIfInBounds_toArray, List.set_cons_zero, List.set_cons_succ]
            refine' wpAnyH_take (i := 1) (oi := _) (v := _) ?hio7 (by kernel_rfl) ?hfo7 ?hro7 ?hQo7 ?hyo7 (hBo5) ?resto7
            case hio7 => (simp only [List.getElem?_toArray, List.getElem?_cons_zero, List.getElem?_cons_succ]; rfl)
            case hfo7 => kernel_rfl
            case hro7 => kernel_rfl
            case hQo7 => exact fun _ _ _ h => h
            case hyo7 => refine Or.inl ⟨by rfl, ?_⟩; intro W hSw; go_simp; try with_reducible rfl
            try simp only [Act.put, List.setIfInBounds_toArray, List.set_cons_zero, List.set_cons_succ]
            refine' wpAnyH_take (i := 2) (oi := _) (v := _) ?hio8 (by kernel_rfl) ?hfo8 ?hro8 ?hQo8 ?hyo8 (hBo5) ?resto8
            case hio8 => (simp only [List.getElem?_toArray, List.getElem?_cons_zero, List.getElem?_cons_succ]; rfl)
            case hfo8 => kernel_rfl
            case hro8 => kernel_rfl
            case hQo8 => exact fun _ _ _ h => h
            case hyo8 => refine Or.inl ⟨by rfl, ?_⟩; intro W hSw; go_simp; try with_reducible rfl
            try simp only [Act.put, List.setIfInBounds_toArray, List.set_cons_zero, List.set_cons_succ]
            refine' wpAnyH_take (i := 3) (oi := _) (v := _) ?hio9 (by kernel_rfl) ?hfo9 ?hro9 ?hQo9 ?hyo9 (hBo5) ?resto9
            case hio9 => (simp only [List.getElem?_toArray, List.getElem?_cons_zero, List.getElem?_cons_succ]; rfl)
            case hfo9 => kernel_rfl
            case hro9 => kernel_rfl
            case hQo9 => exact fun _ _ _ h => h
            case hyo9 => refine Or.inl ⟨by rfl, ?_⟩; intro W hSw; go_simp; try with_reducible rfl
            try simp only [Act.put, List.setIfInBounds_toArray, List.set_cons_zero, List.set_cons_succ]
            refine' wpAnyH_take (i := 4) (oi := _) (v := _) ?hio10 (by kernel_rfl) ?hfo10 ?hro10 ?hQo10 ?hyo10 (hBo5) ?resto10
            case hio10 => (simp only [List.getElem?_toArray, List.getElem?_cons_zero, List.getElem?_cons_succ]; rfl)
            case hfo10 => kernel_rfl
            case hro10 => kernel_rfl
            case hQo10 => exact fun _ _ _ h => h
            case hyo10 => refine Or.inl ⟨by rfl, ?_⟩; intro W hSw; go_simp; try with_reducible rfl
            try simp only [Act.put, List.setIfInBounds_toArray, List.set_cons_zero, List.set_cons_succ]
            refine' wpAnyH_take (i := 5) (oi := _) (v := _) ?hio11 (by kernel_rfl) ?hfo11 ?hro11 ?hQo11 ?hyo11 (hBo5) ?resto11
            case hio11 => (simp only [List.getElem?_toArray, List.getElem?_cons_zero, List.getElem?_cons_succ]; rfl)
            case hfo11 => kernel_rfl
            case hro11 => kernel_rfl
            case hQo11 => exact fun _ _ _ h => h
            case hyo11 => refine Or.inl ⟨by rfl, ?_⟩; intro W hSw; go_simp; try with_reducible rfl
            try simp only [Act.put, List.setIfInBounds_toArray, List.set_cons_zero, List.set_cons_succ]
            refine' wpAnyH_take (i := 6) (oi := _) (v := _) ?hio12 (by kernel_rfl) ?hfo12 ?hro12 ?hQo12 ?hyo12 (hBo5) ?resto12
            case hio12 => (simp only [List.getElem?_toArray, List.getElem?_cons_zero, List.getElem?_cons_succ]; rfl)
            case hfo12 => kernel_rfl
            case hro12 => kernel_rfl
            case hQo12 => exact fun _ _ _ h => h
            case hyo12 => refine Or.inl ⟨by rfl, ?_⟩; intro W hSw; have hcc := K0.out W hSw; go_simp; try with_reducible rfl
            try simp only [Act.put, List.setIfInBounds_toArray, List.set_cons_zero, List.set_cons_succ]
            refine' wpAnyH_take (i := 7) (oi := _) (v := _) ?hio13 (by kernel_rfl) ?hfo13 ?hro13 ?hQo13 ?hyo13 (hBo5) ?resto13
            case hio13 => (simp only [List.getElem?_toArray, List.getElem?_cons_zero, List.getElem?_cons_succ]; rfl)
            case hfo13 => kernel_rfl
            case hro13 => kernel_rfl
            case hQo13 => exact fun _ _ _ h => h
            case hyo13 => refine Or.inl ⟨by rfl, ?_⟩; intro W hSw; go_simp; try with_reducible rfl
            try simp only [Act.put, List.setIfInBounds_toArray, List.set_cons_zero, List.set_cons_succ]
            refine' wpAnyH_take (i := 8) (oi := _) (v := _) ?hio14 (by kernel_rfl) ?hfo14 ?hro14 ?hQo14 ?hyo14 (hBo5) ?resto14
            case hio14 => (simp only [List.getElem?_toArray, List.getElem?_cons_zero, List.getElem?_cons_succ]; rfl)
            case hfo14 => kernel_rfl
            case hro14 => kernel_rfl
            case hQo14 => exact fun _ _ _ h => h
            case hyo14 => refine Or.inl ⟨by rfl, ?_⟩; intro W hSw; have hcc := K1.out W hSw; go_simp; try with_reducible rfl
            try simp only [Act.put, List.setIfInBounds_toArray, List.set_cons_zero, List.set_cons_succ]
            refine' wpAnyH_take (i := 9) (oi := _) (v := _) ?hio15 (by kernel_rfl) ?hfo15 ?hro15 ?hQo15 ?hyo15 (hBo5) ?resto15
            case hio15 => (simp only [List.getElem?_toArray, List.getElem?_cons_zero, List.getElem?_cons_succ]; rfl)
            case hfo15 => kernel_rfl
            case hro15 => kernel_rfl
            case hQo15 => exact fun _ _ _ h => h
            case hyo15 => refine Or.inl ⟨by rfl, ?_⟩; intro W hSw; go_simp; try with_reducible rfl
            try simp only [Act.put, List.setIfInBounds_toArray, List.set_cons_zero, List.set_cons_succ]
            refine' wpAnyH_take (i := 10) (oi := _) (v := _) ?hio16 (by kernel_rfl) ?hfo16 ?hro16 ?hQo16 ?hyo16 (hBo5) ?resto16
            case hio16 => (simp only [List.getElem?_toArray, List.getElem?_cons_zero, List.getElem?_cons_succ]; rfl)
            case hfo16 => kernel_rfl
            case hro16 => kernel_rfl
            case hQo16 => exact fun _ _ _ h => h
            case hyo16 => refine Or.inl ⟨by rfl, ?_⟩; intro W hSw; have hcc := K0.out W hSw; go_simp; try with_reducible rfl
            try simp only [Act.put, List.setIfInBounds_toArray, List.set_cons_zero, List.set_cons_succ]
            refine' wpAnyH_take (i := 11) (oi := _) (v := _) ?hio17 (by kernel_rfl) ?hfo17 ?hro17 ?hQo17 ?hyo17 (hBo5) ?resto17
            case hio17 => (simp only [List.getElem?_toArray, List.getElem?_cons_zero, List.getElem?_cons_succ]; rfl)
            case hfo17 => kernel_rfl
            case hro17 => kernel_rfl
            case hQo17 => exact fun _ _ _ h => h
            case hyo17 => refine Or.inl ⟨by rfl, ?_⟩; intro W hSw; go_simp; try with_reducible rfl
            try simp only [Act.put, List.setIfInBounds_toArray, List.set_cons_zero, List.set_cons_succ]
            refine' wpAnyH_take (i := 12) (oi := _) (v := _) ?hio18 (by kernel_rfl) ?hfo18 ?hro18 ?hQo18 ?hyo18 (hBo5) ?resto18
            case hio18 => (simp only [List.getElem?_toArray, List.getElem?_cons_zero, List.getElem?_cons_succ]; rfl)
            case hfo18 => kernel_rfl
            case hro18 => kernel_rfl
            case hQo18 => exact fun _ _ _ h => h
            case hyo18 => refine Or.inl ⟨by rfl, ?_⟩; intro W hSw; go_simp; try with_reducible rfl
            try simp only [Act.put, List.setIfInBounds_toArray, List.set_cons_zero, List.set_cons_succ]
            refine wpAnyH_ready (rs := [13]) (by kernel_rfl) (by simp) ?_
            refine' (AllReadyH.cons (o := _) ?hio19 (fun K hK => ?_) AllReadyH.nil)
            case hio19 => (simp only [List.getElem?_toArray, List.getElem?_cons_zero, List.getElem?_cons_succ]; rfl)
            go_simp
            go_at_call 14
            refine (KS.out Wo6 hBo5).mono ?_
            rintro e Wo22 ⟨rfl, hbo20⟩
            have hBo21 := below_on hBo5 (Nat.le_refl _) hbo20
            refine hK.out _ _ (hBo21) (fun _ => ?_)
            clear hK K
            try simp only [Act.put, List.setIfInBounds_toArray, List.set_cons_zero, List.set_cons_succ]
            refine' wpAnyH_take (i := 14) (oi := _) (v := _) ?hio23 (by kernel_rfl) ?hfo23 ?hro23 ?hQo23 ?hyo23 (hBo21) ?resto23
            case hio23 => (simp only [List.getElem?_toArray, List.getElem?_cons_zero, List.getElem?_cons_succ]; rfl)
            case hfo23 => kernel_rfl
            case hro23 => kernel_rfl
            case hQo23 => exact fun _ _ _ h => h
            case hyo23 => refine Or.inl ⟨by rfl, ?_⟩; intro W hSw; go_simp; try with_reducible rfl
            try simp only [Act.put, List.setIfInBounds_toArray, List.set_cons_zero, List.set_cons_succ]
            refine' wpAnyH_take (i := 15) (oi := _) (v := _) ?hio24 (by kernel_rfl) ?hfo24 ?hro24 ?hQo24 ?hyo24 (hBo21) ?resto24
            case hio24 => (simp only [List.getElem?_toArray, List.getElem?_cons_zero, List.getElem?_cons_succ]; rfl)
            case hfo24 => kernel_rfl
            case hro24 => kernel_rfl
            case hQo24 => exact fun _ _ _ h => h
            case hyo24 => refine Or.inl ⟨by rfl, ?_⟩; intro W hSw; go_simp; try with_reducible rfl
            try simp only [Act.put, List.setIfInBounds_toArray, List.set_cons_zero, List.set_cons_succ]
            refine' wpAnyH_take (i := 16) (oi := _) (v := _) ?hio25 (by kernel_rfl) ?hfo25 ?hro25 ?hQo25 ?hyo25 (hBo21) ?resto25
            case hio25 => (simp only [List.getElem?_toArray, List.getElem?_cons_zero, List.getElem?_cons_succ]; rfl)
            case hfo25 => kernel_rfl
            case hro25 => kernel_rfl
            case hQo25 => exact fun _ _ _ h => h
            case hyo25 => refine Or.inl ⟨by rfl, ?_⟩; intro W hSw; go_simp; try with_reducible rfl
            try simp only [Act.put, List.setIfInBounds_toArray, List.set_cons_zero, List.set_cons_succ]
            refine' wpAnyH_take (i := 17) (oi := _) (v := _) ?hio26 (by kernel_rfl) ?hfo26 ?hro26 ?hQo26 ?hyo26 (hBo21) ?resto26
            case hio26 => (simp only [List.getElem?_toArray, List.getElem?_cons_zero, List.getElem?_cons_succ]; rfl)
            case hfo26 => kernel_rfl
            case hro26 => kernel_rfl
            case hQo26 => exact fun _ _ _ h => h
            case hyo26 => refine Or.inl ⟨by rfl, ?_⟩; intro W hSw; go_simp; try with_reducible rfl
            try simp only [Act.put, List.setIfInBounds_toArray, List.set_cons_zero, List.set_cons_succ]
            refine' wpAnyH_take (i := 18) (oi := _) (v := _) ?hio27 (by kernel_rfl) ?hfo27 ?hro27 ?hQo27 ?hyo27 (hBo21) ?resto27
            case hio27 => (simp only [List.getElem?_toArray, List.getElem?_cons_zero, List.getElem?_cons_succ]; rfl)
            case hfo27 => kernel_rfl
            case hro27 => kernel_rfl
            case hQo27 => exact fun _ _ _ h => h
            case hyo27 => refine Or.inl ⟨by rfl, ?_⟩; intro W hSw; go_simp; try with_reducible rfl
            try simp only [Act.put, List.setIfInBounds_toArray, List.set_cons_zero, List.set_cons_succ]
            refine' wpAnyH_take (i := 19) (oi := _) (v := _) ?hio28 (by kernel_rfl) ?hfo28 ?hro28 ?hQo28 ?hyo28 (hBo21) ?resto28
            case hio28 => (simp only [List.getElem?_toArray, List.getElem?_cons_zero, List.getElem?_cons_succ]; rfl)
            case hfo28 => kernel_rfl
            case hro28 => kernel_rfl
            case hQo28 => exact fun _ _ _ h => h
            case hyo28 => refine Or.inl ⟨by rfl, ?_⟩; intro W hSw; go_simp; try with_reducible rfl
            try simp only [Act.put, List.setIfInBounds_toArray, List.set_cons_zero, List.set_cons_succ]
            refine' wpAnyH_take (i := 20) (oi := _) (v := _) ?hio29 (by kernel_rfl) ?hfo29 ?hro29 ?hQo29 ?hyo29 (hBo21) ?resto29
            case hio29 => (simp only [List.getElem?_toArray, List.getElem?_cons_zero, List.getElem?_cons_succ]; rfl)
            case hfo29 => kernel_rfl
            case hro29 => kernel_rfl
            case hQo29 => exact fun _ _ _ h => h
            case hyo29 => refine Or.inl ⟨by rfl, ?_⟩; intro W hSw; go_simp; try with_reducible rfl
            try simp only [Act.put, List.setIfInBounds_toArray, List.set_cons_zero, List.set_cons_succ]
            refine' wpAnyH_take (i := 21) (oi := _) (v := _) ?hio30 (by kernel_rfl) ?hfo30 ?hro30 ?hQo30 ?hyo30 (hBo21) ?resto30
            case hio30 => (simp only [List.getElem?_toArray, List.getElem?_cons_zero, List.getElem?_cons_succ]; rfl)
            case hfo30 => kernel_rfl
            case hro30 => kernel_rfl
            case hQo30 => exact fun _ _ _ h => h
            case hyo30 => refine Or.inl ⟨by rfl, ?_⟩; intro W hSw; go_simp; try with_reducible rfl
            try simp only [Act.put, List.setIfInBounds_toArray, List.set_cons_zero, List.set_cons_succ]
            refine' wpAnyH_take (i := 22) (oi := _) (v := .agg #[.slice A5 n5 c5, .slice B5 m5 d5]) ?hio31 (by kernel_rfl) ?hfo31 ?hro31 ?hQo31 ?hyo31 (hBo21) ?resto31
            case hio31 => (simp only [List.getElem?_toArray, List.getElem?_cons_zero, List.getElem?_cons_succ]; rfl)
            case hfo31 => kernel_rfl
            case hro31 => kernel_rfl
            case hQo31 => exact fun _ _ _ h => h
            case hyo31 => refine Or.inl ⟨by rfl, ?_⟩; intro W hSw; exact lload_clash_op (.tmp 3) (by rfl) (by rfl) (HCW.out.below hSw)
            try simp only [Act.put, List.setIfInBounds_toArray, List.set_cons_zero, List.set_cons_succ]
            refine wpAnyH_ready (rs := [23]) (by kernel_rfl) (by simp) ?_
            refine' (AllReadyH.cons (o := _) ?hio32 (fun K hK => ?_) AllReadyH.nil)
            case hio32 => (simp only [List.getElem?_toArray, List.getElem?_cons_zero, List.getElem?_cons_succ]; rfl)
            go_simp
            go_at_call 15
            refine (KI.out Wo22 hBo21).mono ?_
            rintro e Wo35 ⟨rfl, hbo33⟩
            have hBo34 := below_on hBo21 (Nat.le_refl _) hbo33
            refine hK.out _ _ (hBo34) (fun _ => ?_)
            clear hK K
            try simp only [Act.put, List.setIfInBounds_toArray, List.set_cons_zero, List.set_cons_succ]
            refine' wpAnyH_take (i := 24) (oi := _) (v := _) ?hio36 (by kernel_rfl) ?hfo36 ?hro36 ?hQo36 ?hyo36 (hBo34) ?resto36
            case hio36 => (simp only [List.getElem?_toArray, List.getElem?_cons_zero, List.getElem?_cons_succ]; rfl)
            case hfo36 => kernel_rfl
            case hro36 => kernel_rfl
            case hQo36 => exact fun _ _ _ h => h
            case hyo36 => refine Or.inl ⟨by rfl, ?_⟩; intro W hSw; go_simp; try with_reducible rfl
            try simp only [Act.put, List.setIfInBounds_toArray, List.set_cons_zero, List.set_cons_succ]
            refine' wpAnyH_take (i := 25) (oi := _) (v := _) ?hio37 (by kernel_rfl) ?hfo37 ?hro37 ?hQo37 ?hyo37 (hBo34) ?resto37
            case hio37 => (simp only [List.getElem?_toArray, List.getElem?_cons_zero, List.getElem?_cons_succ]; rfl)
            case hfo37 => kernel_rfl
            case hro37 => kernel_rfl
            case hQo37 => exact fun _ _ _ h => h
            case hyo37 => refine Or.inl ⟨by rfl, ?_⟩; intro W hSw; go_simp; try with_reducible rfl
            try simp only [Act.put, List.setIfInBounds_toArray, List.set_cons_zero, List.set_cons_succ]
            refine' wpAnyH_take (i := 26) (oi := _) (v := _) ?hio38 (by kernel_rfl) ?hfo38 ?hro38 ?hQo38 ?hyo38 (hBo34) ?resto38
            case hio38 => (simp only [List.getElem?_toArray, List.getElem?_cons_zero, List.getElem?_cons_succ]; rfl)
            case hfo38 => kernel_rfl
            case hro38 => kernel_rfl
            case hQo38 => exact fun _ _ _ h => h
            case hyo38 => refine Or.inl ⟨by rfl, ?_⟩; intro W hSw; go_simp; try with_reducible rfl
            try simp only [Act.put, List.setIfInBounds_toArray, List.set_cons_zero, List.set_cons_succ]
            refine wpAnyH_done (by kernel_rfl) ?_ _
            go_wp2_with fail
            go_ret
            exact ⟨rfl, below_on HB4.out (Nat.le_refl _) (below_on HR.out (Nat.le_refl _) hBo34)⟩

end Go.Proofs.YtnaebjdccngeoaaDoor

/-
  What the listed variables hold when a call begins.
-/
namespace Go.Proofs.YtnaebjdccngeoaaDoor
open Go.ChangeShapes Go.WideShapes Go.ChangeAt Go.RowKit

theorem cellsU32 : Tryd.prog.cellsOf 41 = 1 := by kernel_rfl

/-- An array of numbers of 32 bits that reads as the literals l holds them. -/
theorem cells_of_trod {H : Type} {enc : TypeId × Value → H} {w : World} {base : Nat} {sp : Nat → Bool} {held : Bool} {fuel n : Nat} {T : TypeId} {cs : List Value} {q : List MemPlace} {l : List Nat}
    (ht : Tryd.prog.underlying T = some (.array n 41)) (hl : l.length = n) (h : DataW.trod enc Tryd.prog w base sp held fuel T cs = some (.agg (l.map fun (x : Nat) => .lit (.int .u32 (x : Int))), q)) :
    ∀ i, i < n → cs[i]? = some (.int .u32 ((l.getD i 0 : Nat) : Int)) := by
  obtain ⟨xs, m1, rfl, hx, hlen, hn, hel⟩ := DataW.trod_array ht h
  injection hx with hx1 hx2
  injection hx1 with hx1
  intro i hi
  have he := hel i hi
  have hxi : xs[i]? = some xs[i] := List.getElem?_eq_getElem (by omega)
  rw [hxi, cellsU32, Nat.mul_one] at he
  obtain ⟨z, e1, e2, _⟩ := DataW.trod_int Tryd.underlying41 he
  have e3 : (l.map fun (x : Nat) => (DataW.lit (.int .u32 (x : Int)) : DataW H))[i]? = (xs.map (·.1))[i]? := by rw [hx1]
  rw [List.getElem?_map, List.getElem?_map, hxi, e2, List.getElem?_eq_getElem (by omega)] at e3
  simp only [Option.map_some, Option.some.injEq, DataW.lit.injEq, Lit.int.injEq, true_and] at e3
  have e4 : cs[i]? = some (.int .u32 z) := by
    have := congrArg (fun t => t[0]?) e1
    simpa [List.getElem?_take, List.getElem?_drop] using this
  rw [e4, ← e3, List.getD_eq_getElem?_getD, List.getElem?_eq_getElem (by omega)]
  rfl

theorem gStart : Tryd.prog.globalNamed "almoner/shas.start" = some 1 := by kernel_rfl
theorem gAdded : Tryd.prog.globalNamed "almoner/shas.added" = some 2 := by kernel_rfl
theorem tStart : (Tryd.prog.globals[1]?).map (·.type) = some 112 := by kernel_rfl
theorem tAdded : (Tryd.prog.globals[2]?).map (·.type) = some 140 := by kernel_rfl

def laid2 : List (String × DataW Unit) := [("almoner/shas.start", Rows.laid_almoner_shas_start), ("almoner/shas.added", Rows.laid_almoner_shas_added)]

theorem of_laid {W : World} (h : laidMetH Tryd.prog laid2 W) : Starts W ∧ Knows W := by
  rw [MakeChecks.laidMetH_plain _ _ _ (by kernel_rfl)] at h
  obtain ⟨ps, ⟨g0, t0, cs0, f0, p0, q0, hg0, ht0, hv0, hd0, ⟨g1, t1, cs1, f1, p1, q1, hg1, ht1, hv1, hd1, _, _⟩, _⟩, _, _⟩ := h
  obtain rfl := Option.some.inj (gStart.symm.trans hg0)
  obtain rfl := Option.some.inj (gAdded.symm.trans hg1)
  obtain rfl := Option.some.inj (tStart.symm.trans ht0)
  obtain rfl := Option.some.inj (tAdded.symm.trans ht1)
  have k0 := cells_of_trod (l := h0) Tryd.underlying112 rfl hd0
  have k1 := cells_of_trod (l := kAdd) Tryd.underlying140 rfl hd1
  refine ⟨fun j v hv => ?_, fun i hi => ?_⟩
  · have hj : j < 8 := by have := (List.getElem?_eq_some_iff.1 hv).1; rw [uvs_length] at this; exact this
    have e := World.var?_cell hg0 hv0 j
    rw [Nat.zero_add, e, ← Array.getElem?_toList, k0 j hj, ← hv, uvs_get, List.getD_eq_getElem?_getD, List.getElem?_eq_getElem (show j < h0.length from hj)]
    rfl
  · rw [World.var?_cell hg1 hv1 i, ← Array.getElem?_toList, k1 i hi]

end Go.Proofs.YtnaebjdccngeoaaDoor

/-
  What the three listed variables hold when a call begins: two of package shas, and the sentinel of package links.
-/
namespace Go.Proofs.YtnaebjdccngeoaaDoor
open Go.ChangeShapes Go.WideShapes Go.ChangeAt Go.RowKit

theorem gMissing : Tryd.prog.globalNamed "almoner/links.errMissing" = some 0 := by kernel_rfl
theorem tMissing : (Tryd.prog.globals[0]?).map (·.type) = some 68 := by kernel_rfl
theorem cellsEs : Tryd.prog.cellsOf 173 = 1 := by kernel_rfl
theorem cellsStr : Tryd.prog.cellsOf 9 = 1 := by kernel_rfl
theorem starEs : "*" ++ "errors.errorString" = "*errors.errorString" := by decide
theorem rowEs (u : TypeId) (h : Tryd.prog.typeName? 3 u = some "*errors.errorString") : u = 148 :=
  typeName_ptr_named (nm := "errors.errorString") (by rw [starEs]; kernel_rfl) (by kernel_rfl) (by decide) u (by rw [starEs]; exact h)

def laid1 : List (String × DataW Unit) := [("almoner/links.errMissing", Rows.laid_almoner_links_errMissing)]

set_option maxRecDepth 100000 in
theorem of_laid1 {W : World} (h : laidMetH Tryd.prog laid1 W) : ∃ E, Miss W E := by
  rw [MakeChecks.laidMetH_plain _ _ _ (by kernel_rfl)] at h
  obtain ⟨ps, ⟨g0', t0', cs0, f0, p0, q0, hg0', ht0', hv0, hd0, _, e0⟩, hnd, hrows⟩ := h
  obtain rfl := Option.some.inj (gMissing.symm.trans hg0')
  obtain rfl := Option.some.inj (tMissing.symm.trans ht0')
  subst e0
  obtain ⟨l0⟩ := cs0
  have ok0 : ∀ u v, l0 = [.iface u v] → Value.okWide Tryd.prog W .any 0 u v := fun u v e => by
    subst e
    exact (hrows 0 0 (by simp [MemPlace.row])).2 u v (by simpa using World.var?_cell hg0' hv0 0)
  obtain ⟨a0, s0, rfl, hc0, hs0, hz0, rfl⟩ := errorString_of_trod Tryd.underlying68 rowEs Tryd.underlying148 Tryd.underlying173 rfl rfl Tryd.underlying9 cellsEs cellsStr hd0 ok0
  exact ⟨a0, by simpa [Miss, missV] using World.var?_cell hg0' hv0 0⟩

def laidK : List (String × DataW Unit) := [("almoner/shas.start", Rows.laid_almoner_shas_start), ("almoner/shas.added", Rows.laid_almoner_shas_added), ("almoner/links.errMissing", Rows.laid_almoner_links_errMissing)]
def isShas (x : String × DataW Unit) : Bool := ["almoner/shas.start", "almoner/shas.added"].contains x.1
def isMiss (x : String × DataW Unit) : Bool := ["almoner/links.errMissing"].contains x.1
theorem laidK_shas : laidK.filter isShas = laid2 := by
  unfold laidK laid2 isShas
  simp [List.filter]
theorem laidK_miss : laidK.filter isMiss = laid1 := by
  unfold laidK laid1 isMiss
  simp [List.filter]

theorem of_laidK {W : World} (h : laidMetH Tryd.prog laidK W) : (Starts W ∧ Knows W) ∧ ∃ E, Miss W E := by
  have h1 := h.filter isShas
  rw [laidK_shas] at h1
  have h2 := h.filter isMiss
  rw [laidK_miss] at h2
  exact ⟨of_laid h1, of_laid1 h2⟩

end Go.Proofs.YtnaebjdccngeoaaDoor
