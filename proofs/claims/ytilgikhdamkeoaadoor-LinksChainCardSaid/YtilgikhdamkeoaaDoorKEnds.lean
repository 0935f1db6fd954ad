/-
  links.ends: what a link leads to, how many of its sums are not taken, and whether one is missing.
-/
import Derived.Test.YtilgikhdamkeoaaDoorKLeadAll
import Derived.Laws.EntriesVeiled
namespace Go.Proofs.YtilgikhdamkeoaaDoor
open Go.RowKit

/-- Three results, of which the first lies in memory. -/
theorem results_cell_tmp2 {P : Program} {fn : Func} {p q r : Tmp} {ty : TypeId} (h : fn.results = #[.cell p ty, .tmp q, .tmp r]) (tmps : Array Value) (w : World) (ad : Addr) (v : Value)
    (hp : tmps.getD p undef = .pointer (some ad)) (hl : (loadVar ty ad).run P w = .ok v w) : (results fn tmps).run P w = .ok (.tuple #[v, tmps.getD q undef, tmps.getD r undef]) w := by
  have hp' : tmps[p]?.getD undef = .pointer (some ad) := by simpa using hp
  simp [results, h, hp', asAddr, hl]

/-- The world in which ends calls lead. -/
structure KEndsIn (w w1 : World) (a : List Nat) (A : Option Addr) (n c g : Nat) : Prop where
  sum : BArr w1 g 24 a
  link : VarAt w1 (g + 1) 22 (.slice A n c)
  res : BArr w1 (g + 2) 46 zero64
  nxt : VarAt w1 (g + 3) 60 (takesK (g + 1))
  led : VarAt w1 (g + 4) 61 (leadsK g (g + 3) (g + 4))
  below : Below w.heap.size w w1
  size : w1.heap.size = g + 5
theorem kendsIn_of (w : World) (a : List Nat) (A : Option Addr) (n c g : Nat) (hg : w.heap.size = g) :
    KEndsIn w (((((w.alloc (.cells (bvs a).toArray 24)).alloc (.cells #[.slice A n c] 22)).alloc (.cells (bvs zero64).toArray 46)).alloc (.cells #[takesK (g + 1)] 60)).alloc (.cells #[leadsK g (g + 3) (g + 4)] 61)) a A n c g := by
  have h0 := BArr.new w 24 a
  obtain ⟨w0, e0⟩ : ∃ w0, w0 = w.alloc (.cells (bvs a).toArray 24) := ⟨_, rfl⟩
  have b0 := below_alloc w (.cells (bvs a).toArray 24)
  have s0 : w0.heap.size = g + 1 := by rw [e0]; simp [hg]
  rw [← e0] at h0 b0 ⊢
  have h1 := VarAt.new w0 22 (.slice A n c)
  obtain ⟨w1, e1⟩ : ∃ w1, w1 = w0.alloc (.cells #[.slice A n c] 22) := ⟨_, rfl⟩
  have b1 := below_alloc w0 (.cells #[.slice A n c] 22)
  have s1 : w1.heap.size = g + 2 := by rw [e1]; simp [s0]
  rw [← e1] at h1 b1 ⊢
  have h2 := BArr.new w1 46 zero64
  obtain ⟨w2, e2⟩ : ∃ w2, w2 = w1.alloc (.cells (bvs zero64).toArray 46) := ⟨_, rfl⟩
  have b2 := below_alloc w1 (.cells (bvs zero64).toArray 46)
  have s2 : w2.heap.size = g + 3 := by rw [e2]; simp [s1]
  rw [← e2] at h2 b2 ⊢
  have h3 := VarAt.new w2 60 (takesK (g + 1))
  obtain ⟨w3, e3⟩ : ∃ w3, w3 = w2.alloc (.cells #[takesK (g + 1)] 60) := ⟨_, rfl⟩
  have b3 := below_alloc w2 (.cells #[takesK (g + 1)] 60)
  have s3 : w3.heap.size = g + 4 := by rw [e3]; simp [s2]
  rw [← e3] at h3 b3 ⊢
  have h4 := VarAt.new w3 61 (leadsK g (g + 3) (g + 4))
  have b4 := below_alloc w3 (.cells #[leadsK g (g + 3) (g + 4)] 61)
  rw [hg] at h0
  rw [s0] at h1
  rw [s1] at h2
  rw [s2] at h3
  rw [s3] at h4
  exact ⟨(((h0.below b1).below b2).below b3).below b4, ((h1.below b2).below b3).below b4, (h2.below b3).below b4, h3.below b4, h4,
    below_on (below_on (below_on (below_on b0 (Nat.le_refl _) b1) (Nat.le_refl _) b2) (Nat.le_refl _) b3) (Nat.le_refl _) b4, by simp [s3]⟩

section
variable {w : World} {n c : Nat} {A : Option Addr} {ys a : List Nat} {E : Addr} {from_ size : Nat}

set_option maxRecDepth 100000 in
set_option maxHeartbeats 4000000 in
theorem kends_at {P Q : List Nat} {ev : Value} {j' g m : Nat} (hm : n - j' = m) (hg : w.heap.size = g) (hin : InS w A n ys) (hc : n ≤ c) (hPl : P.length = 32) (hQl : Q.length = 32)
    (cl : KCall w g (g + 1) (g + 3) (g + 4) n ys a from_ size true 0 P Q ev j') :
    Calls Tryd.prog 18 #[.int .u64 (from_ : Int), .int .u64 (size : Int), sv a, .slice A n c] w fun e w' => e = .returned (.tuple #[sv (P ++ Q), .int .i64 (m : Int), ev]) ∧ Below w.heap.size w w' := by
  have HM := Lib.hid hm
  have e0 : (bvs zero64).toArray = #[.int .u8 0, .int .u8 0, .int .u8 0, .int .u8 0, .int .u8 0, .int .u8 0, .int .u8 0, .int .u8 0, .int .u8 0, .int .u8 0, .int .u8 0, .int .u8 0, .int .u8 0, .int .u8 0, .int .u8 0, .int .u8 0, .int .u8 0, .int .u8 0, .int .u8 0, .int .u8 0, .int .u8 0, .int .u8 0, .int .u8 0, .int .u8 0, .int .u8 0, .int .u8 0, .int .u8 0, .int .u8 0, .int .u8 0, .int .u8 0, .int .u8 0, .int .u8 0, .int .u8 0, .int .u8 0, .int .u8 0, .int .u8 0, .int .u8 0, .int .u8 0, .int .u8 0, .int .u8 0, .int .u8 0, .int .u8 0, .int .u8 0, .int .u8 0, .int .u8 0, .int .u8 0, .int .u8 0, .int .u8 0, .int .u8 0, .int .u8 0, .int .u8 0, .int .u8 0, .int .u8 0, .int .u8 0, .int .u8 0, .int .u8 0, .int .u8 0, .int .u8 0, .int .u8 0, .int .u8 0, .int .u8 0, .int .u8 0, .int .u8 0, .int .u8 0] := rfl
  have h1 := kendsIn_of w a A n c g hg
  rw [e0] at h1
  clear e0
  have hmf : ∀ (fn : Fn) (first cap : Array Value) (w : World), (Instr.makeFunc fn first cap).run Tryd.prog w = .ok (.func fn first cap) w := fun _ _ _ _ => rfl
  unfold takesK leadsK at h1
  obtain ⟨w1, hw1⟩ : ∃ w1, w1 = ((((w.alloc (.cells (bvs a).toArray 24)).alloc (.cells #[.slice A n c] 22)).alloc (.cells #[.int .u8 0, .int .u8 0, .int .u8 0, .int .u8 0, .int .u8 0, .int .u8 0, .int .u8 0, .int .u8 0, .int .u8 0, .int .u8 0, .int .u8 0, .int .u8 0, .int .u8 0, .int .u8 0, .int .u8 0, .int .u8 0, .int .u8 0, .int .u8 0, .int .u8 0, .int .u8 0, .int .u8 0, .int .u8 0, .int .u8 0, .int .u8 0, .int .u8 0, .int .u8 0, .int .u8 0, .int .u8 0, .int .u8 0, .int .u8 0, .int .u8 0, .int .u8 0, .int .u8 0, .int .u8 0, .int .u8 0, .int .u8 0, .int .u8 0, .int .u8 0, .int .u8 0, .int .u8 0, .int .u8 0, .int .u8 0, .int .u8 0, .int .u8 0, .int .u8 0, .int .u8 0, .int .u8 0, .int .u8 0, .int .u8 0, .int .u8 0, .int .u8 0, .int .u8 0, .int .u8 0, .int .u8 0, .int .u8 0, .int .u8 0, .int .u8 0, .int .u8 0, .int .u8 0, .int .u8 0, .int .u8 0, .int .u8 0, .int .u8 0, .int .u8 0] 46)).alloc (.cells #[.func (.func 26) #[] #[.pointer (some ⟨g + 1, 0, none⟩)]] 60)).alloc (.cells #[.func (.func 27) #[] #[.pointer (some ⟨g, 0, none⟩), .pointer (some ⟨g + 3, 0, none⟩), .pointer (some ⟨g + 4, 0, none⟩)]] 61) := ⟨_, rfl⟩
  rw [← hw1] at h1
  have k1 : KIn w w1 g (g + 1) (g + 3) (g + 4) n 0 A c ys a := ⟨h1.link, hin, hc, Nat.zero_le _, h1.sum, h1.nxt, h1.led, h1.below, by omega, ⟨by omega, by omega, by omega⟩⟩
  have CL := Lib.hid (cl A c w1 k1)
  have H1 := Lib.hid h1
  have HW := Lib.hid hw1
  have HG := Lib.hid hg
  have l1 := h1.led.cell
  have hPQ : (P ++ Q).length = 64 := by rw [List.length_append]; omega
  have HZ := Lib.hid (show zero64.length = 64 from rfl)
  clear h1 hw1 k1 cl hin hc hm
  unfold sv
  go_enter Tryd.func18, Tryd.ntmps18
  go_upto_region 4 with fail
  rw [show g + 1 + 1 = g + 2 from rfl, show g + 2 + 1 = g + 3 from rfl, show g + 3 + 1 = g + 4 from rfl]
  rw [← HW.out]
  clear hg
  unfold leadsK at l1
  go_wp2_with fail
  refine CL.out.mono ?_
  rintro e w2 ⟨rfl, ⟨A2, c2, hk2⟩, hb2⟩
  have v2 := hk2.var
  rw [HM.out] at v2
  have r2 : BArr w2 (g + 2) 46 zero64 := (hb2.block _ H1.out.res.lt (by omega)).trans H1.out.res
  have B2 := Lib.hid (H1.out.below.trans (hb2.below (by have := H1.out.size; have := HG.out; omega) (fun b e => by have := HG.out; omega)))
  have V2 := Lib.hid v2
  clear hk2 hb2 v2
  go_upto_region 5 with (with_reducible refine wpList_store_pair rfl (.tmp 8) (.tmp 20) rfl (g + 2) rfl zero64 (P ++ Q) HZ.out hPQ r2 rfl ?_)
  have r3 : BArr (w2.setRow (g + 2) (bvs (P ++ Q)).toArray) (g + 2) 46 (P ++ Q) := r2.setRow _
  have v3 := V2.out.setRow_other (g + 2) (by omega) (bvs (P ++ Q)).toArray
  have b3 : Below w.heap.size w (w2.setRow (g + 2) (bvs (P ++ Q)).toArray) := below_setRow B2.out (by have := HG.out; omega) _
  obtain ⟨w3, hw3⟩ : ∃ w3, w3 = w2.setRow (g + 2) (bvs (P ++ Q)).toArray := ⟨_, rfl⟩
  rw [← hw3] at r3 v3 b3 ⊢
  have B3 := Lib.hid b3
  clear hw3 r2 b3
  have hS : BArr w3.drew (g + 2) 46 (P ++ Q) ∧ VarAt w3.drew (g + 1) 22 (.slice A2 m c2) := ⟨r3, v3⟩
  refine wp_region_held (S := fun W => BArr W (g + 2) 46 (P ++ Q) ∧ VarAt W (g + 1) 22 (.slice A2 m c2)) (by kernel_rfl) ?_
  change wpAnyH _ _ _ _ _ _ _ _ w3.drew
  refine' wpAnyH_take (i := 0) (oi := _) (v := sv (P ++ Q)) ?hi0 (by kernel_rfl) ?hf0 ?hr0 ?hQ0 ?hy0 hS ?rest0
  case hi0 => (simp only [List.getElem?_toArray, List.getElem?_cons_zero]; rfl)
  case hf0 => kernel_rfl
  case hr0 => kernel_rfl
  case hQ0 => exact fun _ _ _ h => h
  case hy0 => exact yields_pair (by rfl) (.tmp 8) (by rfl) _ (by rfl) (P ++ Q) hPQ (fun W hSw => hSw.1.at_)
  try simp only [Act.put, List.setIfInBounds_toArray, List.set_cons_zero, List.set_cons_succ]
  refine' wpAnyH_take (i := 1) (oi := _) (v := _) ?hi1 (by kernel_rfl) ?hf1 ?hr1 ?hQ1 ?hy1 hS ?rest1
  case hi1 => (simp only [List.getElem?_toArray, List.getElem?_cons_zero, List.getElem?_cons_succ]; rfl)
  case hf1 => kernel_rfl
  case hr1 => kernel_rfl
  case hQ1 => exact fun _ _ _ h => h
  case hy1 => refine Or.inl ⟨by rfl, ?_⟩; intro W hSw; have s0 := hSw.2.cell; go_simp; try with_reducible rfl
  try simp only [Act.put, List.setIfInBounds_toArray, List.set_cons_zero, List.set_cons_succ]
  refine' wpAnyH_take (i := 2) (oi := _) (v := _) ?hi2 (by kernel_rfl) ?hf2 ?hr2 ?hQ2 ?hy2 hS ?rest2
  case hi2 => (simp only [List.getElem?_toArray, List.getElem?_cons_zero, List.getElem?_cons_succ]; rfl)
  case hf2 => kernel_rfl
  case hr2 => kernel_rfl
  case hQ2 => exact fun _ _ _ h => h
  case hy2 => refine Or.inl ⟨by rfl, ?_⟩; intro W hSw; have s0 := hSw.2.cell; go_simp; try with_reducible rfl
  try simp only [Act.put, List.setIfInBounds_toArray, List.set_cons_zero, List.set_cons_succ]
  refine' wpAnyH_take (i := 3) (oi := _) (v := _) ?hi3 (by kernel_rfl) ?hf3 ?hr3 ?hQ3 ?hy3 hS ?rest3
  case hi3 => (simp only [List.getElem?_toArray, List.getElem?_cons_zero, List.getElem?_cons_succ]; rfl)
  case hf3 => kernel_rfl
  case hr3 => kernel_rfl
  case hQ3 => exact fun _ _ _ h => h
  case hy3 => refine Or.inl ⟨by rfl, ?_⟩; intro W hSw; have s0 := hSw.2.cell; go_simp; try with_reducible rfl
  try simp only [Act.put, List.setIfInBounds_toArray, List.set_cons_zero, List.set_cons_succ]
  refine wpAnyH_ready (rs := [4]) (by kernel_rfl) (by simp) ?_
  refine' AllReadyH.cons (o := _) ?hin (fun K3 hK3 => ?_) AllReadyH.nil
  case hin => (simp only [List.getElem?_toArray, List.getElem?_cons_zero, List.getElem?_cons_succ]; rfl)
  rw [if_pos (by rfl)]
  refine step_store_pair (.tmp 8) (.tmp 22) rfl (g + 2) rfl (P ++ Q) (P ++ Q) hPQ hPQ hS.1 rfl ?_
  have r5 : BArr (w3.drew.setRow (g + 2) (bvs (P ++ Q)).toArray) (g + 2) 46 (P ++ Q) := hS.1.setRow _
  have b5 : Below w.heap.size w (w3.drew.setRow (g + 2) (bvs (P ++ Q)).toArray) := below_setRow B3.out.drew (by have := HG.out; omega) _
  have hS5 : BArr (w3.drew.setRow (g + 2) (bvs (P ++ Q)).toArray) (g + 2) 46 (P ++ Q) ∧ VarAt (w3.drew.setRow (g + 2) (bvs (P ++ Q)).toArray) (g + 1) 22 (.slice A2 m c2) := ⟨r5, hS.2.setRow_other _ (by omega) _⟩
  obtain ⟨w5, hw5⟩ : ∃ w5, w5 = w3.drew.setRow (g + 2) (bvs (P ++ Q)).toArray := ⟨_, rfl⟩
  rw [← hw5] at r5 b5 hS5 ⊢
  refine hK3.out _ _ hS5 (fun _ => ?_)
  clear hK3 K3 hw5
  refine' wpAnyH_take (i := 5) (oi := _) (v := _) ?hi5 (by kernel_rfl) ?hf5 ?hr5 ?hQ5 ?hy5 hS5 ?rest5
  case hi5 => (simp only [List.getElem?_toArray, List.getElem?_cons_zero, List.getElem?_cons_succ]; rfl)
  case hf5 => kernel_rfl
  case hr5 => kernel_rfl
  case hQ5 => exact fun _ _ _ h => h
  case hy5 => refine Or.inl ⟨by rfl, ?_⟩; intro W hSw; have s0 := hSw.2.cell; go_simp; try with_reducible rfl
  try simp only [Act.put, List.setIfInBounds_toArray, List.set_cons_zero, List.set_cons_succ]
  refine' wpAnyH_take (i := 6) (oi := _) (v := _) ?hi6 (by kernel_rfl) ?hf6 ?hr6 ?hQ6 ?hy6 hS5 ?rest6
  case hi6 => (simp only [List.getElem?_toArray, List.getElem?_cons_zero, List.getElem?_cons_succ]; rfl)
  case hf6 => kernel_rfl
  case hr6 => kernel_rfl
  case hQ6 => exact fun _ _ _ h => h
  case hy6 => refine Or.inl ⟨by rfl, ?_⟩; intro W hSw; have s0 := hSw.2.cell; go_simp; try with_reducible rfl
  try simp only [Act.put, List.setIfInBounds_toArray, List.set_cons_zero, List.set_cons_succ]
  refine wpAnyH_done (by kernel_rfl) ?_ _
  go_wp2
  refine bodyPost_ret_by (results_cell_tmp2 (p := 8) (q := 9) (r := 10) (ty := 46) (by kernel_rfl) _ _ ⟨g + 2, 0, none⟩ (sv (P ++ Q)) rfl (run_load_pair _ _ _ hPQ r5.at_)) rfl ?_
  exact ⟨rfl, b5⟩

/-- Both sums and how many are left; or one is missing. -/
theorem kends_yes (hn : n ≤ 1000000) (hin : InS w A n ys) (hy : ∀ x ∈ ys, x < 256) (hc : n ≤ c) (hal : a.length = 32) (hab : ∀ x ∈ a, x < 256) (hk : Knows w) (hs : Starts w) (hm : Miss w E) (h1 : 1 ≤ from_) (hfs : from_ ≤ size) (hz : size < 18446744073709551616) (hd : ldep from_ size true ≤ n) :
    Calls Tryd.prog 18 #[.int .u64 (from_ : Int), .int .u64 (size : Int), sv a, .slice A n c] w fun e w' => e = .returned (.tuple #[sv ((linkF (nth ys) a from_ size true 0).1 ++ (linkF (nth ys) a from_ size true 0).2), .int .i64 ((n - ldep from_ size true : Nat) : Int), .nilIface]) ∧ Below w.heap.size w w' := by
  have L := linkF_len (a := a) (j := 0) (edge := true) hin.len hal (size := size) (from_ := from_) (by omega)
  have C := (klead_any (ab := w.heap.size) (lb := w.heap.size + 1) (nb := w.heap.size + 3) (gb := w.heap.size + 4) hn hy hin.len hal hab hk hs hm size from_ 0 true h1 hfs hz (Nat.zero_le _)).1 (by omega)
  rw [Nat.zero_add] at C
  exact kends_at rfl rfl hin hc L.1 L.2 C
theorem kends_no (hn : n ≤ 1000000) (hin : InS w A n ys) (hy : ∀ x ∈ ys, x < 256) (hc : n ≤ c) (hal : a.length = 32) (hab : ∀ x ∈ a, x < 256) (hk : Knows w) (hs : Starts w) (hm : Miss w E) (h1 : 1 ≤ from_) (hfs : from_ ≤ size) (hz : size < 18446744073709551616) (hd : n < ldep from_ size true) :
    ∃ P Q : List Nat, ∃ m : Nat, P.length = 32 ∧ Q.length = 32 ∧ Calls Tryd.prog 18 #[.int .u64 (from_ : Int), .int .u64 (size : Int), sv a, .slice A n c] w fun e w' => e = .returned (.tuple #[sv (P ++ Q), .int .i64 (m : Int), missV E]) ∧ Below w.heap.size w w' := by
  obtain ⟨P, Q, j', hP, hQ, C⟩ := (klead_any (ab := w.heap.size) (lb := w.heap.size + 1) (nb := w.heap.size + 3) (gb := w.heap.size + 4) hn hy hin.len hal hab hk hs hm size from_ 0 true h1 hfs hz (Nat.zero_le _)).2 (by omega)
  exact ⟨P, Q, n - j', hP, hQ, kends_at rfl rfl hin hc hP hQ C⟩

end

end Go.Proofs.YtilgikhdamkeoaaDoor
