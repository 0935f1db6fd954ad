/-
  paths.lead: what the sums of a path lead to; or the closure falls, and so does this.
-/
import Derived.Test.YtppfdpnplemfkaaDoorWNext
import Derived.Test.YtppfdpnplemfkaaDoorWLeft
import Derived.Deep.MidRow
namespace Go.Proofs.YtppfdpnplemfkaaDoor
open Go.RowKit

/-- The closure that takes the next one. -/
def takes (pb : Nat) : Value := .func (.func 25) #[] #[.pointer (some ⟨pb, 0, none⟩)]

/-- The world in which lead begins. -/
structure LeadIn (w w1 : World) (leaf : List Nat) : Prop where
  leaf : BArr w1 w.heap.size 24 leaf
  res : BArr w1 (w.heap.size + 1) 24 zero32
  below : Below w.heap.size w w1
  size : w1.heap.size = w.heap.size + 2

theorem leadIn_of (w : World) (leaf : List Nat) : LeadIn w ((w.alloc (.cells (bvs leaf).toArray 24)).alloc (.cells (bvs zero32).toArray 24)) leaf := by
  have f0 := (BArr.new w 24 leaf).alloc (.cells (bvs zero32).toArray 24)
  have f1 := BArr.new (w.alloc (.cells (bvs leaf).toArray 24)) 24 zero32
  rw [World.size_alloc] at f1
  exact ⟨f0, f1, (below_alloc w _).alloc (by simp) _, by simp⟩

theorem step_store_sum {o : Oper} {a : Act} {w : World} {K : Act → World → Prop} {Q : Exit → Act → World → Prop} (x y : Operand) (ho : o.op = .store 24 x y)
    (g : Nat) (hx : a.eval x = .pointer (some ⟨g, 0, none⟩)) {T : TypeId} (xs ys : List Nat) (hl : xs.length = 32) (hl' : ys.length = 32) (hc : BArr w g T xs) (hy : a.eval y = sv ys)
    (h : K (a.put o.dst undef) (w.setRow g (bvs ys).toArray)) : Oper.wp Tryd.prog o a w K Q := by
  have hr := run_storeVar_row (P := Tryd.prog) w g T 24 (bvs xs).toArray (bvs ys).toArray hc (by rw [List.size_toArray, bvs_length, hl']; exact sizeSum) (by rw [List.size_toArray, bvs_length, hl, List.size_toArray, bvs_length, hl']) (all_oneCell_toArray (bvs_oneCell ys))
  unfold Oper.wp execOp
  simp only [ho, hx, hy, sv, Instr.storeAt, Instr.sureAddr, Sem.run_bind, Sem.run_pure, Result.andThen_ok, hr]
  exact h

theorem run_at_sum {o : Oper} {a : Act} {w : World} (x : Operand) (ho : o.op = .load 24 x) (ad : Addr) (hx : a.eval x = .pointer (some ad)) (s : List Nat) (hl : s.length = 32) (hc : At w ad s) :
    (execOp a.eval o).run Tryd.prog w = .ok (.value (sv s)) w := by
  unfold execOp
  simp only [ho, hx, Instr.loadAt, Instr.sureAddr, Sem.run_bind, Sem.run_pure, Result.andThen_ok, run_load_sum w ad s hl hc]

section
variable {B w : World} {pb n j c : Nat} {A : Option Addr} {ys : List Nat} {leaf : List Nat} {at_ size : Nat}

set_option maxRecDepth 100000 in
set_option maxHeartbeats 2000000 in
theorem lead_one (h : PIn B w pb n j A c ys) (hl : leaf.length = 32) :
    Calls Tryd.prog 26 #[sv leaf, .int .u64 (at_ : Int), .int .u64 1, takes pb] w fun e w' => e = .returned (sv leaf) ∧ (∃ A' c', PIn B w' pb n j A' c' ys) ∧ But (· = pb) w w' := by
  have e0 : (bvs zero32).toArray = #[.int .u8 0, .int .u8 0, .int .u8 0, .int .u8 0, .int .u8 0, .int .u8 0, .int .u8 0, .int .u8 0, .int .u8 0, .int .u8 0, .int .u8 0, .int .u8 0, .int .u8 0, .int .u8 0, .int .u8 0, .int .u8 0, .int .u8 0, .int .u8 0, .int .u8 0, .int .u8 0, .int .u8 0, .int .u8 0, .int .u8 0, .int .u8 0, .int .u8 0, .int .u8 0, .int .u8 0, .int .u8 0, .int .u8 0, .int .u8 0, .int .u8 0, .int .u8 0] := rfl
  have h1 := leadIn_of w leaf
  rw [e0] at h1
  clear e0
  have H1 := Lib.hid h1
  have HP := Lib.hid h
  clear h1 h
  unfold sv takes
  go_enter Tryd.func26, Tryd.ntmps26
  go_upto_region 1 with fail
  obtain ⟨w1, hw1⟩ : ∃ w1, w1 = (w.alloc (.cells (bvs leaf).toArray 24)).alloc (.cells #[.int .u8 0, .int .u8 0, .int .u8 0, .int .u8 0, .int .u8 0, .int .u8 0, .int .u8 0, .int .u8 0, .int .u8 0, .int .u8 0, .int .u8 0, .int .u8 0, .int .u8 0, .int .u8 0, .int .u8 0, .int .u8 0, .int .u8 0, .int .u8 0, .int .u8 0, .int .u8 0, .int .u8 0, .int .u8 0, .int .u8 0, .int .u8 0, .int .u8 0, .int .u8 0, .int .u8 0, .int .u8 0, .int .u8 0, .int .u8 0, .int .u8 0, .int .u8 0] 24) := ⟨_, rfl⟩
  rw [← hw1] at H1 ⊢
  clear hw1
  have HZ32 := Lib.hid (show zero32.length = 32 from rfl)
  have hA := Lib.hid H1.out.leaf.at_
  have f1 := H1.out.res
  go_wp2_with (first | with_reducible refine wpList_load_sum rfl (.tmp 4) rfl ⟨w.heap.size, 0, none⟩ rfl leaf hl hA.out ?_ | with_reducible refine wpList_store_sum rfl (.tmp 8) (.tmp 14) rfl (w.heap.size + 1) rfl zero32 leaf HZ32 hl f1 rfl ?_)
  refine bodyPost_ret_by (results_cell_row (p := 8) (ty := 24) (by kernel_rfl) _ _ (w.heap.size + 1) 24 (bvs leaf).toArray (0, 0) _ rfl (f1.setRow _) Tryd.underlying24 rfl (by rw [List.size_toArray, bvs_length, hl]; exact sizeSum)) rfl ?_
  have hlt := HP.out.var.lt
  have hbb := HP.out.below.size
  exact ⟨rfl, ⟨A, c, (HP.out.below_ H1.out.below).setRow (by omega) (by omega) _⟩, But.of_below (below_setRow H1.out.below (by omega) _)⟩

set_option maxRecDepth 100000 in
set_option maxHeartbeats 4000000 in
theorem lead_low_fall (h : PIn B w pb n j A c ys) (hl : leaf.length = 32) (h2 : 2 ≤ size) (hz : size < 18446744073709551616) (hat : at_ < size) (ha : at_ < cutN size)
    (ih : ∀ w' : World, PIn B w' pb n j A c ys → Calls Tryd.prog 26 #[sv leaf, .int .u64 (at_ : Nat), .int .u64 ((cutN size) : Nat), takes pb] w' fun e w'' => e = .panicked fell ∧ But (· = pb) w' w'') :
    Calls Tryd.prog 26 #[sv leaf, .int .u64 (at_ : Int), .int .u64 (size : Int), takes pb] w fun e w' => e = .panicked fell ∧ But (· = pb) w w' := by
  have e0 : (bvs zero32).toArray = #[.int .u8 0, .int .u8 0, .int .u8 0, .int .u8 0, .int .u8 0, .int .u8 0, .int .u8 0, .int .u8 0, .int .u8 0, .int .u8 0, .int .u8 0, .int .u8 0, .int .u8 0, .int .u8 0, .int .u8 0, .int .u8 0, .int .u8 0, .int .u8 0, .int .u8 0, .int .u8 0, .int .u8 0, .int .u8 0, .int .u8 0, .int .u8 0, .int .u8 0, .int .u8 0, .int .u8 0, .int .u8 0, .int .u8 0, .int .u8 0, .int .u8 0, .int .u8 0] := rfl
  have h1 := leadIn_of w leaf
  rw [e0] at h1
  clear e0
  have H1 := Lib.hid h1
  have hcl := cutN_lt h2
  have hcp := cutN_pos size
  obtain ⟨k, hk0⟩ : ∃ k, cutN size = k := ⟨_, rfl⟩
  rw [hk0] at hcl hcp ha ih
  have hai : (at_ : Int) < (k : Int) := by omega
  have hs1 : ((size : Int) == 1) = false := by simp; omega
  have HP := Lib.hid h
  have IH := Lib.hid ih
  have HL := Lib.hid hl
  obtain ⟨w1, hw1⟩ : ∃ w1, w1 = (w.alloc (.cells (bvs leaf).toArray 24)).alloc (.cells #[.int .u8 0, .int .u8 0, .int .u8 0, .int .u8 0, .int .u8 0, .int .u8 0, .int .u8 0, .int .u8 0, .int .u8 0, .int .u8 0, .int .u8 0, .int .u8 0, .int .u8 0, .int .u8 0, .int .u8 0, .int .u8 0, .int .u8 0, .int .u8 0, .int .u8 0, .int .u8 0, .int .u8 0, .int .u8 0, .int .u8 0, .int .u8 0, .int .u8 0, .int .u8 0, .int .u8 0, .int .u8 0, .int .u8 0, .int .u8 0, .int .u8 0, .int .u8 0] 24) := ⟨_, rfl⟩
  rw [← hw1] at H1
  have HW := Lib.hid hw1
  have CM := Lib.hid (pleft_any size w1 h2 hz)
  rw [hk0] at CM
  have HX := Lib.hid (And.intro h2 (And.intro hz (And.intro hat (And.intro hcl (And.intro hcp hk0)))))
  clear h1 h ih h2 hz hat hcl hcp hk0 hw1 ha
  unfold sv takes
  go_enter Tryd.func26, Tryd.ntmps26
  go_upto_region 1 with fail
  rw [← HW.out]
  go_wp2_with fail
  refine CM.out.mono ?_
  rintro e w2 ⟨rfl, rfl⟩
  have hA := Lib.hid H1.out.leaf.at_
  go_wp2_with (with_reducible refine wpList_load_sum rfl (.tmp 4) rfl ⟨w.heap.size, 0, none⟩ rfl leaf hl hA.out ?_)
  refine (IH.out w2 (HP.out.below_ H1.out.below)).mono ?_
  rintro e w3 ⟨rfl, hb3⟩
  go_wp2_with fail
  exact ⟨rfl, rfl, (But.of_below H1.out.below).trans hb3⟩

set_option maxRecDepth 100000 in
set_option maxHeartbeats 4000000 in
theorem lead_low_short {L : List Nat} {q : Nat} (h : PIn B w pb n j A c ys) (hl : leaf.length = 32) (h2 : 2 ≤ size) (hz : size < 18446744073709551616) (hat : at_ < size) (ha : at_ < cutN size)
    (ih : ∀ w' : World, PIn B w' pb n j A c ys → Calls Tryd.prog 26 #[sv leaf, .int .u64 (at_ : Nat), .int .u64 ((cutN size) : Nat), takes pb] w' fun e w'' => e = .returned (sv L) ∧ (∃ A' c', PIn B w'' pb n q A' c' ys) ∧ But (· = pb) w' w'') (hL : L.length = 32) (hq : q = n) :
    Calls Tryd.prog 26 #[sv leaf, .int .u64 (at_ : Int), .int .u64 (size : Int), takes pb] w fun e w' => e = .panicked fell ∧ But (· = pb) w w' := by
  have e0 : (bvs zero32).toArray = #[.int .u8 0, .int .u8 0, .int .u8 0, .int .u8 0, .int .u8 0, .int .u8 0, .int .u8 0, .int .u8 0, .int .u8 0, .int .u8 0, .int .u8 0, .int .u8 0, .int .u8 0, .int .u8 0, .int .u8 0, .int .u8 0, .int .u8 0, .int .u8 0, .int .u8 0, .int .u8 0, .int .u8 0, .int .u8 0, .int .u8 0, .int .u8 0, .int .u8 0, .int .u8 0, .int .u8 0, .int .u8 0, .int .u8 0, .int .u8 0, .int .u8 0, .int .u8 0] := rfl
  have h1 := leadIn_of w leaf
  rw [e0] at h1
  clear e0
  have H1 := Lib.hid h1
  have hcl := cutN_lt h2
  have hcp := cutN_pos size
  obtain ⟨k, hk0⟩ : ∃ k, cutN size = k := ⟨_, rfl⟩
  rw [hk0] at hcl hcp ha ih
  have hai : (at_ : Int) < (k : Int) := by omega
  have hs1 : ((size : Int) == 1) = false := by simp; omega
  have HP := Lib.hid h
  have IH := Lib.hid ih
  have HL := Lib.hid hl
  obtain ⟨w1, hw1⟩ : ∃ w1, w1 = (w.alloc (.cells (bvs leaf).toArray 24)).alloc (.cells #[.int .u8 0, .int .u8 0, .int .u8 0, .int .u8 0, .int .u8 0, .int .u8 0, .int .u8 0, .int .u8 0, .int .u8 0, .int .u8 0, .int .u8 0, .int .u8 0, .int .u8 0, .int .u8 0, .int .u8 0, .int .u8 0, .int .u8 0, .int .u8 0, .int .u8 0, .int .u8 0, .int .u8 0, .int .u8 0, .int .u8 0, .int .u8 0, .int .u8 0, .int .u8 0, .int .u8 0, .int .u8 0, .int .u8 0, .int .u8 0, .int .u8 0, .int .u8 0] 24) := ⟨_, rfl⟩
  rw [← hw1] at H1
  have HW := Lib.hid hw1
  have CM := Lib.hid (pleft_any size w1 h2 hz)
  rw [hk0] at CM
  have HX := Lib.hid (And.intro h2 (And.intro hz (And.intro hat (And.intro hcl (And.intro hcp hk0)))))
  have HLL := Lib.hid hL
  have HQ := Lib.hid hq
  clear h1 h ih h2 hz hat hcl hcp hk0 hw1 ha hL hq
  unfold sv takes
  go_enter Tryd.func26, Tryd.ntmps26
  go_upto_region 1 with fail
  rw [← HW.out]
  go_wp2_with fail
  refine CM.out.mono ?_
  rintro e w2 ⟨rfl, rfl⟩
  have hA := Lib.hid H1.out.leaf.at_
  go_wp2_with (with_reducible refine wpList_load_sum rfl (.tmp 4) rfl ⟨w.heap.size, 0, none⟩ rfl leaf hl hA.out ?_)
  refine (IH.out w2 (HP.out.below_ H1.out.below)).mono ?_
  rintro e w3 ⟨rfl, ⟨A3, c3, hp3⟩, hb3⟩
  have HP3 := Lib.hid hp3
  have HB3 := Lib.hid ((But.of_below H1.out.below).trans hb3)
  have hlt := HP.out.var.lt
  have hsz := H1.out.size
  have r3 : BArr w3 (w.heap.size + 1) 24 zero32 := (hb3.block _ H1.out.res.lt (by omega)).trans H1.out.res
  have HR3 := Lib.hid r3
  have HS3 := Lib.hid (And.intro hlt (And.intro hsz hb3.size))
  clear hp3 hb3 hlt hsz r3
  have hLl := HLL.out
  go_upto_region 6 with (with_reducible refine wpList_store_new w3 _ rfl rfl (.tmp 10) (.tmp 24) rfl rfl L hLl rfl ?_)
  have b4 := below_alloc w3 (.cells (bvs L).toArray 24)
  have g4 := BArr.new w3 24 L
  obtain ⟨w4, hw4⟩ : ∃ w4, w4 = w3.alloc (.cells (bvs L).toArray 24) := ⟨_, rfl⟩
  rw [← hw4] at b4 g4 ⊢
  have HP4 := Lib.hid (HP3.out.below_ b4)
  have HR4 := Lib.hid (HR3.out.below b4)
  have HB4 := Lib.hid (HB3.out.trans (But.of_below b4))
  have H4 := Lib.hid (And.intro b4 g4)
  clear hw4 b4 g4
  have hS : BArr w4.drew w3.heap.size 24 L := H4.out.2
  refine wp_region_held (S := fun W => BArr W w3.heap.size 24 L) (by kernel_rfl) ?_
  change wpAnyH _ _ _ _ _ _ _ _ w4.drew
  refine' wpAnyH_take (i := 1) (oi := _) (v := _) ?him (by kernel_rfl) ?hfm ?hrm ?hQm ?hym hS ?restm
  case him => (simp only [List.getElem?_toArray, List.getElem?_cons_zero, List.getElem?_cons_succ]; rfl)
  case hfm => kernel_rfl
  case hrm => kernel_rfl
  case hQm => exact fun _ _ _ h => h
  case hym =>
    refine Or.inl ⟨by rfl, ?_⟩
    intro W hSw
    go_simp
    try with_reducible rfl
  simp only [Act.put, List.setIfInBounds_toArray, List.set_cons_zero, List.set_cons_succ]
  refine' wpAnyH_take (i := 0) (oi := _) (v := sv L) ?hil (by kernel_rfl) ?hfl ?hrl ?hQl ?hyl hS ?restl
  case hil => (simp only [List.getElem?_toArray, List.getElem?_cons_zero]; rfl)
  case hfl => kernel_rfl
  case hrl => kernel_rfl
  case hQl => exact fun _ _ _ h => h
  case hyl =>
    refine Or.inl ⟨by rfl, ?_⟩
    intro W hSw
    exact run_at_sum (.tmp 10) (by rfl) ⟨w3.heap.size, 0, none⟩ (by rfl) L HLL.out hSw.at_
  simp only [Act.put, List.setIfInBounds_toArray, List.set_cons_zero, List.set_cons_succ]
  refine wpAnyH_ready (rs := [2]) (by kernel_rfl) (by simp) ?_
  refine' AllReadyH.cons (o := _) ?hin (fun K1 hK1 => ?_) AllReadyH.nil
  case hin => (simp only [List.getElem?_toArray, List.getElem?_cons_zero, List.getElem?_cons_succ]; rfl)
  rw [if_pos (by rfl)]
  go_simp
  refine (next_none (HP4.out.below_ ((Below.refl _ _).drew)) HQ.out).mono ?_
  rintro e w5 ⟨rfl, hb5⟩
  go_wp2
  exact ⟨rfl, rfl, HB4.out.trans ((But.refl _ _).drew.trans (But.of_below hb5))⟩

set_option maxRecDepth 100000 in
set_option maxHeartbeats 4000000 in
theorem lead_low_yes {L : List Nat} {q : Nat} (h : PIn B w pb n j A c ys) (hl : leaf.length = 32) (h2 : 2 ≤ size) (hz : size < 18446744073709551616) (hat : at_ < size) (ha : at_ < cutN size)
    (ih : ∀ w' : World, PIn B w' pb n j A c ys → Calls Tryd.prog 26 #[sv leaf, .int .u64 (at_ : Nat), .int .u64 ((cutN size) : Nat), takes pb] w' fun e w'' => e = .returned (sv L) ∧ (∃ A' c', PIn B w'' pb n q A' c' ys) ∧ But (· = pb) w' w'') (hL : L.length = 32) (hLb : ∀ x ∈ L, x < 256) (hq : q < n) (hn : n ≤ 1000000) (hy : ∀ x ∈ ys, x < 256) (hlen : ys.length = 32 * n) (hk : Knows B) (hs : Starts B) :
    Calls Tryd.prog 26 #[sv leaf, .int .u64 (at_ : Int), .int .u64 (size : Int), takes pb] w fun e w' => e = .returned (sv (nodeL L (nth ys q))) ∧ (∃ A' c', PIn B w' pb n (q + 1) A' c' ys) ∧ But (· = pb) w w' := by
  have e0 : (bvs zero32).toArray = #[.int .u8 0, .int .u8 0, .int .u8 0, .int .u8 0, .int .u8 0, .int .u8 0, .int .u8 0, .int .u8 0, .int .u8 0, .int .u8 0, .int .u8 0, .int .u8 0, .int .u8 0, .int .u8 0, .int .u8 0, .int .u8 0, .int .u8 0, .int .u8 0, .int .u8 0, .int .u8 0, .int .u8 0, .int .u8 0, .int .u8 0, .int .u8 0, .int .u8 0, .int .u8 0, .int .u8 0, .int .u8 0, .int .u8 0, .int .u8 0, .int .u8 0, .int .u8 0] := rfl
  have h1 := leadIn_of w leaf
  rw [e0] at h1
  clear e0
  have H1 := Lib.hid h1
  have hcl := cutN_lt h2
  have hcp := cutN_pos size
  obtain ⟨k, hk0⟩ : ∃ k, cutN size = k := ⟨_, rfl⟩
  rw [hk0] at hcl hcp ha ih
  have hai : (at_ : Int) < (k : Int) := by omega
  have hs1 : ((size : Int) == 1) = false := by simp; omega
  have HP := Lib.hid h
  have IH := Lib.hid ih
  have HL := Lib.hid hl
  obtain ⟨w1, hw1⟩ : ∃ w1, w1 = (w.alloc (.cells (bvs leaf).toArray 24)).alloc (.cells #[.int .u8 0, .int .u8 0, .int .u8 0, .int .u8 0, .int .u8 0, .int .u8 0, .int .u8 0, .int .u8 0, .int .u8 0, .int .u8 0, .int .u8 0, .int .u8 0, .int .u8 0, .int .u8 0, .int .u8 0, .int .u8 0, .int .u8 0, .int .u8 0, .int .u8 0, .int .u8 0, .int .u8 0, .int .u8 0, .int .u8 0, .int .u8 0, .int .u8 0, .int .u8 0, .int .u8 0, .int .u8 0, .int .u8 0, .int .u8 0, .int .u8 0, .int .u8 0] 24) := ⟨_, rfl⟩
  rw [← hw1] at H1
  have HW := Lib.hid hw1
  have CM := Lib.hid (pleft_any size w1 h2 hz)
  rw [hk0] at CM
  have HX := Lib.hid (And.intro h2 (And.intro hz (And.intro hat (And.intro hcl (And.intro hcp hk0)))))
  have HLL := Lib.hid hL
  have HQ := Lib.hid (And.intro hLb (And.intro hq (And.intro hn (And.intro hy (And.intro hlen (And.intro hk hs))))))
  clear h1 h ih h2 hz hat hcl hcp hk0 hw1 ha hL hLb hq hn hy hlen hk hs
  unfold sv takes
  go_enter Tryd.func26, Tryd.ntmps26
  go_upto_region 1 with fail
  rw [← HW.out]
  go_wp2_with fail
  refine CM.out.mono ?_
  rintro e w2 ⟨rfl, rfl⟩
  have hA := Lib.hid H1.out.leaf.at_
  go_wp2_with (with_reducible refine wpList_load_sum rfl (.tmp 4) rfl ⟨w.heap.size, 0, none⟩ rfl leaf hl hA.out ?_)
  refine (IH.out w2 (HP.out.below_ H1.out.below)).mono ?_
  rintro e w3 ⟨rfl, ⟨A3, c3, hp3⟩, hb3⟩
  have HP3 := Lib.hid hp3
  have HB3 := Lib.hid ((But.of_below H1.out.below).trans hb3)
  have hlt := HP.out.var.lt
  have hsz := H1.out.size
  have r3 : BArr w3 (w.heap.size + 1) 24 zero32 := (hb3.block _ H1.out.res.lt (by omega)).trans H1.out.res
  have HR3 := Lib.hid r3
  have HS3 := Lib.hid (And.intro hlt (And.intro hsz hb3.size))
  clear hp3 hb3 hlt hsz r3
  have hLl := HLL.out
  go_upto_region 6 with (with_reducible refine wpList_store_new w3 _ rfl rfl (.tmp 10) (.tmp 24) rfl rfl L hLl rfl ?_)
  have b4 := below_alloc w3 (.cells (bvs L).toArray 24)
  have g4 := BArr.new w3 24 L
  obtain ⟨w4, hw4⟩ : ∃ w4, w4 = w3.alloc (.cells (bvs L).toArray 24) := ⟨_, rfl⟩
  rw [← hw4] at b4 g4 ⊢
  have HP4 := Lib.hid (HP3.out.below_ b4)
  have HR4 := Lib.hid (HR3.out.below b4)
  have HB4 := Lib.hid (HB3.out.trans (But.of_below b4))
  have H4 := Lib.hid (And.intro b4 g4)
  clear hw4 b4 g4
  have hS : BArr w4.drew w3.heap.size 24 L := H4.out.2
  refine wp_region_held (S := fun W => BArr W w3.heap.size 24 L) (by kernel_rfl) ?_
  change wpAnyH _ _ _ _ _ _ _ _ w4.drew
  refine' wpAnyH_take (i := 1) (oi := _) (v := _) ?him (by kernel_rfl) ?hfm ?hrm ?hQm ?hym hS ?restm
  case him => (simp only [List.getElem?_toArray, List.getElem?_cons_zero, List.getElem?_cons_succ]; rfl)
  case hfm => kernel_rfl
  case hrm => kernel_rfl
  case hQm => exact fun _ _ _ h => h
  case hym =>
    refine Or.inl ⟨by rfl, ?_⟩
    intro W hSw
    go_simp
    try with_reducible rfl
  simp only [Act.put, List.setIfInBounds_toArray, List.set_cons_zero, List.set_cons_succ]
  refine' wpAnyH_take (i := 0) (oi := _) (v := sv L) ?hil (by kernel_rfl) ?hfl ?hrl ?hQl ?hyl hS ?restl
  case hil => (simp only [List.getElem?_toArray, List.getElem?_cons_zero]; rfl)
  case hfl => kernel_rfl
  case hrl => kernel_rfl
  case hQl => exact fun _ _ _ h => h
  case hyl =>
    refine Or.inl ⟨by rfl, ?_⟩
    intro W hSw
    exact run_at_sum (.tmp 10) (by rfl) ⟨w3.heap.size, 0, none⟩ (by rfl) L HLL.out hSw.at_
  simp only [Act.put, List.setIfInBounds_toArray, List.set_cons_zero, List.set_cons_succ]
  refine wpAnyH_ready (rs := [2]) (by kernel_rfl) (by simp) ?_
  refine' AllReadyH.cons (o := _) ?hin (fun K1 hK1 => ?_) AllReadyH.nil
  case hin => (simp only [List.getElem?_toArray, List.getElem?_cons_zero, List.getElem?_cons_succ]; rfl)
  rw [if_pos (by rfl)]
  go_simp
  obtain ⟨s, hs0⟩ : ∃ s, nth ys q = s := ⟨_, rfl⟩
  have hsl : s.length = 32 := by rw [← hs0]; exact nth_length HQ.out.2.2.2.2.1 HQ.out.2.1
  have hsb : ∀ x ∈ s, x < 256 := by rw [← hs0]; exact nth_lt HQ.out.2.2.2.1 q
  obtain ⟨N, hN⟩ : ∃ N, nodeL L s = N := ⟨_, rfl⟩
  have hNl : N.length = 32 := by rw [← hN]; exact nodeL_length _ _
  have HNN := Lib.hid (And.intro hN (And.intro hNl (And.intro hsl (And.intro hsb hs0))))
  refine (next_some (HP4.out.below_ ((Below.refl _ _).drew)) HQ.out.2.1 HQ.out.2.2.1).mono ?_
  rw [hs0]
  clear hs0 hsl hsb hN hNl
  rintro e w5 ⟨rfl, ⟨A5, c5, hp5⟩, hb5⟩
  have g5 : BArr w5 w3.heap.size 24 L := (hb5.block _ H4.out.2.lt (by have := HS3.out; omega)).trans H4.out.2
  have r5 : BArr w5 (w.heap.size + 1) 24 zero32 := (hb5.block _ HR4.out.lt (by have := HS3.out; omega)).trans HR4.out
  have HP5 := Lib.hid hp5
  have HB5 := Lib.hid hb5
  have HR5 := Lib.hid r5
  clear hp5 hb5 r5
  refine hK1.out _ _ g5 (fun _ => ?_)
  clear hK1 K1
  refine wpAnyH_ready (rs := [3]) (by kernel_rfl) (by simp) ?_
  refine' AllReadyH.cons (o := _) ?hin2 (fun K2 hK2 => ?_) AllReadyH.nil
  case hin2 => (simp only [List.getElem?_toArray, List.getElem?_cons_zero, List.getElem?_cons_succ]; rfl)
  rw [if_pos (by rfl)]
  go_simp
  refine (node_any L s w5 HLL.out HNN.out.2.2.1 HQ.out.1 HNN.out.2.2.2.1 (HQ.out.2.2.2.2.2.1.below HP5.out.below) (HQ.out.2.2.2.2.2.2.below HP5.out.below)).mono ?_
  rintro e w6 ⟨rfl, hb6⟩
  rw [HNN.out.1]
  have g6 : BArr w6 w3.heap.size 24 L := g5.below hb6
  have r6 : BArr w6 (w.heap.size + 1) 24 zero32 := HR5.out.below hb6
  refine hK2.out _ _ g6 (fun _ => ?_)
  clear hK2 K2
  refine wpAnyH_ready (rs := [4]) (by kernel_rfl) (by simp) ?_
  refine' AllReadyH.cons (o := _) ?hin3 (fun K3 hK3 => ?_) AllReadyH.nil
  case hin3 => (simp only [List.getElem?_toArray, List.getElem?_cons_zero, List.getElem?_cons_succ]; rfl)
  rw [if_pos (by rfl)]
  refine step_store_sum (.tmp 8) (.tmp 28) rfl (w.heap.size + 1) rfl zero32 N rfl HNN.out.2.1 r6 rfl ?_
  refine hK3.out _ _ (g6.setRow_other _ (by have := HS3.out; omega) _) (fun _ => ?_)
  clear hK3 K3
  refine wpAnyH_done (by kernel_rfl) ?_ _
  go_wp2
  refine bodyPost_ret_by (results_cell_row (p := 8) (ty := 24) (by kernel_rfl) _ _ (w.heap.size + 1) 24 (bvs N).toArray (0, 0) _ rfl (r6.setRow _) Tryd.underlying24 rfl (by rw [List.size_toArray, bvs_length, HNN.out.2.1]; exact sizeSum)) rfl ?_
  have hlt := HP.out.var.lt
  have hbb := HP.out.below.size
  have b6 := (HB4.out.trans ((But.refl _ _).drew.trans HB5.out)).trans (But.of_below hb6)
  refine ⟨by rw [← HNN.out.1, ← HNN.out.2.2.2.2], ⟨A5, c5, (HP5.out.below_ hb6).setRow (by omega) (by omega) _⟩, ⟨b6.os, b6.tape, b6.output, by rw [setRow_size]; exact b6.size, fun b hb hne => (Go.setRow_other _ _ _ _ (by omega)).trans (b6.block b hb hne)⟩⟩

set_option maxRecDepth 100000 in
set_option maxHeartbeats 4000000 in
theorem lead_high_fall (h : PIn B w pb n j A c ys) (hl : leaf.length = 32) (h2 : 2 ≤ size) (hz : size < 18446744073709551616) (hat : at_ < size) (ha : ¬ at_ < cutN size)
    (ih : ∀ w' : World, PIn B w' pb n j A c ys → Calls Tryd.prog 26 #[sv leaf, .int .u64 ((at_ - cutN size) : Nat), .int .u64 ((size - cutN size) : Nat), takes pb] w' fun e w'' => e = .panicked fell ∧ But (· = pb) w' w'') :
    Calls Tryd.prog 26 #[sv leaf, .int .u64 (at_ : Int), .int .u64 (size : Int), takes pb] w fun e w' => e = .panicked fell ∧ But (· = pb) w w' := by
  have e0 : (bvs zero32).toArray = #[.int .u8 0, .int .u8 0, .int .u8 0, .int .u8 0, .int .u8 0, .int .u8 0, .int .u8 0, .int .u8 0, .int .u8 0, .int .u8 0, .int .u8 0, .int .u8 0, .int .u8 0, .int .u8 0, .int .u8 0, .int .u8 0, .int .u8 0, .int .u8 0, .int .u8 0, .int .u8 0, .int .u8 0, .int .u8 0, .int .u8 0, .int .u8 0, .int .u8 0, .int .u8 0, .int .u8 0, .int .u8 0, .int .u8 0, .int .u8 0, .int .u8 0, .int .u8 0] := rfl
  have h1 := leadIn_of w leaf
  rw [e0] at h1
  clear e0
  have H1 := Lib.hid h1
  have hcl := cutN_lt h2
  have hcp := cutN_pos size
  obtain ⟨k, hk0⟩ : ∃ k, cutN size = k := ⟨_, rfl⟩
  rw [hk0] at hcl hcp ha ih
  obtain ⟨a, ha0⟩ : ∃ a, at_ - k = a := ⟨_, rfl⟩
  obtain ⟨m, hm0⟩ : ∃ m, size - k = m := ⟨_, rfl⟩
  rw [ha0, hm0] at ih
  have ea : IntKind.u64.wrap ((at_ : Int) - (k : Int)) = (a : Int) := by rw [IntKind.wrap_u64]; omega
  have em : IntKind.u64.wrap ((size : Int) - (k : Int)) = (m : Int) := by rw [IntKind.wrap_u64]; omega
  have hai : ¬ (at_ : Int) < (k : Int) := by omega
  have hs1 : ((size : Int) == 1) = false := by simp; omega
  have HP := Lib.hid h
  have IH := Lib.hid ih
  have HL := Lib.hid hl
  obtain ⟨w1, hw1⟩ : ∃ w1, w1 = (w.alloc (.cells (bvs leaf).toArray 24)).alloc (.cells #[.int .u8 0, .int .u8 0, .int .u8 0, .int .u8 0, .int .u8 0, .int .u8 0, .int .u8 0, .int .u8 0, .int .u8 0, .int .u8 0, .int .u8 0, .int .u8 0, .int .u8 0, .int .u8 0, .int .u8 0, .int .u8 0, .int .u8 0, .int .u8 0, .int .u8 0, .int .u8 0, .int .u8 0, .int .u8 0, .int .u8 0, .int .u8 0, .int .u8 0, .int .u8 0, .int .u8 0, .int .u8 0, .int .u8 0, .int .u8 0, .int .u8 0, .int .u8 0] 24) := ⟨_, rfl⟩
  rw [← hw1] at H1
  have HW := Lib.hid hw1
  have CM := Lib.hid (pleft_any size w1 h2 hz)
  rw [hk0] at CM
  have HX := Lib.hid (And.intro h2 (And.intro hz (And.intro hat (And.intro hcl (And.intro hcp hk0)))))
  clear h1 h ih h2 hz hat hcl hcp hk0 hw1 ha ha0 hm0
  unfold sv takes
  go_enter Tryd.func26, Tryd.ntmps26
  go_upto_region 1 with fail
  rw [← HW.out]
  go_wp2_with fail
  refine CM.out.mono ?_
  rintro e w2 ⟨rfl, rfl⟩
  have hA := Lib.hid H1.out.leaf.at_
  go_wp2_with (with_reducible refine wpList_load_sum rfl (.tmp 4) rfl ⟨w.heap.size, 0, none⟩ rfl leaf hl hA.out ?_)
  refine (IH.out w2 (HP.out.below_ H1.out.below)).mono ?_
  rintro e w3 ⟨rfl, hb3⟩
  go_wp2_with fail
  exact ⟨rfl, rfl, (But.of_below H1.out.below).trans hb3⟩

set_option maxRecDepth 100000 in
set_option maxHeartbeats 4000000 in
theorem lead_high_short {L : List Nat} {q : Nat} (h : PIn B w pb n j A c ys) (hl : leaf.length = 32) (h2 : 2 ≤ size) (hz : size < 18446744073709551616) (hat : at_ < size) (ha : ¬ at_ < cutN size)
    (ih : ∀ w' : World, PIn B w' pb n j A c ys → Calls Tryd.prog 26 #[sv leaf, .int .u64 ((at_ - cutN size) : Nat), .int .u64 ((size - cutN size) : Nat), takes pb] w' fun e w'' => e = .returned (sv L) ∧ (∃ A' c', PIn B w'' pb n q A' c' ys) ∧ But (· = pb) w' w'') (hL : L.length = 32) (hq : q = n) :
    Calls Tryd.prog 26 #[sv leaf, .int .u64 (at_ : Int), .int .u64 (size : Int), takes pb] w fun e w' => e = .panicked fell ∧ But (· = pb) w w' := by
  have e0 : (bvs zero32).toArray = #[.int .u8 0, .int .u8 0, .int .u8 0, .int .u8 0, .int .u8 0, .int .u8 0, .int .u8 0, .int .u8 0, .int .u8 0, .int .u8 0, .int .u8 0, .int .u8 0, .int .u8 0, .int .u8 0, .int .u8 0, .int .u8 0, .int .u8 0, .int .u8 0, .int .u8 0, .int .u8 0, .int .u8 0, .int .u8 0, .int .u8 0, .int .u8 0, .int .u8 0, .int .u8 0, .int .u8 0, .int .u8 0, .int .u8 0, .int .u8 0, .int .u8 0, .int .u8 0] := rfl
  have h1 := leadIn_of w leaf
  rw [e0] at h1
  clear e0
  have H1 := Lib.hid h1
  have hcl := cutN_lt h2
  have hcp := cutN_pos size
  obtain ⟨k, hk0⟩ : ∃ k, cutN size = k := ⟨_, rfl⟩
  rw [hk0] at hcl hcp ha ih
  obtain ⟨a, ha0⟩ : ∃ a, at_ - k = a := ⟨_, rfl⟩
  obtain ⟨m, hm0⟩ : ∃ m, size - k = m := ⟨_, rfl⟩
  rw [ha0, hm0] at ih
  have ea : IntKind.u64.wrap ((at_ : Int) - (k : Int)) = (a : Int) := by rw [IntKind.wrap_u64]; omega
  have em : IntKind.u64.wrap ((size : Int) - (k : Int)) = (m : Int) := by rw [IntKind.wrap_u64]; omega
  have hai : ¬ (at_ : Int) < (k : Int) := by omega
  have hs1 : ((size : Int) == 1) = false := by simp; omega
  have HP := Lib.hid h
  have IH := Lib.hid ih
  have HL := Lib.hid hl
  obtain ⟨w1, hw1⟩ : ∃ w1, w1 = (w.alloc (.cells (bvs leaf).toArray 24)).alloc (.cells #[.int .u8 0, .int .u8 0, .int .u8 0, .int .u8 0, .int .u8 0, .int .u8 0, .int .u8 0, .int .u8 0, .int .u8 0, .int .u8 0, .int .u8 0, .int .u8 0, .int .u8 0, .int .u8 0, .int .u8 0, .int .u8 0, .int .u8 0, .int .u8 0, .int .u8 0, .int .u8 0, .int .u8 0, .int .u8 0, .int .u8 0, .int .u8 0, .int .u8 0, .int .u8 0, .int .u8 0, .int .u8 0, .int .u8 0, .int .u8 0, .int .u8 0, .int .u8 0] 24) := ⟨_, rfl⟩
  rw [← hw1] at H1
  have HW := Lib.hid hw1
  have CM := Lib.hid (pleft_any size w1 h2 hz)
  rw [hk0] at CM
  have HX := Lib.hid (And.intro h2 (And.intro hz (And.intro hat (And.intro hcl (And.intro hcp hk0)))))
  have HLL := Lib.hid hL
  have HQ := Lib.hid hq
  clear h1 h ih h2 hz hat hcl hcp hk0 hw1 ha ha0 hm0 hL hq
  unfold sv takes
  go_enter Tryd.func26, Tryd.ntmps26
  go_upto_region 1 with fail
  rw [← HW.out]
  go_wp2_with fail
  refine CM.out.mono ?_
  rintro e w2 ⟨rfl, rfl⟩
  have hA := Lib.hid H1.out.leaf.at_
  go_wp2_with (with_reducible refine wpList_load_sum rfl (.tmp 4) rfl ⟨w.heap.size, 0, none⟩ rfl leaf hl hA.out ?_)
  refine (IH.out w2 (HP.out.below_ H1.out.below)).mono ?_
  rintro e w3 ⟨rfl, ⟨A3, c3, hp3⟩, hb3⟩
  have HP3 := Lib.hid hp3
  have HB3 := Lib.hid ((But.of_below H1.out.below).trans hb3)
  have hlt := HP.out.var.lt
  have hsz := H1.out.size
  have r3 : BArr w3 (w.heap.size + 1) 24 zero32 := (hb3.block _ H1.out.res.lt (by omega)).trans H1.out.res
  have HR3 := Lib.hid r3
  have HS3 := Lib.hid (And.intro hlt (And.intro hsz hb3.size))
  clear hp3 hb3 hlt hsz r3
  have hLl := HLL.out
  go_upto_region 8 with (with_reducible refine wpList_store_new w3 _ rfl rfl (.tmp 11) (.tmp 37) rfl rfl L hLl rfl ?_)
  have b4 := below_alloc w3 (.cells (bvs L).toArray 24)
  have g4 := BArr.new w3 24 L
  obtain ⟨w4, hw4⟩ : ∃ w4, w4 = w3.alloc (.cells (bvs L).toArray 24) := ⟨_, rfl⟩
  rw [← hw4] at b4 g4 ⊢
  have HP4 := Lib.hid (HP3.out.below_ b4)
  have HR4 := Lib.hid (HR3.out.below b4)
  have HB4 := Lib.hid (HB3.out.trans (But.of_below b4))
  have H4 := Lib.hid (And.intro b4 g4)
  clear hw4 b4 g4
  have hS : BArr w4.drew w3.heap.size 24 L := H4.out.2
  refine wp_region_held (S := fun W => BArr W w3.heap.size 24 L) (by kernel_rfl) ?_
  change wpAnyH _ _ _ _ _ _ _ _ w4.drew
  refine' wpAnyH_take (i := 0) (oi := _) (v := _) ?him (by kernel_rfl) ?hfm ?hrm ?hQm ?hym hS ?restm
  case him => (simp only [List.getElem?_toArray, List.getElem?_cons_zero]; rfl)
  case hfm => kernel_rfl
  case hrm => kernel_rfl
  case hQm => exact fun _ _ _ h => h
  case hym =>
    refine Or.inl ⟨by rfl, ?_⟩
    intro W hSw
    go_simp
    try with_reducible rfl
  simp only [Act.put, List.setIfInBounds_toArray, List.set_cons_zero, List.set_cons_succ]
  refine' wpAnyH_take (i := 2) (oi := _) (v := sv L) ?hil (by kernel_rfl) ?hfl ?hrl ?hQl ?hyl hS ?restl
  case hil => (simp only [List.getElem?_toArray, List.getElem?_cons_zero, List.getElem?_cons_succ]; rfl)
  case hfl => kernel_rfl
  case hrl => kernel_rfl
  case hQl => exact fun _ _ _ h => h
  case hyl =>
    refine Or.inl ⟨by rfl, ?_⟩
    intro W hSw
    exact run_at_sum (.tmp 11) (by rfl) ⟨w3.heap.size, 0, none⟩ (by rfl) L HLL.out hSw.at_
  simp only [Act.put, List.setIfInBounds_toArray, List.set_cons_zero, List.set_cons_succ]
  refine wpAnyH_ready (rs := [1]) (by kernel_rfl) (by simp) ?_
  refine' AllReadyH.cons (o := _) ?hin (fun K1 hK1 => ?_) AllReadyH.nil
  case hin => (simp only [List.getElem?_toArray, List.getElem?_cons_zero, List.getElem?_cons_succ]; rfl)
  rw [if_pos (by rfl)]
  go_simp
  refine (next_none (HP4.out.below_ ((Below.refl _ _).drew)) HQ.out).mono ?_
  rintro e w5 ⟨rfl, hb5⟩
  go_wp2
  exact ⟨rfl, rfl, HB4.out.trans ((But.refl _ _).drew.trans (But.of_below hb5))⟩

set_option maxRecDepth 100000 in
set_option maxHeartbeats 4000000 in
theorem lead_high_yes {L : List Nat} {q : Nat} (h : PIn B w pb n j A c ys) (hl : leaf.length = 32) (h2 : 2 ≤ size) (hz : size < 18446744073709551616) (hat : at_ < size) (ha : ¬ at_ < cutN size)
    (ih : ∀ w' : World, PIn B w' pb n j A c ys → Calls Tryd.prog 26 #[sv leaf, .int .u64 ((at_ - cutN size) : Nat), .int .u64 ((size - cutN size) : Nat), takes pb] w' fun e w'' => e = .returned (sv L) ∧ (∃ A' c', PIn B w'' pb n q A' c' ys) ∧ But (· = pb) w' w'') (hL : L.length = 32) (hLb : ∀ x ∈ L, x < 256) (hq : q < n) (hn : n ≤ 1000000) (hy : ∀ x ∈ ys, x < 256) (hlen : ys.length = 32 * n) (hk : Knows B) (hs : Starts B) :
    Calls Tryd.prog 26 #[sv leaf, .int .u64 (at_ : Int), .int .u64 (size : Int), takes pb] w fun e w' => e = .returned (sv (nodeL (nth ys q) L)) ∧ (∃ A' c', PIn B w' pb n (q + 1) A' c' ys) ∧ But (· = pb) w w' := by
  have e0 : (bvs zero32).toArray = #[.int .u8 0, .int .u8 0, .int .u8 0, .int .u8 0, .int .u8 0, .int .u8 0, .int .u8 0, .int .u8 0, .int .u8 0, .int .u8 0, .int .u8 0, .int .u8 0, .int .u8 0, .int .u8 0, .int .u8 0, .int .u8 0, .int .u8 0, .int .u8 0, .int .u8 0, .int .u8 0, .int .u8 0, .int .u8 0, .int .u8 0, .int .u8 0, .int .u8 0, .int .u8 0, .int .u8 0, .int .u8 0, .int .u8 0, .int .u8 0, .int .u8 0, .int .u8 0] := rfl
  have h1 := leadIn_of w leaf
  rw [e0] at h1
  clear e0
  have H1 := Lib.hid h1
  have hcl := cutN_lt h2
  have hcp := cutN_pos size
  obtain ⟨k, hk0⟩ : ∃ k, cutN size = k := ⟨_, rfl⟩
  rw [hk0] at hcl hcp ha ih
  obtain ⟨a, ha0⟩ : ∃ a, at_ - k = a := ⟨_, rfl⟩
  obtain ⟨m, hm0⟩ : ∃ m, size - k = m := ⟨_, rfl⟩
  rw [ha0, hm0] at ih
  have ea : IntKind.u64.wrap ((at_ : Int) - (k : Int)) = (a : Int) := by rw [IntKind.wrap_u64]; omega
  have em : IntKind.u64.wrap ((size : Int) - (k : Int)) = (m : Int) := by rw [IntKind.wrap_u64]; omega
  have hai : ¬ (at_ : Int) < (k : Int) := by omega
  have hs1 : ((size : Int) == 1) = false := by simp; omega
  have HP := Lib.hid h
  have IH := Lib.hid ih
  have HL := Lib.hid hl
  obtain ⟨w1, hw1⟩ : ∃ w1, w1 = (w.alloc (.cells (bvs leaf).toArray 24)).alloc (.cells #[.int .u8 0, .int .u8 0, .int .u8 0, .int .u8 0, .int .u8 0, .int .u8 0, .int .u8 0, .int .u8 0, .int .u8 0, .int .u8 0, .int .u8 0, .int .u8 0, .int .u8 0, .int .u8 0, .int .u8 0, .int .u8 0, .int .u8 0, .int .u8 0, .int .u8 0, .int .u8 0, .int .u8 0, .int .u8 0, .int .u8 0, .int .u8 0, .int .u8 0, .int .u8 0, .int .u8 0, .int .u8 0, .int .u8 0, .int .u8 0, .int .u8 0, .int .u8 0] 24) := ⟨_, rfl⟩
  rw [← hw1] at H1
  have HW := Lib.hid hw1
  have CM := Lib.hid (pleft_any size w1 h2 hz)
  rw [hk0] at CM
  have HX := Lib.hid (And.intro h2 (And.intro hz (And.intro hat (And.intro hcl (And.intro hcp hk0)))))
  have HLL := Lib.hid hL
  have HQ := Lib.hid (And.intro hLb (And.intro hq (And.intro hn (And.intro hy (And.intro hlen (And.intro hk hs))))))
  clear h1 h ih h2 hz hat hcl hcp hk0 hw1 ha ha0 hm0 hL hLb hq hn hy hlen hk hs
  unfold sv takes
  go_enter Tryd.func26, Tryd.ntmps26
  go_upto_region 1 with fail
  rw [← HW.out]
  go_wp2_with fail
  refine CM.out.mono ?_
  rintro e w2 ⟨rfl, rfl⟩
  have hA := Lib.hid H1.out.leaf.at_
  go_wp2_with (with_reducible refine wpList_load_sum rfl (.tmp 4) rfl ⟨w.heap.size, 0, none⟩ rfl leaf hl hA.out ?_)
  refine (IH.out w2 (HP.out.below_ H1.out.below)).mono ?_
  rintro e w3 ⟨rfl, ⟨A3, c3, hp3⟩, hb3⟩
  have HP3 := Lib.hid hp3
  have HB3 := Lib.hid ((But.of_below H1.out.below).trans hb3)
  have hlt := HP.out.var.lt
  have hsz := H1.out.size
  have r3 : BArr w3 (w.heap.size + 1) 24 zero32 := (hb3.block _ H1.out.res.lt (by omega)).trans H1.out.res
  have HR3 := Lib.hid r3
  have HS3 := Lib.hid (And.intro hlt (And.intro hsz hb3.size))
  clear hp3 hb3 hlt hsz r3
  have hLl := HLL.out
  go_upto_region 8 with (with_reducible refine wpList_store_new w3 _ rfl rfl (.tmp 11) (.tmp 37) rfl rfl L hLl rfl ?_)
  have b4 := below_alloc w3 (.cells (bvs L).toArray 24)
  have g4 := BArr.new w3 24 L
  obtain ⟨w4, hw4⟩ : ∃ w4, w4 = w3.alloc (.cells (bvs L).toArray 24) := ⟨_, rfl⟩
  rw [← hw4] at b4 g4 ⊢
  have HP4 := Lib.hid (HP3.out.below_ b4)
  have HR4 := Lib.hid (HR3.out.below b4)
  have HB4 := Lib.hid (HB3.out.trans (But.of_below b4))
  have H4 := Lib.hid (And.intro b4 g4)
  clear hw4 b4 g4
  have hS : BArr w4.drew w3.heap.size 24 L := H4.out.2
  refine wp_region_held (S := fun W => BArr W w3.heap.size 24 L) (by kernel_rfl) ?_
  change wpAnyH _ _ _ _ _ _ _ _ w4.drew
  refine' wpAnyH_take (i := 0) (oi := _) (v := _) ?him (by kernel_rfl) ?hfm ?hrm ?hQm ?hym hS ?restm
  case him => (simp only [List.getElem?_toArray, List.getElem?_cons_zero]; rfl)
  case hfm => kernel_rfl
  case hrm => kernel_rfl
  case hQm => exact fun _ _ _ h => h
  case hym =>
    refine Or.inl ⟨by rfl, ?_⟩
    intro W hSw
    go_simp
    try with_reducible rfl
  simp only [Act.put, List.setIfInBounds_toArray, List.set_cons_zero, List.set_cons_succ]
  refine' wpAnyH_take (i := 2) (oi := _) (v := sv L) ?hil (by kernel_rfl) ?hfl ?hrl ?hQl ?hyl hS ?restl
  case hil => (simp only [List.getElem?_toArray, List.getElem?_cons_zero, List.getElem?_cons_succ]; rfl)
  case hfl => kernel_rfl
  case hrl => kernel_rfl
  case hQl => exact fun _ _ _ h => h
  case hyl =>
    refine Or.inl ⟨by rfl, ?_⟩
    intro W hSw
    exact run_at_sum (.tmp 11) (by rfl) ⟨w3.heap.size, 0, none⟩ (by rfl) L HLL.out hSw.at_
  simp only [Act.put, List.setIfInBounds_toArray, List.set_cons_zero, List.set_cons_succ]
  refine wpAnyH_ready (rs := [1]) (by kernel_rfl) (by simp) ?_
  refine' AllReadyH.cons (o := _) ?hin (fun K1 hK1 => ?_) AllReadyH.nil
  case hin => (simp only [List.getElem?_toArray, List.getElem?_cons_zero, List.getElem?_cons_succ]; rfl)
  rw [if_pos (by rfl)]
  go_simp
  obtain ⟨s, hs0⟩ : ∃ s, nth ys q = s := ⟨_, rfl⟩
  have hsl : s.length = 32 := by rw [← hs0]; exact nth_length HQ.out.2.2.2.2.1 HQ.out.2.1
  have hsb : ∀ x ∈ s, x < 256 := by rw [← hs0]; exact nth_lt HQ.out.2.2.2.1 q
  obtain ⟨N, hN⟩ : ∃ N, nodeL s L = N := ⟨_, rfl⟩
  have hNl : N.length = 32 := by rw [← hN]; exact nodeL_length _ _
  have HNN := Lib.hid (And.intro hN (And.intro hNl (And.intro hsl (And.intro hsb hs0))))
  refine (next_some (HP4.out.below_ ((Below.refl _ _).drew)) HQ.out.2.1 HQ.out.2.2.1).mono ?_
  rw [hs0]
  clear hs0 hsl hsb hN hNl
  rintro e w5 ⟨rfl, ⟨A5, c5, hp5⟩, hb5⟩
  have g5 : BArr w5 w3.heap.size 24 L := (hb5.block _ H4.out.2.lt (by have := HS3.out; omega)).trans H4.out.2
  have r5 : BArr w5 (w.heap.size + 1) 24 zero32 := (hb5.block _ HR4.out.lt (by have := HS3.out; omega)).trans HR4.out
  have HP5 := Lib.hid hp5
  have HB5 := Lib.hid hb5
  have HR5 := Lib.hid r5
  clear hp5 hb5 r5
  refine hK1.out _ _ g5 (fun _ => ?_)
  clear hK1 K1
  refine wpAnyH_ready (rs := [3]) (by kernel_rfl) (by simp) ?_
  refine' AllReadyH.cons (o := _) ?hin2 (fun K2 hK2 => ?_) AllReadyH.nil
  case hin2 => (simp only [List.getElem?_toArray, List.getElem?_cons_zero, List.getElem?_cons_succ]; rfl)
  rw [if_pos (by rfl)]
  go_simp
  refine (node_any s L w5 HNN.out.2.2.1 HLL.out HNN.out.2.2.2.1 HQ.out.1 (HQ.out.2.2.2.2.2.1.below HP5.out.below) (HQ.out.2.2.2.2.2.2.below HP5.out.below)).mono ?_
  rintro e w6 ⟨rfl, hb6⟩
  rw [HNN.out.1]
  have g6 : BArr w6 w3.heap.size 24 L := g5.below hb6
  have r6 : BArr w6 (w.heap.size + 1) 24 zero32 := HR5.out.below hb6
  refine hK2.out _ _ g6 (fun _ => ?_)
  clear hK2 K2
  refine wpAnyH_ready (rs := [4]) (by kernel_rfl) (by simp) ?_
  refine' AllReadyH.cons (o := _) ?hin3 (fun K3 hK3 => ?_) AllReadyH.nil
  case hin3 => (simp only [List.getElem?_toArray, List.getElem?_cons_zero, List.getElem?_cons_succ]; rfl)
  rw [if_pos (by rfl)]
  refine step_store_sum (.tmp 8) (.tmp 41) rfl (w.heap.size + 1) rfl zero32 N rfl HNN.out.2.1 r6 rfl ?_
  refine hK3.out _ _ (g6.setRow_other _ (by have := HS3.out; omega) _) (fun _ => ?_)
  clear hK3 K3
  refine wpAnyH_done (by kernel_rfl) ?_ _
  go_wp2
  refine bodyPost_ret_by (results_cell_row (p := 8) (ty := 24) (by kernel_rfl) _ _ (w.heap.size + 1) 24 (bvs N).toArray (0, 0) _ rfl (r6.setRow _) Tryd.underlying24 rfl (by rw [List.size_toArray, bvs_length, HNN.out.2.1]; exact sizeSum)) rfl ?_
  have hlt := HP.out.var.lt
  have hbb := HP.out.below.size
  have b6 := (HB4.out.trans ((But.refl _ _).drew.trans HB5.out)).trans (But.of_below hb6)
  refine ⟨by rw [← HNN.out.1, ← HNN.out.2.2.2.2], ⟨A5, c5, (HP5.out.below_ hb6).setRow (by omega) (by omega) _⟩, ⟨b6.os, b6.tape, b6.output, by rw [setRow_size]; exact b6.size, fun b hb hne => (Go.setRow_other _ _ _ _ (by omega)).trans (b6.block b hb hne)⟩⟩

end

/-- How many sums lead takes: all are there, or not. -/
theorem lead_any {B : World} {pb n : Nat} {ys : List Nat} (hn : n ≤ 1000000) (hy : ∀ x ∈ ys, x < 256) (hlen : ys.length = 32 * n) (hk : Knows B) (hs : Starts B) :
    ∀ (size at_ j : Nat) (A : Option Addr) (c : Nat) (leaf : List Nat) (w : World), PIn B w pb n j A c ys → leaf.length = 32 → (∀ x ∈ leaf, x < 256) → size < 18446744073709551616 → at_ < size →
      (j + dep at_ size ≤ n → Calls Tryd.prog 26 #[sv leaf, .int .u64 (at_ : Int), .int .u64 (size : Int), takes pb] w fun e w' => e = .returned (sv (leadF (nth ys) leaf at_ size j)) ∧ (∃ A' c', PIn B w' pb n (j + dep at_ size) A' c' ys) ∧ But (· = pb) w w') ∧
      (n < j + dep at_ size → Calls Tryd.prog 26 #[sv leaf, .int .u64 (at_ : Int), .int .u64 (size : Int), takes pb] w fun e w' => e = .panicked fell ∧ But (· = pb) w w') := by
  intro size
  induction size using Nat.strongRecOn with
  | ind size ih =>
    intro at_ j A c leaf w h hl hb hz hat
    by_cases h2 : size < 2
    · obtain rfl : size = 1 := by omega
      rw [dep_one h2, leadF_one _ _ h2]
      refine ⟨fun _ => lead_one h hl, fun hh => ?_⟩
      have := h.le
      omega
    · have hcl := cutN_lt (m := size) (by omega)
      have hcp := cutN_pos size
      by_cases ha : at_ < cutN size
      · rw [dep_low (by omega) ha, leadF_low _ _ (by omega) ha, ← Nat.add_assoc]
        have IH := fun (w' : World) (h' : PIn B w' pb n j A c ys) => ih (cutN size) hcl at_ j A c leaf w' h' hl hb (by omega) ha
        refine ⟨fun hh => ?_, fun hh => ?_⟩
        · exact lead_low_yes h hl (by omega) hz hat ha (fun w' h' => (IH w' h').1 (by omega)) (leadF_length _ _ hl _ _ _) (leadF_lt _ _ hb _ _ _) (by omega) hn hy hlen hk hs
        · by_cases hq : j + dep at_ (cutN size) = n
          · exact lead_low_short h hl (by omega) hz hat ha (fun w' h' => (IH w' h').1 (by omega)) (leadF_length _ _ hl _ _ _) hq
          · exact lead_low_fall h hl (by omega) hz hat ha (fun w' h' => (IH w' h').2 (by omega))
      · rw [dep_high (by omega) ha, leadF_high _ _ (by omega) ha, ← Nat.add_assoc]
        have IH := fun (w' : World) (h' : PIn B w' pb n j A c ys) => ih (size - cutN size) (by omega) (at_ - cutN size) j A c leaf w' h' hl hb (by omega) (by omega)
        refine ⟨fun hh => ?_, fun hh => ?_⟩
        · exact lead_high_yes h hl (by omega) hz hat ha (fun w' h' => (IH w' h').1 (by omega)) (leadF_length _ _ hl _ _ _) (leadF_lt _ _ hb _ _ _) (by omega) hn hy hlen hk hs
        · by_cases hq : j + dep (at_ - cutN size) (size - cutN size) = n
          · exact lead_high_short h hl (by omega) hz hat ha (fun w' h' => (IH w' h').1 (by omega)) (leadF_length _ _ hl _ _ _) hq
          · exact lead_high_fall h hl (by omega) hz hat ha (fun w' h' => (IH w' h').2 (by omega))

end Go.Proofs.YtppfdpnplemfkaaDoor
